/- The walk of MerkleBound. Conditions: as stated. -/
import Derived.Test.YtlbmieeimnjncaaDoorMkWaysF
import Derived.Test.YtlbmieeimnjncaaDoorMkVerifies
import Derived.Test.YtlbmieeimnjncaaDoorMkAwake
namespace Go.Proofs.YtlbmieeimnjncaaDoor
set_option maxRecDepth 100000
open Go.RowKit Go
/-- the slice at A reads as these pairs. -/
def Ps (w : World) (B : Nat) (A : Option Addr) (L : List (List UInt8 × List UInt8)) : Prop :=
  Pok L ∧ (L = [] ∨ ∃ g, A = some ⟨g, 0, none⟩ ∧ g < B ∧ w.rangeAt g 0 (bv (pc L)))
theorem Ps.below {w w' : World} {B : Nat} {A : Option Addr} {L : List (List UInt8 × List UInt8)} (h : Ps w B A L) (hb : Below B w w') : Ps w' B A L := by
  refine ⟨h.1, ?_⟩
  rcases h.2 with e | ⟨g, e, hg, hr⟩
  · exact .inl e
  · exact .inr ⟨g, e, hg, range_below hr hb hg⟩
theorem OwnP.slice {w : World} {N : Nat} {v : Value} {L : List (List UInt8 × List UInt8)} (h : OwnP w N v L) : ∃ A c, v = .slice A L.length c ∧ L.length ≤ c ∧ c ≤ maxLen := by
  rcases h.2.2 with ⟨rfl, h0⟩ | ⟨g, cap, cur, rfl, _, _, h1, h2, _⟩
  · exact ⟨none, 0, by rw [h0], by omega, Nat.zero_le _⟩
  · exact ⟨_, _, rfl, h1, h2⟩
theorem OwnP.ps {w : World} {N n c : Nat} {A : Option Addr} {L : List (List UInt8 × List UInt8)} (h : OwnP w N (.slice A n c) L) : Ps w w.heap.size A L := by
  refine ⟨h.1, ?_⟩
  rcases h.2.2 with ⟨_, h0⟩ | ⟨g, cap, cur, e, _, hh, h1, h2, h3, ht⟩
  · exact .inl (List.eq_nil_of_length_eq_zero h0)
  · injection e with e1 _ _
    refine .inr ⟨g, e1, (Array.getElem?_eq_some_iff.1 hh).1, fun j v hj => ?_⟩
    rw [Nat.zero_add, cell_of_row w g j cur 29 (0, 0) hh, ← Array.getElem?_toList]
    have hlt : j < L.length * 64 := by
      have := (List.getElem?_eq_some_iff.1 hj).1
      rw [bv_length, pc_length h.1] at this
      omega
    rw [← ht, List.getElem?_take_of_lt hlt] at hj
    exact hj
theorem pc_cut {L : List (List UInt8 × List UInt8)} {k : Nat} (hk : k < L.length) : pc L = pc (L.take k) ++ (((L.getD k ([], [])).1 ++ (L.getD k ([], [])).2) ++ pc (L.drop (k + 1))) := by
  have : L = L.take k ++ L.getD k ([], []) :: L.drop (k + 1) := by
    have e : L.getD k ([], []) = L[k] := by simp [List.getD, hk]
    rw [e, ← List.drop_eq_getElem_cons hk, List.take_append_drop]
  conv => lhs; rw [this]
  simp [pc]
theorem Ps.at_ {w : World} {B : Nat} {A : Option Addr} {L : List (List UInt8 × List UInt8)} (h : Ps w B A L) {k : Nat} (hk : k < L.length) : ∃ g, A = some ⟨g, 0, none⟩ ∧ g < B ∧ w.rangeAt g (k * 64) (bv ((L.getD k ([], [])).1 ++ (L.getD k ([], [])).2)) ∧ (L.getD k ([], [])).1.length = 32 ∧ (L.getD k ([], [])).2.length = 32 := by
  rcases h.2 with rfl | ⟨g, rfl, hg, hr⟩
  · simp at hk
  · have hz := h.1 _ (by rw [List.getD_eq_getElem?_getD, List.getElem?_eq_getElem hk]; exact List.getElem_mem hk : L.getD k ([], []) ∈ L)
    refine ⟨g, rfl, hg, ?_, hz⟩
    rw [pc_cut hk, bv_append, bv_append] at hr
    have := range_sub (n := k * 64) hr (by
      rw [bv_length, pc_length (fun y hy => h.1 y (List.mem_of_mem_take hy)), List.length_take]
      omega)
    rwa [Nat.zero_add] at this
theorem range_two {w : World} {g k : Nat} {x y : List UInt8} (h : w.rangeAt g k (bv (x ++ y))) (hx : x.length = 32) : w.rangeAt g k (bv x) ∧ w.rangeAt g (k + 32) (bv y) := by
  rw [bv_append] at h
  refine ⟨?_, ?_⟩
  · have := range_sub (a := []) (b := bv x) (c := bv y) (n := 0) h rfl
    exact this
  · exact range_sub (a := bv x) (b := bv y) (c := []) (by rw [List.append_nil]; exact h) (by rw [bv_length, hx])
/-- whether the pairs at k are unlike and have one node. -/
def fAt (X Y : List (List UInt8 × List UInt8)) (k : Nat) : Bool :=
  !(((X.getD k ([], [])).1 == (Y.getD k ([], [])).1) && ((X.getD k ([], [])).2 == (Y.getD k ([], [])).2)) && (nodeS (X.getD k ([], [])).1 (X.getD k ([], [])).2 == nodeS (Y.getD k ([], [])).1 (Y.getD k ([], [])).2)
theorem found_at {X Y : List (List UInt8 × List UInt8)} (h : foundS X Y = true) : ∃ k, k < X.length ∧ k < Y.length ∧ fAt X Y k = true := by
  unfold foundS at h
  rw [List.any_eq_true] at h
  obtain ⟨z, hz, hf⟩ := h
  obtain ⟨k, hk, e⟩ := List.getElem_of_mem hz
  rw [List.length_zip] at hk
  have h1 : k < X.length := by omega
  have h2 : k < Y.length := by omega
  rw [List.getElem_zip] at e
  subst e
  refine ⟨k, h1, h2, ?_⟩
  unfold fAt
  rw [show X.getD k ([], []) = X[k] by simp [List.getD, h1], show Y.getD k ([], []) = Y[k] by simp [List.getD, h2]]
  exact hf

set_option maxHeartbeats 1600000 in
theorem lbd_1 (n i : Int) (a b root : List UInt8) (A A' : Option Addr) (p c q c' : Nat) (w : World) (ha : a.length = 32) (hb : b.length = 32) (hr : root.length = 32) (hg : Glob w) (q1 : ¬ p ≤ 20) :
    Calls Tryd.prog 3 #[.int .i64 n, .int .i64 i, .agg (bv a).toArray, .slice A p c, .agg (bv b).toArray, .slice A' q c', .agg (bv root).toArray] w fun e w' => e = .returned (.bool true) ∧ Below w.heap.size w w' := by
  have GS := Lib.hid hg.size
  have HAW : Hid (∀ W, Below w.heap.size w W → Calls Tryd.prog 4 #[] W fun e w' => e = .returned (.bool true) ∧ Below W.heap.size W w') := Lib.hid fun W hb => awake_any W (hg.below hb GS.out)
  have HA := Lib.hid ha
  have HB := Lib.hid hb
  have HR := Lib.hid hr
  clear ha hb hr hg
  go_enter Tryd.func3, Tryd.ntmps3
  go_wp2_with fail
  refine (HAW.out _ (below3 w _ _ _)).mono ?_
  rintro e w2 ⟨rfl, hb2⟩
  have K2 : Hid (Below w.heap.size w w2) := Lib.hid ((below3 w _ _ _).trans (hb2.mono (by simp; omega)))
  have R0 : Hid (∀ W, Below w2.heap.size w2 W → W.rangeAt w.heap.size 0 (bv a) ∧ W.rangeAt (w.heap.size + 1) 0 (bv b) ∧ W.rangeAt (w.heap.size + 1 + 1) 0 (bv root)) := by
    have z := hb2.size
    simp at z
    have b0 : BlkIs w2 w.heap.size 22 (bv a).toArray := (hb2.block _ (by first | (simp; done) | (simp; omega))).trans (((BlkIs.new w _ _).alloc _).alloc _)
    have b1 : BlkIs w2 (w.heap.size + 1) 22 (bv b).toArray := (hb2.block _ (by first | (simp; done) | (simp; omega))).trans ((BlkIs.new_at (w.alloc _) _ _ _ (by simp)).alloc _)
    have b2 : BlkIs w2 (w.heap.size + 1 + 1) 22 (bv root).toArray := (hb2.block _ (by first | (simp; done) | (simp; omega))).trans (BlkIs.new_at ((w.alloc _).alloc _) _ _ _ (by simp))
    exact Lib.hid fun W hb => ⟨BlkIs.sum ((hb.block _ b0.lt).trans b0), BlkIs.sum ((hb.block _ b1.lt).trans b1), BlkIs.sum ((hb.block _ b2.lt).trans b2)⟩
  clear hb2 HAW
  go_wp2_with fail
  refine (few_no _ _ _ _ q1).mono ?_
  rintro e w3 ⟨rfl, rfl⟩
  go_wp2_with fail
  go_ret
  exact ⟨rfl, K2.out⟩
set_option maxHeartbeats 1600000 in
theorem lbd_2 (n i : Int) (a b root : List UInt8) (A A' : Option Addr) (p c q c' : Nat) (w : World) (ha : a.length = 32) (hb : b.length = 32) (hr : root.length = 32) (hg : Glob w) (q1 : p ≤ 20) (q2 : ¬ q ≤ 20) :
    Calls Tryd.prog 3 #[.int .i64 n, .int .i64 i, .agg (bv a).toArray, .slice A p c, .agg (bv b).toArray, .slice A' q c', .agg (bv root).toArray] w fun e w' => e = .returned (.bool true) ∧ Below w.heap.size w w' := by
  have GS := Lib.hid hg.size
  have HAW : Hid (∀ W, Below w.heap.size w W → Calls Tryd.prog 4 #[] W fun e w' => e = .returned (.bool true) ∧ Below W.heap.size W w') := Lib.hid fun W hb => awake_any W (hg.below hb GS.out)
  have HA := Lib.hid ha
  have HB := Lib.hid hb
  have HR := Lib.hid hr
  clear ha hb hr hg
  go_enter Tryd.func3, Tryd.ntmps3
  go_wp2_with fail
  refine (HAW.out _ (below3 w _ _ _)).mono ?_
  rintro e w2 ⟨rfl, hb2⟩
  have K2 : Hid (Below w.heap.size w w2) := Lib.hid ((below3 w _ _ _).trans (hb2.mono (by simp; omega)))
  have R0 : Hid (∀ W, Below w2.heap.size w2 W → W.rangeAt w.heap.size 0 (bv a) ∧ W.rangeAt (w.heap.size + 1) 0 (bv b) ∧ W.rangeAt (w.heap.size + 1 + 1) 0 (bv root)) := by
    have z := hb2.size
    simp at z
    have b0 : BlkIs w2 w.heap.size 22 (bv a).toArray := (hb2.block _ (by first | (simp; done) | (simp; omega))).trans (((BlkIs.new w _ _).alloc _).alloc _)
    have b1 : BlkIs w2 (w.heap.size + 1) 22 (bv b).toArray := (hb2.block _ (by first | (simp; done) | (simp; omega))).trans ((BlkIs.new_at (w.alloc _) _ _ _ (by simp)).alloc _)
    have b2 : BlkIs w2 (w.heap.size + 1 + 1) 22 (bv root).toArray := (hb2.block _ (by first | (simp; done) | (simp; omega))).trans (BlkIs.new_at ((w.alloc _).alloc _) _ _ _ (by simp))
    exact Lib.hid fun W hb => ⟨BlkIs.sum ((hb.block _ b0.lt).trans b0), BlkIs.sum ((hb.block _ b1.lt).trans b1), BlkIs.sum ((hb.block _ b2.lt).trans b2)⟩
  clear hb2 HAW
  go_wp2_with fail
  refine (few_yes _ _ _ _ q1).mono ?_
  rintro e w3 ⟨rfl, rfl⟩
  go_wp2_with fail
  refine (few_no _ _ _ _ q2).mono ?_
  rintro e w3 ⟨rfl, rfl⟩
  go_wp2_with fail
  go_ret
  exact ⟨rfl, K2.out⟩
set_option maxHeartbeats 1600000 in
theorem lbd_3 (n i : Int) (a b root : List UInt8) (A A' : Option Addr) (p c q c' : Nat) (w : World) (ha : a.length = 32) (hb : b.length = 32) (hr : root.length = 32) (hg : Glob w) (q1 : p ≤ 20) (q2 : q ≤ 20) (q3 : a = b) :
    Calls Tryd.prog 3 #[.int .i64 n, .int .i64 i, .agg (bv a).toArray, .slice A p c, .agg (bv b).toArray, .slice A' q c', .agg (bv root).toArray] w fun e w' => e = .returned (.bool true) ∧ Below w.heap.size w w' := by
  have GS := Lib.hid hg.size
  have HAW : Hid (∀ W, Below w.heap.size w W → Calls Tryd.prog 4 #[] W fun e w' => e = .returned (.bool true) ∧ Below W.heap.size W w') := Lib.hid fun W hb => awake_any W (hg.below hb GS.out)
  have HA := Lib.hid ha
  have HB := Lib.hid hb
  have HR := Lib.hid hr
  have heq := fun w => run_eq24 a b HA.out HB.out w
  rw [show (a == b) = true by rw [q3]; simp] at heq
  clear q3
  clear ha hb hr hg
  go_enter Tryd.func3, Tryd.ntmps3
  go_wp2_with fail
  refine (HAW.out _ (below3 w _ _ _)).mono ?_
  rintro e w2 ⟨rfl, hb2⟩
  have K2 : Hid (Below w.heap.size w w2) := Lib.hid ((below3 w _ _ _).trans (hb2.mono (by simp; omega)))
  have R0 : Hid (∀ W, Below w2.heap.size w2 W → W.rangeAt w.heap.size 0 (bv a) ∧ W.rangeAt (w.heap.size + 1) 0 (bv b) ∧ W.rangeAt (w.heap.size + 1 + 1) 0 (bv root)) := by
    have z := hb2.size
    simp at z
    have b0 : BlkIs w2 w.heap.size 22 (bv a).toArray := (hb2.block _ (by first | (simp; done) | (simp; omega))).trans (((BlkIs.new w _ _).alloc _).alloc _)
    have b1 : BlkIs w2 (w.heap.size + 1) 22 (bv b).toArray := (hb2.block _ (by first | (simp; done) | (simp; omega))).trans ((BlkIs.new_at (w.alloc _) _ _ _ (by simp)).alloc _)
    have b2 : BlkIs w2 (w.heap.size + 1 + 1) 22 (bv root).toArray := (hb2.block _ (by first | (simp; done) | (simp; omega))).trans (BlkIs.new_at ((w.alloc _).alloc _) _ _ _ (by simp))
    exact Lib.hid fun W hb => ⟨BlkIs.sum ((hb.block _ b0.lt).trans b0), BlkIs.sum ((hb.block _ b1.lt).trans b1), BlkIs.sum ((hb.block _ b2.lt).trans b2)⟩
  clear hb2 HAW
  go_wp2_with fail
  refine (few_yes _ _ _ _ q1).mono ?_
  rintro e w3 ⟨rfl, rfl⟩
  go_wp2_with fail
  refine (few_yes _ _ _ _ q2).mono ?_
  rintro e w3 ⟨rfl, rfl⟩
  obtain ⟨ra, rb, rr⟩ := R0.out _ (Below.refl _ _)
  go_wp2_with (first
    | (refine load_want (by rfl) 22 (.tmp 9) rfl w.heap.size 0 rfl (bv a) _ ra Tryd.underlying22 rfl (isz26s HA.out) ?_; clear ra)
    | (refine load_want (by rfl) 22 (.tmp 11) rfl (w.heap.size + 1) 0 rfl (bv b) _ rb Tryd.underlying22 rfl (isz26s HB.out) ?_; clear rb)
    | fail)
  go_wp2_with fail
  go_ret
  exact ⟨rfl, K2.out⟩
set_option maxHeartbeats 1600000 in
theorem lbd_4 (n i : Int) (a b root : List UInt8) (A A' : Option Addr) (p c q c' : Nat) (w : World) (ha : a.length = 32) (hb : b.length = 32) (hr : root.length = 32) (hg : Glob w) (q1 : p ≤ 20) (q2 : q ≤ 20) (q3 : a ≠ b) (HV : Hid (∀ W, Below w.heap.size w W → Calls Tryd.prog 6 #[.agg (bv root).toArray, .int .i64 n, .int .i64 i, .agg (bv a).toArray, .slice A p c] W fun e w' => e = .returned (.bool false) ∧ Below W.heap.size W w')) :
    Calls Tryd.prog 3 #[.int .i64 n, .int .i64 i, .agg (bv a).toArray, .slice A p c, .agg (bv b).toArray, .slice A' q c', .agg (bv root).toArray] w fun e w' => e = .returned (.bool true) ∧ Below w.heap.size w w' := by
  have GS := Lib.hid hg.size
  have HAW : Hid (∀ W, Below w.heap.size w W → Calls Tryd.prog 4 #[] W fun e w' => e = .returned (.bool true) ∧ Below W.heap.size W w') := Lib.hid fun W hb => awake_any W (hg.below hb GS.out)
  have HA := Lib.hid ha
  have HB := Lib.hid hb
  have HR := Lib.hid hr
  have heq := fun w => run_eq24 a b HA.out HB.out w
  rw [show (a == b) = false by simpa using q3] at heq
  clear q3
  clear ha hb hr hg
  go_enter Tryd.func3, Tryd.ntmps3
  go_wp2_with fail
  refine (HAW.out _ (below3 w _ _ _)).mono ?_
  rintro e w2 ⟨rfl, hb2⟩
  have K2 : Hid (Below w.heap.size w w2) := Lib.hid ((below3 w _ _ _).trans (hb2.mono (by simp; omega)))
  have R0 : Hid (∀ W, Below w2.heap.size w2 W → W.rangeAt w.heap.size 0 (bv a) ∧ W.rangeAt (w.heap.size + 1) 0 (bv b) ∧ W.rangeAt (w.heap.size + 1 + 1) 0 (bv root)) := by
    have z := hb2.size
    simp at z
    have b0 : BlkIs w2 w.heap.size 22 (bv a).toArray := (hb2.block _ (by first | (simp; done) | (simp; omega))).trans (((BlkIs.new w _ _).alloc _).alloc _)
    have b1 : BlkIs w2 (w.heap.size + 1) 22 (bv b).toArray := (hb2.block _ (by first | (simp; done) | (simp; omega))).trans ((BlkIs.new_at (w.alloc _) _ _ _ (by simp)).alloc _)
    have b2 : BlkIs w2 (w.heap.size + 1 + 1) 22 (bv root).toArray := (hb2.block _ (by first | (simp; done) | (simp; omega))).trans (BlkIs.new_at ((w.alloc _).alloc _) _ _ _ (by simp))
    exact Lib.hid fun W hb => ⟨BlkIs.sum ((hb.block _ b0.lt).trans b0), BlkIs.sum ((hb.block _ b1.lt).trans b1), BlkIs.sum ((hb.block _ b2.lt).trans b2)⟩
  clear hb2 HAW
  go_wp2_with fail
  refine (few_yes _ _ _ _ q1).mono ?_
  rintro e w3 ⟨rfl, rfl⟩
  go_wp2_with fail
  refine (few_yes _ _ _ _ q2).mono ?_
  rintro e w3 ⟨rfl, rfl⟩
  obtain ⟨ra, rb, rr⟩ := R0.out _ (Below.refl _ _)
  go_wp2_with (first
    | (refine load_want (by rfl) 22 (.tmp 9) rfl w.heap.size 0 rfl (bv a) _ ra Tryd.underlying22 rfl (isz26s HA.out) ?_)
    | (refine load_want (by rfl) 22 (.tmp 11) rfl (w.heap.size + 1) 0 rfl (bv b) _ rb Tryd.underlying22 rfl (isz26s HB.out) ?_)
    | (refine load_want (by rfl) 22 (.tmp 13) rfl (w.heap.size + 1 + 1) 0 rfl (bv root) _ rr Tryd.underlying22 rfl (isz26s HR.out) ?_)
    | fail)
  refine (HV.out _ K2.out).mono ?_
  rintro e w4 ⟨rfl, hb4⟩
  have K4 := Lib.hid (K2.out.trans (hb4.mono K2.out.size))
  have J4 := Lib.hid hb4
  clear ra rb rr hb4 HV
  go_wp2_with fail
  go_ret
  exact ⟨rfl, K4.out⟩
set_option maxHeartbeats 1600000 in
theorem lbd_5 (n i : Int) (a b root : List UInt8) (A A' : Option Addr) (p c q c' : Nat) (w : World) (ha : a.length = 32) (hb : b.length = 32) (hr : root.length = 32) (hg : Glob w) (q1 : p ≤ 20) (q2 : q ≤ 20) (q3 : a ≠ b) (HV : Hid (∀ W, Below w.heap.size w W → Calls Tryd.prog 6 #[.agg (bv root).toArray, .int .i64 n, .int .i64 i, .agg (bv a).toArray, .slice A p c] W fun e w' => e = .returned (.bool true) ∧ Below W.heap.size W w')) (HU : Hid (∀ W, Below w.heap.size w W → Calls Tryd.prog 6 #[.agg (bv root).toArray, .int .i64 n, .int .i64 i, .agg (bv b).toArray, .slice A' q c'] W fun e w' => e = .returned (.bool false) ∧ Below W.heap.size W w')) :
    Calls Tryd.prog 3 #[.int .i64 n, .int .i64 i, .agg (bv a).toArray, .slice A p c, .agg (bv b).toArray, .slice A' q c', .agg (bv root).toArray] w fun e w' => e = .returned (.bool true) ∧ Below w.heap.size w w' := by
  have GS := Lib.hid hg.size
  have HAW : Hid (∀ W, Below w.heap.size w W → Calls Tryd.prog 4 #[] W fun e w' => e = .returned (.bool true) ∧ Below W.heap.size W w') := Lib.hid fun W hb => awake_any W (hg.below hb GS.out)
  have HA := Lib.hid ha
  have HB := Lib.hid hb
  have HR := Lib.hid hr
  have heq := fun w => run_eq24 a b HA.out HB.out w
  rw [show (a == b) = false by simpa using q3] at heq
  clear q3
  clear ha hb hr hg
  go_enter Tryd.func3, Tryd.ntmps3
  go_wp2_with fail
  refine (HAW.out _ (below3 w _ _ _)).mono ?_
  rintro e w2 ⟨rfl, hb2⟩
  have K2 : Hid (Below w.heap.size w w2) := Lib.hid ((below3 w _ _ _).trans (hb2.mono (by simp; omega)))
  have R0 : Hid (∀ W, Below w2.heap.size w2 W → W.rangeAt w.heap.size 0 (bv a) ∧ W.rangeAt (w.heap.size + 1) 0 (bv b) ∧ W.rangeAt (w.heap.size + 1 + 1) 0 (bv root)) := by
    have z := hb2.size
    simp at z
    have b0 : BlkIs w2 w.heap.size 22 (bv a).toArray := (hb2.block _ (by first | (simp; done) | (simp; omega))).trans (((BlkIs.new w _ _).alloc _).alloc _)
    have b1 : BlkIs w2 (w.heap.size + 1) 22 (bv b).toArray := (hb2.block _ (by first | (simp; done) | (simp; omega))).trans ((BlkIs.new_at (w.alloc _) _ _ _ (by simp)).alloc _)
    have b2 : BlkIs w2 (w.heap.size + 1 + 1) 22 (bv root).toArray := (hb2.block _ (by first | (simp; done) | (simp; omega))).trans (BlkIs.new_at ((w.alloc _).alloc _) _ _ _ (by simp))
    exact Lib.hid fun W hb => ⟨BlkIs.sum ((hb.block _ b0.lt).trans b0), BlkIs.sum ((hb.block _ b1.lt).trans b1), BlkIs.sum ((hb.block _ b2.lt).trans b2)⟩
  clear hb2 HAW
  go_wp2_with fail
  refine (few_yes _ _ _ _ q1).mono ?_
  rintro e w3 ⟨rfl, rfl⟩
  go_wp2_with fail
  refine (few_yes _ _ _ _ q2).mono ?_
  rintro e w3 ⟨rfl, rfl⟩
  obtain ⟨ra, rb, rr⟩ := R0.out _ (Below.refl _ _)
  go_wp2_with (first
    | (refine load_want (by rfl) 22 (.tmp 9) rfl w.heap.size 0 rfl (bv a) _ ra Tryd.underlying22 rfl (isz26s HA.out) ?_)
    | (refine load_want (by rfl) 22 (.tmp 11) rfl (w.heap.size + 1) 0 rfl (bv b) _ rb Tryd.underlying22 rfl (isz26s HB.out) ?_)
    | (refine load_want (by rfl) 22 (.tmp 13) rfl (w.heap.size + 1 + 1) 0 rfl (bv root) _ rr Tryd.underlying22 rfl (isz26s HR.out) ?_)
    | fail)
  refine (HV.out _ K2.out).mono ?_
  rintro e w4 ⟨rfl, hb4⟩
  have K4 := Lib.hid (K2.out.trans (hb4.mono K2.out.size))
  have J4 := Lib.hid hb4
  clear ra rb rr hb4 HV
  obtain ⟨ra, rb, rr⟩ := R0.out _ J4.out
  go_wp2_with (first
    | (refine load_want (by rfl) 22 (.tmp 9) rfl w.heap.size 0 rfl (bv a) _ ra Tryd.underlying22 rfl (isz26s HA.out) ?_)
    | (refine load_want (by rfl) 22 (.tmp 11) rfl (w.heap.size + 1) 0 rfl (bv b) _ rb Tryd.underlying22 rfl (isz26s HB.out) ?_)
    | (refine load_want (by rfl) 22 (.tmp 13) rfl (w.heap.size + 1 + 1) 0 rfl (bv root) _ rr Tryd.underlying22 rfl (isz26s HR.out) ?_)
    | fail)
  refine (HU.out _ K4.out).mono ?_
  rintro e w5 ⟨rfl, hb5⟩
  have K5 := Lib.hid (K4.out.trans (hb5.mono K4.out.size))
  have J5 := Lib.hid (J4.out.trans (hb5.mono J4.out.size))
  clear ra rb rr hb5 HU
  go_wp2_with fail
  go_ret
  exact ⟨rfl, K5.out⟩
set_option maxHeartbeats 1600000 in
theorem lbd_6 (n i : Int) (a b root : List UInt8) (A A' : Option Addr) (p c q c' : Nat) (w : World) (ha : a.length = 32) (hb : b.length = 32) (hr : root.length = 32) (hg : Glob w) (q1 : p ≤ 20) (q2 : q ≤ 20) (q3 : a ≠ b) (HV : Hid (∀ W, Below w.heap.size w W → Calls Tryd.prog 6 #[.agg (bv root).toArray, .int .i64 n, .int .i64 i, .agg (bv a).toArray, .slice A p c] W fun e w' => e = .returned (.bool true) ∧ Below W.heap.size W w')) (HU : Hid (∀ W, Below w.heap.size w W → Calls Tryd.prog 6 #[.agg (bv root).toArray, .int .i64 n, .int .i64 i, .agg (bv b).toArray, .slice A' q c'] W fun e w' => e = .returned (.bool true) ∧ Below W.heap.size W w')) (q6 : p ≠ q) :
    Calls Tryd.prog 3 #[.int .i64 n, .int .i64 i, .agg (bv a).toArray, .slice A p c, .agg (bv b).toArray, .slice A' q c', .agg (bv root).toArray] w fun e w' => e = .returned (.bool true) ∧ Below w.heap.size w w' := by
  have GS := Lib.hid hg.size
  have HAW : Hid (∀ W, Below w.heap.size w W → Calls Tryd.prog 4 #[] W fun e w' => e = .returned (.bool true) ∧ Below W.heap.size W w') := Lib.hid fun W hb => awake_any W (hg.below hb GS.out)
  have HA := Lib.hid ha
  have HB := Lib.hid hb
  have HR := Lib.hid hr
  have heq := fun w => run_eq24 a b HA.out HB.out w
  rw [show (a == b) = false by simpa using q3] at heq
  clear q3
  have hpq1 : ((p : Int) == (q : Int)) = false := by rw [beq_eq_false_iff_ne]; omega
  have hpq2 : ((p : Int) != (q : Int)) = true := by rw [bne_iff_ne]; omega
  have hpq3 : (p == q) = false := by rw [beq_eq_false_iff_ne]; omega
  have hpq4 : (p != q) = true := by rw [bne_iff_ne]; omega
  have hpq5 : ¬ p = q := q6
  clear q6
  clear ha hb hr hg
  go_enter Tryd.func3, Tryd.ntmps3
  go_wp2_with fail
  refine (HAW.out _ (below3 w _ _ _)).mono ?_
  rintro e w2 ⟨rfl, hb2⟩
  have K2 : Hid (Below w.heap.size w w2) := Lib.hid ((below3 w _ _ _).trans (hb2.mono (by simp; omega)))
  have R0 : Hid (∀ W, Below w2.heap.size w2 W → W.rangeAt w.heap.size 0 (bv a) ∧ W.rangeAt (w.heap.size + 1) 0 (bv b) ∧ W.rangeAt (w.heap.size + 1 + 1) 0 (bv root)) := by
    have z := hb2.size
    simp at z
    have b0 : BlkIs w2 w.heap.size 22 (bv a).toArray := (hb2.block _ (by first | (simp; done) | (simp; omega))).trans (((BlkIs.new w _ _).alloc _).alloc _)
    have b1 : BlkIs w2 (w.heap.size + 1) 22 (bv b).toArray := (hb2.block _ (by first | (simp; done) | (simp; omega))).trans ((BlkIs.new_at (w.alloc _) _ _ _ (by simp)).alloc _)
    have b2 : BlkIs w2 (w.heap.size + 1 + 1) 22 (bv root).toArray := (hb2.block _ (by first | (simp; done) | (simp; omega))).trans (BlkIs.new_at ((w.alloc _).alloc _) _ _ _ (by simp))
    exact Lib.hid fun W hb => ⟨BlkIs.sum ((hb.block _ b0.lt).trans b0), BlkIs.sum ((hb.block _ b1.lt).trans b1), BlkIs.sum ((hb.block _ b2.lt).trans b2)⟩
  clear hb2 HAW
  go_wp2_with fail
  refine (few_yes _ _ _ _ q1).mono ?_
  rintro e w3 ⟨rfl, rfl⟩
  go_wp2_with fail
  refine (few_yes _ _ _ _ q2).mono ?_
  rintro e w3 ⟨rfl, rfl⟩
  obtain ⟨ra, rb, rr⟩ := R0.out _ (Below.refl _ _)
  go_wp2_with (first
    | (refine load_want (by rfl) 22 (.tmp 9) rfl w.heap.size 0 rfl (bv a) _ ra Tryd.underlying22 rfl (isz26s HA.out) ?_)
    | (refine load_want (by rfl) 22 (.tmp 11) rfl (w.heap.size + 1) 0 rfl (bv b) _ rb Tryd.underlying22 rfl (isz26s HB.out) ?_)
    | (refine load_want (by rfl) 22 (.tmp 13) rfl (w.heap.size + 1 + 1) 0 rfl (bv root) _ rr Tryd.underlying22 rfl (isz26s HR.out) ?_)
    | fail)
  refine (HV.out _ K2.out).mono ?_
  rintro e w4 ⟨rfl, hb4⟩
  have K4 := Lib.hid (K2.out.trans (hb4.mono K2.out.size))
  have J4 := Lib.hid hb4
  clear ra rb rr hb4 HV
  obtain ⟨ra, rb, rr⟩ := R0.out _ J4.out
  go_wp2_with (first
    | (refine load_want (by rfl) 22 (.tmp 9) rfl w.heap.size 0 rfl (bv a) _ ra Tryd.underlying22 rfl (isz26s HA.out) ?_)
    | (refine load_want (by rfl) 22 (.tmp 11) rfl (w.heap.size + 1) 0 rfl (bv b) _ rb Tryd.underlying22 rfl (isz26s HB.out) ?_)
    | (refine load_want (by rfl) 22 (.tmp 13) rfl (w.heap.size + 1 + 1) 0 rfl (bv root) _ rr Tryd.underlying22 rfl (isz26s HR.out) ?_)
    | fail)
  refine (HU.out _ K4.out).mono ?_
  rintro e w5 ⟨rfl, hb5⟩
  have K5 := Lib.hid (K4.out.trans (hb5.mono K4.out.size))
  have J5 := Lib.hid (J4.out.trans (hb5.mono J4.out.size))
  clear ra rb rr hb5 HU
  go_wp2_with fail
  go_ret
  exact ⟨rfl, K5.out⟩
end Go.Proofs.YtlbmieeimnjncaaDoor
/- The walk of MerkleBound to its end. Conditions: as stated. -/
namespace Go.Proofs.YtlbmieeimnjncaaDoor
set_option maxRecDepth 100000
open Go.RowKit Go
set_option maxRecDepth 100000 in
set_option maxHeartbeats 3200000 in
theorem lbd_7 (n i : Int) (a b root : List UInt8) (A A' : Option Addr) (p c q c' : Nat) (w : World) (ha : a.length = 32) (hb : b.length = 32) (hr : root.length = 32) (hg : Glob w) (q1 : p ≤ 20) (q2 : q ≤ 20) (q3 : a ≠ b) (HV : Hid (∀ W, Below w.heap.size w W → Calls Tryd.prog 6 #[.agg (bv root).toArray, .int .i64 n, .int .i64 i, .agg (bv a).toArray, .slice A p c] W fun e w' => e = .returned (.bool true) ∧ Below W.heap.size W w')) (HU : Hid (∀ W, Below w.heap.size w W → Calls Tryd.prog 6 #[.agg (bv root).toArray, .int .i64 n, .int .i64 i, .agg (bv b).toArray, .slice A' q c'] W fun e w' => e = .returned (.bool true) ∧ Below W.heap.size W w')) (q6 : p = q) (X Y : List (List UInt8 × List UInt8)) (m : Nat) (hX : X.length = m) (hY : Y.length = m)
    (HW : Hid (∀ W, Below w.heap.size w W → Calls Tryd.prog 7 #[.int .i64 n, .int .i64 i, .agg (bv a).toArray, .slice A p c] W fun e w' => ∃ v, e = .returned v ∧ OwnP w' W.heap.size v X ∧ Below W.heap.size W w'))
    (HZ : Hid (∀ W, Below w.heap.size w W → Calls Tryd.prog 7 #[.int .i64 n, .int .i64 i, .agg (bv b).toArray, .slice A' q c'] W fun e w' => ∃ v, e = .returned v ∧ OwnP w' W.heap.size v Y ∧ Below W.heap.size W w'))
    (HF : Hid (foundS X Y = true)) :
    Calls Tryd.prog 3 #[.int .i64 n, .int .i64 i, .agg (bv a).toArray, .slice A p c, .agg (bv b).toArray, .slice A' q c', .agg (bv root).toArray] w fun e w' => e = .returned (.bool true) ∧ Below w.heap.size w w' := by
  have HX := Lib.hid hX
  have HY := Lib.hid hY
  clear hX hY
  have GS := Lib.hid hg.size
  have HAW : Hid (∀ W, Below w.heap.size w W → Calls Tryd.prog 4 #[] W fun e w' => e = .returned (.bool true) ∧ Below W.heap.size W w') := Lib.hid fun W hb => awake_any W (hg.below hb GS.out)
  have HA := Lib.hid ha
  have HB := Lib.hid hb
  have HR := Lib.hid hr
  have heq := fun w => run_eq24 a b HA.out HB.out w
  rw [show (a == b) = false by simpa using q3] at heq

  subst q6
  clear ha hb hr hg
  go_enter Tryd.func3, Tryd.ntmps3
  go_wp2_with fail
  refine (HAW.out _ (below3 w _ _ _)).mono ?_
  rintro e w2 ⟨rfl, hb2⟩
  have K2 : Hid (Below w.heap.size w w2) := Lib.hid ((below3 w _ _ _).trans (hb2.mono (by simp; omega)))
  have R0 : Hid (∀ W, Below w2.heap.size w2 W → W.rangeAt w.heap.size 0 (bv a) ∧ W.rangeAt (w.heap.size + 1) 0 (bv b) ∧ W.rangeAt (w.heap.size + 1 + 1) 0 (bv root)) := by
    have z := hb2.size
    simp at z
    have b0 : BlkIs w2 w.heap.size 22 (bv a).toArray := (hb2.block _ (by first | (simp; done) | (simp; omega))).trans (((BlkIs.new w _ _).alloc _).alloc _)
    have b1 : BlkIs w2 (w.heap.size + 1) 22 (bv b).toArray := (hb2.block _ (by first | (simp; done) | (simp; omega))).trans ((BlkIs.new_at (w.alloc _) _ _ _ (by simp)).alloc _)
    have b2 : BlkIs w2 (w.heap.size + 1 + 1) 22 (bv root).toArray := (hb2.block _ (by first | (simp; done) | (simp; omega))).trans (BlkIs.new_at ((w.alloc _).alloc _) _ _ _ (by simp))
    exact Lib.hid fun W hb => ⟨BlkIs.sum ((hb.block _ b0.lt).trans b0), BlkIs.sum ((hb.block _ b1.lt).trans b1), BlkIs.sum ((hb.block _ b2.lt).trans b2)⟩
  clear hb2 HAW
  go_wp2_with fail
  refine (few_yes _ _ _ _ q1).mono ?_
  rintro e w3 ⟨rfl, rfl⟩
  go_wp2_with fail
  refine (few_yes _ _ _ _ q2).mono ?_
  rintro e w3 ⟨rfl, rfl⟩
  obtain ⟨ra, rb, rr⟩ := R0.out _ (Below.refl _ _)
  go_wp2_with (first
    | (refine load_want (by rfl) 22 (.tmp 9) rfl w.heap.size 0 rfl (bv a) _ ra Tryd.underlying22 rfl (isz26s HA.out) ?_)
    | (refine load_want (by rfl) 22 (.tmp 11) rfl (w.heap.size + 1) 0 rfl (bv b) _ rb Tryd.underlying22 rfl (isz26s HB.out) ?_)
    | (refine load_want (by rfl) 22 (.tmp 13) rfl (w.heap.size + 1 + 1) 0 rfl (bv root) _ rr Tryd.underlying22 rfl (isz26s HR.out) ?_)
    | fail)
  refine (HV.out _ K2.out).mono ?_
  rintro e w4 ⟨rfl, hb4⟩
  have K4 := Lib.hid (K2.out.trans (hb4.mono K2.out.size))
  have J4 := Lib.hid hb4
  clear ra rb rr hb4 HV
  obtain ⟨ra, rb, rr⟩ := R0.out _ J4.out
  go_wp2_with (first
    | (refine load_want (by rfl) 22 (.tmp 9) rfl w.heap.size 0 rfl (bv a) _ ra Tryd.underlying22 rfl (isz26s HA.out) ?_)
    | (refine load_want (by rfl) 22 (.tmp 11) rfl (w.heap.size + 1) 0 rfl (bv b) _ rb Tryd.underlying22 rfl (isz26s HB.out) ?_)
    | (refine load_want (by rfl) 22 (.tmp 13) rfl (w.heap.size + 1 + 1) 0 rfl (bv root) _ rr Tryd.underlying22 rfl (isz26s HR.out) ?_)
    | fail)
  refine (HU.out _ K4.out).mono ?_
  rintro e w5 ⟨rfl, hb5⟩
  have K5 := Lib.hid (K4.out.trans (hb5.mono K4.out.size))
  have J5 := Lib.hid (J4.out.trans (hb5.mono J4.out.size))
  clear ra rb rr hb5 HU
  go_wp2_with fail
  have k0 : Below w5.heap.size w5 w5.drew := (Below.refl _ _).drew
  have KEEP : Hid (∀ W, Below w5.heap.size w5 W → Below w.heap.size w W ∧ W.rangeAt w.heap.size 0 (bv a) ∧ W.rangeAt (w.heap.size + 1) 0 (bv b)) := Lib.hid fun W hb => ⟨K5.out.trans (hb.mono K5.out.size), (R0.out W (J5.out.trans (hb.mono J5.out.size))).1, (R0.out W (J5.out.trans (hb.mono J5.out.size))).2.1⟩
  refine wp_region_held_drew (S := (fun W => Below w5.heap.size w5 W)) (by kernel_rfl) (k0) (fun hHeld => ?_)
  refine wpAnyH_take (i := 0) (v := .int .i64 n) rfl (by kernel_rfl) (by kernel_rfl) (by kernel_rfl) (fun _ _ _ h => h) (Or.inl ⟨by rfl, fun w hS => by first | (go_simp; done) | (go_simp; with_reducible rfl)⟩) hHeld ?_
  try simp only [Act.put, List.getElem_toArray, List.getElem_cons_zero, List.setIfInBounds_toArray, List.set_cons_zero, List.set_cons_succ]
  refine wpAnyH_take (i := 1) (v := .int .i64 i) rfl (by kernel_rfl) (by kernel_rfl) (by kernel_rfl) (fun _ _ _ h => h) (Or.inl ⟨by rfl, fun w hS => by first | (go_simp; done) | (go_simp; with_reducible rfl)⟩) hHeld ?_
  try simp only [Act.put, List.getElem_toArray, List.getElem_cons_zero, List.getElem_cons_succ, List.setIfInBounds_toArray, List.set_cons_zero, List.set_cons_succ]
  refine wpAnyH_take (i := 2) (v := _) rfl (by kernel_rfl) (by kernel_rfl) (by kernel_rfl) (fun _ _ _ h => h) (yieldsIf_load_mid (by rfl) 22 (.tmp 9) rfl w.heap.size 0 rfl (bv a) _ (fun w h => (KEEP.out w h).2.1) Tryd.underlying22 rfl (isz26s HA.out)) hHeld ?_
  try simp only [Act.put, List.getElem_toArray, List.getElem_cons_zero, List.getElem_cons_succ, List.setIfInBounds_toArray, List.set_cons_zero, List.set_cons_succ]
  refine wpAnyH_take (i := 3) (v := .slice A p c) rfl (by kernel_rfl) (by kernel_rfl) (by kernel_rfl) (fun _ _ _ h => h) (Or.inl ⟨by rfl, fun w hS => by first | (go_simp; done) | (go_simp; with_reducible rfl)⟩) hHeld ?_
  try simp only [Act.put, List.getElem_toArray, List.getElem_cons_zero, List.getElem_cons_succ, List.setIfInBounds_toArray, List.set_cons_zero, List.set_cons_succ]
  refine wpAnyH_take (i := 5) (v := .int .i64 n) rfl (by kernel_rfl) (by kernel_rfl) (by kernel_rfl) (fun _ _ _ h => h) (Or.inl ⟨by rfl, fun w hS => by first | (go_simp; done) | (go_simp; with_reducible rfl)⟩) hHeld ?_
  try simp only [Act.put, List.getElem_toArray, List.getElem_cons_zero, List.getElem_cons_succ, List.setIfInBounds_toArray, List.set_cons_zero, List.set_cons_succ]
  refine wpAnyH_take (i := 6) (v := .int .i64 i) rfl (by kernel_rfl) (by kernel_rfl) (by kernel_rfl) (fun _ _ _ h => h) (Or.inl ⟨by rfl, fun w hS => by first | (go_simp; done) | (go_simp; with_reducible rfl)⟩) hHeld ?_
  try simp only [Act.put, List.getElem_toArray, List.getElem_cons_zero, List.getElem_cons_succ, List.setIfInBounds_toArray, List.set_cons_zero, List.set_cons_succ]
  refine wpAnyH_take (i := 7) (v := _) rfl (by kernel_rfl) (by kernel_rfl) (by kernel_rfl) (fun _ _ _ h => h) (yieldsIf_load_mid (by rfl) 22 (.tmp 11) rfl (w.heap.size + 1) 0 rfl (bv b) _ (fun w h => (KEEP.out w h).2.2) Tryd.underlying22 rfl (isz26s HB.out)) hHeld ?_
  try simp only [Act.put, List.getElem_toArray, List.getElem_cons_zero, List.getElem_cons_succ, List.setIfInBounds_toArray, List.set_cons_zero, List.set_cons_succ]
  refine wpAnyH_take (i := 8) (v := .slice A' p c') rfl (by kernel_rfl) (by kernel_rfl) (by kernel_rfl) (fun _ _ _ h => h) (Or.inl ⟨by rfl, fun w hS => by first | (go_simp; done) | (go_simp; with_reducible rfl)⟩) hHeld ?_
  try simp only [Act.put, List.getElem_toArray, List.getElem_cons_zero, List.getElem_cons_succ, List.setIfInBounds_toArray, List.set_cons_zero, List.set_cons_succ]
  refine wpAnyH_ready (rs := [4]) (by kernel_rfl) (by simp) ?_
  refine AllReadyH.cons rfl (fun K hK => ?_) AllReadyH.nil
  go_simp
  go_wp2_with (go_at_call 7; with_reducible refine (HW.out _ (KEEP.out _ hHeld).1).mono ?_; clear HW; rintro e w6 ⟨v1, rfl, ho6, hb6⟩; have k6 := k0.trans (hb6.mono k0.size))
  refine hK.out _ _ ?_ (fun hHeld => ?_)
  · exact k6
  clear hK K
  try simp only [Act.put, List.getElem_toArray, List.getElem_cons_zero, List.getElem_cons_succ, List.setIfInBounds_toArray, List.set_cons_zero, List.set_cons_succ]
  refine wpAnyH_ready (rs := [9]) (by kernel_rfl) (by simp) ?_
  refine AllReadyH.cons rfl (fun K hK => ?_) AllReadyH.nil
  go_simp
  go_wp2_with (go_at_call 7; with_reducible refine (HZ.out _ (KEEP.out _ hHeld).1).mono ?_; clear HZ; rintro e w7 ⟨v2, rfl, ho7, hb7⟩; have k7 := k6.trans (hb7.mono k6.size))
  refine hK.out _ _ ?_ (fun hHeld => ?_)
  · exact k7
  clear hK K
  try simp only [Act.put, List.getElem_toArray, List.getElem_cons_zero, List.getElem_cons_succ, List.setIfInBounds_toArray, List.set_cons_zero, List.set_cons_succ]
  refine wpAnyH_take (i := 10) (v := v1) rfl (by kernel_rfl) (by kernel_rfl) (by kernel_rfl) (fun _ _ _ h => h) (Or.inl ⟨by rfl, fun w hS => by first | (go_simp; done) | (go_simp; with_reducible rfl)⟩) hHeld ?_
  try simp only [Act.put, List.getElem_toArray, List.getElem_cons_zero, List.getElem_cons_succ, List.setIfInBounds_toArray, List.set_cons_zero, List.set_cons_succ]
  refine wpAnyH_take (i := 11) (v := v2) rfl (by kernel_rfl) (by kernel_rfl) (by kernel_rfl) (fun _ _ _ h => h) (Or.inl ⟨by rfl, fun w hS => by first | (go_simp; done) | (go_simp; with_reducible rfl)⟩) hHeld ?_
  try simp only [Act.put, List.getElem_toArray, List.getElem_cons_zero, List.getElem_cons_succ, List.setIfInBounds_toArray, List.set_cons_zero, List.set_cons_succ]
  refine wpAnyH_done (by kernel_rfl) ?_ _
  have k7sz : w6.heap.size ≤ w7.heap.size := hb7.size

  obtain ⟨D1, d1, e1, l1, m1⟩ := ho6.slice
  obtain ⟨D2, d2, e2, l2, m2⟩ := ho7.slice
  rw [HX.out] at e1 l1
  rw [HY.out] at e2 l2
  subst e1 e2
  have HS : Hid (∀ W, Below w7.heap.size w7 W → Below w.heap.size w W ∧ Ps W w6.heap.size D1 X ∧ Ps W w7.heap.size D2 Y) := Lib.hid fun W hb => by
    have j7 := (KEEP.out _ k7).1
    exact ⟨j7.trans (hb.mono j7.size), (ho6.ps.below hb7).below (hb.mono hb7.size), ho7.ps.below hb⟩
  have HB0 : Hid (Below w7.heap.size w7 w7) := Lib.hid (Below.refl _ _)
  have HN0 : Hid (∀ j, j < 0 → fAt X Y j = false) := Lib.hid (fun j h => absurd h (by omega))
  have hm1 : d1 ≤ 9223372036854775807 := by unfold maxLen at m1; exact m1
  have hm2 : d2 ≤ 9223372036854775807 := by unfold maxLen at m2; exact m2
  clear ho6 ho7 hb6 hb7 k6 k7 k0 hHeld KEEP m1 m2 heq K2 K4 K5 J4 J5 R0
  go_wp2_with fail
  go_loopw [17, 70] (fun _ x wr => ∃ k : Nat, k ≤ m ∧ x = .int .i64 k ∧ Hid (∀ j, j < k → fAt X Y j = false) ∧ Hid (Below w7.heap.size w7 wr)) (fun _ x _ => m - (intOf x).toNat)
  case atStart => exact ⟨0, Nat.zero_le _, rfl, HN0, HB0⟩
  case round =>
    obtain ⟨k, hk, rfl, HNO, HBR⟩ := hrel
    by_cases hlt : k < m
    · obtain ⟨s0, s1, s2⟩ := HS.out wr HBR.out
      obtain ⟨g1, eD1, hg1, r1, hx1, hx2⟩ := s1.at_ (k := k) (by rw [HX.out]; exact hlt)
      obtain ⟨g2, eD2, hg2, r2, hy1, hy2⟩ := s2.at_ (k := k) (by rw [HY.out]; exact hlt)
      have hfa : fAt X Y k = (!(((X.getD k ([], [])).1 == (Y.getD k ([], [])).1) && ((X.getD k ([], [])).2 == (Y.getD k ([], [])).2)) && (nodeS (X.getD k ([], [])).1 (X.getD k ([], [])).2 == nodeS (Y.getD k ([], [])).1 (Y.getD k ([], [])).2)) := rfl
      generalize (X.getD k ([], [])).1 = x1 at *
      generalize (X.getD k ([], [])).2 = x2 at *
      generalize (Y.getD k ([], [])).1 = y1 at *
      generalize (Y.getD k ([], [])).2 = y2 at *
      have hsz1 : w6.heap.size ≤ wr.heap.size := by have := k7sz; have := HBR.out.size; omega
      have hsz2 : w7.heap.size ≤ wr.heap.size := HBR.out.size
      have KP : Hid (∀ W, Below wr.heap.size wr W → Below w7.heap.size w7 W ∧ W.rangeAt g1 (k * 64) (bv (x1 ++ x2)) ∧ W.rangeAt g2 (k * 64) (bv (y1 ++ y2)) ∧ W.rangeAt g1 (k * 64) (bv x1) ∧ W.rangeAt g1 (k * 64 + 32) (bv x2) ∧ W.rangeAt g2 (k * 64) (bv y1) ∧ W.rangeAt g2 (k * 64 + 32) (bv y2)) := Lib.hid fun W hb => by
        have q1 := range_below r1 hb (by omega)
        have q2 := range_below r2 hb (by omega)
        exact ⟨HBR.out.trans (hb.mono hsz2), q1, q2, (range_two q1 hx1).1, (range_two q1 hx1).2, (range_two q2 hy1).1, (range_two q2 hy1).2⟩
      have he35 := fun w => run_eq35 x1 x2 y1 y2 hx1 hx2 hy1 hy2 w
      have hen := fun w => run_eq24 (nodeS x1 x2) (nodeS y1 y2) (nodeS_length _ _) (nodeS_length _ _) w
      have HNX := Lib.hid (fun W => rnode_any x1 x2 W hx1 hx2)
      have HNY := Lib.hid (fun W => rnode_any y1 y2 W hy1 hy2)
      have HLX : Hid ((x1 ++ x2).length = 64) := Lib.hid (by rw [List.length_append, hx1, hx2])
      have HLY : Hid ((y1 ++ y2).length = 64) := Lib.hid (by rw [List.length_append, hy1, hy2])
      have H1 := Lib.hid hx1
      have H2 := Lib.hid hx2
      have H3 := Lib.hid hy1
      have H4 := Lib.hid hy2
      clear hx1 hx2 hy1 hy2 s0 s1 s2 r1 r2 hg1 hg2 hsz1 hsz2
      subst eD1
      subst eD2
      by_cases hp : ((x1 == y1) && (x2 == y2)) = true
      · rw [hp] at he35 hfa
        have HNO2 : Hid (∀ j, j < k + 1 → fAt X Y j = false) := Lib.hid fun j hj => by
          by_cases e : j = k
          · rw [e, hfa]; rfl
          · exact HNO.out j (by omega)
        clear hp hfa hen
        go_wp2_with fail
        have k0 : Below wr.heap.size wr wr.drew := (Below.refl _ wr).drew
        refine wp_region_held_drew (S := (fun W => Below wr.heap.size wr W)) (by kernel_rfl) (k0) (fun hHeld => ?_)
        refine wpAnyH_take (i := 0) (v := .slice (some ⟨g1, 0, none⟩) m d1) rfl (by kernel_rfl) (by kernel_rfl) (by kernel_rfl) (fun _ _ _ h => h) (Or.inl ⟨by rfl, fun w hS => by first | (go_simp; done) | (go_simp; with_reducible rfl)⟩) hHeld ?_
        try simp only [Act.put, List.getElem_toArray, List.getElem_cons_zero, List.setIfInBounds_toArray, List.set_cons_zero, List.set_cons_succ]
        refine wpAnyH_take (i := 1) (v := .int .i64 k) rfl (by kernel_rfl) (by kernel_rfl) (by kernel_rfl) (fun _ _ _ h => h) (Or.inl ⟨by rfl, fun w hS => by first | (go_simp; done) | (go_simp; with_reducible rfl)⟩) hHeld ?_
        try simp only [Act.put, List.getElem_toArray, List.getElem_cons_zero, List.getElem_cons_succ, List.setIfInBounds_toArray, List.set_cons_zero, List.set_cons_succ]
        refine wpAnyH_take (i := 2) (v := .pointer (some ⟨g1, k * 64, none⟩)) rfl (by kernel_rfl) (by kernel_rfl) (by kernel_rfl) (fun _ _ _ h => h) (Or.inl ⟨by rfl, fun w hS => by first | (go_simp; done) | (go_simp; rfl) | (go_simp; with_reducible rfl) | (go_simp; simp; done)⟩) hHeld ?_
        try simp only [Act.put, List.getElem_toArray, List.getElem_cons_zero, List.getElem_cons_succ, List.setIfInBounds_toArray, List.set_cons_zero, List.set_cons_succ]
        refine wpAnyH_take (i := 3) (v := _) rfl (by kernel_rfl) (by kernel_rfl) (by kernel_rfl) (fun _ _ _ h => h) (yieldsIf_load_mid (by rfl) 29 (.tmp 75) rfl g1 (k * 64) rfl (bv (x1 ++ x2)) _ (fun w h => (KP.out w h).2.1) Tryd.underlying29 rfl (isz35s HLX.out)) hHeld ?_
        try simp only [Act.put, List.getElem_toArray, List.getElem_cons_zero, List.getElem_cons_succ, List.setIfInBounds_toArray, List.set_cons_zero, List.set_cons_succ]
        refine wpAnyH_take (i := 4) (v := .slice (some ⟨g2, 0, none⟩) m d2) rfl (by kernel_rfl) (by kernel_rfl) (by kernel_rfl) (fun _ _ _ h => h) (Or.inl ⟨by rfl, fun w hS => by first | (go_simp; done) | (go_simp; with_reducible rfl)⟩) hHeld ?_
        try simp only [Act.put, List.getElem_toArray, List.getElem_cons_zero, List.getElem_cons_succ, List.setIfInBounds_toArray, List.set_cons_zero, List.set_cons_succ]
        refine wpAnyH_take (i := 5) (v := .int .i64 k) rfl (by kernel_rfl) (by kernel_rfl) (by kernel_rfl) (fun _ _ _ h => h) (Or.inl ⟨by rfl, fun w hS => by first | (go_simp; done) | (go_simp; with_reducible rfl)⟩) hHeld ?_
        try simp only [Act.put, List.getElem_toArray, List.getElem_cons_zero, List.getElem_cons_succ, List.setIfInBounds_toArray, List.set_cons_zero, List.set_cons_succ]
        refine wpAnyH_take (i := 6) (v := .pointer (some ⟨g2, k * 64, none⟩)) rfl (by kernel_rfl) (by kernel_rfl) (by kernel_rfl) (fun _ _ _ h => h) (Or.inl ⟨by rfl, fun w hS => by first | (go_simp; done) | (go_simp; rfl) | (go_simp; with_reducible rfl) | (go_simp; simp; done)⟩) hHeld ?_
        try simp only [Act.put, List.getElem_toArray, List.getElem_cons_zero, List.getElem_cons_succ, List.setIfInBounds_toArray, List.set_cons_zero, List.set_cons_succ]
        refine wpAnyH_take (i := 7) (v := _) rfl (by kernel_rfl) (by kernel_rfl) (by kernel_rfl) (fun _ _ _ h => h) (yieldsIf_load_mid (by rfl) 29 (.tmp 79) rfl g2 (k * 64) rfl (bv (y1 ++ y2)) _ (fun w h => (KP.out w h).2.2.1) Tryd.underlying29 rfl (isz35s HLY.out)) hHeld ?_
        try simp only [Act.put, List.getElem_toArray, List.getElem_cons_zero, List.getElem_cons_succ, List.setIfInBounds_toArray, List.set_cons_zero, List.set_cons_succ]
        refine wpAnyH_take (i := 8) (v := .bool false) rfl (by kernel_rfl) (by kernel_rfl) (by kernel_rfl) (fun _ _ _ h => h) (Or.inl ⟨by rfl, fun w hS => by first | (go_simp; done) | (go_simp; with_reducible rfl)⟩) hHeld ?_
        try simp only [Act.put, List.getElem_toArray, List.getElem_cons_zero, List.getElem_cons_succ, List.setIfInBounds_toArray, List.set_cons_zero, List.set_cons_succ]
        refine wpAnyH_take (i := 9) (v := .bool false) rfl (by kernel_rfl) (by kernel_rfl) (by kernel_rfl) (fun _ _ _ h => h) (Or.inl ⟨by rfl, fun w hS => by first | (go_simp; done) | (go_simp; with_reducible rfl)⟩) hHeld ?_
        try simp only [Act.put, List.getElem_toArray, List.getElem_cons_zero, List.getElem_cons_succ, List.setIfInBounds_toArray, List.set_cons_zero, List.set_cons_succ]
        refine wpAnyH_take (i := 10) (v := undef) rfl (by kernel_rfl) (by kernel_rfl) (by kernel_rfl) (fun _ _ _ h => h) (Or.inr ⟨by rfl, rfl⟩) hHeld ?_
        try simp only [Act.put, List.getElem_toArray, List.getElem_cons_zero, List.getElem_cons_succ, List.setIfInBounds_toArray, List.set_cons_zero, List.set_cons_succ]
        refine wpAnyH_take (i := 11) (v := undef) rfl (by kernel_rfl) (by kernel_rfl) (by kernel_rfl) (fun _ _ _ h => h) (Or.inr ⟨by rfl, rfl⟩) hHeld ?_
        try simp only [Act.put, List.getElem_toArray, List.getElem_cons_zero, List.getElem_cons_succ, List.setIfInBounds_toArray, List.set_cons_zero, List.set_cons_succ]
        refine wpAnyH_take (i := 12) (v := undef) rfl (by kernel_rfl) (by kernel_rfl) (by kernel_rfl) (fun _ _ _ h => h) (Or.inr ⟨by rfl, rfl⟩) hHeld ?_
        try simp only [Act.put, List.getElem_toArray, List.getElem_cons_zero, List.getElem_cons_succ, List.setIfInBounds_toArray, List.set_cons_zero, List.set_cons_succ]
        refine wpAnyH_take (i := 13) (v := undef) rfl (by kernel_rfl) (by kernel_rfl) (by kernel_rfl) (fun _ _ _ h => h) (Or.inr ⟨by rfl, rfl⟩) hHeld ?_
        try simp only [Act.put, List.getElem_toArray, List.getElem_cons_zero, List.getElem_cons_succ, List.setIfInBounds_toArray, List.set_cons_zero, List.set_cons_succ]
        refine wpAnyH_take (i := 14) (v := undef) rfl (by kernel_rfl) (by kernel_rfl) (by kernel_rfl) (fun _ _ _ h => h) (Or.inr ⟨by rfl, rfl⟩) hHeld ?_
        try simp only [Act.put, List.getElem_toArray, List.getElem_cons_zero, List.getElem_cons_succ, List.setIfInBounds_toArray, List.set_cons_zero, List.set_cons_succ]
        refine wpAnyH_take (i := 15) (v := undef) rfl (by kernel_rfl) (by kernel_rfl) (by kernel_rfl) (fun _ _ _ h => h) (Or.inr ⟨by rfl, rfl⟩) hHeld ?_
        try simp only [Act.put, List.getElem_toArray, List.getElem_cons_zero, List.getElem_cons_succ, List.setIfInBounds_toArray, List.set_cons_zero, List.set_cons_succ]
        refine wpAnyH_take (i := 16) (v := undef) rfl (by kernel_rfl) (by kernel_rfl) (by kernel_rfl) (fun _ _ _ h => h) (Or.inr ⟨by rfl, rfl⟩) hHeld ?_
        try simp only [Act.put, List.getElem_toArray, List.getElem_cons_zero, List.getElem_cons_succ, List.setIfInBounds_toArray, List.set_cons_zero, List.set_cons_succ]
        refine wpAnyH_take (i := 17) (v := undef) rfl (by kernel_rfl) (by kernel_rfl) (by kernel_rfl) (fun _ _ _ h => h) (Or.inr ⟨by rfl, rfl⟩) hHeld ?_
        try simp only [Act.put, List.getElem_toArray, List.getElem_cons_zero, List.getElem_cons_succ, List.setIfInBounds_toArray, List.set_cons_zero, List.set_cons_succ]
        refine wpAnyH_take (i := 18) (v := undef) rfl (by kernel_rfl) (by kernel_rfl) (by kernel_rfl) (fun _ _ _ h => h) (Or.inr ⟨by rfl, rfl⟩) hHeld ?_
        try simp only [Act.put, List.getElem_toArray, List.getElem_cons_zero, List.getElem_cons_succ, List.setIfInBounds_toArray, List.set_cons_zero, List.set_cons_succ]
        refine wpAnyH_take (i := 19) (v := undef) rfl (by kernel_rfl) (by kernel_rfl) (by kernel_rfl) (fun _ _ _ h => h) (Or.inr ⟨by rfl, rfl⟩) hHeld ?_
        try simp only [Act.put, List.getElem_toArray, List.getElem_cons_zero, List.getElem_cons_succ, List.setIfInBounds_toArray, List.set_cons_zero, List.set_cons_succ]
        refine wpAnyH_take (i := 20) (v := undef) rfl (by kernel_rfl) (by kernel_rfl) (by kernel_rfl) (fun _ _ _ h => h) (Or.inr ⟨by rfl, rfl⟩) hHeld ?_
        try simp only [Act.put, List.getElem_toArray, List.getElem_cons_zero, List.getElem_cons_succ, List.setIfInBounds_toArray, List.set_cons_zero, List.set_cons_succ]
        refine wpAnyH_take (i := 21) (v := undef) rfl (by kernel_rfl) (by kernel_rfl) (by kernel_rfl) (fun _ _ _ h => h) (Or.inr ⟨by rfl, rfl⟩) hHeld ?_
        try simp only [Act.put, List.getElem_toArray, List.getElem_cons_zero, List.getElem_cons_succ, List.setIfInBounds_toArray, List.set_cons_zero, List.set_cons_succ]
        refine wpAnyH_take (i := 22) (v := undef) rfl (by kernel_rfl) (by kernel_rfl) (by kernel_rfl) (fun _ _ _ h => h) (Or.inr ⟨by rfl, rfl⟩) hHeld ?_
        try simp only [Act.put, List.getElem_toArray, List.getElem_cons_zero, List.getElem_cons_succ, List.setIfInBounds_toArray, List.set_cons_zero, List.set_cons_succ]
        refine wpAnyH_take (i := 23) (v := undef) rfl (by kernel_rfl) (by kernel_rfl) (by kernel_rfl) (fun _ _ _ h => h) (Or.inr ⟨by rfl, rfl⟩) hHeld ?_
        try simp only [Act.put, List.getElem_toArray, List.getElem_cons_zero, List.getElem_cons_succ, List.setIfInBounds_toArray, List.set_cons_zero, List.set_cons_succ]
        refine wpAnyH_take (i := 24) (v := undef) rfl (by kernel_rfl) (by kernel_rfl) (by kernel_rfl) (fun _ _ _ h => h) (Or.inr ⟨by rfl, rfl⟩) hHeld ?_
        try simp only [Act.put, List.getElem_toArray, List.getElem_cons_zero, List.getElem_cons_succ, List.setIfInBounds_toArray, List.set_cons_zero, List.set_cons_succ]
        refine wpAnyH_take (i := 25) (v := undef) rfl (by kernel_rfl) (by kernel_rfl) (by kernel_rfl) (fun _ _ _ h => h) (Or.inr ⟨by rfl, rfl⟩) hHeld ?_
        try simp only [Act.put, List.getElem_toArray, List.getElem_cons_zero, List.getElem_cons_succ, List.setIfInBounds_toArray, List.set_cons_zero, List.set_cons_succ]
        refine wpAnyH_take (i := 26) (v := undef) rfl (by kernel_rfl) (by kernel_rfl) (by kernel_rfl) (fun _ _ _ h => h) (Or.inr ⟨by rfl, rfl⟩) hHeld ?_
        try simp only [Act.put, List.getElem_toArray, List.getElem_cons_zero, List.getElem_cons_succ, List.setIfInBounds_toArray, List.set_cons_zero, List.set_cons_succ]
        refine wpAnyH_take (i := 27) (v := undef) rfl (by kernel_rfl) (by kernel_rfl) (by kernel_rfl) (fun _ _ _ h => h) (Or.inr ⟨by rfl, rfl⟩) hHeld ?_
        try simp only [Act.put, List.getElem_toArray, List.getElem_cons_zero, List.getElem_cons_succ, List.setIfInBounds_toArray, List.set_cons_zero, List.set_cons_succ]
        refine wpAnyH_take (i := 28) (v := undef) rfl (by kernel_rfl) (by kernel_rfl) (by kernel_rfl) (fun _ _ _ h => h) (Or.inr ⟨by rfl, rfl⟩) hHeld ?_
        try simp only [Act.put, List.getElem_toArray, List.getElem_cons_zero, List.getElem_cons_succ, List.setIfInBounds_toArray, List.set_cons_zero, List.set_cons_succ]
        refine wpAnyH_take (i := 29) (v := undef) rfl (by kernel_rfl) (by kernel_rfl) (by kernel_rfl) (fun _ _ _ h => h) (Or.inr ⟨by rfl, rfl⟩) hHeld ?_
        try simp only [Act.put, List.getElem_toArray, List.getElem_cons_zero, List.getElem_cons_succ, List.setIfInBounds_toArray, List.set_cons_zero, List.set_cons_succ]
        refine wpAnyH_take (i := 30) (v := undef) rfl (by kernel_rfl) (by kernel_rfl) (by kernel_rfl) (fun _ _ _ h => h) (Or.inr ⟨by rfl, rfl⟩) hHeld ?_
        try simp only [Act.put, List.getElem_toArray, List.getElem_cons_zero, List.getElem_cons_succ, List.setIfInBounds_toArray, List.set_cons_zero, List.set_cons_succ]
        refine wpAnyH_take (i := 31) (v := undef) rfl (by kernel_rfl) (by kernel_rfl) (by kernel_rfl) (fun _ _ _ h => h) (Or.inr ⟨by rfl, rfl⟩) hHeld ?_
        try simp only [Act.put, List.getElem_toArray, List.getElem_cons_zero, List.getElem_cons_succ, List.setIfInBounds_toArray, List.set_cons_zero, List.set_cons_succ]
        refine wpAnyH_take (i := 32) (v := undef) rfl (by kernel_rfl) (by kernel_rfl) (by kernel_rfl) (fun _ _ _ h => h) (Or.inr ⟨by rfl, rfl⟩) hHeld ?_
        try simp only [Act.put, List.getElem_toArray, List.getElem_cons_zero, List.getElem_cons_succ, List.setIfInBounds_toArray, List.set_cons_zero, List.set_cons_succ]
        refine wpAnyH_take (i := 33) (v := .bool false) rfl (by kernel_rfl) (by kernel_rfl) (by kernel_rfl) (fun _ _ _ h => h) (Or.inl ⟨by rfl, fun w hS => by first | (go_simp; done) | (go_simp; with_reducible rfl)⟩) hHeld ?_
        try simp only [Act.put, List.getElem_toArray, List.getElem_cons_zero, List.getElem_cons_succ, List.setIfInBounds_toArray, List.set_cons_zero, List.set_cons_succ]
        refine wpAnyH_done (by kernel_rfl) ?_ _
        go_wp2_with fail
        go_roundw
        case rel => exact ⟨k + 1, by omega, by go_num, HNO2, Lib.hid (KP.out _ k0).1⟩
        case measure => simp [intOf]; omega
      · have hp' : ((x1 == y1) && (x2 == y2)) = false := by simpa using hp
        rw [hp'] at he35 hfa
        by_cases hn : (nodeS x1 x2 == nodeS y1 y2) = true
        · rw [hn] at hen
          clear hp hp' hfa hn
          go_wp2_with fail
          have k0 : Below wr.heap.size wr wr.drew := (Below.refl _ wr).drew
          refine wp_region_held_drew (S := (fun W => Below wr.heap.size wr W)) (by kernel_rfl) (k0) (fun hHeld => ?_)
          refine wpAnyH_take (i := 0) (v := .slice (some ⟨g1, 0, none⟩) m d1) rfl (by kernel_rfl) (by kernel_rfl) (by kernel_rfl) (fun _ _ _ h => h) (Or.inl ⟨by rfl, fun w hS => by first | (go_simp; done) | (go_simp; with_reducible rfl)⟩) hHeld ?_
          try simp only [Act.put, List.getElem_toArray, List.getElem_cons_zero, List.setIfInBounds_toArray, List.set_cons_zero, List.set_cons_succ]
          refine wpAnyH_take (i := 1) (v := .int .i64 k) rfl (by kernel_rfl) (by kernel_rfl) (by kernel_rfl) (fun _ _ _ h => h) (Or.inl ⟨by rfl, fun w hS => by first | (go_simp; done) | (go_simp; with_reducible rfl)⟩) hHeld ?_
          try simp only [Act.put, List.getElem_toArray, List.getElem_cons_zero, List.getElem_cons_succ, List.setIfInBounds_toArray, List.set_cons_zero, List.set_cons_succ]
          refine wpAnyH_take (i := 2) (v := .pointer (some ⟨g1, k * 64, none⟩)) rfl (by kernel_rfl) (by kernel_rfl) (by kernel_rfl) (fun _ _ _ h => h) (Or.inl ⟨by rfl, fun w hS => by first | (go_simp; done) | (go_simp; rfl) | (go_simp; with_reducible rfl) | (go_simp; simp; done)⟩) hHeld ?_
          try simp only [Act.put, List.getElem_toArray, List.getElem_cons_zero, List.getElem_cons_succ, List.setIfInBounds_toArray, List.set_cons_zero, List.set_cons_succ]
          refine wpAnyH_take (i := 3) (v := _) rfl (by kernel_rfl) (by kernel_rfl) (by kernel_rfl) (fun _ _ _ h => h) (yieldsIf_load_mid (by rfl) 29 (.tmp 75) rfl g1 (k * 64) rfl (bv (x1 ++ x2)) _ (fun w h => (KP.out w h).2.1) Tryd.underlying29 rfl (isz35s HLX.out)) hHeld ?_
          try simp only [Act.put, List.getElem_toArray, List.getElem_cons_zero, List.getElem_cons_succ, List.setIfInBounds_toArray, List.set_cons_zero, List.set_cons_succ]
          refine wpAnyH_take (i := 4) (v := .slice (some ⟨g2, 0, none⟩) m d2) rfl (by kernel_rfl) (by kernel_rfl) (by kernel_rfl) (fun _ _ _ h => h) (Or.inl ⟨by rfl, fun w hS => by first | (go_simp; done) | (go_simp; with_reducible rfl)⟩) hHeld ?_
          try simp only [Act.put, List.getElem_toArray, List.getElem_cons_zero, List.getElem_cons_succ, List.setIfInBounds_toArray, List.set_cons_zero, List.set_cons_succ]
          refine wpAnyH_take (i := 5) (v := .int .i64 k) rfl (by kernel_rfl) (by kernel_rfl) (by kernel_rfl) (fun _ _ _ h => h) (Or.inl ⟨by rfl, fun w hS => by first | (go_simp; done) | (go_simp; with_reducible rfl)⟩) hHeld ?_
          try simp only [Act.put, List.getElem_toArray, List.getElem_cons_zero, List.getElem_cons_succ, List.setIfInBounds_toArray, List.set_cons_zero, List.set_cons_succ]
          refine wpAnyH_take (i := 6) (v := .pointer (some ⟨g2, k * 64, none⟩)) rfl (by kernel_rfl) (by kernel_rfl) (by kernel_rfl) (fun _ _ _ h => h) (Or.inl ⟨by rfl, fun w hS => by first | (go_simp; done) | (go_simp; rfl) | (go_simp; with_reducible rfl) | (go_simp; simp; done)⟩) hHeld ?_
          try simp only [Act.put, List.getElem_toArray, List.getElem_cons_zero, List.getElem_cons_succ, List.setIfInBounds_toArray, List.set_cons_zero, List.set_cons_succ]
          refine wpAnyH_take (i := 7) (v := _) rfl (by kernel_rfl) (by kernel_rfl) (by kernel_rfl) (fun _ _ _ h => h) (yieldsIf_load_mid (by rfl) 29 (.tmp 79) rfl g2 (k * 64) rfl (bv (y1 ++ y2)) _ (fun w h => (KP.out w h).2.2.1) Tryd.underlying29 rfl (isz35s HLY.out)) hHeld ?_
          try simp only [Act.put, List.getElem_toArray, List.getElem_cons_zero, List.getElem_cons_succ, List.setIfInBounds_toArray, List.set_cons_zero, List.set_cons_succ]
          refine wpAnyH_take (i := 8) (v := .bool true) rfl (by kernel_rfl) (by kernel_rfl) (by kernel_rfl) (fun _ _ _ h => h) (Or.inl ⟨by rfl, fun w hS => by first | (go_simp; done) | (go_simp; with_reducible rfl)⟩) hHeld ?_
          try simp only [Act.put, List.getElem_toArray, List.getElem_cons_zero, List.getElem_cons_succ, List.setIfInBounds_toArray, List.set_cons_zero, List.set_cons_succ]
          refine wpAnyH_take (i := 9) (v := .bool true) rfl (by kernel_rfl) (by kernel_rfl) (by kernel_rfl) (fun _ _ _ h => h) (Or.inl ⟨by rfl, fun w hS => by first | (go_simp; done) | (go_simp; with_reducible rfl)⟩) hHeld ?_
          try simp only [Act.put, List.getElem_toArray, List.getElem_cons_zero, List.getElem_cons_succ, List.setIfInBounds_toArray, List.set_cons_zero, List.set_cons_succ]
          refine wpAnyH_take (i := 10) (v := .slice (some ⟨g1, 0, none⟩) m d1) rfl (by kernel_rfl) (by kernel_rfl) (by kernel_rfl) (fun _ _ _ h => h) (Or.inl ⟨by rfl, fun w hS => by first | (go_simp; done) | (go_simp; with_reducible rfl)⟩) hHeld ?_
          try simp only [Act.put, List.getElem_toArray, List.getElem_cons_zero, List.getElem_cons_succ, List.setIfInBounds_toArray, List.set_cons_zero, List.set_cons_succ]
          refine wpAnyH_take (i := 11) (v := .int .i64 k) rfl (by kernel_rfl) (by kernel_rfl) (by kernel_rfl) (fun _ _ _ h => h) (Or.inl ⟨by rfl, fun w hS => by first | (go_simp; done) | (go_simp; with_reducible rfl)⟩) hHeld ?_
          try simp only [Act.put, List.getElem_toArray, List.getElem_cons_zero, List.getElem_cons_succ, List.setIfInBounds_toArray, List.set_cons_zero, List.set_cons_succ]
          refine wpAnyH_take (i := 12) (v := .pointer (some ⟨g1, k * 64, none⟩)) rfl (by kernel_rfl) (by kernel_rfl) (by kernel_rfl) (fun _ _ _ h => h) (Or.inl ⟨by rfl, fun w hS => by first | (go_simp; done) | (go_simp; rfl) | (go_simp; with_reducible rfl) | (go_simp; simp; done)⟩) hHeld ?_
          try simp only [Act.put, List.getElem_toArray, List.getElem_cons_zero, List.getElem_cons_succ, List.setIfInBounds_toArray, List.set_cons_zero, List.set_cons_succ]
          refine wpAnyH_take (i := 13) (v := .pointer (some ⟨g1, k * 64, none⟩)) rfl (by kernel_rfl) (by kernel_rfl) (by kernel_rfl) (fun _ _ _ h => h) (Or.inl ⟨by rfl, fun w hS => by first | (go_simp; done) | (go_simp; rfl) | (go_simp; with_reducible rfl) | (go_simp; simp; done)⟩) hHeld ?_
          try simp only [Act.put, List.getElem_toArray, List.getElem_cons_zero, List.getElem_cons_succ, List.setIfInBounds_toArray, List.set_cons_zero, List.set_cons_succ]
          refine wpAnyH_take (i := 14) (v := _) rfl (by kernel_rfl) (by kernel_rfl) (by kernel_rfl) (fun _ _ _ h => h) (yieldsIf_load_mid (by rfl) 22 (.tmp 86) rfl g1 (k * 64) rfl (bv x1) _ (fun w h => (KP.out w h).2.2.2.1) Tryd.underlying22 rfl (isz26s H1.out)) hHeld ?_
          try simp only [Act.put, List.getElem_toArray, List.getElem_cons_zero, List.getElem_cons_succ, List.setIfInBounds_toArray, List.set_cons_zero, List.set_cons_succ]
          refine wpAnyH_take (i := 15) (v := .slice (some ⟨g1, 0, none⟩) m d1) rfl (by kernel_rfl) (by kernel_rfl) (by kernel_rfl) (fun _ _ _ h => h) (Or.inl ⟨by rfl, fun w hS => by first | (go_simp; done) | (go_simp; with_reducible rfl)⟩) hHeld ?_
          try simp only [Act.put, List.getElem_toArray, List.getElem_cons_zero, List.getElem_cons_succ, List.setIfInBounds_toArray, List.set_cons_zero, List.set_cons_succ]
          refine wpAnyH_take (i := 16) (v := .int .i64 k) rfl (by kernel_rfl) (by kernel_rfl) (by kernel_rfl) (fun _ _ _ h => h) (Or.inl ⟨by rfl, fun w hS => by first | (go_simp; done) | (go_simp; with_reducible rfl)⟩) hHeld ?_
          try simp only [Act.put, List.getElem_toArray, List.getElem_cons_zero, List.getElem_cons_succ, List.setIfInBounds_toArray, List.set_cons_zero, List.set_cons_succ]
          refine wpAnyH_take (i := 17) (v := .pointer (some ⟨g1, k * 64, none⟩)) rfl (by kernel_rfl) (by kernel_rfl) (by kernel_rfl) (fun _ _ _ h => h) (Or.inl ⟨by rfl, fun w hS => by first | (go_simp; done) | (go_simp; rfl) | (go_simp; with_reducible rfl) | (go_simp; simp; done)⟩) hHeld ?_
          try simp only [Act.put, List.getElem_toArray, List.getElem_cons_zero, List.getElem_cons_succ, List.setIfInBounds_toArray, List.set_cons_zero, List.set_cons_succ]
          refine wpAnyH_take (i := 18) (v := .pointer (some ⟨g1, k * 64 + 32, none⟩)) rfl (by kernel_rfl) (by kernel_rfl) (by kernel_rfl) (fun _ _ _ h => h) (Or.inl ⟨by rfl, fun w hS => by first | (go_simp; done) | (go_simp; rfl) | (go_simp; with_reducible rfl) | (go_simp; simp; done)⟩) hHeld ?_
          try simp only [Act.put, List.getElem_toArray, List.getElem_cons_zero, List.getElem_cons_succ, List.setIfInBounds_toArray, List.set_cons_zero, List.set_cons_succ]
          refine wpAnyH_take (i := 19) (v := _) rfl (by kernel_rfl) (by kernel_rfl) (by kernel_rfl) (fun _ _ _ h => h) (yieldsIf_load_mid (by rfl) 22 (.tmp 91) rfl g1 (k * 64 + 32) rfl (bv x2) _ (fun w h => (KP.out w h).2.2.2.2.1) Tryd.underlying22 rfl (isz26s H2.out)) hHeld ?_
          try simp only [Act.put, List.getElem_toArray, List.getElem_cons_zero, List.getElem_cons_succ, List.setIfInBounds_toArray, List.set_cons_zero, List.set_cons_succ]
          refine wpAnyH_take (i := 21) (v := .slice (some ⟨g2, 0, none⟩) m d2) rfl (by kernel_rfl) (by kernel_rfl) (by kernel_rfl) (fun _ _ _ h => h) (Or.inl ⟨by rfl, fun w hS => by first | (go_simp; done) | (go_simp; with_reducible rfl)⟩) hHeld ?_
          try simp only [Act.put, List.getElem_toArray, List.getElem_cons_zero, List.getElem_cons_succ, List.setIfInBounds_toArray, List.set_cons_zero, List.set_cons_succ]
          refine wpAnyH_take (i := 22) (v := .int .i64 k) rfl (by kernel_rfl) (by kernel_rfl) (by kernel_rfl) (fun _ _ _ h => h) (Or.inl ⟨by rfl, fun w hS => by first | (go_simp; done) | (go_simp; with_reducible rfl)⟩) hHeld ?_
          try simp only [Act.put, List.getElem_toArray, List.getElem_cons_zero, List.getElem_cons_succ, List.setIfInBounds_toArray, List.set_cons_zero, List.set_cons_succ]
          refine wpAnyH_take (i := 23) (v := .pointer (some ⟨g2, k * 64, none⟩)) rfl (by kernel_rfl) (by kernel_rfl) (by kernel_rfl) (fun _ _ _ h => h) (Or.inl ⟨by rfl, fun w hS => by first | (go_simp; done) | (go_simp; rfl) | (go_simp; with_reducible rfl) | (go_simp; simp; done)⟩) hHeld ?_
          try simp only [Act.put, List.getElem_toArray, List.getElem_cons_zero, List.getElem_cons_succ, List.setIfInBounds_toArray, List.set_cons_zero, List.set_cons_succ]
          refine wpAnyH_take (i := 24) (v := .pointer (some ⟨g2, k * 64, none⟩)) rfl (by kernel_rfl) (by kernel_rfl) (by kernel_rfl) (fun _ _ _ h => h) (Or.inl ⟨by rfl, fun w hS => by first | (go_simp; done) | (go_simp; rfl) | (go_simp; with_reducible rfl) | (go_simp; simp; done)⟩) hHeld ?_
          try simp only [Act.put, List.getElem_toArray, List.getElem_cons_zero, List.getElem_cons_succ, List.setIfInBounds_toArray, List.set_cons_zero, List.set_cons_succ]
          refine wpAnyH_take (i := 25) (v := _) rfl (by kernel_rfl) (by kernel_rfl) (by kernel_rfl) (fun _ _ _ h => h) (yieldsIf_load_mid (by rfl) 22 (.tmp 97) rfl g2 (k * 64) rfl (bv y1) _ (fun w h => (KP.out w h).2.2.2.2.2.1) Tryd.underlying22 rfl (isz26s H3.out)) hHeld ?_
          try simp only [Act.put, List.getElem_toArray, List.getElem_cons_zero, List.getElem_cons_succ, List.setIfInBounds_toArray, List.set_cons_zero, List.set_cons_succ]
          refine wpAnyH_take (i := 26) (v := .slice (some ⟨g2, 0, none⟩) m d2) rfl (by kernel_rfl) (by kernel_rfl) (by kernel_rfl) (fun _ _ _ h => h) (Or.inl ⟨by rfl, fun w hS => by first | (go_simp; done) | (go_simp; with_reducible rfl)⟩) hHeld ?_
          try simp only [Act.put, List.getElem_toArray, List.getElem_cons_zero, List.getElem_cons_succ, List.setIfInBounds_toArray, List.set_cons_zero, List.set_cons_succ]
          refine wpAnyH_take (i := 27) (v := .int .i64 k) rfl (by kernel_rfl) (by kernel_rfl) (by kernel_rfl) (fun _ _ _ h => h) (Or.inl ⟨by rfl, fun w hS => by first | (go_simp; done) | (go_simp; with_reducible rfl)⟩) hHeld ?_
          try simp only [Act.put, List.getElem_toArray, List.getElem_cons_zero, List.getElem_cons_succ, List.setIfInBounds_toArray, List.set_cons_zero, List.set_cons_succ]
          refine wpAnyH_take (i := 28) (v := .pointer (some ⟨g2, k * 64, none⟩)) rfl (by kernel_rfl) (by kernel_rfl) (by kernel_rfl) (fun _ _ _ h => h) (Or.inl ⟨by rfl, fun w hS => by first | (go_simp; done) | (go_simp; rfl) | (go_simp; with_reducible rfl) | (go_simp; simp; done)⟩) hHeld ?_
          try simp only [Act.put, List.getElem_toArray, List.getElem_cons_zero, List.getElem_cons_succ, List.setIfInBounds_toArray, List.set_cons_zero, List.set_cons_succ]
          refine wpAnyH_take (i := 29) (v := .pointer (some ⟨g2, k * 64 + 32, none⟩)) rfl (by kernel_rfl) (by kernel_rfl) (by kernel_rfl) (fun _ _ _ h => h) (Or.inl ⟨by rfl, fun w hS => by first | (go_simp; done) | (go_simp; rfl) | (go_simp; with_reducible rfl) | (go_simp; simp; done)⟩) hHeld ?_
          try simp only [Act.put, List.getElem_toArray, List.getElem_cons_zero, List.getElem_cons_succ, List.setIfInBounds_toArray, List.set_cons_zero, List.set_cons_succ]
          refine wpAnyH_take (i := 30) (v := _) rfl (by kernel_rfl) (by kernel_rfl) (by kernel_rfl) (fun _ _ _ h => h) (yieldsIf_load_mid (by rfl) 22 (.tmp 102) rfl g2 (k * 64 + 32) rfl (bv y2) _ (fun w h => (KP.out w h).2.2.2.2.2.2) Tryd.underlying22 rfl (isz26s H4.out)) hHeld ?_
          try simp only [Act.put, List.getElem_toArray, List.getElem_cons_zero, List.getElem_cons_succ, List.setIfInBounds_toArray, List.set_cons_zero, List.set_cons_succ]
          refine wpAnyH_ready (rs := [20]) (by kernel_rfl) (by simp) ?_
          refine AllReadyH.cons rfl (fun K hK => ?_) AllReadyH.nil
          go_simp
          go_wp2_with (go_at_call 8; refine (HNX.out _).mono ?_; rintro e wa ⟨rfl, hba⟩; have ja := k0.trans (hba.mono k0.size))
          refine hK.out _ _ ?_ (fun hHeld => ?_)
          · exact ja
          clear hK K
          try simp only [Act.put, List.getElem_toArray, List.getElem_cons_zero, List.getElem_cons_succ, List.setIfInBounds_toArray, List.set_cons_zero, List.set_cons_succ]
          refine wpAnyH_ready (rs := [31]) (by kernel_rfl) (by simp) ?_
          refine AllReadyH.cons rfl (fun K hK => ?_) AllReadyH.nil
          go_simp
          go_wp2_with (go_at_call 8; refine (HNY.out _).mono ?_; rintro e wb ⟨rfl, hbb⟩; have jb := ja.trans (hbb.mono ja.size))
          refine hK.out _ _ ?_ (fun hHeld => ?_)
          · exact jb
          clear hK K
          try simp only [Act.put, List.getElem_toArray, List.getElem_cons_zero, List.getElem_cons_succ, List.setIfInBounds_toArray, List.set_cons_zero, List.set_cons_succ]
          refine wpAnyH_take (i := 32) (v := .bool true) rfl (by kernel_rfl) (by kernel_rfl) (by kernel_rfl) (fun _ _ _ h => h) (Or.inl ⟨by rfl, fun w hS => by first | (go_simp; done) | (go_simp; with_reducible rfl)⟩) hHeld ?_
          try simp only [Act.put, List.getElem_toArray, List.getElem_cons_zero, List.getElem_cons_succ, List.setIfInBounds_toArray, List.set_cons_zero, List.set_cons_succ]
          refine wpAnyH_take (i := 33) (v := .bool true) rfl (by kernel_rfl) (by kernel_rfl) (by kernel_rfl) (fun _ _ _ h => h) (Or.inl ⟨by rfl, fun w hS => by first | (go_simp; done) | (go_simp; with_reducible rfl)⟩) hHeld ?_
          try simp only [Act.put, List.getElem_toArray, List.getElem_cons_zero, List.getElem_cons_succ, List.setIfInBounds_toArray, List.set_cons_zero, List.set_cons_succ]
          refine wpAnyH_done (by kernel_rfl) ?_ _
          go_wp2_with fail
          go_ret
          exact ⟨rfl, (HS.out _ (KP.out _ jb).1).1⟩
        · have hn' : (nodeS x1 x2 == nodeS y1 y2) = false := by simpa using hn
          rw [hn'] at hen hfa
          have HNO2 : Hid (∀ j, j < k + 1 → fAt X Y j = false) := Lib.hid fun j hj => by
            by_cases e : j = k
            · rw [e, hfa]; rfl
            · exact HNO.out j (by omega)
          clear hp hp' hfa hn hn'
          go_wp2_with fail
          have k0 : Below wr.heap.size wr wr.drew := (Below.refl _ wr).drew
          refine wp_region_held_drew (S := (fun W => Below wr.heap.size wr W)) (by kernel_rfl) (k0) (fun hHeld => ?_)
          refine wpAnyH_take (i := 0) (v := .slice (some ⟨g1, 0, none⟩) m d1) rfl (by kernel_rfl) (by kernel_rfl) (by kernel_rfl) (fun _ _ _ h => h) (Or.inl ⟨by rfl, fun w hS => by first | (go_simp; done) | (go_simp; with_reducible rfl)⟩) hHeld ?_
          try simp only [Act.put, List.getElem_toArray, List.getElem_cons_zero, List.setIfInBounds_toArray, List.set_cons_zero, List.set_cons_succ]
          refine wpAnyH_take (i := 1) (v := .int .i64 k) rfl (by kernel_rfl) (by kernel_rfl) (by kernel_rfl) (fun _ _ _ h => h) (Or.inl ⟨by rfl, fun w hS => by first | (go_simp; done) | (go_simp; with_reducible rfl)⟩) hHeld ?_
          try simp only [Act.put, List.getElem_toArray, List.getElem_cons_zero, List.getElem_cons_succ, List.setIfInBounds_toArray, List.set_cons_zero, List.set_cons_succ]
          refine wpAnyH_take (i := 2) (v := .pointer (some ⟨g1, k * 64, none⟩)) rfl (by kernel_rfl) (by kernel_rfl) (by kernel_rfl) (fun _ _ _ h => h) (Or.inl ⟨by rfl, fun w hS => by first | (go_simp; done) | (go_simp; rfl) | (go_simp; with_reducible rfl) | (go_simp; simp; done)⟩) hHeld ?_
          try simp only [Act.put, List.getElem_toArray, List.getElem_cons_zero, List.getElem_cons_succ, List.setIfInBounds_toArray, List.set_cons_zero, List.set_cons_succ]
          refine wpAnyH_take (i := 3) (v := _) rfl (by kernel_rfl) (by kernel_rfl) (by kernel_rfl) (fun _ _ _ h => h) (yieldsIf_load_mid (by rfl) 29 (.tmp 75) rfl g1 (k * 64) rfl (bv (x1 ++ x2)) _ (fun w h => (KP.out w h).2.1) Tryd.underlying29 rfl (isz35s HLX.out)) hHeld ?_
          try simp only [Act.put, List.getElem_toArray, List.getElem_cons_zero, List.getElem_cons_succ, List.setIfInBounds_toArray, List.set_cons_zero, List.set_cons_succ]
          refine wpAnyH_take (i := 4) (v := .slice (some ⟨g2, 0, none⟩) m d2) rfl (by kernel_rfl) (by kernel_rfl) (by kernel_rfl) (fun _ _ _ h => h) (Or.inl ⟨by rfl, fun w hS => by first | (go_simp; done) | (go_simp; with_reducible rfl)⟩) hHeld ?_
          try simp only [Act.put, List.getElem_toArray, List.getElem_cons_zero, List.getElem_cons_succ, List.setIfInBounds_toArray, List.set_cons_zero, List.set_cons_succ]
          refine wpAnyH_take (i := 5) (v := .int .i64 k) rfl (by kernel_rfl) (by kernel_rfl) (by kernel_rfl) (fun _ _ _ h => h) (Or.inl ⟨by rfl, fun w hS => by first | (go_simp; done) | (go_simp; with_reducible rfl)⟩) hHeld ?_
          try simp only [Act.put, List.getElem_toArray, List.getElem_cons_zero, List.getElem_cons_succ, List.setIfInBounds_toArray, List.set_cons_zero, List.set_cons_succ]
          refine wpAnyH_take (i := 6) (v := .pointer (some ⟨g2, k * 64, none⟩)) rfl (by kernel_rfl) (by kernel_rfl) (by kernel_rfl) (fun _ _ _ h => h) (Or.inl ⟨by rfl, fun w hS => by first | (go_simp; done) | (go_simp; rfl) | (go_simp; with_reducible rfl) | (go_simp; simp; done)⟩) hHeld ?_
          try simp only [Act.put, List.getElem_toArray, List.getElem_cons_zero, List.getElem_cons_succ, List.setIfInBounds_toArray, List.set_cons_zero, List.set_cons_succ]
          refine wpAnyH_take (i := 7) (v := _) rfl (by kernel_rfl) (by kernel_rfl) (by kernel_rfl) (fun _ _ _ h => h) (yieldsIf_load_mid (by rfl) 29 (.tmp 79) rfl g2 (k * 64) rfl (bv (y1 ++ y2)) _ (fun w h => (KP.out w h).2.2.1) Tryd.underlying29 rfl (isz35s HLY.out)) hHeld ?_
          try simp only [Act.put, List.getElem_toArray, List.getElem_cons_zero, List.getElem_cons_succ, List.setIfInBounds_toArray, List.set_cons_zero, List.set_cons_succ]
          refine wpAnyH_take (i := 8) (v := .bool true) rfl (by kernel_rfl) (by kernel_rfl) (by kernel_rfl) (fun _ _ _ h => h) (Or.inl ⟨by rfl, fun w hS => by first | (go_simp; done) | (go_simp; with_reducible rfl)⟩) hHeld ?_
          try simp only [Act.put, List.getElem_toArray, List.getElem_cons_zero, List.getElem_cons_succ, List.setIfInBounds_toArray, List.set_cons_zero, List.set_cons_succ]
          refine wpAnyH_take (i := 9) (v := .bool true) rfl (by kernel_rfl) (by kernel_rfl) (by kernel_rfl) (fun _ _ _ h => h) (Or.inl ⟨by rfl, fun w hS => by first | (go_simp; done) | (go_simp; with_reducible rfl)⟩) hHeld ?_
          try simp only [Act.put, List.getElem_toArray, List.getElem_cons_zero, List.getElem_cons_succ, List.setIfInBounds_toArray, List.set_cons_zero, List.set_cons_succ]
          refine wpAnyH_take (i := 10) (v := .slice (some ⟨g1, 0, none⟩) m d1) rfl (by kernel_rfl) (by kernel_rfl) (by kernel_rfl) (fun _ _ _ h => h) (Or.inl ⟨by rfl, fun w hS => by first | (go_simp; done) | (go_simp; with_reducible rfl)⟩) hHeld ?_
          try simp only [Act.put, List.getElem_toArray, List.getElem_cons_zero, List.getElem_cons_succ, List.setIfInBounds_toArray, List.set_cons_zero, List.set_cons_succ]
          refine wpAnyH_take (i := 11) (v := .int .i64 k) rfl (by kernel_rfl) (by kernel_rfl) (by kernel_rfl) (fun _ _ _ h => h) (Or.inl ⟨by rfl, fun w hS => by first | (go_simp; done) | (go_simp; with_reducible rfl)⟩) hHeld ?_
          try simp only [Act.put, List.getElem_toArray, List.getElem_cons_zero, List.getElem_cons_succ, List.setIfInBounds_toArray, List.set_cons_zero, List.set_cons_succ]
          refine wpAnyH_take (i := 12) (v := .pointer (some ⟨g1, k * 64, none⟩)) rfl (by kernel_rfl) (by kernel_rfl) (by kernel_rfl) (fun _ _ _ h => h) (Or.inl ⟨by rfl, fun w hS => by first | (go_simp; done) | (go_simp; rfl) | (go_simp; with_reducible rfl) | (go_simp; simp; done)⟩) hHeld ?_
          try simp only [Act.put, List.getElem_toArray, List.getElem_cons_zero, List.getElem_cons_succ, List.setIfInBounds_toArray, List.set_cons_zero, List.set_cons_succ]
          refine wpAnyH_take (i := 13) (v := .pointer (some ⟨g1, k * 64, none⟩)) rfl (by kernel_rfl) (by kernel_rfl) (by kernel_rfl) (fun _ _ _ h => h) (Or.inl ⟨by rfl, fun w hS => by first | (go_simp; done) | (go_simp; rfl) | (go_simp; with_reducible rfl) | (go_simp; simp; done)⟩) hHeld ?_
          try simp only [Act.put, List.getElem_toArray, List.getElem_cons_zero, List.getElem_cons_succ, List.setIfInBounds_toArray, List.set_cons_zero, List.set_cons_succ]
          refine wpAnyH_take (i := 14) (v := _) rfl (by kernel_rfl) (by kernel_rfl) (by kernel_rfl) (fun _ _ _ h => h) (yieldsIf_load_mid (by rfl) 22 (.tmp 86) rfl g1 (k * 64) rfl (bv x1) _ (fun w h => (KP.out w h).2.2.2.1) Tryd.underlying22 rfl (isz26s H1.out)) hHeld ?_
          try simp only [Act.put, List.getElem_toArray, List.getElem_cons_zero, List.getElem_cons_succ, List.setIfInBounds_toArray, List.set_cons_zero, List.set_cons_succ]
          refine wpAnyH_take (i := 15) (v := .slice (some ⟨g1, 0, none⟩) m d1) rfl (by kernel_rfl) (by kernel_rfl) (by kernel_rfl) (fun _ _ _ h => h) (Or.inl ⟨by rfl, fun w hS => by first | (go_simp; done) | (go_simp; with_reducible rfl)⟩) hHeld ?_
          try simp only [Act.put, List.getElem_toArray, List.getElem_cons_zero, List.getElem_cons_succ, List.setIfInBounds_toArray, List.set_cons_zero, List.set_cons_succ]
          refine wpAnyH_take (i := 16) (v := .int .i64 k) rfl (by kernel_rfl) (by kernel_rfl) (by kernel_rfl) (fun _ _ _ h => h) (Or.inl ⟨by rfl, fun w hS => by first | (go_simp; done) | (go_simp; with_reducible rfl)⟩) hHeld ?_
          try simp only [Act.put, List.getElem_toArray, List.getElem_cons_zero, List.getElem_cons_succ, List.setIfInBounds_toArray, List.set_cons_zero, List.set_cons_succ]
          refine wpAnyH_take (i := 17) (v := .pointer (some ⟨g1, k * 64, none⟩)) rfl (by kernel_rfl) (by kernel_rfl) (by kernel_rfl) (fun _ _ _ h => h) (Or.inl ⟨by rfl, fun w hS => by first | (go_simp; done) | (go_simp; rfl) | (go_simp; with_reducible rfl) | (go_simp; simp; done)⟩) hHeld ?_
          try simp only [Act.put, List.getElem_toArray, List.getElem_cons_zero, List.getElem_cons_succ, List.setIfInBounds_toArray, List.set_cons_zero, List.set_cons_succ]
          refine wpAnyH_take (i := 18) (v := .pointer (some ⟨g1, k * 64 + 32, none⟩)) rfl (by kernel_rfl) (by kernel_rfl) (by kernel_rfl) (fun _ _ _ h => h) (Or.inl ⟨by rfl, fun w hS => by first | (go_simp; done) | (go_simp; rfl) | (go_simp; with_reducible rfl) | (go_simp; simp; done)⟩) hHeld ?_
          try simp only [Act.put, List.getElem_toArray, List.getElem_cons_zero, List.getElem_cons_succ, List.setIfInBounds_toArray, List.set_cons_zero, List.set_cons_succ]
          refine wpAnyH_take (i := 19) (v := _) rfl (by kernel_rfl) (by kernel_rfl) (by kernel_rfl) (fun _ _ _ h => h) (yieldsIf_load_mid (by rfl) 22 (.tmp 91) rfl g1 (k * 64 + 32) rfl (bv x2) _ (fun w h => (KP.out w h).2.2.2.2.1) Tryd.underlying22 rfl (isz26s H2.out)) hHeld ?_
          try simp only [Act.put, List.getElem_toArray, List.getElem_cons_zero, List.getElem_cons_succ, List.setIfInBounds_toArray, List.set_cons_zero, List.set_cons_succ]
          refine wpAnyH_take (i := 21) (v := .slice (some ⟨g2, 0, none⟩) m d2) rfl (by kernel_rfl) (by kernel_rfl) (by kernel_rfl) (fun _ _ _ h => h) (Or.inl ⟨by rfl, fun w hS => by first | (go_simp; done) | (go_simp; with_reducible rfl)⟩) hHeld ?_
          try simp only [Act.put, List.getElem_toArray, List.getElem_cons_zero, List.getElem_cons_succ, List.setIfInBounds_toArray, List.set_cons_zero, List.set_cons_succ]
          refine wpAnyH_take (i := 22) (v := .int .i64 k) rfl (by kernel_rfl) (by kernel_rfl) (by kernel_rfl) (fun _ _ _ h => h) (Or.inl ⟨by rfl, fun w hS => by first | (go_simp; done) | (go_simp; with_reducible rfl)⟩) hHeld ?_
          try simp only [Act.put, List.getElem_toArray, List.getElem_cons_zero, List.getElem_cons_succ, List.setIfInBounds_toArray, List.set_cons_zero, List.set_cons_succ]
          refine wpAnyH_take (i := 23) (v := .pointer (some ⟨g2, k * 64, none⟩)) rfl (by kernel_rfl) (by kernel_rfl) (by kernel_rfl) (fun _ _ _ h => h) (Or.inl ⟨by rfl, fun w hS => by first | (go_simp; done) | (go_simp; rfl) | (go_simp; with_reducible rfl) | (go_simp; simp; done)⟩) hHeld ?_
          try simp only [Act.put, List.getElem_toArray, List.getElem_cons_zero, List.getElem_cons_succ, List.setIfInBounds_toArray, List.set_cons_zero, List.set_cons_succ]
          refine wpAnyH_take (i := 24) (v := .pointer (some ⟨g2, k * 64, none⟩)) rfl (by kernel_rfl) (by kernel_rfl) (by kernel_rfl) (fun _ _ _ h => h) (Or.inl ⟨by rfl, fun w hS => by first | (go_simp; done) | (go_simp; rfl) | (go_simp; with_reducible rfl) | (go_simp; simp; done)⟩) hHeld ?_
          try simp only [Act.put, List.getElem_toArray, List.getElem_cons_zero, List.getElem_cons_succ, List.setIfInBounds_toArray, List.set_cons_zero, List.set_cons_succ]
          refine wpAnyH_take (i := 25) (v := _) rfl (by kernel_rfl) (by kernel_rfl) (by kernel_rfl) (fun _ _ _ h => h) (yieldsIf_load_mid (by rfl) 22 (.tmp 97) rfl g2 (k * 64) rfl (bv y1) _ (fun w h => (KP.out w h).2.2.2.2.2.1) Tryd.underlying22 rfl (isz26s H3.out)) hHeld ?_
          try simp only [Act.put, List.getElem_toArray, List.getElem_cons_zero, List.getElem_cons_succ, List.setIfInBounds_toArray, List.set_cons_zero, List.set_cons_succ]
          refine wpAnyH_take (i := 26) (v := .slice (some ⟨g2, 0, none⟩) m d2) rfl (by kernel_rfl) (by kernel_rfl) (by kernel_rfl) (fun _ _ _ h => h) (Or.inl ⟨by rfl, fun w hS => by first | (go_simp; done) | (go_simp; with_reducible rfl)⟩) hHeld ?_
          try simp only [Act.put, List.getElem_toArray, List.getElem_cons_zero, List.getElem_cons_succ, List.setIfInBounds_toArray, List.set_cons_zero, List.set_cons_succ]
          refine wpAnyH_take (i := 27) (v := .int .i64 k) rfl (by kernel_rfl) (by kernel_rfl) (by kernel_rfl) (fun _ _ _ h => h) (Or.inl ⟨by rfl, fun w hS => by first | (go_simp; done) | (go_simp; with_reducible rfl)⟩) hHeld ?_
          try simp only [Act.put, List.getElem_toArray, List.getElem_cons_zero, List.getElem_cons_succ, List.setIfInBounds_toArray, List.set_cons_zero, List.set_cons_succ]
          refine wpAnyH_take (i := 28) (v := .pointer (some ⟨g2, k * 64, none⟩)) rfl (by kernel_rfl) (by kernel_rfl) (by kernel_rfl) (fun _ _ _ h => h) (Or.inl ⟨by rfl, fun w hS => by first | (go_simp; done) | (go_simp; rfl) | (go_simp; with_reducible rfl) | (go_simp; simp; done)⟩) hHeld ?_
          try simp only [Act.put, List.getElem_toArray, List.getElem_cons_zero, List.getElem_cons_succ, List.setIfInBounds_toArray, List.set_cons_zero, List.set_cons_succ]
          refine wpAnyH_take (i := 29) (v := .pointer (some ⟨g2, k * 64 + 32, none⟩)) rfl (by kernel_rfl) (by kernel_rfl) (by kernel_rfl) (fun _ _ _ h => h) (Or.inl ⟨by rfl, fun w hS => by first | (go_simp; done) | (go_simp; rfl) | (go_simp; with_reducible rfl) | (go_simp; simp; done)⟩) hHeld ?_
          try simp only [Act.put, List.getElem_toArray, List.getElem_cons_zero, List.getElem_cons_succ, List.setIfInBounds_toArray, List.set_cons_zero, List.set_cons_succ]
          refine wpAnyH_take (i := 30) (v := _) rfl (by kernel_rfl) (by kernel_rfl) (by kernel_rfl) (fun _ _ _ h => h) (yieldsIf_load_mid (by rfl) 22 (.tmp 102) rfl g2 (k * 64 + 32) rfl (bv y2) _ (fun w h => (KP.out w h).2.2.2.2.2.2) Tryd.underlying22 rfl (isz26s H4.out)) hHeld ?_
          try simp only [Act.put, List.getElem_toArray, List.getElem_cons_zero, List.getElem_cons_succ, List.setIfInBounds_toArray, List.set_cons_zero, List.set_cons_succ]
          refine wpAnyH_ready (rs := [20]) (by kernel_rfl) (by simp) ?_
          refine AllReadyH.cons rfl (fun K hK => ?_) AllReadyH.nil
          go_simp
          go_wp2_with (go_at_call 8; refine (HNX.out _).mono ?_; rintro e wa ⟨rfl, hba⟩; have ja := k0.trans (hba.mono k0.size))
          refine hK.out _ _ ?_ (fun hHeld => ?_)
          · exact ja
          clear hK K
          try simp only [Act.put, List.getElem_toArray, List.getElem_cons_zero, List.getElem_cons_succ, List.setIfInBounds_toArray, List.set_cons_zero, List.set_cons_succ]
          refine wpAnyH_ready (rs := [31]) (by kernel_rfl) (by simp) ?_
          refine AllReadyH.cons rfl (fun K hK => ?_) AllReadyH.nil
          go_simp
          go_wp2_with (go_at_call 8; refine (HNY.out _).mono ?_; rintro e wb ⟨rfl, hbb⟩; have jb := ja.trans (hbb.mono ja.size))
          refine hK.out _ _ ?_ (fun hHeld => ?_)
          · exact jb
          clear hK K
          try simp only [Act.put, List.getElem_toArray, List.getElem_cons_zero, List.getElem_cons_succ, List.setIfInBounds_toArray, List.set_cons_zero, List.set_cons_succ]
          refine wpAnyH_take (i := 32) (v := .bool false) rfl (by kernel_rfl) (by kernel_rfl) (by kernel_rfl) (fun _ _ _ h => h) (Or.inl ⟨by rfl, fun w hS => by first | (go_simp; done) | (go_simp; with_reducible rfl)⟩) hHeld ?_
          try simp only [Act.put, List.getElem_toArray, List.getElem_cons_zero, List.getElem_cons_succ, List.setIfInBounds_toArray, List.set_cons_zero, List.set_cons_succ]
          refine wpAnyH_take (i := 33) (v := .bool false) rfl (by kernel_rfl) (by kernel_rfl) (by kernel_rfl) (fun _ _ _ h => h) (Or.inl ⟨by rfl, fun w hS => by first | (go_simp; done) | (go_simp; with_reducible rfl)⟩) hHeld ?_
          try simp only [Act.put, List.getElem_toArray, List.getElem_cons_zero, List.getElem_cons_succ, List.setIfInBounds_toArray, List.set_cons_zero, List.set_cons_succ]
          refine wpAnyH_done (by kernel_rfl) ?_ _
          go_wp2_with fail
          go_roundw
          case rel => exact ⟨k + 1, by omega, by go_num, HNO2, Lib.hid (KP.out _ jb).1⟩
          case measure => simp [intOf]; omega
    · exfalso
      obtain ⟨j, hj1, hj2, hf⟩ := found_at HF.out
      rw [HX.out] at hj1
      rw [HNO.out j (by omega)] at hf
      cases hf

theorem bound_any (n i : Int) (a b root : List UInt8) (A A' : Option Addr) (p c q c' : Nat) (P Q : List (List UInt8)) (w : World) (ha : a.length = 32) (hb : b.length = 32) (hr : root.length = 32) (h : Hs w w.heap.size A P) (h' : Hs w w.heap.size A' Q) (hp : P.length = p) (hq : Q.length = q) (hc : p ≤ c) (hc' : q ≤ c') (hm : c ≤ maxLen) (hm' : c' ≤ maxLen) (wn : (Lit.int .i64 n).wf = true) (hg : Glob w) :
    Calls Tryd.prog 3 #[.int .i64 n, .int .i64 i, .agg (bv a).toArray, .slice A p c, .agg (bv b).toArray, .slice A' q c', .agg (bv root).toArray] w fun e w' => e = .returned (.bool true) ∧ Below w.heap.size w w' := by
  have GS := Lib.hid hg.size
  by_cases q1 : p ≤ 20
  · by_cases q2 : q ≤ 20
    · by_cases q3 : a = b
      · exact lbd_3 n i a b root A A' p c q c' w ha hb hr hg q1 q2 q3
      · by_cases hz : 0 ≤ i ∧ i < n
        · have h63 := wf_i64 wn
          obtain ⟨i, rfl⟩ : ∃ j : Nat, i = (j : Int) := ⟨i.toNat, by omega⟩
          obtain ⟨n, rfl⟩ : ∃ j : Nat, n = (j : Int) := ⟨n.toNat, by omega⟩
          have hin : i < n := by omega
          have hn63 : n ≤ 9223372036854775807 := by omega
          have HV : Hid (∀ W, Below w.heap.size w W → Calls Tryd.prog 6 #[.agg (bv root).toArray, .int .i64 n, .int .i64 i, .agg (bv a).toArray, .slice A p c] W fun e w' => e = .returned (.bool ((upR n i a P.reverse).2 && ((upR n i a P.reverse).1 == root))) ∧ Below W.heap.size W w') :=
            Lib.hid fun W hb => verify_any root a A p c n i P W hr ha hp (by omega) hc hm ((h.below hb).more hb.size) hin hn63 (hg.below hb GS.out)
          have HU : Hid (∀ W, Below w.heap.size w W → Calls Tryd.prog 6 #[.agg (bv root).toArray, .int .i64 n, .int .i64 i, .agg (bv b).toArray, .slice A' q c'] W fun e w' => e = .returned (.bool ((upR n i b Q.reverse).2 && ((upR n i b Q.reverse).1 == root))) ∧ Below W.heap.size W w') :=
            Lib.hid fun W hbb => verify_any root b A' q c' n i Q W hr hb hq (by omega) hc' hm' ((h'.below hbb).more hbb.size) hin hn63 (hg.below hbb GS.out)
          cases e1 : ((upR n i a P.reverse).2 && ((upR n i a P.reverse).1 == root)) with
          | false =>
            rw [e1] at HV
            exact lbd_4 n i a b root A A' p c q c' w ha hb hr hg q1 q2 q3 HV
          | true =>
            rw [e1] at HV
            cases e2 : ((upR n i b Q.reverse).2 && ((upR n i b Q.reverse).1 == root)) with
            | false =>
              rw [e2] at HU
              exact lbd_5 n i a b root A A' p c q c' w ha hb hr hg q1 q2 q3 HV HU
            | true =>
              rw [e2] at HU
              by_cases q6 : p = q
              · rw [Bool.and_eq_true, beq_iff_eq] at e1 e2
                obtain ⟨u1, u2⟩ := up_run a P.reverse n i hin e1.1
                obtain ⟨v1, v2⟩ := up_run b Q.reverse n i hin e2.1
                rw [List.reverse_reverse] at u1 v1
                rw [List.length_reverse] at u2 v2
                have r1 : P.length = (rights n i).reverse.length := by rw [List.length_reverse]; exact u2
                have r2 : Q.length = (rights n i).reverse.length := by rw [List.length_reverse]; exact v2
                exact lbd_7 n i a b root A A' p c q c' w ha hb hr hg q1 q2 q3 HV HU q6 (waysL a P (rights n i).reverse) (waysL b Q (rights n i).reverse) p
                  (by rw [waysL_length _ _ _ r1, hp]) (by rw [waysL_length _ _ _ r2, hq, q6])
                  (Lib.hid fun W hb => ways_any n i a P A p c W ha hp q1 (by rw [← u2, hp]) hin hn63 ((h.below hb).more hb.size))
                  (Lib.hid fun W hbb => ways_any n i b Q A' q c' W hb hq q2 (by rw [← v2, hq]) hin hn63 ((h'.below hbb).more hbb.size))
                  (Lib.hid (found_bound P Q _ a b r1 r2 q3 (by rw [← u1, ← v1, e1.2, e2.2])))
              · exact lbd_6 n i a b root A A' p c q c' w ha hb hr hg q1 q2 q3 HV HU q6
        · have hz' : i < 0 ∨ n ≤ i := by omega
          exact lbd_4 n i a b root A A' p c q c' w ha hb hr hg q1 q2 q3 (Lib.hid fun W _ => verify_no root a A p c n i W hz')
    · exact lbd_2 n i a b root A A' p c q c' w ha hb hr hg q1 q2
  · exact lbd_1 n i a b root A A' p c q c' w ha hb hr hg q1
end Go.Proofs.YtlbmieeimnjncaaDoor
