/- Whom holds cover: slices.Contains, the closure of hold.Covers, slices.ContainsFunc over texts. Conditions: as stated at each. -/
import Derived.Test.YtamjellnmlgbeaaHoLift
namespace Go.Proofs.Ytamjellnmlgbeaa
set_option maxRecDepth 100000
namespace Ho
open Go.RowKit Go Go.Proofs.Ytamjellnmlgbeaa.Pa Go.Proofs.Ytamjellnmlgbeaa.Rt
/-- whether a text stands in a list of texts. -/
def inL (ps : List L) (x : L) : Bool := ps.any fun p => x == p
theorem inL_step {ps : List L} {x : L} {k : Nat} (h : k < ps.length) : inL (ps.take (k + 1)) x = (inL (ps.take k) x || (x == ps.getD k [])) := by
  unfold inL
  rw [List.take_succ_eq_append_getElem h, List.any_append, List.getD, List.getElem?_eq_getElem h]
  simp
theorem inL_hit {ps : List L} {x : L} {k : Nat} (h : k < ps.length) (hu : (x == ps.getD k []) = true) : inL ps x = true := by
  unfold inL
  rw [List.any_eq_true]
  exact ⟨ps.getD k [], by simp [List.getD, h], hu⟩
def IdxP (w : World) (q : Bool) (e : Ending) (w' : World) : Prop := ∃ z : Int, e = .returned (.int .i64 z) ∧ decide (0 ≤ z) = q ∧ Below w.heap.size w w'
set_option maxHeartbeats 1600000 in
theorem indexT_any {w : World} {B : Nat} {A : Option Addr} {ps : List L} (h : Tx w B A ps) (n c : Nat) (hn : ps.length = n) (hn1 : n ≤ 1000) (x : L) :
    Calls Try.prog 38 #[.slice A n c, .string (str x)] w fun e w' => ∃ z : Int, e = .returned (.int .i64 z) ∧ decide (0 ≤ z) = inL ps x ∧ w' = w := by
  have HEL := Lib.hid h.els
  have HN := Lib.hid hn
  clear h hn
  go_enter Try.func38, Try.ntmps38
  go_wp2_with fail
  go_loopw [5, 8] (fun _ i wr => ∃ k : Nat, k ≤ n ∧ i = .int .i64 k ∧ inL (ps.take k) x = false ∧ wr = w) (fun _ i _ => n - (intOf i).toNat)
  case atStart => exact ⟨0, Nat.zero_le _, rfl, rfl, rfl⟩
  case round =>
    obtain ⟨k, hk, rfl, hno, rfl⟩ := hrel
    by_cases hlt : k < n
    · obtain ⟨g, o, rfl, hg, hall⟩ := HEL.out k (by rw [HN.out]; exact hlt)
      have y0 := hall wr (Below.refl _ _)
      have HS := Lib.hid (inL_step (ps := ps) (x := x) (k := k) (by rw [HN.out]; exact hlt))
      have HH := Lib.hid (inL_hit (ps := ps) (x := x) (k := k) (by rw [HN.out]; exact hlt))
      have HNO := Lib.hid hno
      have he := beq_st (a := x) (b := ps.getD k [])
      clear hall hno HEL
      generalize str (ps.getD k []) = s0 at *
      generalize str x = t at *
      cases hq : (x == ps.getD k []) with
      | true =>
        rw [hq] at he HH
        clear hq
        go_wp2_with fail
        go_ret
        exact ⟨k, rfl, by rw [HH.out (by simp)]; exact decide_eq_true (by omega), rfl⟩
      | false =>
        rw [hq, HNO.out] at HS
        rw [hq] at he
        clear hq
        go_wp2_with fail
        go_roundw
        case rel => exact ⟨k + 1, by omega, by go_num, HS.out, trivial⟩
        case measure => simp [intOf]; omega
    · have hkn : k = n := by omega
      have HF : Hid (inL ps x = false) := Lib.hid (by rw [← hno, hkn, ← HN.out, List.take_length])
      clear hno
      go_wp2_with fail
      go_ret
      exact ⟨-1, rfl, by rw [HF.out]; decide, rfl⟩
theorem contains_any {w : World} {B : Nat} {A : Option Addr} {ps : List L} (h : Tx w B A ps) (n c : Nat) (hn : ps.length = n) (hn1 : n ≤ 1000) (x : L) :
    Calls Try.prog 27 #[.slice A n c, .string (str x)] w fun e w' => e = .returned (.bool (inL ps x)) ∧ w = w' := by
  have HI := Lib.hid (indexT_any h n c hn hn1 x)
  clear h hn hn1
  generalize str x = t at *
  go_enter Try.func27, Try.ntmps27
  go_wp2_with (first
    | (refine HI.out.mono ?_; rintro e w1 ⟨z, rfl, hz, rfl⟩)
    | fail)
  go_ret
  exact ⟨rfl, rfl⟩
/-- the variable in block K holds a slice of these texts. -/
def WhoIs (w : World) (B K : Nat) (ps : List L) : Prop := ∃ A c, BlkIs w K 27 #[.slice A ps.length c] ∧ Tx w B A ps ∧ B ≤ w.heap.size
theorem WhoIs.below {w w' : World} {B K : Nat} {ps : List L} (h : WhoIs w B K ps) (hb : Below w.heap.size w w') : WhoIs w' B K ps := by
  obtain ⟨A, c, h1, h2, h3⟩ := h
  exact ⟨A, c, (hb.block _ h1.lt).trans h1, h2.below (hb.mono h3), Nat.le_trans h3 hb.size⟩
set_option maxHeartbeats 1600000 in
theorem covered_any {w0 : World} {B K : Nat} {ps : List L} (h : WhoIs w0 B K ps) (hn1 : ps.length ≤ 1000) (a : L) (ha : a.length ≤ 140737488355328) :
    Calls Try.prog 26 #[.string (str a), .pointer (some ⟨K, 0, none⟩)] w0 fun e w' => e = .returned (.bool (inL ps (foldS a))) ∧ Below w0.heap.size w0 w' := by
  have HFO := Lib.hid (fun X => fold_any a X ha)
  obtain ⟨A, c, hbl, htx, hB⟩ := h
  have HCT : Hid (∀ X, Below w0.heap.size w0 X → Calls Try.prog 27 #[.slice A ps.length c, .string (str (foldS a))] X fun e w' => e = .returned (.bool (inL ps (foldS a))) ∧ X = w') := Lib.hid fun X hX => contains_any (htx.below (hX.mono hB)) _ c rfl hn1 _
  clear htx hB hn1 ha
  generalize ps.length = m at *
  generalize inL ps (foldS a) = q at *
  generalize str (foldS a) = t at *
  generalize str a = s at *
  go_enter Try.func26, Try.ntmps26
  go_wp2_with fail
  have hq : BlkIs w0.drew K 27 #[.slice A m c] := hbl
  have hb : Below w0.heap.size w0 w0.drew := (Below.refl _ w0).drew
  refine wp_region_held_drew (S := (fun Y => BlkIs Y K 27 #[.slice A m c])) (by kernel_rfl) (hq) (fun hHeld => ?_)
  generalize w0.drew = w1 at *
  clear hbl
  refine wpAnyH_take (i := 0) (v := .slice A m c) rfl (by kernel_rfl) (by kernel_rfl) (by kernel_rfl) (fun _ _ _ h => h) (Or.inl ⟨by rfl, fun w hS => by (have x0 := (BlkIs.cell hS 0).trans (rfl : _ = some (Value.slice A m c)); first | (go_simp; done) | (go_simp; with_reducible rfl))⟩) hHeld ?_
  try simp only [Act.put, List.getElem_toArray, List.getElem_cons_zero, List.setIfInBounds_toArray, List.set_cons_zero, List.set_cons_succ]
  refine wpAnyH_take (i := 1) (v := .string s) rfl (by kernel_rfl) (by kernel_rfl) (by kernel_rfl) (fun _ _ _ h => h) (Or.inl ⟨by rfl, fun w hS => by first | (go_simp; done) | (go_simp; with_reducible rfl)⟩) hHeld ?_
  try simp only [Act.put, List.getElem_toArray, List.getElem_cons_zero, List.getElem_cons_succ, List.setIfInBounds_toArray, List.set_cons_zero, List.set_cons_succ]
  refine wpAnyH_ready (rs := [2]) (by kernel_rfl) (by simp) ?_
  refine AllReadyH.cons rfl (fun K hK => ?_) AllReadyH.nil
  go_simp
  go_wp2_with ((first | (refine (HFO.out _).mono ?_; rintro e w2 ⟨rfl, hb2⟩) | fail))
  refine hK.out _ _ ?_ (fun hHeld => ?_)
  · exact (hb2.block _ hq.lt).trans hq
  clear hK K
  try simp only [Act.put, List.getElem_toArray, List.getElem_cons_zero, List.getElem_cons_succ, List.setIfInBounds_toArray, List.set_cons_zero, List.set_cons_succ]
  have HB2 := Lib.hid (hb.trans (hb2.mono hb.size))
  have hq2 : BlkIs w2 _ _ _ := (hb2.block _ hq.lt).trans hq
  clear hb hb2 hq
  refine wpAnyH_ready (rs := [3]) (by kernel_rfl) (by simp) ?_
  refine AllReadyH.cons rfl (fun K hK => ?_) AllReadyH.nil
  go_simp
  go_wp2_with ((first | (refine (HCT.out _ HB2.out).mono ?_; rintro e w3 ⟨rfl, rfl⟩) | fail))
  refine hK.out _ _ ?_ (fun hHeld => ?_)
  · exact hq2
  clear hK K
  try simp only [Act.put, List.getElem_toArray, List.getElem_cons_zero, List.getElem_cons_succ, List.setIfInBounds_toArray, List.set_cons_zero, List.set_cons_succ]
  refine wpAnyH_take (i := 4) (v := .bool q) rfl (by kernel_rfl) (by kernel_rfl) (by kernel_rfl) (fun _ _ _ h => h) (Or.inl ⟨by rfl, fun w hS => by first | (go_simp; done) | (go_simp; with_reducible rfl)⟩) hHeld ?_
  try simp only [Act.put, List.getElem_toArray, List.getElem_cons_zero, List.getElem_cons_succ, List.setIfInBounds_toArray, List.set_cons_zero, List.set_cons_succ]
  refine wpAnyH_done (by kernel_rfl) ?_ _
  go_wp2_with fail
  go_ret
  exact ⟨rfl, HB2.out⟩
theorem anyT_step {to : List L} {f : L → Bool} {k : Nat} (h : k < to.length) : (to.take (k + 1)).any f = ((to.take k).any f || f (to.getD k [])) := by
  rw [List.take_succ_eq_append_getElem h, List.any_append, List.getD, List.getElem?_eq_getElem h]
  simp
theorem anyT_hit {to : List L} {f : L → Bool} {k : Nat} (h : k < to.length) (hu : f (to.getD k []) = true) : to.any f = true := by
  rw [List.any_eq_true]
  exact ⟨to.getD k [], by simp [List.getD, h], hu⟩
set_option maxHeartbeats 1600000 in
theorem indexC_any {w : World} {B B2 K : Nat} {A : Option Addr} {to ps : List L} (h : Tx w B2 A to) (hB2 : B2 ≤ w.heap.size) (hw : WhoIs w B K ps) (hn2 : ps.length ≤ 1000) (n c : Nat) (hn : to.length = n) (hn1 : n ≤ 1000) (hto : ∀ k, (to.getD k []).length ≤ 140737488355328) :
    Calls Try.prog 41 #[.slice A n c, .func (.func 26) #[] #[.pointer (some ⟨K, 0, none⟩)]] w (IdxP w (to.any fun a => inL ps (foldS a))) := by
  have HEL := Lib.hid h.els
  have HN := Lib.hid hn
  have HU := Lib.hid (fun k X (hX : Below w.heap.size w X) => covered_any (hw.below hX) hn2 (to.getD k []) (hto k))
  clear h hn hw hn2 hto
  unfold IdxP
  generalize hf : (fun a => inL ps (foldS a)) = f at *
  have HU2 : Hid (∀ k X, Below w.heap.size w X → Calls Try.prog 26 #[.string (str (to.getD k [])), .pointer (some ⟨K, 0, none⟩)] X fun e w' => e = .returned (.bool (f (to.getD k []))) ∧ Below X.heap.size X w') := Lib.hid fun k X hX => by rw [← hf]; exact HU.out k X hX
  clear hf HU
  go_enter Try.func41, Try.ntmps41
  go_wp2_with fail
  go_loopw [5, 8] (fun _ i wr => ∃ k : Nat, k ≤ n ∧ i = .int .i64 k ∧ (to.take k).any f = false ∧ Below w.heap.size w wr) (fun _ i _ => n - (intOf i).toNat)
  case atStart => exact ⟨0, Nat.zero_le _, rfl, rfl, Below.refl _ _⟩
  case round =>
    obtain ⟨k, hk, rfl, hno, hbel⟩ := hrel
    by_cases hlt : k < n
    · obtain ⟨g, o, rfl, hg, hall⟩ := HEL.out k (by rw [HN.out]; exact hlt)
      have y0 := hall wr (hbel.mono hB2)
      have HS := Lib.hid (anyT_step (to := to) (f := f) (k := k) (by rw [HN.out]; exact hlt))
      have HH := Lib.hid (anyT_hit (to := to) (f := f) (k := k) (by rw [HN.out]; exact hlt))
      have HC := Lib.hid (HU2.out k wr hbel)
      have HB := Lib.hid hbel
      have HNO := Lib.hid hno
      clear hall hbel hno HEL HU2
      generalize str (to.getD k []) = s0 at *
      cases hu : f (to.getD k []) with
      | true =>
        rw [hu] at HC HH
        clear hu
        go_wp2_with (first
          | (go_at_call 26; refine HC.out.mono ?_; rintro e w1 ⟨rfl, hb1⟩)
          | fail)
        go_ret
        exact ⟨k, rfl, by rw [HH.out (by simp)]; exact decide_eq_true (by omega), HB.out.trans (hb1.mono HB.out.size)⟩
      | false =>
        rw [hu, HNO.out] at HS
        rw [hu] at HC
        clear hu
        go_wp2_with (first
          | (go_at_call 26; refine HC.out.mono ?_; rintro e w1 ⟨rfl, hb1⟩)
          | fail)
        go_roundw
        case rel => exact ⟨k + 1, by omega, by go_num, HS.out, HB.out.trans (hb1.mono HB.out.size)⟩
        case measure => simp [intOf]; omega
    · have hkn : k = n := by omega
      have HF : Hid (to.any f = false) := Lib.hid (by rw [← hno, hkn, ← HN.out, List.take_length])
      have HB := Lib.hid hbel
      clear hno hbel
      go_wp2_with fail
      go_ret
      exact ⟨-1, rfl, by rw [HF.out]; decide, HB.out⟩
theorem containsC_any {w : World} {B B2 K : Nat} {A : Option Addr} {to ps : List L} (h : Tx w B2 A to) (hB2 : B2 ≤ w.heap.size) (hw : WhoIs w B K ps) (hn2 : ps.length ≤ 1000) (n c : Nat) (hn : to.length = n) (hn1 : n ≤ 1000) (hto : ∀ k, (to.getD k []).length ≤ 140737488355328) :
    Calls Try.prog 29 #[.slice A n c, .func (.func 26) #[] #[.pointer (some ⟨K, 0, none⟩)]] w fun e w' => e = .returned (.bool (to.any fun a => inL ps (foldS a))) ∧ Below w.heap.size w w' := by
  have HI := Lib.hid (indexC_any h hB2 hw hn2 n c hn hn1 hto)
  clear h hB2 hw hn2 hn hn1 hto
  unfold IdxP at HI
  generalize (to.any fun a => inL ps (foldS a)) = q at *
  go_enter Try.func29, Try.ntmps29
  go_wp2_with (first
    | (refine HI.out.mono ?_; rintro e w1 ⟨z, rfl, rfl, hb1⟩)
    | fail)
  go_ret
  exact ⟨rfl, hb1⟩
end Ho
end Go.Proofs.Ytamjellnmlgbeaa
