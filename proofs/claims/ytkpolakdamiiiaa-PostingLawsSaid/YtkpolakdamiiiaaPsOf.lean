/- The document's Of. Conditions: as stated at each. -/
import Derived.Test.YtkpolakdamiiiaaPsRef
import Derived.ArgAppend
namespace Go.Proofs.Ytkpolakdamiiiaa
set_option maxRecDepth 100000
namespace Ps
open Go.RowKit Go
attribute [local go_sem] Oper.semAt_some
/-- a number put into a list that rises. -/
def insI (n : Int) : List Int → List Int
  | [] => [n]
  | y :: l => if y < n then y :: insI n l else if y = n then y :: l else n :: y :: l
theorem insI_mem (n : Int) : ∀ (l : List Int) (x : Int), x ∈ insI n l ↔ x = n ∨ x ∈ l
  | [], x => by simp [insI]
  | y :: l, x => by
    have ih := insI_mem n l x
    unfold insI
    split
    · rw [List.mem_cons, ih, List.mem_cons]
      constructor
      · rintro (h | h | h)
        · exact .inr (.inl h)
        · exact .inl h
        · exact .inr (.inr h)
      · rintro (h | h | h)
        · exact .inr (.inl h)
        · exact .inl h
        · exact .inr (.inr h)
    · split
      · rename_i h; subst h; simp
      · simp
theorem insI_up {n : Int} : ∀ {l : List Int}, Up l → Up (insI n l)
  | [], _ => by simp [insI, Up]
  | y :: l, h => by
    have h1 := List.pairwise_cons.1 h
    unfold insI
    split
    · rename_i hy
      refine List.pairwise_cons.2 ⟨fun z hz => ?_, insI_up h1.2⟩
      rcases (insI_mem n l z).1 hz with rfl | hz
      · exact hy
      · exact h1.1 z hz
    · split
      · exact h
      · refine List.pairwise_cons.2 ⟨fun z hz => ?_, h⟩
        rcases List.mem_cons.1 hz with rfl | hz
        · omega
        · have := h1.1 z hz; omega
theorem insI_len (n : Int) : ∀ l : List Int, (insI n l).length ≤ l.length + 1
  | [] => Nat.le_refl _
  | y :: l => by
    have := insI_len n l
    unfold insI
    split
    · simp; omega
    · split
      · simp
      · simp
theorem ins_at (n : Int) : ∀ (r : List Int) (i : Nat), i ≤ r.length → (∀ j, j < i → r.getD j 0 < n) → (i < r.length → ¬ r.getD i 0 < n) → insI n r = if i < r.length ∧ r.getD i 0 = n then r else r.take i ++ ([n] ++ r.drop i)
  | [], i, h1, _, _ => by
    obtain rfl : i = 0 := by simpa using h1
    simp [insI]
  | y :: r, 0, _, _, h3 => by
    have h4 := h3 (by simp)
    simp only [List.getD_cons_zero] at h4
    unfold insI
    rw [if_neg h4]
    by_cases hy : y = n
    · rw [if_pos hy, if_pos ⟨by simp, by simpa using hy⟩]
    · rw [if_neg hy, if_neg (fun h => hy (by simpa using h.2))]
      rfl
  | y :: r, i + 1, h1, h2, h3 => by
    have h4 := h2 0 (by omega)
    simp only [List.getD_cons_zero] at h4
    have ih := ins_at n r i (by simpa using h1) (fun j hj => by simpa using h2 (j + 1) (by omega)) (fun hi => by simpa using h3 (by simpa using hi))
    unfold insI
    rw [if_pos h4, ih]
    by_cases hq : i < r.length ∧ r.getD i 0 = n
    · rw [if_pos hq, if_pos ⟨by simpa using hq.1, by simpa using hq.2⟩]
    · rw [if_neg hq, if_neg (fun h => hq ⟨by simpa using h.1, by simpa using h.2⟩)]
      rfl
/-- numbers put in one by one. -/
def ofS (l : List Int) : List Int := l.foldl (fun r n => insI n r) []
theorem ofS_snoc (l : List Int) (n : Int) : ofS (l ++ [n]) = insI n (ofS l) := by unfold ofS; rw [List.foldl_append]; rfl
theorem ofS_facts (l : List Int) : Up (ofS l) ∧ (∀ x, x ∈ ofS l ↔ x ∈ l) ∧ (ofS l).length ≤ l.length := by
  have key : ∀ m (l : List Int), l.length = m → Up (ofS l) ∧ (∀ x, x ∈ ofS l ↔ x ∈ l) ∧ (ofS l).length ≤ l.length := by
    intro m
    induction m with
    | zero =>
      intro l h
      rw [List.eq_nil_of_length_eq_zero h]
      exact ⟨List.Pairwise.nil, fun x => Iff.rfl, Nat.le_refl _⟩
    | succ m ih =>
      intro l h
      obtain ⟨l', n, rfl⟩ : ∃ l' n, l = l' ++ [n] := ⟨l.dropLast, l.getLast (by rintro rfl; simp at h), (List.dropLast_concat_getLast _).symm⟩
      obtain ⟨a, b, c⟩ := ih l' (by simpa using h)
      rw [ofS_snoc]
      refine ⟨insI_up a, fun x => ?_, ?_⟩
      · rw [insI_mem, b, List.mem_append, List.mem_singleton]
        exact Or.comm
      · have := insI_len n (ofS l')
        simp
        omega
  exact key _ l rfl
theorem ofS_next {l : List Int} {k : Nat} (h : k < l.length) : ofS (l.take (k + 1)) = insI (l.getD k 0) (ofS (l.take k)) := by
  rw [List.take_succ_eq_append_getElem h, ofS_snoc]
  simp [List.getD, h]
theorem own_litI (w : World) (s : Int) : OwnI (w.alloc (.cells #[.int .i64 s] 2)) w.heap.size (.slice (some ⟨w.heap.size, 0, none⟩) 1 1) [s] := by
  refine ⟨rfl, .inr ⟨w.heap.size, 1, #[.int .i64 s], rfl, Nat.le_refl _, heap_alloc_new w _, Nat.le_refl _, by unfold maxLen; omega, rfl, rfl⟩⟩
theorem OwnI.more {w : World} {N M : Nat} {v : Value} {l : List Int} (h : OwnI w N v l) (hM : M ≤ N) : OwnI w M v l := own_more h hM
/-- numbers behind a slice that has no room for them: a new row. -/
theorem run_grow {w : World} (ty : TypeId) {B B' : Nat} {A A' : Option Addr} {ps qs : List Int} (h : Ints w B A ps) (h' : Ints w B' A' qs) {n cap m c : Nat} (hn : ps.length = n) (hm : qs.length = m) (hA : A = none → cap = 0) (hcap : n ≤ cap) (hm0 : 0 < m) (hg : cap < n + m) (h63 : n + m ≤ 1000000) :
    ∃ v' w', (Builtin.append_ #[22, 22] ty #[.slice A n cap, .slice A' m c]).run Try.prog w = .ok v' w' ∧ OwnI w' w.heap.size v' (ps ++ qs) ∧ w.grownBy w' none := by
  obtain ⟨i, hi, hz, h0, h1⟩ := info_parts info2
  obtain ⟨ad', rfl, _, _⟩ := h'.at_ (k := 0) (by omega)
  have hq : ∀ j u, (iv qs)[j]? = some u → w.cell? (ad'.add j) = some u := fun j u hj => by
    obtain ⟨ad, e, _, hc⟩ := h' j u hj
    injection e with e
    subst e
    exact hc
  have fin : ∀ v' w', w'.ownsRow w.heap.size 2 1 v' (n + m) (iv ps ++ iv qs) → OwnI w' w.heap.size v' (ps ++ qs) := fun v' w' h => by
    unfold OwnI
    rw [List.length_append, hn, hm, iv_append]
    exact h
  cases A with
  | none =>
    have := hA rfl
    obtain rfl : n = 0 := by omega
    obtain rfl : cap = 0 := by omega
    obtain rfl := List.eq_nil_of_length_eq_zero hn
    obtain ⟨v', w', hrun, r1, r2, _⟩ := run_append_own (P := Try.prog) w w.heap.size 22 ty 2 i (.int .i64 0) 1 8 Try.underlying22 hi hz h0 h1 rfl (by omega) (.slice none 0 0) 0 [] (World.ownsRow_nil w _ _ 1) ad' m c (iv qs) (by rw [iv_length, Nat.mul_one]; exact hm) hq iv_one (by unfold maxLen; omega) (by omega) (Nat.le_refl _)
    exact ⟨v', w', hrun, fin v' w' (by simpa [iv] using r1), r2⟩
  | some ad =>
    have hp : ∀ j u, (iv ps)[j]? = some u → w.cell? (ad.add j) = some u := fun j u hj => by
      obtain ⟨ad2, e, _, hc⟩ := h j u hj
      injection e with e
      subst e
      exact hc
    obtain ⟨v', w', hrun, r1, r2⟩ := run_append_arg_grows (P := Try.prog) w 22 ty 2 i (.int .i64 0) 1 8 Try.underlying22 hi hz h0 h1 rfl (by omega) ad n cap (iv ps) (by rw [iv_length, Nat.mul_one]; exact hn) hp ad' m c (iv qs) (by rw [iv_length, Nat.mul_one]; exact hm) hq hg (by unfold maxLen; omega) (by omega)
    exact ⟨v', w', hrun, fin v' w' r1, r2⟩
theorem stepGrow {w : World} {ops : Array Oper} {o : Oper} {a : Act} {K : Act → World → Prop} {Q : Exit → Act → World → Prop} {E : Prop} (s x : Operand)
    (ho : o.op = .call { callee := .builtin .append, args := #[s, x], argTypes := #[22, 22] }) (hgd : o.guard = none)
    {B B' : Nat} {A A' : Option Addr} {ps qs : List Int} {n cap m c : Nat} (hs : a.eval s = .slice A n cap) (hx : a.eval x = .slice A' m c) (h : Ints w B A ps) (h' : Ints w B' A' qs) (hn : ps.length = n) (hm : qs.length = m) (hA : A = none → cap = 0) (hcap : n ≤ cap) (hm0 : 0 < m) (hg : cap < n + m) (h63 : n + m ≤ 1000000)
    (hK : ∀ v' w', OwnI w' w.heap.size v' (ps ++ qs) → w.grownBy w' none → K (a.put o.dst v') w') : if Region.wanted o (yielded ops a.tmps) = true then Oper.wp Try.prog o a w K Q else E := by
  have hw : Region.wanted o (yielded ops a.tmps) = true := by simp [Region.wanted, hgd]
  rw [if_pos hw]
  obtain ⟨v', w', hrun, h2, h3⟩ := run_grow (w := w) o.type h h' hn hm hA hcap hm0 hg h63 (c := c)
  unfold Oper.wp execOp
  simp only [ho, resolve, invoke, builtin, Sem.run_bind, Sem.run_pure, Result.andThen_ok, List.map_toArray, List.map_cons, List.map_nil, hs, hx, hrun]
  exact hK v' w' h2 h3
/-- numbers behind a row of the call's own. -/
theorem stepMany {w : World} {ops : Array Oper} {o : Oper} {a : Act} {K : Act → World → Prop} {Q : Exit → Act → World → Prop} {E : Prop} (s x : Operand)
    (ho : o.op = .call { callee := .builtin .append, args := #[s, x], argTypes := #[22, 22] }) (hgd : o.guard = none)
    {N : Nat} {v : Value} {ps qs : List Int} (hs : a.eval s = v) (hown : OwnI w N v ps) {B : Nat} {A : Option Addr} {m c : Nat} (hx : a.eval x = .slice A m c) (hr : Ints w B A qs) (hl : qs.length = m) (h63 : ps.length + m ≤ 1000000) (hN : N ≤ w.heap.size)
    (hK : ∀ v' w', OwnI w' N v' (ps ++ qs) → w.grownBy w' v.ownBlock → K (a.put o.dst v') w') : if Region.wanted o (yielded ops a.tmps) = true then Oper.wp Try.prog o a w K Q else E := by
  have hw : Region.wanted o (yielded ops a.tmps) = true := by simp [Region.wanted, hgd]
  rw [if_pos hw]
  obtain ⟨i, hi, hz, h0, h1⟩ := info_parts info2
  refine wp_app s x ho Try.underlying22 hi hz h0 h1 rfl hs hown hx hr (by rw [iv_length]; exact hl) iv_one (by omega) (by decide) hN (fun v' w' h2 h3 => hK v' w' ?_ h3)
  unfold OwnI
  rw [List.length_append, hl, iv_append]
  exact h2
set_option maxHeartbeats 3200000 in
theorem rof_any {w : World} {B : Nat} {A : Option Addr} {l : List Int} (h : Ints w B A l) (hB : B ≤ w.heap.size) (n c : Nat) (hn : l.length = n) (hl : n ≤ 100000) :
    Calls Try.prog 14 #[.slice A n c] w (ResP w (ofS l)) := by
  unfold ResP
  have HEL : Hid (∀ k, k < n → ∃ ad, A = some ad ∧ ∀ X, Below w.heap.size w X → X.cell? (ad.add k) = some (.int .i64 (l.getD k 0))) := Lib.hid fun k hk => by
    obtain ⟨ad, e, hg, hc⟩ := h.at_ (k := k) (by omega)
    exact ⟨ad, e, fun X hX => (hX.cell (by rw [blk_add]; omega)).trans hc⟩
  have HNX : Hid (∀ k, k < n → ofS (l.take (k + 1)) = insI (l.getD k 0) (ofS (l.take k))) := Lib.hid fun k hk => ofS_next (by omega)
  have HLE : Hid (∀ k, k ≤ n → (ofS (l.take k)).length ≤ k) := Lib.hid fun k hk => Nat.le_trans (ofS_facts _).2.2 (by rw [List.length_take]; omega)
  have HEND : Hid (ofS (l.take n) = ofS l) := Lib.hid (by rw [← hn, List.take_length])
  have H0 : Hid (ofS (l.take 0) = []) := Lib.hid rfl
  clear h hn
  go_enter Try.func14, Try.ntmps14
  go_wp2_with fail
  go_loopw [3, 5, 6, 9] (fun x _ _ z wr => ∃ k : Nat, z = .int .i64 k ∧ k ≤ n ∧ Hid (OwnI wr w.heap.size x (ofS (l.take k))) ∧ Hid (Below w.heap.size w wr)) (fun _ _ _ z _ => n - (intOf z).toNat)
  case atStart => exact ⟨0, rfl, Nat.zero_le _, Lib.hid (by rw [H0.out]; exact OwnI.nil _ _), Lib.hid (Below.refl _ _)⟩
  case round =>
    obtain ⟨k, rfl, hk, HO, HBE⟩ := hrel
    by_cases hlt : k < n
    · obtain ⟨ad, rfl, hall⟩ := HEL.out k hlt
      have hc := hall wr HBE.out
      have HK := Lib.hid (HNX.out k hlt)
      have hol := HLE.out k hk
      obtain ⟨out, hout⟩ : ∃ out, out = ofS (l.take k) := ⟨_, rfl⟩
      rw [← hout] at HO HK hol
      clear hall hout
      generalize hsd : l.getD k 0 = sd at *
      clear hsd
      obtain ⟨Ax, cx, rfl, hcx1, hcx2, hix⟩ := HO.out.ints
      have HTX := Lib.hid hix
      clear hix
      unfold maxLen at hcx2
      have HINS : Hid (∀ i, i ≤ out.length → (∀ j, j < i → out.getD j 0 < sd) → (i < out.length → ¬ out.getD i 0 < sd) → insI sd out = if i < out.length ∧ out.getD i 0 = sd then out else out.take i ++ ([sd] ++ out.drop i)) := Lib.hid fun i h1 h2 h3 => ins_at sd out i h1 h2 h3
      generalize hm : out.length = m at *
      have HM := Lib.hid hm
      clear hm
      go_wp2_with fail
      go_loop [6] (fun y => ∃ i : Nat, y = .int .i64 i ∧ i ≤ m ∧ Hid (∀ j, j < i → out.getD j 0 < sd)) (fun y => m - (intOf y).toNat)
      case atStart => exact ⟨0, rfl, Nat.zero_le _, Lib.hid fun j hj => absurd hj (Nat.not_lt_zero _)⟩
      case round =>
        obtain ⟨i, rfl, hi, HLT⟩ := hrel
        by_cases him : i < m
        · obtain ⟨ad2, rfl, _, hc2⟩ := HTX.out.at_ (k := i) (by rw [HM.out]; exact him)
          by_cases hld : out.getD i 0 < sd
          · have HLT2 : Hid (∀ j, j < i + 1 → out.getD j 0 < sd) := Lib.hid fun j hj => by
              rcases Nat.lt_or_ge j i with h1 | h1
              · exact HLT.out j h1
              · obtain rfl : j = i := by omega
                exact hld
            generalize out.getD i 0 = X at *
            go_wp2_with fail
            go_round
            case rel => exact ⟨i + 1, by go_num, by omega, HLT2⟩
            case measure => first | (simp [intOf]; done) | (simp [intOf]; omega)
          · have HNL := Lib.hid hld
            by_cases hed : out.getD i 0 = sd
            · have HR9 : Hid (ofS (l.take (k + 1)) = out) := Lib.hid (by rw [HK.out, HINS.out i hi HLT.out (fun _ => by have := HNL.out; omega), if_pos ⟨him, hed⟩])
              rw [hed] at hc2
              clear hld hed
              go_wp2_with fail
              go_roundw
              case rel => exact ⟨k + 1, by go_num, by omega, Lib.hid (by rw [HR9.out]; exact HO.out), HBE⟩
              case measure => first | (simp [intOf]; done) | (simp [intOf]; omega)
            · have HNE := Lib.hid hed
              have HR9 : Hid (ofS (l.take (k + 1)) = out.take i ++ ([sd] ++ out.drop i)) := Lib.hid (by rw [HK.out, HINS.out i hi HLT.out (fun _ => by have := HNL.out; omega), if_neg (fun h => HNE.out h.2)])
              have hcxi : ¬ cx = i := by omega
              have HTK := Lib.hid (HTX.out.take i)
              have HDR : Hid (Ints wr wr.heap.size (some (ad2.add i)) (out.drop i)) := Lib.hid (by
                have h9 := HTX.out.drop cx (by rw [HM.out]; exact hcx1) (k := i)
                rw [if_neg hcxi, Nat.mul_one] at h9
                exact h9)
              have hed2 : (out.getD i 0 == sd) = false := by simpa using hed
              have hdl : (out.drop i).length = m - i := by rw [List.length_drop, HM.out]
              have htl : (out.take i).length = i := by rw [List.length_take, HM.out]; omega
              have HDL := Lib.hid hdl
              have HTL := Lib.hid htl
              have hicx : i ≤ cx := by omega
              have hm3 : m ≤ 100000 := by omega
              clear hdl htl HINS HK hed
              generalize out.getD i 0 = X at *
              go_wp2_with fail
              refine wp_region_held_drew (S := (fun _ => True)) (by kernel_rfl) (trivial) (fun hHeld => ?_)
              have HTK1 : Hid (Ints wr.drew wr.drew.heap.size (some ad2) (out.take i)) := HTK
              have HDR1 : Hid (Ints wr.drew wr.drew.heap.size (some (ad2.add i)) (out.drop i)) := HDR
              have HB1 : Hid (Below w.heap.size w wr.drew) := Lib.hid HBE.out.drew
              clear HTK HDR HBE HO HTX
              generalize wr.drew = w1 at *
              refine wpAnyH_take (i := 0) (v := .slice (some ad2) m cx) rfl (by kernel_rfl) (by kernel_rfl) (by kernel_rfl) (fun _ _ _ h => h) (Or.inl ⟨by rfl, fun w hS => by first | (go_simp; done) | (go_simp; with_reducible rfl)⟩) hHeld ?_
              try simp only [Act.put, List.getElem_toArray, List.getElem_cons_zero, List.setIfInBounds_toArray, List.set_cons_zero, List.set_cons_succ]
              refine wpAnyH_take (i := 1) (v := .int .i64 i) rfl (by kernel_rfl) (by kernel_rfl) (by kernel_rfl) (fun _ _ _ h => h) (Or.inl ⟨by rfl, fun w hS => by first | (go_simp; done) | (go_simp; with_reducible rfl)⟩) hHeld ?_
              try simp only [Act.put, List.getElem_toArray, List.getElem_cons_zero, List.getElem_cons_succ, List.setIfInBounds_toArray, List.set_cons_zero, List.set_cons_succ]
              refine wpAnyH_take (i := 2) (v := .int .i64 i) rfl (by kernel_rfl) (by kernel_rfl) (by kernel_rfl) (fun _ _ _ h => h) (Or.inl ⟨by rfl, fun w hS => by first | (go_simp; done) | (go_simp; with_reducible rfl)⟩) hHeld ?_
              try simp only [Act.put, List.getElem_toArray, List.getElem_cons_zero, List.getElem_cons_succ, List.setIfInBounds_toArray, List.set_cons_zero, List.set_cons_succ]
              refine wpAnyH_take (i := 3) (v := .slice (some ad2) i i) rfl (by kernel_rfl) (by kernel_rfl) (by kernel_rfl) (fun _ _ _ h => h) (Or.inl ⟨by rfl, fun w hS => by first | (go_simp; done) | (go_simp; with_reducible rfl)⟩) hHeld ?_
              try simp only [Act.put, List.getElem_toArray, List.getElem_cons_zero, List.getElem_cons_succ, List.setIfInBounds_toArray, List.set_cons_zero, List.set_cons_succ]
              refine wpAnyH_take (i := 4) (v := .int .i64 sd) rfl (by kernel_rfl) (by kernel_rfl) (by kernel_rfl) (fun _ _ _ h => h) (Or.inl ⟨by rfl, fun w hS => by first | (go_simp; done) | (go_simp; with_reducible rfl)⟩) hHeld ?_
              try simp only [Act.put, List.getElem_toArray, List.getElem_cons_zero, List.getElem_cons_succ, List.setIfInBounds_toArray, List.set_cons_zero, List.set_cons_succ]
              refine wpAnyH_take (i := 6) (v := .slice (some ad2) m cx) rfl (by kernel_rfl) (by kernel_rfl) (by kernel_rfl) (fun _ _ _ h => h) (Or.inl ⟨by rfl, fun w hS => by first | (go_simp; done) | (go_simp; with_reducible rfl)⟩) hHeld ?_
              try simp only [Act.put, List.getElem_toArray, List.getElem_cons_zero, List.getElem_cons_succ, List.setIfInBounds_toArray, List.set_cons_zero, List.set_cons_succ]
              refine wpAnyH_take (i := 7) (v := .int .i64 i) rfl (by kernel_rfl) (by kernel_rfl) (by kernel_rfl) (fun _ _ _ h => h) (Or.inl ⟨by rfl, fun w hS => by first | (go_simp; done) | (go_simp; with_reducible rfl)⟩) hHeld ?_
              try simp only [Act.put, List.getElem_toArray, List.getElem_cons_zero, List.getElem_cons_succ, List.setIfInBounds_toArray, List.set_cons_zero, List.set_cons_succ]
              refine wpAnyH_take (i := 8) (v := .slice (some (ad2.add i)) (m - i) (cx - i)) rfl (by kernel_rfl) (by kernel_rfl) (by kernel_rfl) (fun _ _ _ h => h) (Or.inl ⟨by rfl, fun w hS => by (first | (go_simp; done) | (go_simp; with_reducible rfl) | (go_simp; simp [Addr.add]))⟩) hHeld ?_
              try simp only [Act.put, List.getElem_toArray, List.getElem_cons_zero, List.getElem_cons_succ, List.setIfInBounds_toArray, List.set_cons_zero, List.set_cons_succ]
              have HOL : Hid (OwnI (w1.alloc (.cells #[.int .i64 sd] 2)) w1.heap.size (.slice (some ⟨w1.heap.size, 0, none⟩) 1 1) [sd]) := Lib.hid (own_litI w1 sd)
              have HBA : Hid (Below w1.heap.size w1 (w1.alloc (.cells #[.int .i64 sd] 2))) := Lib.hid ((Below.refl _ w1).alloc (Nat.le_refl _) _)
              have HDA := Lib.hid (HDR1.out.below HBA.out)
              refine wpAnyH_ready (rs := [5]) (by kernel_rfl) (by simp) ?_
              refine AllReadyH.cons rfl (fun K hK => ?_) AllReadyH.nil
              go_simp
              refine hK.out _ _ ?_ (fun hHeld => ?_)
              · trivial
              clear hK K
              try simp only [Act.put, List.getElem_toArray, List.getElem_cons_zero, List.getElem_cons_succ, List.setIfInBounds_toArray, List.set_cons_zero, List.set_cons_succ]
              refine wpAnyH_ready (rs := [9]) (by kernel_rfl) (by simp) ?_
              refine AllReadyH.cons rfl (fun K hK => ?_) AllReadyH.nil
              (refine stepMany (.tmp 44) (.tmp 47) (by rfl) (by rfl) (ps := [sd]) (qs := out.drop i) (by rfl) HOL.out (A := (some (ad2.add i))) (m := m - i) (c := cx - i) (by rfl) HDA.out HDL.out (by simp; omega) (by simp) ?_; intro v5 w5 h1 h2; have hb5 : Below w1.heap.size w1 w5 := HBA.out.grown h2 (by simp) (fun q hq => by have e9 : w1.heap.size = q := Option.some.inj hq; omega); have HT5 := Lib.hid (HTK1.out.below hb5); have HB5 := Lib.hid hb5; obtain ⟨A5, c5, hv5, _, _, hi5⟩ := h1.ints; subst hv5; have HO5 := Lib.hid hi5; have hk5 : ([sd] ++ out.drop i).length = m - i + 1 := (by rw [List.length_append, HDL.out]; simp; omega); have HK5 := Lib.hid hk5; generalize hq5 : ([sd] ++ out.drop i).length = k5 at *; have HQ5 := Lib.hid hq5; clear h1 h2 hb5 hq5 hi5)
              refine hK.out _ _ ?_ (fun hHeld => ?_)
              · trivial
              clear hK K
              try simp only [Act.put, List.getElem_toArray, List.getElem_cons_zero, List.getElem_cons_succ, List.setIfInBounds_toArray, List.set_cons_zero, List.set_cons_succ]
              refine wpAnyH_ready (rs := [10]) (by kernel_rfl) (by simp) ?_
              refine AllReadyH.cons rfl (fun K hK => ?_) AllReadyH.nil
              (refine stepGrow (.tmp 42) (.tmp 48) (by rfl) (by rfl) (ps := out.take i) (qs := [sd] ++ out.drop i) (A := (some ad2)) (n := i) (cap := i) (A' := A5) (m := k5) (c := c5) (by rfl) (by rfl) HT5.out HO5.out HTL.out HQ5.out (fun e => by cases e) (Nat.le_refl _) (by have := HK5.out; omega) (by have := HK5.out; omega) (by have := HK5.out; omega) ?_; intro v6 w6 h1 h2; have HO6 := Lib.hid h1; have HB6 := Lib.hid (HB1.out.trans ((HB5.out.mono HB1.out.size).grown h2 (by have := HB1.out.size; have := HB5.out.size; omega) (fun q hq => by cases hq))); clear h1 h2)
              refine hK.out _ _ ?_ (fun hHeld => ?_)
              · trivial
              clear hK K
              try simp only [Act.put, List.getElem_toArray, List.getElem_cons_zero, List.getElem_cons_succ, List.setIfInBounds_toArray, List.set_cons_zero, List.set_cons_succ]
              refine wpAnyH_ready (rs := [11]) (by kernel_rfl) (by simp) ?_
              refine AllReadyH.cons rfl (fun K hK => ?_) AllReadyH.nil
              go_simp
              refine hK.out _ _ ?_ (fun hHeld => ?_)
              · trivial
              clear hK K
              try simp only [Act.put, List.getElem_toArray, List.getElem_cons_zero, List.getElem_cons_succ, List.setIfInBounds_toArray, List.set_cons_zero, List.set_cons_succ]
              refine wpAnyH_done (by kernel_rfl) ?_ _
              go_wp2_with fail
              go_roundw
              case rel => exact ⟨k + 1, by go_num, by omega, Lib.hid (by rw [HR9.out]; exact HO6.out.more (by have := HB1.out.size; have := HB5.out.size; omega)), HB6⟩
              case measure => first | (simp [intOf]; done) | (simp [intOf]; omega)
        · have HNC : Hid (Ax = none → cx = 0) := Lib.hid fun e => by
            rcases HO.out.2 with ⟨h1, _⟩ | ⟨_, _, _, h1, _⟩
            · injection h1
            · rw [e] at h1; injection h1 with h1; cases h1
          have HR9 : Hid (ofS (l.take (k + 1)) = out.take i ++ ([sd] ++ out.drop i)) := Lib.hid (by rw [HK.out, HINS.out i hi HLT.out (fun h => absurd h (by omega)), if_neg (fun h => absurd h.1 (by omega))])
          have HTK := Lib.hid (HTX.out.take i)
          have HDR : Hid (Ints wr wr.heap.size (if cx = i then Ax else Option.map (fun x : Addr => x.add (i * 1)) Ax) (out.drop i)) := Lib.hid (HTX.out.drop cx (by rw [HM.out]; exact hcx1))
          generalize hA8 : (if cx = i then Ax else Option.map (fun x : Addr => x.add (i * 1)) Ax) = A8 at *
          have HA8 := Lib.hid hA8
          clear hA8
          have hdl : (out.drop i).length = m - i := by rw [List.length_drop, HM.out]
          have htl : (out.take i).length = i := by rw [List.length_take, HM.out]; omega
          have HDL := Lib.hid hdl
          have HTL := Lib.hid htl
          have hicx : i ≤ cx := by omega
          have hm3 : m ≤ 100000 := by omega
          clear hdl htl HINS HK
          skip
          go_wp2_with fail
          refine wp_region_held_drew (S := (fun _ => True)) (by kernel_rfl) (trivial) (fun hHeld => ?_)
          have HTK1 : Hid (Ints wr.drew wr.drew.heap.size Ax (out.take i)) := HTK
          have HDR1 : Hid (Ints wr.drew wr.drew.heap.size A8 (out.drop i)) := HDR
          have HB1 : Hid (Below w.heap.size w wr.drew) := Lib.hid HBE.out.drew
          clear HTK HDR HBE HO HTX
          generalize wr.drew = w1 at *
          refine wpAnyH_take (i := 0) (v := .slice Ax m cx) rfl (by kernel_rfl) (by kernel_rfl) (by kernel_rfl) (fun _ _ _ h => h) (Or.inl ⟨by rfl, fun w hS => by first | (go_simp; done) | (go_simp; with_reducible rfl)⟩) hHeld ?_
          try simp only [Act.put, List.getElem_toArray, List.getElem_cons_zero, List.setIfInBounds_toArray, List.set_cons_zero, List.set_cons_succ]
          refine wpAnyH_take (i := 1) (v := .int .i64 i) rfl (by kernel_rfl) (by kernel_rfl) (by kernel_rfl) (fun _ _ _ h => h) (Or.inl ⟨by rfl, fun w hS => by first | (go_simp; done) | (go_simp; with_reducible rfl)⟩) hHeld ?_
          try simp only [Act.put, List.getElem_toArray, List.getElem_cons_zero, List.getElem_cons_succ, List.setIfInBounds_toArray, List.set_cons_zero, List.set_cons_succ]
          refine wpAnyH_take (i := 2) (v := .int .i64 i) rfl (by kernel_rfl) (by kernel_rfl) (by kernel_rfl) (fun _ _ _ h => h) (Or.inl ⟨by rfl, fun w hS => by first | (go_simp; done) | (go_simp; with_reducible rfl)⟩) hHeld ?_
          try simp only [Act.put, List.getElem_toArray, List.getElem_cons_zero, List.getElem_cons_succ, List.setIfInBounds_toArray, List.set_cons_zero, List.set_cons_succ]
          refine wpAnyH_take (i := 3) (v := .slice Ax i i) rfl (by kernel_rfl) (by kernel_rfl) (by kernel_rfl) (fun _ _ _ h => h) (Or.inl ⟨by rfl, fun w hS => by first | (go_simp; done) | (go_simp; with_reducible rfl)⟩) hHeld ?_
          try simp only [Act.put, List.getElem_toArray, List.getElem_cons_zero, List.getElem_cons_succ, List.setIfInBounds_toArray, List.set_cons_zero, List.set_cons_succ]
          refine wpAnyH_take (i := 4) (v := .int .i64 sd) rfl (by kernel_rfl) (by kernel_rfl) (by kernel_rfl) (fun _ _ _ h => h) (Or.inl ⟨by rfl, fun w hS => by first | (go_simp; done) | (go_simp; with_reducible rfl)⟩) hHeld ?_
          try simp only [Act.put, List.getElem_toArray, List.getElem_cons_zero, List.getElem_cons_succ, List.setIfInBounds_toArray, List.set_cons_zero, List.set_cons_succ]
          refine wpAnyH_take (i := 6) (v := .slice Ax m cx) rfl (by kernel_rfl) (by kernel_rfl) (by kernel_rfl) (fun _ _ _ h => h) (Or.inl ⟨by rfl, fun w hS => by first | (go_simp; done) | (go_simp; with_reducible rfl)⟩) hHeld ?_
          try simp only [Act.put, List.getElem_toArray, List.getElem_cons_zero, List.getElem_cons_succ, List.setIfInBounds_toArray, List.set_cons_zero, List.set_cons_succ]
          refine wpAnyH_take (i := 7) (v := .int .i64 i) rfl (by kernel_rfl) (by kernel_rfl) (by kernel_rfl) (fun _ _ _ h => h) (Or.inl ⟨by rfl, fun w hS => by first | (go_simp; done) | (go_simp; with_reducible rfl)⟩) hHeld ?_
          try simp only [Act.put, List.getElem_toArray, List.getElem_cons_zero, List.getElem_cons_succ, List.setIfInBounds_toArray, List.set_cons_zero, List.set_cons_succ]
          refine wpAnyH_take (i := 8) (v := .slice A8 (m - i) (cx - i)) rfl (by kernel_rfl) (by kernel_rfl) (by kernel_rfl) (fun _ _ _ h => h) (Or.inl ⟨by rfl, fun w hS => by (go_simp; first | exact HA8.out | (rw [← HA8.out]; simp))⟩) hHeld ?_
          try simp only [Act.put, List.getElem_toArray, List.getElem_cons_zero, List.getElem_cons_succ, List.setIfInBounds_toArray, List.set_cons_zero, List.set_cons_succ]
          have HOL : Hid (OwnI (w1.alloc (.cells #[.int .i64 sd] 2)) w1.heap.size (.slice (some ⟨w1.heap.size, 0, none⟩) 1 1) [sd]) := Lib.hid (own_litI w1 sd)
          have HBA : Hid (Below w1.heap.size w1 (w1.alloc (.cells #[.int .i64 sd] 2))) := Lib.hid ((Below.refl _ w1).alloc (Nat.le_refl _) _)
          have HDA := Lib.hid (HDR1.out.below HBA.out)
          refine wpAnyH_ready (rs := [5]) (by kernel_rfl) (by simp) ?_
          refine AllReadyH.cons rfl (fun K hK => ?_) AllReadyH.nil
          go_simp
          refine hK.out _ _ ?_ (fun hHeld => ?_)
          · trivial
          clear hK K
          try simp only [Act.put, List.getElem_toArray, List.getElem_cons_zero, List.getElem_cons_succ, List.setIfInBounds_toArray, List.set_cons_zero, List.set_cons_succ]
          refine wpAnyH_ready (rs := [9]) (by kernel_rfl) (by simp) ?_
          refine AllReadyH.cons rfl (fun K hK => ?_) AllReadyH.nil
          (refine stepMany (.tmp 44) (.tmp 47) (by rfl) (by rfl) (ps := [sd]) (qs := out.drop i) (by rfl) HOL.out (A := A8) (m := m - i) (c := cx - i) (by rfl) HDA.out HDL.out (by simp; omega) (by simp) ?_; intro v5 w5 h1 h2; have hb5 : Below w1.heap.size w1 w5 := HBA.out.grown h2 (by simp) (fun q hq => by have e9 : w1.heap.size = q := Option.some.inj hq; omega); have HT5 := Lib.hid (HTK1.out.below hb5); have HB5 := Lib.hid hb5; obtain ⟨A5, c5, hv5, _, _, hi5⟩ := h1.ints; subst hv5; have HO5 := Lib.hid hi5; have hk5 : ([sd] ++ out.drop i).length = m - i + 1 := (by rw [List.length_append, HDL.out]; simp; omega); have HK5 := Lib.hid hk5; generalize hq5 : ([sd] ++ out.drop i).length = k5 at *; have HQ5 := Lib.hid hq5; clear h1 h2 hb5 hq5 hi5)
          refine hK.out _ _ ?_ (fun hHeld => ?_)
          · trivial
          clear hK K
          try simp only [Act.put, List.getElem_toArray, List.getElem_cons_zero, List.getElem_cons_succ, List.setIfInBounds_toArray, List.set_cons_zero, List.set_cons_succ]
          refine wpAnyH_ready (rs := [10]) (by kernel_rfl) (by simp) ?_
          refine AllReadyH.cons rfl (fun K hK => ?_) AllReadyH.nil
          (refine stepGrow (.tmp 42) (.tmp 48) (by rfl) (by rfl) (ps := out.take i) (qs := [sd] ++ out.drop i) (A := Ax) (n := i) (cap := i) (A' := A5) (m := k5) (c := c5) (by rfl) (by rfl) HT5.out HO5.out HTL.out HQ5.out (fun e => by have := HNC.out e; omega) (Nat.le_refl _) (by have := HK5.out; omega) (by have := HK5.out; omega) (by have := HK5.out; omega) ?_; intro v6 w6 h1 h2; have HO6 := Lib.hid h1; have HB6 := Lib.hid (HB1.out.trans ((HB5.out.mono HB1.out.size).grown h2 (by have := HB1.out.size; have := HB5.out.size; omega) (fun q hq => by cases hq))); clear h1 h2)
          refine hK.out _ _ ?_ (fun hHeld => ?_)
          · trivial
          clear hK K
          try simp only [Act.put, List.getElem_toArray, List.getElem_cons_zero, List.getElem_cons_succ, List.setIfInBounds_toArray, List.set_cons_zero, List.set_cons_succ]
          refine wpAnyH_ready (rs := [11]) (by kernel_rfl) (by simp) ?_
          refine AllReadyH.cons rfl (fun K hK => ?_) AllReadyH.nil
          go_simp
          refine hK.out _ _ ?_ (fun hHeld => ?_)
          · trivial
          clear hK K
          try simp only [Act.put, List.getElem_toArray, List.getElem_cons_zero, List.getElem_cons_succ, List.setIfInBounds_toArray, List.set_cons_zero, List.set_cons_succ]
          refine wpAnyH_done (by kernel_rfl) ?_ _
          go_wp2_with fail
          go_roundw
          case rel => exact ⟨k + 1, by go_num, by omega, Lib.hid (by rw [HR9.out]; exact HO6.out.more (by have := HB1.out.size; have := HB5.out.size; omega)), HB6⟩
          case measure => first | (simp [intOf]; done) | (simp [intOf]; omega)
    · obtain rfl : k = n := by omega
      have HE := Lib.hid HEND.out
      obtain ⟨Ax, cx, rfl, _, _, _⟩ := HO.out.ints
      go_wp2_with fail
      go_ret
      exact ⟨_, rfl, by rw [← HE.out]; exact HO.out, HBE.out⟩
end Ps
end Go.Proofs.Ytkpolakdamiiiaa
