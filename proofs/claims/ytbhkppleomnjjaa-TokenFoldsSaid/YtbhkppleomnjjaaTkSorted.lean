/- The document's Sorted. Conditions: as stated at each. -/
import Derived.Test.YtbhkppleomnjjaaTkRWords
import Derived.ArgAppend
namespace Go.Proofs.Ytbhkppleomnjjaa
set_option maxRecDepth 100000
namespace Tk
open Go.RowKit Go.Shelf Go Go.Proofs.Ytbhkppleomnjjaa.Pa
theorem ins_at' (out : List L) (s : L) (i : Nat) (h1 : i ≤ out.length) (h2 : ∀ j, j < i → out.getD j [] < s) (h3 : i < out.length → ¬ out.getD i [] < s) :
    insS out s = if i < out.length ∧ out.getD i [] = s then out else out.take i ++ s :: out.drop i := by
  have e : ∀ j (h : j < out.length), out.getD j [] = out[j] := fun j h => by simp [List.getD, h]
  rw [ins_at out s i h1 (fun j hj hi => by rw [← e j hj]; exact h2 j hi) (fun h => by rw [← e i h]; exact h3 h)]
  by_cases hi : i < out.length
  · rw [List.getElem?_eq_getElem hi, e i hi]
    by_cases hs : out[i] = s
    · rw [if_pos (by rw [hs]), if_pos ⟨hi, hs⟩]
    · rw [if_neg (fun h => hs (Option.some.inj h)), if_neg (fun h => hs h.2)]
  · have hno : out[i]? = none := List.getElem?_eq_none (by omega)
    rw [hno, if_neg (by simp), if_neg (fun h => hi h.1)]
theorem str_list (l : L) : (str l).toList = l := by rw [Go.Lib.toList_data, str_data]
theorem less_str (a b : L) : Op.bytesLess (str a).toList (str b).toList = decide (a < b) := by
  rw [str_list, str_list, bytesLess_eq]
theorem own_lit (w : World) (s : L) : OwnT (w.alloc (.cells #[.string (str s)] 9)) w.heap.size (.slice (some ⟨w.heap.size, 0, none⟩) 1 1) [s] := by
  refine ⟨rfl, .inr ⟨w.heap.size, 1, #[.string (str s)], rfl, Nat.le_refl _, heap_alloc_new w _, Nat.le_refl _, by unfold maxLen; omega, rfl, rfl⟩⟩
/-- texts behind a slice that has no room for them: a new row. -/
theorem run_grow {w : World} (ty : TypeId) {B B' : Nat} {A A' : Option Addr} {ps qs : List L} (h : Tx w B A ps) (h' : Tx w B' A' qs) {n cap m c : Nat} (hn : ps.length = n) (hm : qs.length = m) (hA : A = none → cap = 0) (hcap : n ≤ cap) (hm0 : 0 < m) (hg : cap < n + m) (h63 : n + m ≤ 1000000) :
    ∃ v' w', (Builtin.append_ #[25, 25] ty #[.slice A n cap, .slice A' m c]).run Try.prog w = .ok v' w' ∧ OwnT w' w.heap.size v' (ps ++ qs) ∧ w.grownBy w' none := by
  obtain ⟨i, hi, hz, h0, h1⟩ := info_parts info9
  obtain ⟨ad', rfl, _, _⟩ := h' 0 _ (tv_get qs 0 (by omega))
  have hq : ∀ j u, (tv qs)[j]? = some u → w.cell? (ad'.add j) = some u := fun j u hj => by
    obtain ⟨ad, e, _, hc⟩ := h' j u hj
    injection e with e
    subst e
    exact hc
  have fin : ∀ v' w', w'.ownsRow w.heap.size 9 1 v' (n + m) (tv ps ++ tv qs) → OwnT w' w.heap.size v' (ps ++ qs) := fun v' w' h => by
    unfold OwnT
    rw [List.length_append, hn, hm, tv_append]
    exact h
  cases A with
  | none =>
    have := hA rfl
    obtain rfl : n = 0 := by omega
    obtain rfl : cap = 0 := by omega
    obtain rfl := List.eq_nil_of_length_eq_zero hn
    obtain ⟨v', w', hrun, r1, r2, _⟩ := run_append_own (P := Try.prog) w w.heap.size 25 ty 9 i (.string ⟨#[]⟩) 1 16 Try.underlying25 hi hz h0 h1 rfl (by omega) (.slice none 0 0) 0 [] (World.ownsRow_nil w _ _ 1) ad' m c (tv qs) (by rw [tv_length, Nat.mul_one]; exact hm) hq (tv_one qs) (by unfold maxLen; omega) (by omega) (Nat.le_refl _)
    exact ⟨v', w', hrun, fin v' w' (by simpa [tv] using r1), r2⟩
  | some ad =>
    have hp : ∀ j u, (tv ps)[j]? = some u → w.cell? (ad.add j) = some u := fun j u hj => by
      obtain ⟨ad2, e, _, hc⟩ := h j u hj
      injection e with e
      subst e
      exact hc
    obtain ⟨v', w', hrun, r1, r2⟩ := run_append_arg_grows (P := Try.prog) w 25 ty 9 i (.string ⟨#[]⟩) 1 16 Try.underlying25 hi hz h0 h1 rfl (by omega) ad n cap (tv ps) (by rw [tv_length, Nat.mul_one]; exact hn) hp ad' m c (tv qs) (by rw [tv_length, Nat.mul_one]; exact hm) hq hg (by unfold maxLen; omega) (by omega)
    exact ⟨v', w', hrun, fin v' w' r1, r2⟩
theorem stepGrow {w : World} {ops : Array Oper} {o : Oper} {a : Act} {K : Act → World → Prop} {Q : Exit → Act → World → Prop} {E : Prop} (s x : Operand)
    (ho : o.op = .call { callee := .builtin .append, args := #[s, x], argTypes := #[25, 25] }) (hgd : o.guard = none)
    {B B' : Nat} {A A' : Option Addr} {ps qs : List L} {n cap m c : Nat} (hs : a.eval s = .slice A n cap) (hx : a.eval x = .slice A' m c) (h : Tx w B A ps) (h' : Tx w B' A' qs) (hn : ps.length = n) (hm : qs.length = m) (hA : A = none → cap = 0) (hcap : n ≤ cap) (hm0 : 0 < m) (hg : cap < n + m) (h63 : n + m ≤ 1000000)
    (hK : ∀ v' w', OwnT w' w.heap.size v' (ps ++ qs) → w.grownBy w' none → K (a.put o.dst v') w') : if Region.wanted o (yielded ops a.tmps) = true then Oper.wp Try.prog o a w K Q else E := by
  have hw : Region.wanted o (yielded ops a.tmps) = true := by simp [Region.wanted, hgd]
  rw [if_pos hw]
  obtain ⟨v', w', hrun, h2, h3⟩ := run_grow (w := w) o.type h h' hn hm hA hcap hm0 hg h63 (c := c)
  unfold Oper.wp execOp
  simp only [ho, resolve, invoke, builtin, Sem.run_bind, Sem.run_pure, Result.andThen_ok, List.map_toArray, List.map_cons, List.map_nil, hs, hx, hrun]
  exact hK v' w' h2 h3
theorem sort_next {l : List L} {k : Nat} (h : k < l.length) : sortS (l.take (k + 1)) = insS (sortS (l.take k)) (l.getD k []) := by
  rw [List.take_succ_eq_append_getElem h, sort_snoc]
  simp [List.getD, h]
set_option maxHeartbeats 1600000 in
theorem rsorted_any {w : World} {B : Nat} {A : Option Addr} {l : List L} (h : Tx w B A l) (hB : B ≤ w.heap.size) (n c : Nat) (hn : l.length = n) (hl : n ≤ 30000) :
    Calls Try.prog 13 #[.slice A n c] w (OutT w (sortS l)) := by
  unfold OutT
  have HEL : Hid (∀ k, k < n → ∃ g o, A = some ⟨g, o, none⟩ ∧ g < B ∧ ∀ X, Below w.heap.size w X → X.cell? ⟨g, o + k, none⟩ = some (.string (str (l.getD k [])))) := Lib.hid fun k hk => by
    obtain ⟨g, o, e, hg, hc⟩ := h.els k (by omega)
    exact ⟨g, o, e, hg, fun X hX => hc X (hX.mono hB)⟩
  have HNX : Hid (∀ k, k < n → sortS (l.take (k + 1)) = insS (sortS (l.take k)) (l.getD k [])) := Lib.hid fun k hk => sort_next (by omega)
  have HLE : Hid (∀ k, k ≤ n → (sortS (l.take k)).length ≤ k) := Lib.hid fun k hk => Nat.le_trans (sort_len _) (by rw [List.length_take]; omega)
  have HEND : Hid (sortS (l.take n) = sortS l) := Lib.hid (by rw [← hn, List.take_length])
  have H0 : Hid (sortS (l.take 0) = []) := Lib.hid rfl
  clear h hn
  go_enter Try.func13, Try.ntmps13
  go_wp2_with fail
  go_loopw [3, 5, 6, 9] (fun x _ _ z wr => ∃ k : Nat, z = .int .i64 k ∧ k ≤ n ∧ Hid (OwnT wr w.heap.size x (sortS (l.take k))) ∧ Hid (Below w.heap.size w wr)) (fun _ _ _ z _ => n - (intOf z).toNat)
  case atStart => exact ⟨0, rfl, Nat.zero_le _, Lib.hid (by rw [H0.out]; exact OwnT.nil _ _), Lib.hid (Below.refl _ _)⟩
  case round =>
    obtain ⟨k, rfl, hk, HO, HBE⟩ := hrel
    by_cases hlt : k < n
    · obtain ⟨g, o, rfl, hg, hall⟩ := HEL.out k hlt
      have hc := hall wr HBE.out
      have hgl : g < wr.heap.size := World.block_lt_of_cell? wr _ hc
      have HK := Lib.hid (HNX.out k hlt)
      have hol := HLE.out k hk
      obtain ⟨out, hout⟩ : ∃ out, out = sortS (l.take k) := ⟨_, rfl⟩
      rw [← hout] at HO HK hol
      clear hall hout
      generalize hsd : l.getD k [] = sd at *
      clear hsd
      obtain ⟨Ax, cx, rfl, hcx1, hcx2⟩ := HO.out.slice
      have HTX : Hid (Tx wr wr.heap.size Ax out) := Lib.hid (OwnT.tx HO.out)
      have HINS : Hid (∀ i, i ≤ out.length → (∀ j, j < i → out.getD j [] < sd) → (i < out.length → ¬ out.getD i [] < sd) → insS out sd = if i < out.length ∧ out.getD i [] = sd then out else out.take i ++ sd :: out.drop i) := Lib.hid fun i h1 h2 h3 => ins_at' out sd i h1 h2 h3
      have HLS : Hid (∀ i, Op.bytesLess (str (out.getD i [])).toList (str sd).toList = decide (out.getD i [] < sd)) := Lib.hid fun i => less_str _ _
      have HEQ : Hid (∀ i, ((str (out.getD i [])).toList == (str sd).toList) = decide (out.getD i [] = sd)) := Lib.hid fun i => by rw [str_list, str_list, Bool.eq_iff_iff, beq_iff_eq, decide_eq_true_eq]
      generalize hm : out.length = m at *
      have HM := Lib.hid hm
      clear hm
      generalize hS : str sd = S at *
      have HS := Lib.hid hS
      clear hS
      go_wp2_with fail
      go_loop [6] (fun y => ∃ i : Nat, y = .int .i64 i ∧ i ≤ m ∧ Hid (∀ j, j < i → out.getD j [] < sd)) (fun y => m - (intOf y).toNat)
      case atStart => exact ⟨0, rfl, Nat.zero_le _, Lib.hid fun j hj => absurd hj (Nat.not_lt_zero _)⟩
      case round =>
        obtain ⟨i, rfl, hi, HLT⟩ := hrel
        by_cases him : i < m
        · obtain ⟨g2, o2, rfl, _, hall⟩ := HTX.out.els i (by rw [HM.out]; exact him)
          have hc2 := hall wr (Below.refl _ _)
          have hg2 : g2 < wr.heap.size := World.block_lt_of_cell? wr _ hc2
          have hls := HLS.out i
          have heq := HEQ.out i
          clear hall
          by_cases hld : out.getD i [] < sd
          · rw [decide_eq_true hld] at hls
            have HLT2 : Hid (∀ j, j < i + 1 → out.getD j [] < sd) := Lib.hid fun j hj => by
              rcases Nat.lt_or_ge j i with h1 | h1
              · exact HLT.out j h1
              · obtain rfl : j = i := by omega
                exact hld
            clear hld heq
            generalize str (out.getD i []) = X at *
            go_wp2_with fail
            go_round
            case rel => exact ⟨i + 1, by go_num, by omega, HLT2⟩
            case measure => first | (simp [intOf]; done) | (simp [intOf]; omega)
          · rw [decide_eq_false hld] at hls
            have HNL := Lib.hid hld
            by_cases hed : out.getD i [] = sd
            · rw [decide_eq_true hed] at heq
              have HR9 : Hid (sortS (l.take (k + 1)) = out) := Lib.hid (by rw [HK.out, HINS.out i hi HLT.out (fun _ => HNL.out), if_pos ⟨him, hed⟩])
              clear hld hed
              generalize str (out.getD i []) = X at *
              go_wp2_with fail
              go_roundw
              case rel => exact ⟨k + 1, by go_num, by omega, Lib.hid (by rw [HR9.out]; exact HO.out), HBE⟩
              case measure => first | (simp [intOf]; done) | (simp [intOf]; omega)
            · rw [decide_eq_false hed] at heq
              have HNE := Lib.hid hed
              clear hld hed
              have HR9 : Hid (sortS (l.take (k + 1)) = out.take i ++ ([sd] ++ out.drop i)) := Lib.hid (by rw [HK.out, HINS.out i hi HLT.out (fun _ => HNL.out), if_neg (fun h => HNE.out h.2)]; rfl)
              have HTK := Lib.hid (show Tx wr wr.heap.size (some ⟨g2, o2, none⟩) (out.take i) from by unfold Tx tv; rw [List.map_take]; exact Cs.take HTX.out i)
              have hcxi : ¬ cx = i := by omega
              have HDR : Hid (Tx wr wr.heap.size (some ⟨g2, o2 + i, none⟩) (out.drop i)) := Lib.hid (by
                have h9 := Cs.drop HTX.out cx (by rw [tv_length, HM.out]; exact hcx1) (k := i)
                rw [if_neg hcxi] at h9
                unfold Tx tv; rw [List.map_drop]
                have e9 : Option.map (fun x : Addr => x.add (i * 1)) (some ⟨g2, o2, none⟩) = some ⟨g2, o2 + i, none⟩ := by simp [add_at]
                rw [← e9]; exact h9)
              have hdl : (out.drop i).length = m - i := by rw [List.length_drop, HM.out]
              have htl : (out.take i).length = i := by rw [List.length_take, HM.out]; omega
              have HDL := Lib.hid hdl
              have HTL := Lib.hid htl
              have hicx : i ≤ cx := by omega
              have hm3 : m ≤ 30000 := by omega
              clear hdl htl hc HEQ HLS HINS HK
              generalize str (out.getD i []) = X at *
              go_wp2_with fail
              refine wp_region_held_drew (S := (fun _ => True)) (by kernel_rfl) (trivial) (fun hHeld => ?_)
              have HTK1 : Hid (Tx wr.drew wr.drew.heap.size (some ⟨g2, o2, none⟩) (out.take i)) := HTK
              have HDR1 : Hid (Tx wr.drew wr.drew.heap.size (some ⟨g2, o2 + i, none⟩) (out.drop i)) := HDR
              have HB1 : Hid (Below w.heap.size w wr.drew) := Lib.hid HBE.out.drew
              clear HTK HDR HBE HO HTX
              generalize wr.drew = w1 at *
              refine wpAnyH_take (i := 0) (v := .slice (some ⟨g2, o2, none⟩) m cx) rfl (by kernel_rfl) (by kernel_rfl) (by kernel_rfl) (fun _ _ _ h => h) (Or.inl ⟨by rfl, fun w hS => by first | (go_simp; done) | (go_simp; with_reducible rfl)⟩) hHeld ?_
              try simp only [Act.put, List.getElem_toArray, List.getElem_cons_zero, List.setIfInBounds_toArray, List.set_cons_zero, List.set_cons_succ]
              refine wpAnyH_take (i := 1) (v := .int .i64 i) rfl (by kernel_rfl) (by kernel_rfl) (by kernel_rfl) (fun _ _ _ h => h) (Or.inl ⟨by rfl, fun w hS => by first | (go_simp; done) | (go_simp; with_reducible rfl)⟩) hHeld ?_
              try simp only [Act.put, List.getElem_toArray, List.getElem_cons_zero, List.getElem_cons_succ, List.setIfInBounds_toArray, List.set_cons_zero, List.set_cons_succ]
              refine wpAnyH_take (i := 2) (v := .int .i64 i) rfl (by kernel_rfl) (by kernel_rfl) (by kernel_rfl) (fun _ _ _ h => h) (Or.inl ⟨by rfl, fun w hS => by first | (go_simp; done) | (go_simp; with_reducible rfl)⟩) hHeld ?_
              try simp only [Act.put, List.getElem_toArray, List.getElem_cons_zero, List.getElem_cons_succ, List.setIfInBounds_toArray, List.set_cons_zero, List.set_cons_succ]
              refine wpAnyH_take (i := 3) (v := .slice (some ⟨g2, o2, none⟩) i i) rfl (by kernel_rfl) (by kernel_rfl) (by kernel_rfl) (fun _ _ _ h => h) (Or.inl ⟨by rfl, fun w hS => by first | (go_simp; done) | (go_simp; with_reducible rfl)⟩) hHeld ?_
              try simp only [Act.put, List.getElem_toArray, List.getElem_cons_zero, List.getElem_cons_succ, List.setIfInBounds_toArray, List.set_cons_zero, List.set_cons_succ]
              refine wpAnyH_take (i := 4) (v := .string S) rfl (by kernel_rfl) (by kernel_rfl) (by kernel_rfl) (fun _ _ _ h => h) (Or.inl ⟨by rfl, fun w hS => by first | (go_simp; done) | (go_simp; with_reducible rfl)⟩) hHeld ?_
              try simp only [Act.put, List.getElem_toArray, List.getElem_cons_zero, List.getElem_cons_succ, List.setIfInBounds_toArray, List.set_cons_zero, List.set_cons_succ]
              refine wpAnyH_take (i := 6) (v := .slice (some ⟨g2, o2, none⟩) m cx) rfl (by kernel_rfl) (by kernel_rfl) (by kernel_rfl) (fun _ _ _ h => h) (Or.inl ⟨by rfl, fun w hS => by first | (go_simp; done) | (go_simp; with_reducible rfl)⟩) hHeld ?_
              try simp only [Act.put, List.getElem_toArray, List.getElem_cons_zero, List.getElem_cons_succ, List.setIfInBounds_toArray, List.set_cons_zero, List.set_cons_succ]
              refine wpAnyH_take (i := 7) (v := .int .i64 i) rfl (by kernel_rfl) (by kernel_rfl) (by kernel_rfl) (fun _ _ _ h => h) (Or.inl ⟨by rfl, fun w hS => by first | (go_simp; done) | (go_simp; with_reducible rfl)⟩) hHeld ?_
              try simp only [Act.put, List.getElem_toArray, List.getElem_cons_zero, List.getElem_cons_succ, List.setIfInBounds_toArray, List.set_cons_zero, List.set_cons_succ]
              refine wpAnyH_take (i := 8) (v := .slice (some ⟨g2, o2 + i, none⟩) (m - i) (cx - i)) rfl (by kernel_rfl) (by kernel_rfl) (by kernel_rfl) (fun _ _ _ h => h) (Or.inl ⟨by rfl, fun w hS => by first | (go_simp; done) | (go_simp; with_reducible rfl)⟩) hHeld ?_
              try simp only [Act.put, List.getElem_toArray, List.getElem_cons_zero, List.getElem_cons_succ, List.setIfInBounds_toArray, List.set_cons_zero, List.set_cons_succ]
              have HOL : Hid (OwnT (w1.alloc (.cells #[.string S] 9)) w1.heap.size (.slice (some ⟨w1.heap.size, 0, none⟩) 1 1) [sd]) := Lib.hid (by rw [← HS.out]; exact own_lit w1 sd)
              have HBA := Lib.hid (belowA w1 (.cells #[.string S] 9))
              have HDA := Lib.hid (HDR1.out.below HBA.out)
              refine wpAnyH_ready (rs := [5]) (by kernel_rfl) (by simp) ?_
              refine AllReadyH.cons rfl (fun K hK => ?_) AllReadyH.nil
              go_simp
              refine hK.out _ _ ?_ (fun hHeld => ?_)
              · trivial
              clear hK K
              try simp only [Act.put, List.getElem_toArray, List.getElem_cons_zero, List.getElem_cons_succ, List.setIfInBounds_toArray, List.set_cons_zero, List.set_cons_succ]
              refine wpAnyH_ready (rs := [9]) (by kernel_rfl) (by simp) ?_
              refine AllReadyH.cons rfl (fun K hK => ?_) AllReadyH.nil
              (refine stepTx (.tmp 44) (.tmp 47) (by rfl) (by rfl) (ps := [sd]) (qs := out.drop i) (by rfl) HOL.out (A := (some ⟨g2, o2 + i, none⟩)) (m := m - i) (c := cx - i) (by rfl) HDA.out HDL.out (by simp; omega) (by simp) ?_; intro v5 w5 h1 h2; have hb5 : Below w1.heap.size w1 w5 := HBA.out.grown h2 (by simp) (fun q hq => by have e9 : w1.heap.size = q := Option.some.inj hq; omega); have HT5 := Lib.hid (HTK1.out.below hb5); have HB5 := Lib.hid hb5; obtain ⟨A5, c5, hv5, _, _⟩ := h1.slice; subst hv5; have HO5 := Lib.hid h1.tx; have hk5 : ([sd] ++ out.drop i).length = m - i + 1 := (by rw [List.length_append, HDL.out]; simp; omega); have HK5 := Lib.hid hk5; generalize hq5 : ([sd] ++ out.drop i).length = k5 at *; have HQ5 := Lib.hid hq5; clear h1 h2 hb5 hq5)
              refine hK.out _ _ ?_ (fun hHeld => ?_)
              · trivial
              clear hK K
              try simp only [Act.put, List.getElem_toArray, List.getElem_cons_zero, List.getElem_cons_succ, List.setIfInBounds_toArray, List.set_cons_zero, List.set_cons_succ]
              refine wpAnyH_ready (rs := [10]) (by kernel_rfl) (by simp) ?_
              refine AllReadyH.cons rfl (fun K hK => ?_) AllReadyH.nil
              (refine stepGrow (.tmp 42) (.tmp 48) (by rfl) (by rfl) (ps := out.take i) (qs := [sd] ++ out.drop i) (A := (some ⟨g2, o2, none⟩)) (n := i) (cap := i) (A' := A5) (m := k5) (c := c5) (by rfl) (by rfl) HT5.out HO5.out HTL.out HQ5.out (fun e => by cases e) (Nat.le_refl _) (by have := HK5.out; omega) (by have := HK5.out; omega) (by have := HK5.out; omega) ?_; intro v6 w6 h1 h2; have HO6 := Lib.hid h1; have HB6 := Lib.hid (HB1.out.trans ((HB5.out.mono HB1.out.size).grown h2 (by have := HB1.out.size; have := HB5.out.size; omega) (fun q hq => by cases hq))); clear h1 h2)
              refine hK.out _ _ ?_ (fun hHeld => ?_)
              · trivial
              clear hK K
              try simp only [Act.put, List.getElem_toArray, List.getElem_cons_zero, List.getElem_cons_succ, List.setIfInBounds_toArray, List.set_cons_zero, List.set_cons_succ]
              refine wpAnyH_ready (rs := [11]) (by kernel_rfl) (by simp) ?_
              refine AllReadyH.cons rfl (fun K hK => ?_) AllReadyH.nil
              go_simp
              refine hK.out _ _ ?_ (fun hHeld => ?_)
              · trivial
              clear hK K
              try simp only [Act.put, List.getElem_toArray, List.getElem_cons_zero, List.getElem_cons_succ, List.setIfInBounds_toArray, List.set_cons_zero, List.set_cons_succ]
              refine wpAnyH_done (by kernel_rfl) ?_ _
              go_wp2_with fail
              go_roundw
              case rel => exact ⟨k + 1, by go_num, by omega, Lib.hid (by rw [HR9.out]; exact HO6.out.more (by have := HB1.out.size; have := HB5.out.size; omega)), HB6⟩
              case measure => first | (simp [intOf]; done) | (simp [intOf]; omega)
        · have HNC : Hid (Ax = none → cx = 0) := Lib.hid fun e => by
            rcases HO.out.2 with ⟨h1, _⟩ | ⟨_, _, _, h1, _⟩
            · injection h1
            · rw [e] at h1; injection h1 with h1; cases h1
          have HR9 : Hid (sortS (l.take (k + 1)) = out.take i ++ ([sd] ++ out.drop i)) := Lib.hid (by rw [HK.out, HINS.out i hi HLT.out (fun h => absurd h (by omega)), if_neg (fun h => absurd h.1 (by omega))]; rfl)
          have HTK := Lib.hid (show Tx wr wr.heap.size Ax (out.take i) from by unfold Tx tv; rw [List.map_take]; exact Cs.take HTX.out i)
          have HDR : Hid (Tx wr wr.heap.size (if cx = i then Ax else Option.map (fun x : Addr => x.add (i * 1)) Ax) (out.drop i)) := Lib.hid (by unfold Tx tv; rw [List.map_drop]; exact Cs.drop HTX.out cx (by rw [tv_length, HM.out]; exact hcx1))
          have hdl : (out.drop i).length = m - i := by rw [List.length_drop, HM.out]
          have htl : (out.take i).length = i := by rw [List.length_take, HM.out]; omega
          have HDL := Lib.hid hdl
          have HTL := Lib.hid htl
          have hicx : i ≤ cx := by omega
          have hm3 : m ≤ 30000 := by omega
          generalize hA8 : (if cx = i then Ax else Option.map (fun x : Addr => x.add (i * 1)) Ax) = A8 at *
          have HA8 := Lib.hid hA8
          clear hdl htl hA8 hc HEQ HLS HINS HK
          go_wp2_with fail
          refine wp_region_held_drew (S := (fun _ => True)) (by kernel_rfl) (trivial) (fun hHeld => ?_)
          have HTK1 : Hid (Tx wr.drew wr.drew.heap.size Ax (out.take i)) := HTK
          have HDR1 : Hid (Tx wr.drew wr.drew.heap.size A8 (out.drop i)) := HDR
          have HB1 : Hid (Below w.heap.size w wr.drew) := Lib.hid HBE.out.drew
          clear HTK HDR HBE HO HTX
          generalize wr.drew = w1 at *
          refine wpAnyH_take (i := 0) (v := .slice Ax m cx) rfl (by kernel_rfl) (by kernel_rfl) (by kernel_rfl) (fun _ _ _ h => h) (Or.inl ⟨by rfl, fun w hS => by first | (go_simp; done) | (go_simp; with_reducible rfl)⟩) hHeld ?_
          try simp only [Act.put, List.getElem_toArray, List.getElem_cons_zero, List.setIfInBounds_toArray, List.set_cons_zero, List.set_cons_succ]
          refine wpAnyH_take (i := 1) (v := .int .i64 i) rfl (by kernel_rfl) (by kernel_rfl) (by kernel_rfl) (fun _ _ _ h => h) (Or.inl ⟨by rfl, fun w hS => by first | (go_simp; done) | (go_simp; with_reducible rfl)⟩) hHeld ?_
          try simp only [Act.put, List.getElem_toArray, List.getElem_cons_zero, List.getElem_cons_succ, List.setIfInBounds_toArray, List.set_cons_zero, List.set_cons_succ]
          refine wpAnyH_take (i := 2) (v := .int .i64 i) rfl (by kernel_rfl) (by kernel_rfl) (by kernel_rfl) (fun _ _ _ h => h) (Or.inl ⟨by rfl, fun w hS => by first | (go_simp; done) | (go_simp; with_reducible rfl)⟩) hHeld ?_
          try simp only [Act.put, List.getElem_toArray, List.getElem_cons_zero, List.getElem_cons_succ, List.setIfInBounds_toArray, List.set_cons_zero, List.set_cons_succ]
          refine wpAnyH_take (i := 3) (v := .slice Ax i i) rfl (by kernel_rfl) (by kernel_rfl) (by kernel_rfl) (fun _ _ _ h => h) (Or.inl ⟨by rfl, fun w hS => by first | (go_simp; done) | (go_simp; with_reducible rfl)⟩) hHeld ?_
          try simp only [Act.put, List.getElem_toArray, List.getElem_cons_zero, List.getElem_cons_succ, List.setIfInBounds_toArray, List.set_cons_zero, List.set_cons_succ]
          refine wpAnyH_take (i := 4) (v := .string S) rfl (by kernel_rfl) (by kernel_rfl) (by kernel_rfl) (fun _ _ _ h => h) (Or.inl ⟨by rfl, fun w hS => by first | (go_simp; done) | (go_simp; with_reducible rfl)⟩) hHeld ?_
          try simp only [Act.put, List.getElem_toArray, List.getElem_cons_zero, List.getElem_cons_succ, List.setIfInBounds_toArray, List.set_cons_zero, List.set_cons_succ]
          refine wpAnyH_take (i := 6) (v := .slice Ax m cx) rfl (by kernel_rfl) (by kernel_rfl) (by kernel_rfl) (fun _ _ _ h => h) (Or.inl ⟨by rfl, fun w hS => by first | (go_simp; done) | (go_simp; with_reducible rfl)⟩) hHeld ?_
          try simp only [Act.put, List.getElem_toArray, List.getElem_cons_zero, List.getElem_cons_succ, List.setIfInBounds_toArray, List.set_cons_zero, List.set_cons_succ]
          refine wpAnyH_take (i := 7) (v := .int .i64 i) rfl (by kernel_rfl) (by kernel_rfl) (by kernel_rfl) (fun _ _ _ h => h) (Or.inl ⟨by rfl, fun w hS => by first | (go_simp; done) | (go_simp; with_reducible rfl)⟩) hHeld ?_
          try simp only [Act.put, List.getElem_toArray, List.getElem_cons_zero, List.getElem_cons_succ, List.setIfInBounds_toArray, List.set_cons_zero, List.set_cons_succ]
          refine wpAnyH_take (i := 8) (v := .slice A8 (m - i) (cx - i)) rfl (by kernel_rfl) (by kernel_rfl) (by kernel_rfl) (fun _ _ _ h => h) (Or.inl ⟨by rfl, fun w hS => by (go_simp; first | exact HA8.out | (rw [← HA8.out]; simp))⟩) hHeld ?_
          try simp only [Act.put, List.getElem_toArray, List.getElem_cons_zero, List.getElem_cons_succ, List.setIfInBounds_toArray, List.set_cons_zero, List.set_cons_succ]
          have HOL : Hid (OwnT (w1.alloc (.cells #[.string S] 9)) w1.heap.size (.slice (some ⟨w1.heap.size, 0, none⟩) 1 1) [sd]) := Lib.hid (by rw [← HS.out]; exact own_lit w1 sd)
          have HBA := Lib.hid (belowA w1 (.cells #[.string S] 9))
          have HDA := Lib.hid (HDR1.out.below HBA.out)
          refine wpAnyH_ready (rs := [5]) (by kernel_rfl) (by simp) ?_
          refine AllReadyH.cons rfl (fun K hK => ?_) AllReadyH.nil
          go_simp
          refine hK.out _ _ ?_ (fun hHeld => ?_)
          · trivial
          clear hK K
          try simp only [Act.put, List.getElem_toArray, List.getElem_cons_zero, List.getElem_cons_succ, List.setIfInBounds_toArray, List.set_cons_zero, List.set_cons_succ]
          refine wpAnyH_ready (rs := [9]) (by kernel_rfl) (by simp) ?_
          refine AllReadyH.cons rfl (fun K hK => ?_) AllReadyH.nil
          (refine stepTx (.tmp 44) (.tmp 47) (by rfl) (by rfl) (ps := [sd]) (qs := out.drop i) (by rfl) HOL.out (A := A8) (m := m - i) (c := cx - i) (by rfl) HDA.out HDL.out (by simp; omega) (by simp) ?_; intro v5 w5 h1 h2; have hb5 : Below w1.heap.size w1 w5 := HBA.out.grown h2 (by simp) (fun q hq => by have e9 : w1.heap.size = q := Option.some.inj hq; omega); have HT5 := Lib.hid (HTK1.out.below hb5); have HB5 := Lib.hid hb5; obtain ⟨A5, c5, hv5, _, _⟩ := h1.slice; subst hv5; have HO5 := Lib.hid h1.tx; have hk5 : ([sd] ++ out.drop i).length = m - i + 1 := (by rw [List.length_append, HDL.out]; simp; omega); have HK5 := Lib.hid hk5; generalize hq5 : ([sd] ++ out.drop i).length = k5 at *; have HQ5 := Lib.hid hq5; clear h1 h2 hb5 hq5)
          refine hK.out _ _ ?_ (fun hHeld => ?_)
          · trivial
          clear hK K
          try simp only [Act.put, List.getElem_toArray, List.getElem_cons_zero, List.getElem_cons_succ, List.setIfInBounds_toArray, List.set_cons_zero, List.set_cons_succ]
          refine wpAnyH_ready (rs := [10]) (by kernel_rfl) (by simp) ?_
          refine AllReadyH.cons rfl (fun K hK => ?_) AllReadyH.nil
          (refine stepGrow (.tmp 42) (.tmp 48) (by rfl) (by rfl) (ps := out.take i) (qs := [sd] ++ out.drop i) (A := Ax) (n := i) (cap := i) (A' := A5) (m := k5) (c := c5) (by rfl) (by rfl) HT5.out HO5.out HTL.out HQ5.out (fun e => by have := HNC.out e; omega) (Nat.le_refl _) (by have := HK5.out; omega) (by have := HK5.out; omega) (by have := HK5.out; omega) ?_; intro v6 w6 h1 h2; have HO6 := Lib.hid h1; have HB6 := Lib.hid (HB1.out.trans ((HB5.out.mono HB1.out.size).grown h2 (by have := HB1.out.size; have := HB5.out.size; omega) (fun q hq => by cases hq))); clear h1 h2)
          refine hK.out _ _ ?_ (fun hHeld => ?_)
          · trivial
          clear hK K
          try simp only [Act.put, List.getElem_toArray, List.getElem_cons_zero, List.getElem_cons_succ, List.setIfInBounds_toArray, List.set_cons_zero, List.set_cons_succ]
          refine wpAnyH_ready (rs := [11]) (by kernel_rfl) (by simp) ?_
          refine AllReadyH.cons rfl (fun K hK => ?_) AllReadyH.nil
          go_simp
          refine hK.out _ _ ?_ (fun hHeld => ?_)
          · trivial
          clear hK K
          try simp only [Act.put, List.getElem_toArray, List.getElem_cons_zero, List.getElem_cons_succ, List.setIfInBounds_toArray, List.set_cons_zero, List.set_cons_succ]
          refine wpAnyH_done (by kernel_rfl) ?_ _
          go_wp2_with fail
          go_roundw
          case rel => exact ⟨k + 1, by go_num, by omega, Lib.hid (by rw [HR9.out]; exact HO6.out.more (by have := HB1.out.size; have := HB5.out.size; omega)), HB6⟩
          case measure => first | (simp [intOf]; done) | (simp [intOf]; omega)
    · obtain rfl : k = n := by omega
      have HE := Lib.hid HEND.out
      obtain ⟨Ax, cx, rfl, _, _⟩ := HO.out.slice
      go_wp2_with fail
      go_ret
      exact ⟨_, rfl, by rw [← HE.out]; exact HO.out, HBE.out⟩
end Tk
end Go.Proofs.Ytbhkppleomnjjaa
