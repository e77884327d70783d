/- Rows of holds in memory: rows of the call's own, one more, many more. Conditions: none. -/
import Derived.Test.YtamjellnmlgbeaaRtRow
import Derived.Test.YtamjellnmlgbeaaHoMath
import Derived.Test.YtamjellnmlgbeaaDkMem
import Derived.Test.YtamjellnmlgbeaaRgKey
import Derived.Deep.RegionHeld3
import Derived.Deep.DeepAppendRoom
namespace Go.Proofs.Ytamjellnmlgbeaa
set_option maxRecDepth 100000
namespace Ho
open Go.RowKit Go Go.Proofs.Ytamjellnmlgbeaa.Pa Go.Proofs.Ytamjellnmlgbeaa.Rt
theorem pc_append (a b : List (Value × Value)) : pc (a ++ b) = pc a ++ pc b := by simp [pc]
theorem pc_take (xs : List (Value × Value)) (k : Nat) : pc (xs.take k) = (pc xs).take (k * 2) := by
  rcases Nat.le_total k xs.length with h | h
  · have e : pc xs = pc (xs.take k) ++ pc (xs.drop k) := by rw [← pc_append, List.take_append_drop]
    rw [e, show k * 2 = (pc (xs.take k)).length by rw [pc_length, List.length_take, Nat.min_eq_left h], List.take_left]
  · rw [List.take_of_length_le h, List.take_of_length_le (by rw [pc_length]; omega)]
theorem hv_length (l : List R) : (cvR l).length = l.length := by simp [cvR]
theorem hv_append (a b : List R) : cvR (a ++ b) = cvR a ++ cvR b := by simp [cvR]
theorem hv_take (l : List R) (k : Nat) : cvR (l.take k) = (cvR l).take k := by simp [cvR]
theorem hv_drop (l : List R) (k : Nat) : cvR (l.drop k) = (cvR l).drop k := by simp [cvR]
theorem hv_one {l : List R} : ∀ u ∈ pc (cvR l), u.oneCell' = true := by
  intro u hu
  unfold pc at hu
  obtain ⟨p, hp, hq⟩ := List.mem_flatMap.1 hu
  obtain ⟨r, _, rfl⟩ := List.mem_map.1 hp
  rcases List.mem_cons.1 hq with rfl | hq
  · rfl
  · rw [List.mem_singleton.1 hq]; rfl
theorem own_slice2 {w : World} {N n sz : Nat} {e : TypeId} {v : Value} {xs : List Value} (h : w.ownsRow N e sz v n xs) : ∃ A c, v = .slice A n c ∧ n ≤ c ∧ c ≤ maxLen := by
  rcases h.2 with ⟨rfl, rfl⟩ | ⟨g, cap, cur, rfl, _, _, h1, h2, _⟩
  · exact ⟨none, 0, rfl, Nat.le_refl _, Nat.zero_le _⟩
  · exact ⟨_, _, rfl, h1, h2⟩
theorem own_kept2 {w w' : World} {N B n sz : Nat} {e : TypeId} {v : Value} {xs : List Value} (h : w.ownsRow N e sz v n xs) (hb : Below B w w') (hB : w.heap.size ≤ B) : w'.ownsRow N e sz v n xs := by
  refine ⟨h.1, ?_⟩
  rcases h.2 with hn | ⟨g, cap, cur, rfl, hn, hh, rest⟩
  · exact .inl hn
  · refine .inr ⟨g, cap, cur, rfl, hn, ?_, rest⟩
    rw [hb.block g (Nat.lt_of_lt_of_le (Array.getElem?_eq_some_iff.1 hh).1 hB)]
    exact hh
theorem own_more2 {w : World} {N M n sz : Nat} {e : TypeId} {v : Value} {xs : List Value} (h : w.ownsRow N e sz v n xs) (hM : M ≤ N) : w.ownsRow M e sz v n xs := by
  refine ⟨h.1, ?_⟩
  rcases h.2 with hn | ⟨g, cap, cur, rfl, hn, rest⟩
  · exact .inl hn
  · exact .inr ⟨g, cap, cur, rfl, by omega, rest⟩
theorem own_range {w : World} {N n sz c : Nat} {A : Option Addr} {e : TypeId} {xs : List Value} (h : w.ownsRow N e sz (.slice A n c) n xs) (hne : xs ≠ []) : ∃ g, A = some ⟨g, 0, none⟩ ∧ N ≤ g ∧ g < w.heap.size ∧ w.rangeAt g 0 xs ∧ ∀ j, w.frozen? ⟨g, j, none⟩ = false := by
  rcases h.2 with ⟨_, h0⟩ | ⟨g, cap, cur, hv, hn, hh, h1, h2, h3, h4⟩
  · have := h.1
    rw [h0, Nat.zero_mul] at this
    exact absurd (List.eq_nil_of_length_eq_zero this) hne
  · injection hv with hv1 _ _
    refine ⟨g, hv1, hn, (Array.getElem?_eq_some_iff.1 hh).1, fun j v hj => ?_, fun j => by simp [World.frozen?, hh]⟩
    rw [Nat.zero_add, cell_of_row w g j cur e (0, 0) hh, ← Array.getElem?_toList]
    have hlt : j < n * sz := by
      have := (List.getElem?_eq_some_iff.1 hj).1
      rw [h.1] at this
      exact this
    rw [← h4, List.getElem?_take_of_lt hlt] at hj
    exact hj
/-- a row of holds of the call's own. -/
def OwnH (w : World) (N : Nat) (v : Value) (l : List R) : Prop := w.ownsRow N 24 2 v l.length (pc (cvR l))
section
variable {w w' : World} {N M : Nat} {v : Value} {l : List R}
theorem OwnH.nil (w : World) (N : Nat) : OwnH w N (.slice none 0 0) [] := World.ownsRow_nil w N 24 2
theorem OwnH.slice (h : OwnH w N v l) : ∃ A c, v = .slice A l.length c ∧ l.length ≤ c ∧ c ≤ maxLen := own_slice2 h
theorem OwnH.below (h : OwnH w N v l) (hb : Below w.heap.size w w') : OwnH w' N v l := own_kept2 h hb (Nat.le_refl _)
theorem OwnH.more (h : OwnH w N v l) (hM : M ≤ N) : OwnH w M v l := own_more2 h hM
theorem OwnH.prs {A : Option Addr} {n c : Nat} (h : OwnH w N (.slice A n c) l) : Prs w w.heap.size A (cvR l) := by
  rcases Decidable.em (l = []) with h0 | h0
  · exact .inl (by rw [h0]; rfl)
  · obtain ⟨A', c', e, _⟩ := h.slice
    injection e with e1 e2 e3
    subst e1; subst e2; subst e3
    obtain ⟨g, rfl, _, hlt, hr, _⟩ := own_range h (by
      intro e
      have := congrArg List.length e
      rw [pc_length, hv_length, List.length_nil] at this
      exact h0 (List.eq_nil_of_length_eq_zero (by omega)))
    exact .inr ⟨g, 0, rfl, hlt, hr⟩
theorem OwnH.low (h : OwnH w N v l) : ∀ k, v.ownBlock = some k → N ≤ k ∧ k < w.heap.size := fun k hk => by
  rcases h.2 with ⟨rfl, _⟩ | ⟨g, cap, cur, rfl, hn, hh, _⟩
  · cases hk
  · have : g = k := by simpa [Value.ownBlock] using hk
    subst this
    exact ⟨hn, (Array.getElem?_eq_some_iff.1 hh).1⟩
end
theorem infoH : (Try.prog.info? 24).map (fun i => (i.zero, i.size, i.bytes)) = some (some (.agg #[.string ⟨#[]⟩, .string ⟨#[]⟩]), 2, 32) := by kernel_rfl
/-- holds behind holds of the call's own. -/
theorem run_appH {w : World} (ty : TypeId) {N : Nat} {v : Value} {l m : List R} (hown : OwnH w N v l) {B : Nat} {A : Option Addr} {n c : Nat} (hr : Prs w B A (cvR m)) (hm : m.length = n) (h63 : l.length + n ≤ 1000000000) (hN : N ≤ w.heap.size) :
    ∃ v' w', (Builtin.append_ #[22, 22] ty #[v, .slice A n c]).run Try.prog w = .ok v' w' ∧ OwnH w' N v' (l ++ m) ∧ w.grownBy w' v.ownBlock := by
  obtain ⟨i, hi, hz, h0, h1⟩ := info_parts infoH
  subst hm
  rcases A with _ | ad
  · have hn : m = [] := by
      rcases hr with h | ⟨g, o, e, _⟩
      · exact List.eq_nil_of_length_eq_zero (by rw [← hv_length, h]; rfl)
      · cases e
    subst hn
    refine ⟨v, w, ?_, by rw [List.append_nil]; exact hown, ⟨rfl, rfl, rfl, Nat.le_refl _, fun _ _ _ => rfl⟩⟩
    rcases hown.2 with ⟨rfl, hq⟩ | ⟨g, cap, cur, rfl, _, _, hnc, _⟩
    · simp [Builtin.append_, run_underlying Try.underlying22, sizeOf, typeInfo, hi, Builtin.lenOf, Builtin.firstCells]
    · simp [Builtin.append_, run_underlying Try.underlying22, sizeOf, typeInfo, hi, Builtin.lenOf, Builtin.firstCells, hnc, storeCells]
  · have hcells : ∀ j u, (pc (cvR m))[j]? = some u → w.cell? (ad.add j) = some u := fun j u hj => by
      rcases hr with h | ⟨g, o, e, _, hrg⟩
      · rw [h] at hj; simp [pc] at hj
      · injection e with e
        subst e
        rw [Addr.add_mid]
        exact hrg j u hj
    obtain ⟨v', w', hrun, h2, h3, _⟩ := run_append_own_at (P := Try.prog) w N 22 ty 24 i _ 2 32 Try.underlying22 hi hz h0 h1 rfl (by omega) v l.length (pc (cvR l)) hown ad m.length c (pc (cvR m)) (by rw [pc_length, hv_length]) hcells hv_one (by unfold maxLen; omega)
      (Nat.le_trans (Nat.mul_le_mul h63 (Nat.le_refl 32)) (by decide)) hN
    refine ⟨v', w', hrun, ?_, h3⟩
    unfold OwnH
    rw [List.length_append, hv_append, pc_append]
    exact h2
theorem stepH {w : World} {ops : Array Oper} {o : Oper} {a : Act} {K : Act → World → Prop} {Q : Exit → Act → World → Prop} {E : Prop} (s x : Operand)
    (ho : o.op = .call { callee := .builtin .append, args := #[s, x], argTypes := #[22, 22] }) (hgd : o.guard = none)
    {N : Nat} {v : Value} {l m : List R} (hs : a.eval s = v) (hown : OwnH w N v l)
    {B : Nat} {A : Option Addr} {n c : Nat} (hx : a.eval x = .slice A n c) (hr : Prs w B A (cvR m)) (hm : m.length = n) (h63 : l.length + n ≤ 1000000000) (hN : N ≤ w.heap.size)
    (h : ∀ v' w', OwnH w' N v' (l ++ m) → w.grownBy w' v.ownBlock → K (a.put o.dst v') w') : if Region.wanted o (yielded ops a.tmps) = true then Oper.wp Try.prog o a w K Q else E := by
  have hw : Region.wanted o (yielded ops a.tmps) = true := by simp [Region.wanted, hgd]
  rw [if_pos hw]
  obtain ⟨v', w', hrun, h2, h3⟩ := run_appH o.type hown hr hm h63 hN (c := c)
  unfold Oper.wp execOp
  simp only [ho, resolve, invoke, builtin, Sem.run_bind, Sem.run_pure, Result.andThen_ok, List.map_toArray, List.map_cons, List.map_nil, hs, hx, hrun]
  exact h v' w' h2 h3
theorem lappH {w : World} {ops : Array Oper} {rest : List Oper} {o : Oper} {a : Act} {Q : Exit → Act → World → Prop} (s x : Operand)
    (ho : o.op = .call { callee := .builtin .append, args := #[s, x], argTypes := #[22, 22] }) (hgd : o.guard = none)
    {N : Nat} {v : Value} {l m : List R} (hs : a.eval s = v) (hown : OwnH w N v l)
    {B : Nat} {A : Option Addr} {n c : Nat} (hx : a.eval x = .slice A n c) (hr : Prs w B A (cvR m)) (hm : m.length = n) (h63 : l.length + n ≤ 1000000000) (hN : N ≤ w.heap.size)
    (h : ∀ v' w', OwnH w' N v' (l ++ m) → w.grownBy w' v.ownBlock → wpList Try.prog ops Q rest (a.put o.dst v') w') : wpList Try.prog ops Q (o :: rest) a w := by
  refine wpList_plain hgd fun _ hK => ?_
  obtain ⟨v', w', hrun, h2, h3⟩ := run_appH o.type hown hr hm h63 hN (c := c)
  unfold Oper.wp execOp
  simp only [ho, resolve, invoke, builtin, Sem.run_bind, Sem.run_pure, Result.andThen_ok, List.map_toArray, List.map_cons, List.map_nil, hs, hx, hrun]
  exact hK _ _ (h v' w' h2 h3)
/-- a slice of one hold that was just made. -/
theorem prs_one (w : World) (r : R) : Prs (w.alloc (.cells #[.string (str r.1), .string (str r.2)] 24)) (w.heap.size + 1) (some ⟨w.heap.size, 0, none⟩) (cvR [r]) :=
  .inr ⟨w.heap.size, 0, rfl, Nat.lt_succ_self _, fun j v hj => by
    have hj2 : j < 2 := (List.getElem?_eq_some_iff.1 hj).1
    have hq := BlkIs.new w 24 #[.string (str r.1), .string (str r.2)]
    rcases (by omega : j = 0 ∨ j = 1) with rfl | rfl
    · exact (hq.cell 0).trans hj
    · exact (hq.cell 1).trans hj⟩
theorem holds_of {w : World} {B : Nat} {A : Option Addr} {l : List R} (h : Prs w B A (cvR l)) : ∀ k, k < l.length → ∃ (g o : Nat), A = some ⟨g, o, none⟩ ∧ g < B ∧ ∀ X, Below B w X → X.cell? ⟨g, o + k * 2, none⟩ = some (.string (str (l.getD k r0).1)) ∧ X.cell? ⟨g, o + k * 2 + 1, none⟩ = some (.string (str (l.getD k r0).2)) := fun _ hk => h.els (cvR_get hk)
end Ho
end Go.Proofs.Ytamjellnmlgbeaa
