/- HoRow HoTx HoFind HoUnfit PaParse PaRParse. Conditions: as stated at each. -/
import Derived.Test.YteapnkedpmcokaaGreatDoorRm37
import Derived.Test.YteapnkedpmcokaaGreatDoorRm06
import Derived.Test.YteapnkedpmcokaaGreatDoorRm07
import Derived.Test.YteapnkedpmcokaaGreatDoorRm18
import Derived.Deep.RegionHeld3
import Derived.Deep.DeepAppendRoom
import Derived.Test.YteapnkedpmcokaaGreatDoorRm29
import Derived.Test.YteapnkedpmcokaaGreatDoorRm19
/- Rows of holds in memory: rows of the call's own, one more, many more. Conditions: none. -/
namespace Go.Proofs.YteapnkedpmcokaaGreatDoor
set_option maxRecDepth 100000
namespace Ho
open Go.RowKit Go Go.Proofs.YteapnkedpmcokaaGreatDoor.Pa Go.Proofs.YteapnkedpmcokaaGreatDoor.Rt
theorem pc_append (a b : List (Value × Value)) : pc (a ++ b) = pc a ++ pc b := by simp [pc]
theorem pc_take (xs : List (Value × Value)) (k : Nat) : pc (xs.take k) = (pc xs).take (k * 2) := by
  rcases Nat.le_total k xs.length with h | h
  · have e : pc xs = pc (xs.take k) ++ pc (xs.drop k) := by rw [← pc_append, List.take_append_drop]
    rw [e, show k * 2 = (pc (xs.take k)).length by rw [pc_length, List.length_take, Nat.min_eq_left h], List.take_left]
  · rw [List.take_of_length_le h, List.take_of_length_le (by rw [pc_length]; omega)]
theorem hv_length (l : List R) : (cvR l).length = l.length := by simp [cvR]
theorem hv_append (a b : List R) : cvR (a ++ b) = cvR a ++ cvR b := by simp [cvR]
theorem hv_take (l : List R) (k : Nat) : cvR (l.take k) = (cvR l).take k := by simp [cvR]
theorem hv_drop (l : List R) (k : Nat) : cvR (l.drop k) = (cvR l).drop k := by simp [cvR]
theorem hv_one {l : List R} : ∀ u ∈ pc (cvR l), u.oneCell' = true := by
  intro u hu
  unfold pc at hu
  obtain ⟨p, hp, hq⟩ := List.mem_flatMap.1 hu
  obtain ⟨r, _, rfl⟩ := List.mem_map.1 hp
  rcases List.mem_cons.1 hq with rfl | hq
  · rfl
  · rw [List.mem_singleton.1 hq]; rfl
theorem own_slice2 {w : World} {N n sz : Nat} {e : TypeId} {v : Value} {xs : List Value} (h : w.ownsRow N e sz v n xs) : ∃ A c, v = .slice A n c ∧ n ≤ c ∧ c ≤ maxLen := by
  rcases h.2 with ⟨rfl, rfl⟩ | ⟨g, cap, cur, rfl, _, _, h1, h2, _⟩
  · exact ⟨none, 0, rfl, Nat.le_refl _, Nat.zero_le _⟩
  · exact ⟨_, _, rfl, h1, h2⟩
theorem own_kept2 {w w' : World} {N B n sz : Nat} {e : TypeId} {v : Value} {xs : List Value} (h : w.ownsRow N e sz v n xs) (hb : Below B w w') (hB : w.heap.size ≤ B) : w'.ownsRow N e sz v n xs := by
  refine ⟨h.1, ?_⟩
  rcases h.2 with hn | ⟨g, cap, cur, rfl, hn, hh, rest⟩
  · exact .inl hn
  · refine .inr ⟨g, cap, cur, rfl, hn, ?_, rest⟩
    rw [hb.block g (Nat.lt_of_lt_of_le (Array.getElem?_eq_some_iff.1 hh).1 hB)]
    exact hh
theorem own_more2 {w : World} {N M n sz : Nat} {e : TypeId} {v : Value} {xs : List Value} (h : w.ownsRow N e sz v n xs) (hM : M ≤ N) : w.ownsRow M e sz v n xs := by
  refine ⟨h.1, ?_⟩
  rcases h.2 with hn | ⟨g, cap, cur, rfl, hn, rest⟩
  · exact .inl hn
  · exact .inr ⟨g, cap, cur, rfl, by omega, rest⟩
theorem own_range {w : World} {N n sz c : Nat} {A : Option Addr} {e : TypeId} {xs : List Value} (h : w.ownsRow N e sz (.slice A n c) n xs) (hne : xs ≠ []) : ∃ g, A = some ⟨g, 0, none⟩ ∧ N ≤ g ∧ g < w.heap.size ∧ w.rangeAt g 0 xs ∧ ∀ j, w.frozen? ⟨g, j, none⟩ = false := by
  rcases h.2 with ⟨_, h0⟩ | ⟨g, cap, cur, hv, hn, hh, h1, h2, h3, h4⟩
  · have := h.1
    rw [h0, Nat.zero_mul] at this
    exact absurd (List.eq_nil_of_length_eq_zero this) hne
  · injection hv with hv1 _ _
    refine ⟨g, hv1, hn, (Array.getElem?_eq_some_iff.1 hh).1, fun j v hj => ?_, fun j => by simp [World.frozen?, hh]⟩
    rw [Nat.zero_add, cell_of_row w g j cur e (0, 0) hh, ← Array.getElem?_toList]
    have hlt : j < n * sz := by
      have := (List.getElem?_eq_some_iff.1 hj).1
      rw [h.1] at this
      exact this
    rw [← h4, List.getElem?_take_of_lt hlt] at hj
    exact hj
/-- a row of holds of the call's own. -/
def OwnH (w : World) (N : Nat) (v : Value) (l : List R) : Prop := w.ownsRow N 34 2 v l.length (pc (cvR l))
section
variable {w w' : World} {N M : Nat} {v : Value} {l : List R}
theorem OwnH.nil (w : World) (N : Nat) : OwnH w N (.slice none 0 0) [] := World.ownsRow_nil w N 34 2
theorem OwnH.slice (h : OwnH w N v l) : ∃ A c, v = .slice A l.length c ∧ l.length ≤ c ∧ c ≤ maxLen := own_slice2 h
theorem OwnH.below (h : OwnH w N v l) (hb : Below w.heap.size w w') : OwnH w' N v l := own_kept2 h hb (Nat.le_refl _)
theorem OwnH.more (h : OwnH w N v l) (hM : M ≤ N) : OwnH w M v l := own_more2 h hM
theorem OwnH.prs {A : Option Addr} {n c : Nat} (h : OwnH w N (.slice A n c) l) : Prs w w.heap.size A (cvR l) := by
  rcases Decidable.em (l = []) with h0 | h0
  · exact .inl (by rw [h0]; rfl)
  · obtain ⟨A', c', e, _⟩ := h.slice
    injection e with e1 e2 e3
    subst e1; subst e2; subst e3
    obtain ⟨g, rfl, _, hlt, hr, _⟩ := own_range h (by
      intro e
      have := congrArg List.length e
      rw [pc_length, hv_length, List.length_nil] at this
      exact h0 (List.eq_nil_of_length_eq_zero (by omega)))
    exact .inr ⟨g, 0, rfl, hlt, hr⟩
theorem OwnH.low (h : OwnH w N v l) : ∀ k, v.ownBlock = some k → N ≤ k ∧ k < w.heap.size := fun k hk => by
  rcases h.2 with ⟨rfl, _⟩ | ⟨g, cap, cur, rfl, hn, hh, _⟩
  · cases hk
  · have : g = k := by simpa [Value.ownBlock] using hk
    subst this
    exact ⟨hn, (Array.getElem?_eq_some_iff.1 hh).1⟩
end
theorem infoH : (Tryz.prog.info? 34).map (fun i => (i.zero, i.size, i.bytes)) = some (some (.agg #[.string ⟨#[]⟩, .string ⟨#[]⟩]), 2, 32) := by kernel_rfl
/-- holds behind holds of the call's own. -/
theorem run_appH {w : World} (ty : TypeId) {N : Nat} {v : Value} {l m : List R} (hown : OwnH w N v l) {B : Nat} {A : Option Addr} {n c : Nat} (hr : Prs w B A (cvR m)) (hm : m.length = n) (h63 : l.length + n ≤ 1000000000) (hN : N ≤ w.heap.size) :
    ∃ v' w', (Builtin.append_ #[149, 149] ty #[v, .slice A n c]).run Tryz.prog w = .ok v' w' ∧ OwnH w' N v' (l ++ m) ∧ w.grownBy w' v.ownBlock := by
  obtain ⟨i, hi, hz, h0, h1⟩ := info_parts infoH
  subst hm
  rcases A with _ | ad
  · have hn : m = [] := by
      rcases hr with h | ⟨g, o, e, _⟩
      · exact List.eq_nil_of_length_eq_zero (by rw [← hv_length, h]; rfl)
      · cases e
    subst hn
    refine ⟨v, w, ?_, by rw [List.append_nil]; exact hown, ⟨rfl, rfl, rfl, Nat.le_refl _, fun _ _ _ => rfl⟩⟩
    rcases hown.2 with ⟨rfl, hq⟩ | ⟨g, cap, cur, rfl, _, _, hnc, _⟩
    · simp [Builtin.append_, run_underlying Tryz.underlying149, sizeOf, typeInfo, hi, Builtin.lenOf, Builtin.firstCells]
    · simp [Builtin.append_, run_underlying Tryz.underlying149, sizeOf, typeInfo, hi, Builtin.lenOf, Builtin.firstCells, hnc, storeCells]
  · have hcells : ∀ j u, (pc (cvR m))[j]? = some u → w.cell? (ad.add j) = some u := fun j u hj => by
      rcases hr with h | ⟨g, o, e, _, hrg⟩
      · rw [h] at hj; simp [pc] at hj
      · injection e with e
        subst e
        rw [Addr.add_mid]
        exact hrg j u hj
    obtain ⟨v', w', hrun, h2, h3, _⟩ := run_append_own_at (P := Tryz.prog) w N 149 ty 34 i _ 2 32 Tryz.underlying149 hi hz h0 h1 rfl (by omega) v l.length (pc (cvR l)) hown ad m.length c (pc (cvR m)) (by rw [pc_length, hv_length]) hcells hv_one (by unfold maxLen; omega)
      (Nat.le_trans (Nat.mul_le_mul h63 (Nat.le_refl 32)) (by decide)) hN
    refine ⟨v', w', hrun, ?_, h3⟩
    unfold OwnH
    rw [List.length_append, hv_append, pc_append]
    exact h2
theorem stepH {w : World} {ops : Array Oper} {o : Oper} {a : Act} {K : Act → World → Prop} {Q : Exit → Act → World → Prop} {E : Prop} (s x : Operand)
    (ho : o.op = .call { callee := .builtin .append, args := #[s, x], argTypes := #[149, 149] }) (hgd : o.guard = none)
    {N : Nat} {v : Value} {l m : List R} (hs : a.eval s = v) (hown : OwnH w N v l)
    {B : Nat} {A : Option Addr} {n c : Nat} (hx : a.eval x = .slice A n c) (hr : Prs w B A (cvR m)) (hm : m.length = n) (h63 : l.length + n ≤ 1000000000) (hN : N ≤ w.heap.size)
    (h : ∀ v' w', OwnH w' N v' (l ++ m) → w.grownBy w' v.ownBlock → K (a.put o.dst v') w') : if Region.wanted o (yielded ops a.tmps) = true then Oper.wp Tryz.prog o a w K Q else E := by
  have hw : Region.wanted o (yielded ops a.tmps) = true := by simp [Region.wanted, hgd]
  rw [if_pos hw]
  obtain ⟨v', w', hrun, h2, h3⟩ := run_appH o.type hown hr hm h63 hN (c := c)
  unfold Oper.wp execOp
  simp only [ho, resolve, invoke, builtin, Sem.run_bind, Sem.run_pure, Result.andThen_ok, List.map_toArray, List.map_cons, List.map_nil, hs, hx, hrun]
  exact h v' w' h2 h3
theorem lappH {w : World} {ops : Array Oper} {rest : List Oper} {o : Oper} {a : Act} {Q : Exit → Act → World → Prop} (s x : Operand)
    (ho : o.op = .call { callee := .builtin .append, args := #[s, x], argTypes := #[149, 149] }) (hgd : o.guard = none)
    {N : Nat} {v : Value} {l m : List R} (hs : a.eval s = v) (hown : OwnH w N v l)
    {B : Nat} {A : Option Addr} {n c : Nat} (hx : a.eval x = .slice A n c) (hr : Prs w B A (cvR m)) (hm : m.length = n) (h63 : l.length + n ≤ 1000000000) (hN : N ≤ w.heap.size)
    (h : ∀ v' w', OwnH w' N v' (l ++ m) → w.grownBy w' v.ownBlock → wpList Tryz.prog ops Q rest (a.put o.dst v') w') : wpList Tryz.prog ops Q (o :: rest) a w := by
  refine wpList_plain hgd fun _ hK => ?_
  obtain ⟨v', w', hrun, h2, h3⟩ := run_appH o.type hown hr hm h63 hN (c := c)
  unfold Oper.wp execOp
  simp only [ho, resolve, invoke, builtin, Sem.run_bind, Sem.run_pure, Result.andThen_ok, List.map_toArray, List.map_cons, List.map_nil, hs, hx, hrun]
  exact hK _ _ (h v' w' h2 h3)
/-- a slice of one hold that was just made. -/
theorem prs_one (w : World) (r : R) : Prs (w.alloc (.cells #[.string (str r.1), .string (str r.2)] 34)) (w.heap.size + 1) (some ⟨w.heap.size, 0, none⟩) (cvR [r]) :=
  .inr ⟨w.heap.size, 0, rfl, Nat.lt_succ_self _, fun j v hj => by
    have hj2 : j < 2 := (List.getElem?_eq_some_iff.1 hj).1
    have hq := BlkIs.new w 34 #[.string (str r.1), .string (str r.2)]
    rcases (by omega : j = 0 ∨ j = 1) with rfl | rfl
    · exact (hq.cell 0).trans hj
    · exact (hq.cell 1).trans hj⟩
theorem holds_of {w : World} {B : Nat} {A : Option Addr} {l : List R} (h : Prs w B A (cvR l)) : ∀ k, k < l.length → ∃ (g o : Nat), A = some ⟨g, o, none⟩ ∧ g < B ∧ ∀ X, Below B w X → X.cell? ⟨g, o + k * 2, none⟩ = some (.string (str (l.getD k r0).1)) ∧ X.cell? ⟨g, o + k * 2 + 1, none⟩ = some (.string (str (l.getD k r0).2)) := fun _ hk => h.els (cvR_get hk)
end Ho
end Go.Proofs.YteapnkedpmcokaaGreatDoor
/- Texts and envelopes in memory; rows of texts of the call's own. Conditions: none. -/
namespace Go.Proofs.YteapnkedpmcokaaGreatDoor
set_option maxRecDepth 100000
namespace Ho
open Go.RowKit Go Go.Proofs.YteapnkedpmcokaaGreatDoor.Pa Go.Proofs.YteapnkedpmcokaaGreatDoor.Rt
theorem tx_add0 (a : Addr) : a.add 0 = a := by simp [Addr.add]
theorem tx_addn (g o k : Nat) : (⟨g, o, none⟩ : Addr).add k = ⟨g, o + k, none⟩ := by
  unfold Addr.add
  split
  · next e => subst e; rfl
  · rfl
/-- a slice of these texts. -/
def Tx (w : World) (B : Nat) (A : Option Addr) (ps : List L) : Prop := Cs w B A (tv ps)
theorem Tx.below {w w' : World} {B : Nat} {A : Option Addr} {ps : List L} (h : Tx w B A ps) (hb : Below B w w') : Tx w' B A ps := Cs.below h hb
theorem Tx.more {w : World} {B B' : Nat} {A : Option Addr} {ps : List L} (h : Tx w B A ps) (hB : B ≤ B') : Tx w B' A ps := Cs.more h hB
theorem tv_get (ps : List L) (k : Nat) (h : k < ps.length) : (tv ps)[k]? = some (.string (str (ps.getD k []))) := by
  simp [tv, List.getD, h]
theorem Tx.els {w : World} {B : Nat} {A : Option Addr} {ps : List L} (h : Tx w B A ps) : ∀ k, k < ps.length → ∃ g o, A = some ⟨g, o, none⟩ ∧ g < B ∧ ∀ X, Below B w X → X.cell? ⟨g, o + k, none⟩ = some (.string (str (ps.getD k []))) := fun k hk => by
  obtain ⟨ad0, e0, hb0, hc0⟩ := h 0 _ (tv_get ps 0 (by omega))
  rw [tx_add0] at hc0
  have hsp := World.cell?_spot hc0
  obtain ⟨g, o, sp⟩ := ad0
  obtain rfl : sp = none := hsp
  refine ⟨g, o, e0, hb0, fun X hX => ?_⟩
  obtain ⟨ad, e, hb, hc⟩ := h k _ (tv_get ps k hk)
  rw [e0] at e
  injection e with e
  subst e
  rw [tx_addn] at hc
  exact (hX.cell (p := ⟨g, o + k, none⟩) hb).trans hc
/-- an envelope: from, to, when. -/
abbrev Env := L × List L × Int
def EnvAt (w : World) (B : Nat) (x : Value) (e : Env) : Prop := ∃ A c, x = .agg #[.string (str e.1), .slice A e.2.1.length c, .int .i64 e.2.2] ∧ Tx w B A e.2.1
def OkE (e : Env) : Prop := e.1.length ≤ 140737488355328 ∧ ∀ k, (e.2.1.getD k []).length ≤ 140737488355328
/-- a row of texts of the call's own. -/
def OwnT (w : World) (N : Nat) (v : Value) (ls : List L) : Prop := w.ownsRow N 9 1 v ls.length (tv ls)
theorem tv_append (a b : List L) : tv (a ++ b) = tv a ++ tv b := by simp [tv]
theorem OwnT.nil (w : World) (N : Nat) : OwnT w N (.slice none 0 0) [] := World.ownsRow_nil w N 9 1
theorem OwnT.tx {w : World} {N n c : Nat} {A : Option Addr} {ps : List L} (h : OwnT w N (.slice A n c) ps) : Tx w w.heap.size A ps := by
  obtain ⟨A', c', e, _, _⟩ := own_slice h
  injection e with e1 e2 e3
  subst e1; subst e2; subst e3
  exact Cs.of_own h
theorem OwnT.slice {w : World} {N : Nat} {v : Value} {ps : List L} (h : OwnT w N v ps) : ∃ A c, v = .slice A ps.length c ∧ ps.length ≤ c ∧ c ≤ maxLen := own_slice h
theorem OwnT.below {w w' : World} {N : Nat} {v : Value} {ps : List L} (h : OwnT w N v ps) (hb : Below w.heap.size w w') : OwnT w' N v ps := own_kept h hb (Nat.le_refl _)
theorem OwnT.more {w : World} {N M : Nat} {v : Value} {ps : List L} (h : OwnT w N v ps) (hM : M ≤ N) : OwnT w M v ps := own_more h hM
theorem OwnT.low {X : World} {N : Nat} {v : Value} {ls : List L} (h : OwnT X N v ls) : ∀ k, v.ownBlock = some k → N ≤ k := fun k hk => (h.lt k hk).1
theorem tx_lit (w : World) (C : Array Value) (ps : List L) (h : C.toList = tv ps) (fr : Nat × Nat) : Tx (w.alloc (.cells C 9 fr)) (w.heap.size + 1) (some ⟨w.heap.size, 0, none⟩) ps := fun j u hj => by
  refine ⟨_, rfl, Nat.lt_succ_self _, ?_⟩
  rw [tx_addn, Nat.zero_add, cell_of_row _ w.heap.size j C _ fr (heap_alloc_new w _), ← Array.getElem?_toList, h]
  exact hj
/-- the same in a plain list of operations. -/
theorem lappTx {w : World} {ops : Array Oper} {rest : List Oper} {o : Oper} {a : Act} {Q : Exit → Act → World → Prop} (s x : Operand)
    (ho : o.op = .call { callee := .builtin .append, args := #[s, x], argTypes := #[22, 22] }) (hgd : o.guard = none)
    {N : Nat} {v : Value} {ps qs : List L} (hs : a.eval s = v) (hown : OwnT w N v ps)
    {B : Nat} {A : Option Addr} {m c : Nat} (hx : a.eval x = .slice A m c) (hr : Tx w B A qs) (hm : qs.length = m) (h63 : ps.length + m ≤ 1000000000) (hN : N ≤ w.heap.size)
    (h : ∀ v' w', OwnT w' N v' (ps ++ qs) → w.grownBy w' v.ownBlock → wpList Tryz.prog ops Q rest (a.put o.dst v') w') : wpList Tryz.prog ops Q (o :: rest) a w := by
  obtain ⟨i, hi, hz, h0, h1⟩ := info_parts info9
  refine wpList_plain hgd fun _ hK => wp_app s x ho Tryz.underlying22 hi hz h0 h1 rfl hs hown hx hr (by rw [tv_length]; exact hm) (tv_one qs) h63 (by decide) hN fun v' w' h2 h3 => hK _ _ (h v' w' ?_ h3)
  unfold OwnT
  rw [List.length_append, hm, tv_append]
  exact h2
end Ho
end Go.Proofs.YteapnkedpmcokaaGreatDoor
/- The first hold of a name: find, its closure, slices.IndexFunc over holds. Conditions: as stated at each. -/
namespace Go.Proofs.YteapnkedpmcokaaGreatDoor
set_option maxRecDepth 100000
namespace Ho
open Go.RowKit Go Go.Proofs.YteapnkedpmcokaaGreatDoor.Pa Go.Proofs.YteapnkedpmcokaaGreatDoor.Rt
theorem below_b (w : World) (o : Obj) : Below w.heap.size w (w.alloc o) := (Below.refl _ w).alloc (Nat.le_refl _) _
theorem beq_st {a b : L} : ((str a).toList == (str b).toList) = (a == b) := by
  rw [Go.Lib.toList_data, Go.Lib.toList_data]; simp [str]
/-- all texts of a list of holds have sizes that may be. -/
def OkH (l : List R) : Prop := ∀ r ∈ l, r.1.length ≤ 140737488355328 ∧ r.2.length ≤ 140737488355328
theorem OkH.at_ {l : List R} (h : OkH l) (k : Nat) : (l.getD k r0).1.length ≤ 140737488355328 ∧ (l.getD k r0).2.length ≤ 140737488355328 := by
  rcases Nat.lt_or_ge k l.length with hk | hk
  · exact h _ (by simp [List.getD, hk])
  · rw [show l.getD k r0 = r0 by simp [List.getD, List.getElem?_eq_none hk]]
    exact ⟨by simp [r0], by simp [r0]⟩
/-- where the first hold of that name stands. -/
def FirstP (l : List R) (nm : L) (z : Int) : Prop := (z = -1 ∧ hasN l nm = false) ∨ ∃ k : Nat, z = k ∧ k < l.length ∧ hasN l nm = true ∧ liftL l nm = l.take k ++ l.drop (k + 1)
theorem first_no {l : List R} {nm : L} (h : ∀ j, j < l.length → ((l.getD j r0).1 == nm) = false) : FirstP l nm (-1) := .inl ⟨rfl, has_miss h⟩
theorem first_yes {l : List R} {nm : L} {k : Nat} (h : ∀ j, j < k → ((l.getD j r0).1 == nm) = false) (hk : k < l.length) (hq : ((l.getD k r0).1 == nm) = true) : FirstP l nm k := by
  obtain ⟨h1, h2⟩ := lift_at h hk hq
  exact .inr ⟨k, rfl, hk, h1, h2⟩
set_option maxHeartbeats 800000 in
theorem named_any {w : World} {K : Nat} {nm : L} (hK : BlkIs w K 9 #[.string (str nm)]) (r : R) :
    Calls Tryz.prog 131 #[.agg #[.string (str r.1), .string (str r.2)], .pointer (some ⟨K, 0, none⟩)] w fun e w' => e = .returned (.bool (r.1 == nm)) ∧ Below w.heap.size w w' := by
  have hb := below_b w (.cells #[.string (str r.1), .string (str r.2)] 34)
  have hk := (BlkIs.cell ((hb.block _ hK.lt).trans hK) 0).trans (rfl : _ = some (Value.string (str nm)))
  have hKl := hK.lt
  have HQ := Lib.hid (beq_st (a := r.1) (b := nm))
  clear hK
  generalize str r.1 = s0 at *
  generalize str r.2 = s1 at *
  generalize str nm = t at *
  generalize (r.1 == nm) = q at *
  go_enter Tryz.func131, Tryz.ntmps131
  go_wp2_with fail
  go_ret
  exact ⟨ret_bool HQ.out, hb⟩
def FindP (w : World) (l : List R) (nm : L) (e : Ending) (w' : World) : Prop := ∃ z : Int, e = .returned (.int .i64 z) ∧ FirstP l nm z ∧ Below w.heap.size w w'
set_option maxHeartbeats 1600000 in
theorem indexH_any {w : World} {B K : Nat} {A : Option Addr} {l : List R} {nm : L} (h : Prs w B A (cvR l)) (hB : B ≤ w.heap.size) (n c : Nat) (hn : l.length = n) (hn1 : n ≤ 1000) (hK : BlkIs w K 9 #[.string (str nm)]) :
    Calls Tryz.prog 130 #[.slice A n c, .func (.func 131) #[] #[.pointer (some ⟨K, 0, none⟩)]] w (FindP w l nm) := by
  have HEL := Lib.hid (holds_of h)
  have HN := Lib.hid hn
  have HU := Lib.hid (fun k X (hX : Below w.heap.size w X) => named_any ((hX.block _ hK.lt).trans hK) (l.getD k r0))
  clear h hn hK
  go_enter Tryz.func130, Tryz.ntmps130
  go_wp2_with fail
  go_loopw [5, 8] (fun _ i wr => ∃ k : Nat, k ≤ n ∧ i = .int .i64 k ∧ (∀ j, j < k → ((l.getD j r0).1 == nm) = false) ∧ Below w.heap.size w wr) (fun _ i _ => n - (intOf i).toNat)
  case atStart => exact ⟨0, Nat.zero_le _, rfl, fun j hj => absurd hj (Nat.not_lt_zero _), Below.refl _ _⟩
  case round =>
    obtain ⟨k, hk, rfl, hno, hbel⟩ := hrel
    by_cases hlt : k < n
    · obtain ⟨g, o, rfl, hg, hall⟩ := HEL.out k (by rw [HN.out]; exact hlt)
      obtain ⟨y0, y1⟩ := hall wr (hbel.mono hB)
      have HC := Lib.hid (HU.out k wr hbel)
      have HB := Lib.hid hbel
      cases hq : ((l.getD k r0).1 == nm) with
      | true =>
        have HF := Lib.hid (first_yes hno (by rw [HN.out]; exact hlt) hq)
        rw [hq] at HC
        clear hall hbel hno hq HU HEL
        generalize str (l.getD k r0).1 = s0 at *
        generalize str (l.getD k r0).2 = v0 at *
        go_wp2_with (first
          | (go_at_call 131; refine HC.out.mono ?_; rintro e w1 ⟨rfl, hb1⟩)
          | fail)
        go_ret
        exact ⟨k, rfl, HF.out, HB.out.trans (hb1.mono HB.out.size)⟩
      | false =>
        have HNO : Hid (∀ j, j < k + 1 → ((l.getD j r0).1 == nm) = false) := Lib.hid fun j hj => by
          rcases Nat.lt_or_ge j k with h | h
          · exact hno j h
          · obtain rfl : j = k := by omega
            exact hq
        rw [hq] at HC
        clear hall hbel hno hq HU HEL
        generalize str (l.getD k r0).1 = s0 at *
        generalize str (l.getD k r0).2 = v0 at *
        go_wp2_with (first
          | (go_at_call 131; refine HC.out.mono ?_; rintro e w1 ⟨rfl, hb1⟩)
          | fail)
        go_roundw
        case rel => exact ⟨k + 1, by omega, by go_num, HNO.out, HB.out.trans (hb1.mono HB.out.size)⟩
        case measure => simp [intOf]; omega
    · have hkn : k = n := by omega
      have HF := Lib.hid (first_no (l := l) (nm := nm) (fun j hj => hno j (by rw [hkn, ← HN.out]; exact hj)))
      have HB := Lib.hid hbel
      clear hno hbel
      go_wp2_with fail
      go_ret
      exact ⟨-1, rfl, HF.out, HB.out⟩
set_option maxHeartbeats 800000 in
theorem find_any {w : World} {B : Nat} {A : Option Addr} {l : List R} (nm : L) (h : Prs w B A (cvR l)) (hB : B ≤ w.heap.size) (n c : Nat) (hn : l.length = n) (hn1 : n ≤ 1000) :
    Calls Tryz.prog 121 #[.slice A n c, .string (str nm)] w (FindP w l nm) := by
  have hb := below_b w (.cells #[.string (str nm)] 9)
  have HI := Lib.hid (indexH_any (h.below (hb.mono hB)) (Nat.le_trans hB hb.size) n c hn hn1 (BlkIs.new w 9 #[.string (str nm)]))
  have HB := Lib.hid hb
  clear h hn hn1 hb hB
  unfold FindP at HI
  generalize str nm = t at *
  go_enter Tryz.func121, Tryz.ntmps121
  go_wp2_with fail
  generalize w.alloc (.cells #[.string t] 9) = w1 at *
  refine HI.out.mono ?_
  rintro e w2 ⟨z, rfl, hz, hb2⟩
  have HZ := Lib.hid hz
  clear hz
  go_wp2_with fail
  go_ret
  exact ⟨z, rfl, HZ.out, HB.out.trans (hb2.mono HB.out.size)⟩
end Ho
end Go.Proofs.YteapnkedpmcokaaGreatDoor
/- Whether a hold's name fits: unfit, slices.ContainsFunc over bytes. Conditions: as stated at each. -/
namespace Go.Proofs.YteapnkedpmcokaaGreatDoor
set_option maxRecDepth 100000
namespace Ho
open Go.RowKit Go Go.Proofs.YteapnkedpmcokaaGreatDoor.Pa Go.Proofs.YteapnkedpmcokaaGreatDoor.Rt
theorem nm_45 {c : UInt8} (h : c.toNat = 45) : nmB c = true := by
  unfold nmB
  rw [decide_eq_true h, Bool.or_true]
theorem nm_no {c : UInt8} (h : c.toNat ≠ 45) : (!nmB c) = (!letB c || !(((lowB c).toNat : Int) == (c.toNat : Int))) := by
  have hl := letB_num c
  have hs := lowB_num c
  unfold nmB
  rw [hl, hs, decide_eq_false h, Bool.or_false, Bool.eq_iff_iff]
  by_cases c1 : (65 : Int) ≤ c.toNat ∧ (c.toNat : Int) ≤ 90
  · rw [if_pos c1]
    simp only [Bool.not_eq_true', Bool.or_eq_true, Bool.or_eq_false_iff, decide_eq_false_iff_not, beq_eq_false_iff_ne]
    omega
  · rw [if_neg c1]
    simp only [Bool.not_eq_true', Bool.or_eq_true, Bool.or_eq_false_iff, decide_eq_false_iff_not, beq_eq_false_iff_ne]
    omega
set_option maxHeartbeats 800000 in
theorem unfit_any (c : UInt8) (w : World) :
    Calls Tryz.prog 128 #[.int .u8 (c.toNat : Int)] w fun e w' => e = .returned (.bool (!nmB c)) ∧ w = w' := by
  have HO := Lib.hid (orDigit_any c)
  have HS := Lib.hid (small_any c)
  by_cases h45 : c.toNat = 45
  · have HN := Lib.hid (nm_45 h45)
    rw [h45]
    clear h45 HO HS
    generalize nmB c = q at *
    go_enter Tryz.func128, Tryz.ntmps128
    go_wp2_with fail
    go_ret
    exact ⟨ret_bool (by rw [HN.out]; rfl), rfl⟩
  · have n45 : ¬ (c.toNat : Int) = 45 := by omega
    have HN := Lib.hid (nm_no h45)
    clear h45
    generalize nmB c = q at *
    generalize ((lowB c).toNat : Int) = m at *
    generalize (c.toNat : Int) = n at *
    cases hp : letB c with
    | false =>
      rw [hp] at HO HN
      clear hp
      go_enter Tryz.func128, Tryz.ntmps128
      go_wp2_with (first | (go_at_call 136; refine (HO.out _).mono ?_; rintro e w' ⟨rfl, rfl⟩) | fail)
      go_ret
      exact ⟨ret_bool (by rw [HN.out]; simp [n45]), rfl⟩
    | true =>
      rw [hp] at HO HN
      clear hp
      cases hm : (m == n) with
      | false =>
        rw [hm] at HN
        have hmn : ¬ m = n := by simpa using hm
        clear hm
        go_enter Tryz.func128, Tryz.ntmps128
        go_wp2_with (first | (go_at_call 136; refine (HO.out _).mono ?_; rintro e w' ⟨rfl, rfl⟩) | (go_at_call 137; refine (HS.out _).mono ?_; rintro e w' ⟨rfl, rfl⟩) | fail)
        go_ret
        exact ⟨ret_bool (by rw [HN.out]; simp [n45, hmn]), rfl⟩
      | true =>
        rw [hm] at HN
        obtain rfl : m = n := by simpa using hm
        clear hm
        go_enter Tryz.func128, Tryz.ntmps128
        go_wp2_with (first | (go_at_call 136; refine (HO.out _).mono ?_; rintro e w' ⟨rfl, rfl⟩) | (go_at_call 137; refine (HS.out _).mono ?_; rintro e w' ⟨rfl, rfl⟩) | fail)
        go_ret
        exact ⟨ret_bool (by rw [HN.out]; simp), rfl⟩
theorem anyN_step {l : List UInt8} {k : Nat} (h : k < l.length) : (l.take (k + 1)).all nmB = ((l.take k).all nmB && nmB (l.getD k 0)) := by
  rw [List.take_succ_eq_append_getElem h, List.all_append, List.getD, List.getElem?_eq_getElem h]
  simp
theorem anyN_no {l : List UInt8} {k : Nat} (h : k < l.length) (hu : nmB (l.getD k 0) = false) : l.all nmB = false := by
  rw [List.all_eq_false]
  exact ⟨l.getD k 0, by simp [List.getD, h], by rw [hu]; decide⟩
def NmP (w : World) (l : List UInt8) (e : Ending) (w' : World) : Prop := ∃ z : Int, e = .returned (.int .i64 z) ∧ decide (0 ≤ z) = !(l.all nmB) ∧ w' = w
set_option maxHeartbeats 1600000 in
theorem indexN_any {w : World} {B : Nat} {A : Option Addr} {l : List UInt8} (h : Bts w B A l) (n c : Nat) (hn : l.length = n) (hn1 : n ≤ 1000) :
    Calls Tryz.prog 135 #[.slice A n c, .func (.func 128) #[] #[]] w (NmP w l) := by
  have HEL := Lib.hid (fun k => h.at_ (k := k))
  have HN := Lib.hid hn
  have HU := Lib.hid (fun k X => unfit_any (l.getD k 0) X)
  clear h hn
  go_enter Tryz.func135, Tryz.ntmps135
  go_wp2_with fail
  go_loopw [5, 8] (fun _ i wr => ∃ k : Nat, k ≤ n ∧ i = .int .i64 k ∧ (l.take k).all nmB = true ∧ wr = w) (fun _ i _ => n - (intOf i).toNat)
  case atStart => exact ⟨0, Nat.zero_le _, rfl, rfl, rfl⟩
  case round =>
    obtain ⟨k, hk, rfl, hno, rfl⟩ := hrel
    by_cases hlt : k < n
    · obtain ⟨ad, rfl, hb, hc⟩ := HEL.out k (by rw [HN.out]; exact hlt)
      have HS := Lib.hid (anyN_step (l := l) (k := k) (by rw [HN.out]; exact hlt))
      have HH := Lib.hid (anyN_no (l := l) (k := k) (by rw [HN.out]; exact hlt))
      have HC := Lib.hid (HU.out k)
      have HNO := Lib.hid hno
      clear hno hb
      generalize hu : nmB (l.getD k 0) = u at *
      clear hu
      generalize ((l.getD k 0).toNat : Int) = v0 at *
      cases u with
      | false =>
        go_wp2_with (first
          | (go_at_call 128; refine (HC.out _).mono ?_; rintro e w1 ⟨rfl, rfl⟩)
          | fail)
        go_ret
        exact ⟨k, rfl, by rw [HH.out (by simp)]; exact decide_eq_true (by omega), rfl⟩
      | true =>
        rw [HNO.out] at HS
        go_wp2_with (first
          | (go_at_call 128; refine (HC.out _).mono ?_; rintro e w1 ⟨rfl, rfl⟩)
          | fail)
        go_roundw
        case rel => exact ⟨k + 1, by omega, by go_num, HS.out, trivial⟩
        case measure => simp [intOf]; omega
    · have hkn : k = n := by omega
      have HF : Hid (l.all nmB = true) := Lib.hid (by rw [← hno, hkn, ← HN.out, List.take_length])
      clear hno
      go_wp2_with fail
      go_ret
      exact ⟨-1, rfl, by rw [HF.out]; decide, rfl⟩
theorem containsN_any {w : World} {B : Nat} {A : Option Addr} {l : List UInt8} (h : Bts w B A l) (n c : Nat) (hn : l.length = n) (hn1 : n ≤ 1000) :
    Calls Tryz.prog 127 #[.slice A n c, .func (.func 128) #[] #[]] w fun e w' => e = .returned (.bool (!(l.all nmB))) ∧ w = w' := by
  have HI := Lib.hid (indexN_any h n c hn hn1)
  clear h hn hn1
  go_enter Tryz.func127, Tryz.ntmps127
  go_wp2_with (first
    | (refine HI.out.mono ?_; rintro e w1 ⟨z, rfl, hz, rfl⟩)
    | fail)
  go_ret
  exact ⟨rfl, rfl⟩
end Ho
end Go.Proofs.YteapnkedpmcokaaGreatDoor
/- path.Parse, Show, Of; the document's. Conditions: as stated at each. -/
namespace Go.Proofs.YteapnkedpmcokaaGreatDoor
set_option maxRecDepth 100000
namespace Pa
open Go.RowKit Go
theorem parse_is (l : List UInt8) : parseS l = if has 62 l && Go.Lib.hasPrefix (ahead 62 l) [60] && (((ahead 62 l).drop 1).isEmpty || mailS ((ahead 62 l).drop 1)) then ((ahead 62 l).drop 1, behind 62 l, true) else ([], l, false) := by
  unfold parseS Go.Lib.hasPrefix
  have e : (((ahead 62 l).drop 1) == []) = ((ahead 62 l).drop 1).isEmpty := by cases (ahead 62 l).drop 1 <;> rfl
  rw [e]
theorem trim_yes {a : List UInt8} (h : Go.Lib.hasPrefix a [60] = true) : Go.Lib.trimPrefix a [60] = a.drop 1 := by
  unfold Go.Lib.trimPrefix; rw [if_pos h]; rfl
theorem str_nil : str [] = ⟨#[]⟩ := rfl
theorem str_isEmpty (l : List UInt8) : (str l).toList.isEmpty = l.isEmpty := by rw [Go.Lib.toList_data, str_data]
end Pa
end Go.Proofs.YteapnkedpmcokaaGreatDoor
/- The document's Parse. Conditions: as stated. -/
namespace Go.Proofs.YteapnkedpmcokaaGreatDoor
set_option maxRecDepth 100000
namespace Pa
open Go.RowKit Go
theorem parse_nil : parseS [] = ([], [], false) := by decide
theorem parse_no {l : List UInt8} (h : l.getD 0 0 ≠ 60) : parseS l = ([], l, false) := by
  unfold parseS
  cases l with
  | nil => rfl
  | cons c t =>
    have hc : c ≠ 60 := by simpa using h
    have : ([60] : List UInt8).isPrefixOf (ahead 62 (c :: t)) = false := by
      unfold ahead
      rw [List.takeWhile_cons]
      split
      · rw [List.isPrefixOf_cons_cons]; simp [Ne.symm hc]
      · rfl
    rw [this]; simp
theorem parse_end {l : List UInt8} (h : (62 : UInt8) ∉ l) : parseS l = ([], l, false) := by
  unfold parseS; rw [has_f h]; simp
/-- the first closing sign. -/
theorem parse_hit {l : List UInt8} {k : Nat} (h0 : l.getD 0 0 = 60) (h1 : 1 ≤ k) (hk : k < l.length) (hn : (62 : UInt8) ∉ l.take k) (hc : l.getD k 0 = 62) :
    parseS l = if (decide (k = 1)) || mailS ((l.take k).drop 1) then ((l.take k).drop 1, l.drop (k + 1), true) else ([], l, false) := by
  have e : l = l.take k ++ 62 :: l.drop (k + 1) := by
    have : l[k] = 62 := by rw [← hc]; simp [List.getD, hk]
    rw [← this, ← List.drop_eq_getElem_cons hk, List.take_append_drop]
  obtain ⟨e1, e2⟩ := ahead_at (b := l.drop (k + 1)) hn
  rw [← e] at e1 e2
  have hm : (62 : UInt8) ∈ l := by rw [e]; simp
  have hp : ([60] : List UInt8).isPrefixOf (l.take k) = true := by
    cases l with
    | nil => simp at hk
    | cons c t =>
      have : c = 60 := by simpa using h0
      subst this
      obtain ⟨k', rfl⟩ : ∃ k', k = k' + 1 := ⟨k - 1, by omega⟩
      simp [List.isPrefixOf]
  have hl : ((l.take k).drop 1 == []) = decide (k = 1) := by
    rw [Bool.eq_iff_iff, decide_eq_true_eq, beq_iff_eq, ← List.length_eq_zero_iff, List.length_drop, List.length_take]
    omega
  unfold parseS
  rw [e1, e2, has_t hm, hp, hl]
  simp
theorem b62 {c : UInt8} (h : c = 62) : ((c.toNat : Int) == 62) = true := by rw [h]; rfl
theorem n62 {c : UInt8} (h : c ≠ 62) : ((c.toNat : Int) == 62) = false := by
  rw [beq_eq_false_iff_ne]; intro e; exact h (UInt8.toNat_inj.1 (show c.toNat = 62 by omega))
theorem n60 {c : UInt8} (h : c ≠ 60) : ((c.toNat : Int) == 60) = false := by
  rw [beq_eq_false_iff_ne]; intro e; exact h (UInt8.toNat_inj.1 (show c.toNat = 60 by omega))
end Pa
end Go.Proofs.YteapnkedpmcokaaGreatDoor
