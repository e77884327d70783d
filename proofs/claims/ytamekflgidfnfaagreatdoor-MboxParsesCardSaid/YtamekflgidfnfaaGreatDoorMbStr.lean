/- Bytes that a loop over an iterator appends to. Conditions: as stated at each. -/
import Derived.Test.YtamekflgidfnfaaGreatDoorMbIter
import Derived.Lib.AppendStr
namespace Go.Proofs.YtamekflgidfnfaaGreatDoor
set_option maxRecDepth 100000
namespace Mb
open Go.RowKit Go.Shelf Go
attribute [local go_sem] Oper.semAt_some
theorem bstr_size (l : L) : (str l).size = l.length := by simp [str, ByteArray.size]
theorem strCells_str (l : L) : Lib.strCells (str l) = bv l := rfl
theorem run_app5s {w : World} (ty : TypeId) {N : Nat} {v : Value} {l m : L} (hown : Own5 w N v l) (h63 : l.length + m.length ≤ 1000000000) (hN : N ≤ w.heap.size) :
    ∃ v' w', (Builtin.append_ #[22, 9] ty #[v, .string (str m)]).run Tryz.prog w = .ok v' w' ∧ Own5 w' N v' (l ++ m) ∧ w.grownBy w' v.ownBlock := by
  obtain ⟨i, hi, hz, h0, h1⟩ := info_parts info5
  obtain ⟨v', w', hrun, h2, h3, _⟩ := Lib.run_append_own_string w N 22 9 ty 5 i Tryz.underlying22 Tryz.underlying9 hi hz h0 h1 v l.length (bv l) hown (str m) (by rw [bstr_size]; unfold maxLen; omega) (by rw [bstr_size]; omega) hN
  refine ⟨v', w', hrun, ?_, h3⟩
  unfold Own5
  rw [List.length_append, bv_append]
  rw [bstr_size, strCells_str] at h2
  exact h2
section
variable {F : Fence} {n : Nat} {w : World} {ops : Array Oper} {rest : List Oper} {o : Oper} {a : Act} {Q : Exit → Act → World → Prop}
/-- a string behind bytes, in a fence. -/
theorem lin_app5s (hF : Wide F (n - 1) Tryz.prog) (s x : Operand) (ho : o.op = .call { callee := .builtin .append, args := #[s, x], argTypes := #[22, 9] }) (hgd : o.guard = none)
    {N : Nat} {v : Value} {l m : L} (hs : a.eval s = v) (hown : Own5 w N v l) (hx : a.eval x = .string (str m)) (h63 : l.length + m.length ≤ 1000000000) (hN : N ≤ w.heap.size)
    (h : ∀ v' w', Own5 w' N v' (l ++ m) → w.grownBy w' v.ownBlock → wpListIn F n Tryz.prog ops Q rest (a.put o.dst v') w') : wpListIn F n Tryz.prog ops Q (o :: rest) a w :=
  lin_wp hF hgd (fun c hc => by (rw [ho] at hc; cases hc)) fun _ hK => by
    obtain ⟨v', w', hrun, h2, h3⟩ := run_app5s o.type hown h63 hN
    unfold Oper.wp execOp
    simp only [ho, resolve, invoke, builtin, Sem.run_bind, Sem.run_pure, Result.andThen_ok, List.map_toArray, List.map_cons, List.map_nil, hs, hx, hrun]
    exact hK _ _ (h v' w' h2 h3)
/-- bytes behind bytes, in a fence. -/
theorem lin_app5 (hF : Wide F (n - 1) Tryz.prog) (s x : Operand) (ho : o.op = .call { callee := .builtin .append, args := #[s, x], argTypes := #[22, 22] }) (hgd : o.guard = none)
    {N : Nat} {v : Value} {l m : L} (hs : a.eval s = v) (hown : Own5 w N v l) {B : Nat} {A : Option Addr} {c : Nat} (hx : a.eval x = .slice A m.length c) (hr : Bts w B A m) (h63 : l.length + m.length ≤ 1000000000) (hN : N ≤ w.heap.size)
    (h : ∀ v' w', Own5 w' N v' (l ++ m) → w.grownBy w' v.ownBlock → wpListIn F n Tryz.prog ops Q rest (a.put o.dst v') w') : wpListIn F n Tryz.prog ops Q (o :: rest) a w := by
  obtain ⟨i, hi, hz, h0, h1⟩ := info_parts info5
  refine lin_wp hF hgd (fun c hc => by (rw [ho] at hc; cases hc)) fun _ hK => wp_app s x ho Tryz.underlying22 hi hz h0 h1 rfl hs hown hx hr (bv_length m) (bv_one m) h63 (by decide) hN fun v' w' h2 h3 => hK _ _ (h v' w' ?_ h3)
  unfold Own5
  rw [List.length_append, bv_append]
  exact h2
end
/-- the box at b holds v, which owns these bytes. -/
structure StI (w w3 : World) (p : Nat → Prop) (b M : Nat) (v : Value) (t : L) (X : World) : Prop where
  box : Boxed X b 22 v
  own : Own5 X M v t
  bel : Below b w X
  sm : Sm p w3 X
  sz : M ≤ X.heap.size
section
variable {w w3 : World} {p : Nat → Prop} {b M : Nat} {v v' : Value} {t t' : L} {X Y : World}
theorem StI.alloc (h : StI w w3 p b M v t X) (hb : b ≤ M) (o : Obj) : StI w w3 p b M v t (X.alloc o) :=
  ⟨h.box.alloc o, own_kept h.own ((Below.refl X.heap.size X).alloc (Nat.le_refl _) o) (Nat.le_refl _), h.bel.alloc (Nat.le_trans hb h.sz) o, h.sm.trans (Sm.alloc p X o), by have := h.sz; simp; omega⟩
theorem own5_low {N : Nat} (h : Own5 X N v t) : ∀ k, v.ownBlock = some k → N ≤ k := fun k hk => (h.lt k hk).1
theorem own5_cells {N : Nat} (h : Own5 X N v t) : ∀ (j : Nat) (o : Obj), v.ownBlock = some j → X.heap[j]? = some o → o.isCells = true := by
  intro j o hj ho
  rcases h.2 with ⟨rfl, _⟩ | ⟨g, cap, cur, rfl, _, hh, _⟩
  · simp [Value.ownBlock] at hj
  · obtain rfl : g = j := by simpa [Value.ownBlock] using hj
    rw [hh] at ho
    cases ho
    rfl
theorem own5_letters {N : Nat} (h : Own5 X N v t) : ∃ A k c, v = .slice A k c := by
  obtain ⟨A, c, e, _⟩ := own_slice h
  exact ⟨A, _, c, e⟩
/-- bytes are appended and the box is set. -/
theorem StI.app (h : StI w w3 p b M v t X) (hbM : b < M) (hp : ∀ k, p k → k < M ∧ k ≠ b) (h' : Own5 Y M v' t') (hg : X.grownBy Y v.ownBlock) :
    Boxed Y b 22 v ∧ StI w w3 p b M v' t' (Y.setCell ⟨b, 0, none⟩ v') ∧ KeepsOthers X (Y.setCell ⟨b, 0, none⟩ v') ∧ Sm p X (Y.setCell ⟨b, 0, none⟩ v') := by
  have hne : some b ≠ v.ownBlock := fun e => by have := own5_low h.own b e.symm; omega
  have hbox : Boxed Y b 22 v := h.box.kept hg hne
  have hsm : Sm p X (Y.setCell ⟨b, 0, none⟩ v') := ⟨by simpa using hg.size, fun k hk hl => by
    have hk' := hp k hk
    refine (Below.heap_setCell _ _ _ _ (fun e => hk'.2 e)).trans (hg.block k hl fun e => ?_)
    have := own5_low h.own k e.symm
    omega⟩
  refine ⟨hbox, ⟨hbox.set v', ?_, ?_, h.sm.trans hsm, by simpa using Nat.le_trans h.sz hg.size⟩, (KeepsOthers.of_grownBy hg (own5_cells h.own)).trans (KeepsOthers.setCell _ _ _), hsm⟩
  · exact World.ownsRow.kept h' (grownBy_setCell' Y b v') (.inr (hbox.not_row (by decide) h').symm)
  · exact (h.bel.grown hg (Nat.le_trans (Nat.le_of_lt hbM) h.sz) (fun k hk => Nat.le_trans (Nat.le_of_lt hbM) (own5_low h.own k hk))).setCell (Nat.le_refl _) _
theorem StI.row (h : StI w w3 p b M v t X) (hbM : b < M) (hp : ∀ k, p k → k < M ∧ k ≠ b) {row : Option Nat} (hg : X.grownBy Y row) (hr : ∀ r, row = some r → M ≤ r ∧ ∃ o : Obj, X.heap[r]? = some o ∧ o.isCells = false) : StI w w3 p b M v t Y := by
  refine ⟨h.box.kept hg fun e => ?_, ?_, h.bel.grown hg (Nat.le_trans (Nat.le_of_lt hbM) h.sz) (fun k e => by have := (hr k e).1; omega), h.sm.trans ⟨hg.size, fun k hk hl => hg.block k hl fun e => ?_⟩, Nat.le_trans h.sz hg.size⟩
  · have := (hr b e.symm).1; omega
  · refine World.ownsRow.kept h.own hg ?_
    rcases h.own.2 with ⟨rfl, _⟩ | ⟨g, cap, cur, rfl, _, hh, _⟩
    · exact .inl rfl
    · refine .inr fun e => ?_
      obtain ⟨_, o, ho, hc⟩ := hr g e.symm
      rw [hh] at ho
      cases ho
      cases hc
  · have := (hr k e.symm).1
    have := (hp k hk).1
    omega
end
theorem flat_map_len {f : L → L} (hf : ∀ x, (f x).length ≤ x.length + 1) {p : Nat → Prop} {W : World} {N : Nat} : ∀ pre : List (LineAt p W N), ((pre.map byL).flatMap f).length ≤ 30001 * pre.length
  | [] => by simp
  | x :: pre => by
    have h1 := flat_map_len hf pre
    have h2 := hf (byL x)
    have h3 : (byL x).length ≤ 30000 := x.2.2.2.2.1
    rw [List.map_cons, List.flatMap_cons, List.length_append, List.length_cons]
    omega
theorem flat_map_snoc (f : L → L) {p : Nat → Prop} {W : World} {N : Nat} (pre : List (LineAt p W N)) (x : LineAt p W N) : ((pre ++ [x]).map byL).flatMap f = (pre.map byL).flatMap f ++ f (byL x) := by simp
/-- between two rounds. -/
def StJ (f : L → L) (w w3 : World) (p : Nat → Prop) (b M : Nat) (N : Nat) (pre : List (LineAt p w3 N)) (X : World) : Prop := ∃ v, StI w w3 p b M v ((pre.map byL).flatMap f) X
theorem stJ_own {f : L → L} {w w3 : World} {p : Nat → Prop} {b M N : Nat} (hbM : b < M) (hp : ∀ k, p k → k < M ∧ k ≠ b) : OwnFrom M (StJ f w w3 p b M N) := fun _ _ _ _ ⟨v, h⟩ hg hr => ⟨v, h.row hbM hp hg hr⟩
def OutP (w : World) (t : L) (e : Ending) (w' : World) : Prop := ∃ v, e = .returned v ∧ Own5 w' w.heap.size v t ∧ Below w.heap.size w w'
end Mb
end Go.Proofs.YtamekflgidfnfaaGreatDoor
