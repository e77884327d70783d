/- What dots.Scan's loop keeps. Conditions: as stated at each. -/
import Derived.Test.YtdbmcbnohldolaaDtStuff
import Derived.Test.YtdbmcbnohldolaaDtRScan
namespace Go.Proofs.Ytdbmcbnohldolaa
set_option maxRecDepth 100000
namespace Dt
open Go.RowKit Go.Shelf Go Go.Proofs.Ytdbmcbnohldolaa.Hd
/-- the text, how many bytes are read, whether the end was read. -/
structure ScI (w w3 : World) (p : Nat → Prop) (b M : Nat) (v : Value) (t : L) (q : Nat) (e : Bool) (X : World) : Prop where
  box : Boxed X b 22 v
  siz : Boxed X (b + 1) 3 (.int .i64 q)
  fin : Boxed X (b + 1 + 1) 4 (.bool e)
  own : Own5 X M v t
  bel : Below b w X
  sm : Sm p w3 X
  sz : M ≤ X.heap.size
section
variable {w w3 : World} {p : Nat → Prop} {b M : Nat} {v v' : Value} {t t' : L} {q : Nat} {e : Bool} {X Y : World}
theorem boxed_far {X : World} {B B' : Nat} {t : TypeId} {v : Value} (h : Boxed X B t v) (hne : B ≠ B') (u : Value) : Boxed (X.setCell ⟨B', 0, none⟩ u) B t v := h.kept (grownBy_setCell' X B' u) (fun e => hne (by injection e))
theorem ScI.drew (h : ScI w w3 p b M v t q e X) : ScI w w3 p b M v t q e X.drew := ⟨h.box, h.siz, h.fin, h.own, h.bel.drew, h.sm, h.sz⟩
theorem sm_set {b' : Nat} (hp : ∀ k, p k → k ≠ b') (u : Value) : Sm p X (X.setCell ⟨b', 0, none⟩ u) := ⟨by simp, fun k hk _ => Below.heap_setCell _ _ _ _ (fun e => hp k hk e)⟩
theorem ScI.size (h : ScI w w3 p b M v t q e X) (hp : ∀ k, p k → k < M ∧ k ≠ b ∧ k ≠ b + 1 ∧ k ≠ b + 1 + 1) (q' : Nat) (z : Int) (hz : z = q') :
    ScI w w3 p b M v t q' e (X.setCell ⟨b + 1, 0, none⟩ (.int .i64 z)) ∧ KeepsOthers X (X.setCell ⟨b + 1, 0, none⟩ (.int .i64 z)) ∧ Sm p X (X.setCell ⟨b + 1, 0, none⟩ (.int .i64 z)) := by
  subst hz
  have hs := sm_set (X := X) (fun k hk => (hp k hk).2.2.1) (.int .i64 q')
  exact ⟨⟨boxed_far h.box (by omega) _, h.siz.set _, boxed_far h.fin (by omega) _, World.ownsRow.kept h.own (grownBy_setCell' X (b + 1) _) (.inr (h.siz.not_row (by decide) h.own).symm), h.bel.setCell (Nat.le_succ b) _, h.sm.trans hs, by simpa using h.sz⟩, KeepsOthers.setCell _ _ _, hs⟩
theorem ScI.ends (h : ScI w w3 p b M v t q e X) (hp : ∀ k, p k → k < M ∧ k ≠ b ∧ k ≠ b + 1 ∧ k ≠ b + 1 + 1) (e' : Bool) :
    ScI w w3 p b M v t q e' (X.setCell ⟨b + 1 + 1, 0, none⟩ (.bool e')) ∧ KeepsOthers X (X.setCell ⟨b + 1 + 1, 0, none⟩ (.bool e')) ∧ Sm p X (X.setCell ⟨b + 1 + 1, 0, none⟩ (.bool e')) := by
  have hs := sm_set (X := X) (fun k hk => (hp k hk).2.2.2) (.bool e')
  exact ⟨⟨boxed_far h.box (by omega) _, boxed_far h.siz (by omega) _, h.fin.set _, World.ownsRow.kept h.own (grownBy_setCell' X (b + 1 + 1) _) (.inr (h.fin.not_row (by decide) h.own).symm), h.bel.setCell (by show b ≤ b + 1 + 1; omega) _, h.sm.trans hs, by simpa using h.sz⟩, KeepsOthers.setCell _ _ _, hs⟩
theorem ScI.app (h : ScI w w3 p b M v t q e X) (hbM : b + 1 + 1 < M) (hp : ∀ k, p k → k < M ∧ k ≠ b ∧ k ≠ b + 1 ∧ k ≠ b + 1 + 1) (h' : Own5 Y M v' t') (hg : X.grownBy Y v.ownBlock) :
    Boxed Y b 22 v ∧ ScI w w3 p b M v' t' q e (Y.setCell ⟨b, 0, none⟩ v') ∧ KeepsOthers X (Y.setCell ⟨b, 0, none⟩ v') ∧ Sm p X (Y.setCell ⟨b, 0, none⟩ v') := by
  have hlow := own5_low h.own
  have hbox : Boxed Y b 22 v := h.box.kept hg (fun e => by have := hlow b e.symm; omega)
  have hsiz : Boxed Y (b + 1) 3 (.int .i64 q) := h.siz.kept hg (fun e => by have := hlow (b + 1) e.symm; omega)
  have hfin : Boxed Y (b + 1 + 1) 4 (.bool e) := h.fin.kept hg (fun e => by have := hlow (b + 1 + 1) e.symm; omega)
  have hsm : Sm p X (Y.setCell ⟨b, 0, none⟩ v') := ⟨by simpa using hg.size, fun k hk hl => by
    have hk' := hp k hk
    refine (Below.heap_setCell _ _ _ _ (fun e => hk'.2.1 e)).trans (hg.block k hl fun e => ?_)
    have := hlow k e.symm
    omega⟩
  refine ⟨hbox, ⟨hbox.set v', boxed_far hsiz (by omega) _, boxed_far hfin (by omega) _, ?_, ?_, h.sm.trans hsm, by simpa using Nat.le_trans h.sz hg.size⟩, (KeepsOthers.of_grownBy hg (own5_cells h.own)).trans (KeepsOthers.setCell _ _ _), hsm⟩
  · exact World.ownsRow.kept h' (grownBy_setCell' Y b v') (.inr (hbox.not_row (by decide) h').symm)
  · exact (h.bel.grown hg (by have := h.sz; omega) (fun k hk => by have := hlow k hk; omega)).setCell (Nat.le_refl _) _
theorem ScI.row (h : ScI w w3 p b M v t q e X) (hbM : b + 1 + 1 < M) (hp : ∀ k, p k → k < M ∧ k ≠ b ∧ k ≠ b + 1 ∧ k ≠ b + 1 + 1) {row : Option Nat} (hg : X.grownBy Y row) (hr : ∀ r, row = some r → M ≤ r ∧ ∃ o : Obj, X.heap[r]? = some o ∧ o.isCells = false) : ScI w w3 p b M v t q e Y := by
  refine ⟨h.box.kept hg fun e => ?_, h.siz.kept hg fun e => ?_, h.fin.kept hg fun e => ?_, ?_, h.bel.grown hg (by have := h.sz; omega) (fun k e => by have := (hr k e).1; omega), h.sm.trans ⟨hg.size, fun k hk hl => hg.block k hl fun e => ?_⟩, Nat.le_trans h.sz hg.size⟩
  · have := (hr b e.symm).1; omega
  · have := (hr (b + 1) e.symm).1; omega
  · have := (hr (b + 1 + 1) e.symm).1; omega
  · refine World.ownsRow.kept h.own hg ?_
    rcases h.own.2 with ⟨rfl, _⟩ | ⟨g, cap, cur, rfl, _, hh, _⟩
    · exact .inl rfl
    · refine .inr fun e => ?_
      obtain ⟨_, o, ho, hc⟩ := hr g e.symm
      rw [hh] at ho
      cases ho
      cases hc
  · have := (hr k e.symm).1
    have := (hp k hk).1
    omega
end
/-- between two rounds. -/
def ScJ (w w3 : World) (p : Nat → Prop) (b M N : Nat) (pre : List (LineAt p w3 N)) (X : World) : Prop := (∀ x ∈ pre.map byL, x ≠ last) ∧ ∃ v, ScI w w3 p b M v (texts (pre.map byL)) (pre.map byL).flatten.length false X
/-- behind the end. -/
def ScX (w w3 : World) (p : Nat → Prop) (b M N : Nat) (c : Code) (pre : List (LineAt p w3 N)) (X : World) : Prop :=
  c = .exit 0 ∧ ∃ ls, pre.map byL = ls ++ [last] ∧ (∀ x ∈ ls, x ≠ last) ∧ ∃ v, ScI w w3 p b M v (texts ls) (ls.flatten.length + 3) true X
theorem scJ_own {w w3 : World} {p : Nat → Prop} {b M N : Nat} (hbM : b + 1 + 1 < M) (hp : ∀ k, p k → k < M ∧ k ≠ b ∧ k ≠ b + 1 ∧ k ≠ b + 1 + 1) : OwnFrom M (ScJ w w3 p b M N) := fun _ _ _ _ ⟨h0, v, h⟩ hg hr => ⟨h0, v, h.row hbM hp hg hr⟩
theorem scX_own {w w3 : World} {p : Nat → Prop} {b M N : Nat} (hbM : b + 1 + 1 < M) (hp : ∀ k, p k → k < M ∧ k ≠ b ∧ k ≠ b + 1 ∧ k ≠ b + 1 + 1) (c : Code) : OwnFrom M (ScX w w3 p b M N c) := fun _ _ _ _ ⟨hc, ls, h0, h1, v, h⟩ hg hr => ⟨hc, ls, h0, h1, v, h.row hbM hp hg hr⟩
theorem flat_map_len {p : Nat → Prop} {W : World} {N : Nat} : ∀ pre : List (LineAt p W N), (pre.map byL).flatten.length ≤ 20000 * pre.length
  | [] => by simp
  | x :: pre => by
    have h1 := flat_map_len pre
    have h3 : (byL x).length ≤ 20000 := x.2.2.2.2.1
    rw [List.map_cons, List.flatten_cons, List.length_append, List.length_cons]
    omega
theorem step5 {ops : Array Oper} {o : Oper} {a : Act} {w : World} {K : Act → World → Prop} {Q : Exit → Act → World → Prop} {E : Prop} (s x : Operand)
    (ho : o.op = .call { callee := .builtin .append, args := #[s, x], argTypes := #[22, 22] }) (hgd : o.guard = none)
    {N : Nat} {v : Value} {l m : L} (hs : a.eval s = v) (hown : Own5 w N v l) {B : Nat} {A : Option Addr} {c : Nat} (hx : a.eval x = .slice A m.length c) (hr : Bts w B A m) (h63 : l.length + m.length ≤ 1000000000) (hN : N ≤ w.heap.size)
    (h : ∀ v' w', Own5 w' N v' (l ++ m) → w.grownBy w' v.ownBlock → K (a.put o.dst v') w') : if Region.wanted o (yielded ops a.tmps) = true then Oper.wp Try.prog o a w K Q else E := by
  have hw : Region.wanted o (yielded ops a.tmps) = true := by simp [Region.wanted, hgd]
  rw [if_pos hw]
  obtain ⟨i, hi, hz, h0, h1⟩ := info_parts info5
  refine wp_app s x ho Try.underlying22 hi hz h0 h1 rfl hs hown hx hr (bv_length m) (bv_one m) h63 (by decide) hN fun v' w' h2 h3 => h v' w' ?_ h3
  unfold Own5
  rw [List.length_append, bv_append]
  exact h2
end Dt
end Go.Proofs.Ytdbmcbnohldolaa
