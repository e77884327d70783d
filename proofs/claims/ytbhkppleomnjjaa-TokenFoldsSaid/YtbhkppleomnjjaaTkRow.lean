/- Rows of texts; the box that holds one in a loop over runs. Conditions: as stated at each. -/
import Derived.Test.YtbhkppleomnjjaaTkRuns
import Derived.Test.YtbhkppleomnjjaaRgKey
import Derived.Deep.RegionHeld3
namespace Go.Proofs.Ytbhkppleomnjjaa
set_option maxRecDepth 100000
namespace Tk
open Go.RowKit Go.Shelf Go Go.Proofs.Ytbhkppleomnjjaa.Pa
attribute [local go_sem] Oper.semAt_some
/-- texts as cells. -/
def tv (ps : List L) : List Value := ps.map fun p => Value.string (str p)
theorem tv_length (ps : List L) : (tv ps).length = ps.length := by simp [tv]
theorem tv_append (a b : List L) : tv (a ++ b) = tv a ++ tv b := by simp [tv]
theorem tv_one (ps : List L) : ∀ u ∈ tv ps, u.oneCell' = true := by
  intro u hu
  simp only [tv, List.mem_map] at hu
  obtain ⟨b, _, rfl⟩ := hu
  rfl
theorem tv_get (ps : List L) (k : Nat) (h : k < ps.length) : (tv ps)[k]? = some (.string (str (ps.getD k []))) := by
  simp [tv, List.getD, h]
theorem info9 : (Try.prog.info? 9).map (fun i => (i.zero, i.size, i.bytes)) = some (some (.string ⟨#[]⟩), 1, 16) := by kernel_rfl
/-- a slice of these texts. -/
def Tx (w : World) (B : Nat) (A : Option Addr) (ps : List L) : Prop := Cs w B A (tv ps)
theorem Tx.below {w w' : World} {B : Nat} {A : Option Addr} {ps : List L} (h : Tx w B A ps) (hb : Below B w w') : Tx w' B A ps := Cs.below h hb
theorem Tx.more {w : World} {B B' : Nat} {A : Option Addr} {ps : List L} (h : Tx w B A ps) (hB : B ≤ B') : Tx w B' A ps := Cs.more h hB
theorem add_at (g o k : Nat) : (⟨g, o, none⟩ : Addr).add k = ⟨g, o + k, none⟩ := by
  unfold Addr.add
  split
  · rename_i h; subst h; rfl
  · rfl
theorem add_0 (a : Addr) : a.add 0 = a := by unfold Addr.add; rw [if_pos rfl]
theorem Tx.els {w : World} {B : Nat} {A : Option Addr} {ps : List L} (h : Tx w B A ps) : ∀ k, k < ps.length → ∃ g o, A = some ⟨g, o, none⟩ ∧ g < B ∧ ∀ X, Below B w X → X.cell? ⟨g, o + k, none⟩ = some (.string (str (ps.getD k []))) := fun k hk => by
  obtain ⟨ad0, e0, hb0, hc0⟩ := h 0 _ (tv_get ps 0 (by omega))
  rw [add_0] at hc0
  have hsp := World.cell?_spot hc0
  obtain ⟨g, o, sp⟩ := ad0
  obtain rfl : sp = none := hsp
  refine ⟨g, o, e0, hb0, fun X hX => ?_⟩
  obtain ⟨ad, e, hb, hc⟩ := h k _ (tv_get ps k hk)
  rw [e0] at e
  injection e with e
  subst e
  rw [add_at] at hc
  exact (hX.cell (p := ⟨g, o + k, none⟩) hb).trans hc
theorem tx_lit (w : World) (C : Array Value) (ps : List L) (h : C.toList = tv ps) (fr : Nat × Nat) : Tx (w.alloc (.cells C 9 fr)) (w.heap.size + 1) (some ⟨w.heap.size, 0, none⟩) ps := fun j u hj => by
  refine ⟨_, rfl, Nat.lt_succ_self _, ?_⟩
  rw [add_at, Nat.zero_add, cell_of_row _ w.heap.size j C _ fr (heap_alloc_new w _), ← Array.getElem?_toList, h]
  exact hj
/-- a row of texts of the call's own. -/
def OwnT (w : World) (N : Nat) (v : Value) (ls : List L) : Prop := w.ownsRow N 9 1 v ls.length (tv ls)
theorem OwnT.nil (w : World) (N : Nat) : OwnT w N (.slice none 0 0) [] := World.ownsRow_nil w N 9 1
theorem OwnT.tx {w : World} {N n c : Nat} {A : Option Addr} {ps : List L} (h : OwnT w N (.slice A n c) ps) : Tx w w.heap.size A ps := by
  obtain ⟨A', c', e, _, _⟩ := own_slice h
  injection e with e1 e2 e3
  subst e1; subst e2; subst e3
  exact Cs.of_own h
theorem OwnT.slice {w : World} {N : Nat} {v : Value} {ps : List L} (h : OwnT w N v ps) : ∃ A c, v = .slice A ps.length c ∧ ps.length ≤ c ∧ c ≤ maxLen := own_slice h
theorem OwnT.below {w w' : World} {N : Nat} {v : Value} {ps : List L} (h : OwnT w N v ps) (hb : Below w.heap.size w w') : OwnT w' N v ps := own_kept h hb (Nat.le_refl _)
theorem OwnT.more {w : World} {N M : Nat} {v : Value} {ps : List L} (h : OwnT w N v ps) (hM : M ≤ N) : OwnT w M v ps := own_more h hM
/-- a text more, in a region that draws its order. -/
theorem stepTx {w : World} {ops : Array Oper} {o : Oper} {a : Act} {K : Act → World → Prop} {Q : Exit → Act → World → Prop} {E : Prop} (s x : Operand)
    (ho : o.op = .call { callee := .builtin .append, args := #[s, x], argTypes := #[25, 25] }) (hgd : o.guard = none)
    {N : Nat} {v : Value} {ps qs : List L} (hs : a.eval s = v) (hown : OwnT w N v ps)
    {B : Nat} {A : Option Addr} {m c : Nat} (hx : a.eval x = .slice A m c) (hr : Tx w B A qs) (hm : qs.length = m) (h63 : ps.length + m ≤ 1000000000) (hN : N ≤ w.heap.size)
    (h : ∀ v' w', OwnT w' N v' (ps ++ qs) → w.grownBy w' v.ownBlock → K (a.put o.dst v') w') : if Region.wanted o (yielded ops a.tmps) = true then Oper.wp Try.prog o a w K Q else E := by
  have hw : Region.wanted o (yielded ops a.tmps) = true := by simp [Region.wanted, hgd]
  rw [if_pos hw]
  obtain ⟨i, hi, hz, h0, h1⟩ := info_parts info9
  refine wp_app s x ho Try.underlying25 hi hz h0 h1 rfl hs hown hx hr (by rw [tv_length]; exact hm) (tv_one qs) h63 (by decide) hN fun v' w' h2 h3 => h v' w' ?_ h3
  unfold OwnT
  rw [List.length_append, hm, tv_append]
  exact h2
/-- the same in a plain list of operations. -/
theorem lappTx {w : World} {ops : Array Oper} {rest : List Oper} {o : Oper} {a : Act} {Q : Exit → Act → World → Prop} (s x : Operand)
    (ho : o.op = .call { callee := .builtin .append, args := #[s, x], argTypes := #[25, 25] }) (hgd : o.guard = none)
    {N : Nat} {v : Value} {ps qs : List L} (hs : a.eval s = v) (hown : OwnT w N v ps)
    {B : Nat} {A : Option Addr} {m c : Nat} (hx : a.eval x = .slice A m c) (hr : Tx w B A qs) (hm : qs.length = m) (h63 : ps.length + m ≤ 1000000000) (hN : N ≤ w.heap.size)
    (h : ∀ v' w', OwnT w' N v' (ps ++ qs) → w.grownBy w' v.ownBlock → wpList Try.prog ops Q rest (a.put o.dst v') w') : wpList Try.prog ops Q (o :: rest) a w := by
  obtain ⟨i, hi, hz, h0, h1⟩ := info_parts info9
  refine wpList_plain hgd fun _ hK => wp_app s x ho Try.underlying25 hi hz h0 h1 rfl hs hown hx hr (by rw [tv_length]; exact hm) (tv_one qs) h63 (by decide) hN fun v' w' h2 h3 => hK _ _ (h v' w' ?_ h3)
  unfold OwnT
  rw [List.length_append, hm, tv_append]
  exact h2
theorem belowA (w : World) (o : Obj) : Below w.heap.size w (w.alloc o) := (Below.refl _ w).alloc (Nat.le_refl _) _
theorem ownT_low {X : World} {N : Nat} {v : Value} {ls : List L} (h : OwnT X N v ls) : ∀ k, v.ownBlock = some k → N ≤ k := fun k hk => (h.lt k hk).1
theorem ownT_cells {X : World} {N : Nat} {v : Value} {ls : List L} (h : OwnT X N v ls) : ∀ (j : Nat) (o : Obj), v.ownBlock = some j → X.heap[j]? = some o → o.isCells = true := by
  intro j o hj ho
  rcases h.2 with ⟨rfl, _⟩ | ⟨g, cap, cur, rfl, _, hh, _⟩
  · simp [Value.ownBlock] at hj
  · obtain rfl : g = j := by simpa [Value.ownBlock] using hj
    rw [hh] at ho
    cases ho
    rfl
/-- the box at b holds v, which owns these texts. -/
structure WsI (w w3 : World) (p : Nat → Prop) (b M : Nat) (v : Value) (t : List L) (X : World) : Prop where
  box : Boxed X b 25 v
  own : OwnT X M v t
  bel : Below b w X
  sm : Sm p w3 X
  sz : M ≤ X.heap.size
section
variable {w w3 : World} {p : Nat → Prop} {b M : Nat} {v v' : Value} {t t' : List L} {X Y : World}
theorem WsI.below (h : WsI w w3 p b M v t X) (hbM : b < M) (hb : Below X.heap.size X Y) : WsI w w3 p b M v t Y := by
  have hs := h.sz
  exact ⟨(hb.block _ (by omega)).trans h.box, h.own.below hb, h.bel.trans (hb.mono (by omega)), h.sm.trans (Sm.of_below hb), Nat.le_trans hs hb.size⟩
theorem WsI.drew (h : WsI w w3 p b M v t X) : WsI w w3 p b M v t X.drew := ⟨h.box, h.own, h.bel.drew, h.sm, h.sz⟩
theorem WsI.app (h : WsI w w3 p b M v t X) (hbM : b < M) (hp : ∀ k, p k → k < M ∧ k ≠ b) (h' : OwnT Y M v' t') (hg : X.grownBy Y v.ownBlock) :
    Boxed Y b 25 v ∧ WsI w w3 p b M v' t' (Y.setCell ⟨b, 0, none⟩ v') ∧ KeepsOthers X (Y.setCell ⟨b, 0, none⟩ v') ∧ Sm p X (Y.setCell ⟨b, 0, none⟩ v') := by
  have hne : some b ≠ v.ownBlock := fun e => by have := ownT_low h.own b e.symm; omega
  have hbox : Boxed Y b 25 v := h.box.kept hg hne
  have hsm : Sm p X (Y.setCell ⟨b, 0, none⟩ v') := ⟨by simpa using hg.size, fun k hk hl => by
    have hk' := hp k hk
    refine (Below.heap_setCell _ _ _ _ (fun e => hk'.2 e)).trans (hg.block k hl fun e => ?_)
    have := ownT_low h.own k e.symm
    omega⟩
  refine ⟨hbox, ⟨hbox.set v', ?_, ?_, h.sm.trans hsm, by simpa using Nat.le_trans h.sz hg.size⟩, (KeepsOthers.of_grownBy hg (ownT_cells h.own)).trans (KeepsOthers.setCell _ _ _), hsm⟩
  · exact World.ownsRow.kept h' (grownBy_setCell' Y b v') (.inr (hbox.not_row (by decide) h').symm)
  · exact (h.bel.grown hg (Nat.le_trans (Nat.le_of_lt hbM) h.sz) (fun k hk => Nat.le_trans (Nat.le_of_lt hbM) (ownT_low h.own k hk))).setCell (Nat.le_refl _) _
theorem WsI.row (h : WsI w w3 p b M v t X) (hbM : b < M) (hp : ∀ k, p k → k < M ∧ k ≠ b) {row : Option Nat} (hg : X.grownBy Y row) (hr : ∀ r, row = some r → M ≤ r ∧ ∃ o : Obj, X.heap[r]? = some o ∧ o.isCells = false) : WsI w w3 p b M v t Y := by
  refine ⟨h.box.kept hg fun e => ?_, ?_, h.bel.grown hg (Nat.le_trans (Nat.le_of_lt hbM) h.sz) (fun k e => by have := (hr k e).1; omega), h.sm.trans ⟨hg.size, fun k hk hl => hg.block k hl fun e => ?_⟩, Nat.le_trans h.sz hg.size⟩
  · have := (hr b e.symm).1; omega
  · refine World.ownsRow.kept h.own hg ?_
    rcases h.own.2 with ⟨rfl, _⟩ | ⟨g, cap, cur, rfl, _, hh, _⟩
    · exact .inl rfl
    · refine .inr fun e => ?_
      obtain ⟨_, o, ho, hc⟩ := hr g e.symm
      rw [hh] at ho
      cases ho
      cases hc
  · have := (hr k e.symm).1
    have := (hp k hk).1
    omega
end
theorem keeps_below {X Y : World} (h : Below X.heap.size X Y) : KeepsOthers X Y := ⟨h.size, fun k _ hk _ => (h.block k (Array.getElem?_eq_some_iff.1 hk).1).trans hk⟩
/-- between two rounds. -/
def WsJ (w w3 : World) (p : Nat → Prop) (b M N : Nat) (pre : List (RunAt p w3 N)) (X : World) : Prop := ∃ v, WsI w w3 p b M v ((pre.map byR).map wordS) X
theorem wsJ_own {w w3 : World} {p : Nat → Prop} {b M N : Nat} (hbM : b < M) (hp : ∀ k, p k → k < M ∧ k ≠ b) : OwnFrom M (WsJ w w3 p b M N) := fun _ _ _ _ ⟨v, h⟩ hg hr => ⟨v, h.row hbM hp hg hr⟩
def OutT (w : World) (t : List L) (e : Ending) (w' : World) : Prop := ∃ v, e = .returned v ∧ OwnT w' w.heap.size v t ∧ Below w.heap.size w w'
end Tk
end Go.Proofs.Ytbhkppleomnjjaa
