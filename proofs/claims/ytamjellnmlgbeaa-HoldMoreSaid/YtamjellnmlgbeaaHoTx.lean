/- Texts and envelopes in memory; rows of texts of the call's own. Conditions: none. -/
import Derived.Test.YtamjellnmlgbeaaHoRow
import Derived.Test.YtamjellnmlgbeaaPaRef
namespace Go.Proofs.Ytamjellnmlgbeaa
set_option maxRecDepth 100000
namespace Ho
open Go.RowKit Go Go.Proofs.Ytamjellnmlgbeaa.Pa Go.Proofs.Ytamjellnmlgbeaa.Rt
theorem tx_add0 (a : Addr) : a.add 0 = a := by simp [Addr.add]
theorem tx_addn (g o k : Nat) : (⟨g, o, none⟩ : Addr).add k = ⟨g, o + k, none⟩ := by
  unfold Addr.add
  split
  · next e => subst e; rfl
  · rfl
/-- a slice of these texts. -/
def Tx (w : World) (B : Nat) (A : Option Addr) (ps : List L) : Prop := Cs w B A (tv ps)
theorem Tx.below {w w' : World} {B : Nat} {A : Option Addr} {ps : List L} (h : Tx w B A ps) (hb : Below B w w') : Tx w' B A ps := Cs.below h hb
theorem Tx.more {w : World} {B B' : Nat} {A : Option Addr} {ps : List L} (h : Tx w B A ps) (hB : B ≤ B') : Tx w B' A ps := Cs.more h hB
theorem tv_get (ps : List L) (k : Nat) (h : k < ps.length) : (tv ps)[k]? = some (.string (str (ps.getD k []))) := by
  simp [tv, List.getD, h]
theorem Tx.els {w : World} {B : Nat} {A : Option Addr} {ps : List L} (h : Tx w B A ps) : ∀ k, k < ps.length → ∃ g o, A = some ⟨g, o, none⟩ ∧ g < B ∧ ∀ X, Below B w X → X.cell? ⟨g, o + k, none⟩ = some (.string (str (ps.getD k []))) := fun k hk => by
  obtain ⟨ad0, e0, hb0, hc0⟩ := h 0 _ (tv_get ps 0 (by omega))
  rw [tx_add0] at hc0
  have hsp := World.cell?_spot hc0
  obtain ⟨g, o, sp⟩ := ad0
  obtain rfl : sp = none := hsp
  refine ⟨g, o, e0, hb0, fun X hX => ?_⟩
  obtain ⟨ad, e, hb, hc⟩ := h k _ (tv_get ps k hk)
  rw [e0] at e
  injection e with e
  subst e
  rw [tx_addn] at hc
  exact (hX.cell (p := ⟨g, o + k, none⟩) hb).trans hc
/-- an envelope: from, to, when. -/
abbrev Env := L × List L × Int
def EnvAt (w : World) (B : Nat) (x : Value) (e : Env) : Prop := ∃ A c, x = .agg #[.string (str e.1), .slice A e.2.1.length c, .int .i64 e.2.2] ∧ Tx w B A e.2.1
def OkE (e : Env) : Prop := e.1.length ≤ 140737488355328 ∧ ∀ k, (e.2.1.getD k []).length ≤ 140737488355328
/-- a row of texts of the call's own. -/
def OwnT (w : World) (N : Nat) (v : Value) (ls : List L) : Prop := w.ownsRow N 9 1 v ls.length (tv ls)
theorem tv_append (a b : List L) : tv (a ++ b) = tv a ++ tv b := by simp [tv]
theorem OwnT.nil (w : World) (N : Nat) : OwnT w N (.slice none 0 0) [] := World.ownsRow_nil w N 9 1
theorem OwnT.tx {w : World} {N n c : Nat} {A : Option Addr} {ps : List L} (h : OwnT w N (.slice A n c) ps) : Tx w w.heap.size A ps := by
  obtain ⟨A', c', e, _, _⟩ := own_slice h
  injection e with e1 e2 e3
  subst e1; subst e2; subst e3
  exact Cs.of_own h
theorem OwnT.slice {w : World} {N : Nat} {v : Value} {ps : List L} (h : OwnT w N v ps) : ∃ A c, v = .slice A ps.length c ∧ ps.length ≤ c ∧ c ≤ maxLen := own_slice h
theorem OwnT.below {w w' : World} {N : Nat} {v : Value} {ps : List L} (h : OwnT w N v ps) (hb : Below w.heap.size w w') : OwnT w' N v ps := own_kept h hb (Nat.le_refl _)
theorem OwnT.more {w : World} {N M : Nat} {v : Value} {ps : List L} (h : OwnT w N v ps) (hM : M ≤ N) : OwnT w M v ps := own_more h hM
theorem OwnT.low {X : World} {N : Nat} {v : Value} {ls : List L} (h : OwnT X N v ls) : ∀ k, v.ownBlock = some k → N ≤ k := fun k hk => (h.lt k hk).1
theorem tx_lit (w : World) (C : Array Value) (ps : List L) (h : C.toList = tv ps) (fr : Nat × Nat) : Tx (w.alloc (.cells C 9 fr)) (w.heap.size + 1) (some ⟨w.heap.size, 0, none⟩) ps := fun j u hj => by
  refine ⟨_, rfl, Nat.lt_succ_self _, ?_⟩
  rw [tx_addn, Nat.zero_add, cell_of_row _ w.heap.size j C _ fr (heap_alloc_new w _), ← Array.getElem?_toList, h]
  exact hj
/-- the same in a plain list of operations. -/
theorem lappTx {w : World} {ops : Array Oper} {rest : List Oper} {o : Oper} {a : Act} {Q : Exit → Act → World → Prop} (s x : Operand)
    (ho : o.op = .call { callee := .builtin .append, args := #[s, x], argTypes := #[27, 27] }) (hgd : o.guard = none)
    {N : Nat} {v : Value} {ps qs : List L} (hs : a.eval s = v) (hown : OwnT w N v ps)
    {B : Nat} {A : Option Addr} {m c : Nat} (hx : a.eval x = .slice A m c) (hr : Tx w B A qs) (hm : qs.length = m) (h63 : ps.length + m ≤ 1000000000) (hN : N ≤ w.heap.size)
    (h : ∀ v' w', OwnT w' N v' (ps ++ qs) → w.grownBy w' v.ownBlock → wpList Try.prog ops Q rest (a.put o.dst v') w') : wpList Try.prog ops Q (o :: rest) a w := by
  obtain ⟨i, hi, hz, h0, h1⟩ := info_parts info9
  refine wpList_plain hgd fun _ hK => wp_app s x ho Try.underlying27 hi hz h0 h1 rfl hs hown hx hr (by rw [tv_length]; exact hm) (tv_one qs) h63 (by decide) hN fun v' w' h2 h3 => hK _ _ (h v' w' ?_ h3)
  unfold OwnT
  rw [List.length_append, hm, tv_append]
  exact h2
end Ho
end Go.Proofs.Ytamjellnmlgbeaa
