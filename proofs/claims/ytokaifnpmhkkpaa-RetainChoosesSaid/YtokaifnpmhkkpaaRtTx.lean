/- Texts and envelopes in memory. Conditions: none. -/
import Derived.Test.YtokaifnpmhkkpaaRtFind
import Derived.Test.YtokaifnpmhkkpaaPaRef
namespace Go.Proofs.Ytokaifnpmhkkpaa
set_option maxRecDepth 100000
namespace Rt
open Go.RowKit Go Go.Proofs.Ytokaifnpmhkkpaa.Pa
theorem tx_add0 (a : Addr) : a.add 0 = a := by simp [Addr.add]
theorem tx_addn (g o k : Nat) : (⟨g, o, none⟩ : Addr).add k = ⟨g, o + k, none⟩ := by
  unfold Addr.add
  split
  · next e => subst e; rfl
  · rfl
/-- a slice of these texts. -/
def Tx (w : World) (B : Nat) (A : Option Addr) (ps : List L) : Prop := Cs w B A (tv ps)
theorem Tx.below {w w' : World} {B : Nat} {A : Option Addr} {ps : List L} (h : Tx w B A ps) (hb : Below B w w') : Tx w' B A ps := Cs.below h hb
theorem Tx.more {w : World} {B B' : Nat} {A : Option Addr} {ps : List L} (h : Tx w B A ps) (hB : B ≤ B') : Tx w B' A ps := Cs.more h hB
theorem tv_get (ps : List L) (k : Nat) (h : k < ps.length) : (tv ps)[k]? = some (.string (str (ps.getD k []))) := by
  simp [tv, List.getD, h]
theorem Tx.els {w : World} {B : Nat} {A : Option Addr} {ps : List L} (h : Tx w B A ps) : ∀ k, k < ps.length → ∃ g o, A = some ⟨g, o, none⟩ ∧ g < B ∧ ∀ X, Below B w X → X.cell? ⟨g, o + k, none⟩ = some (.string (str (ps.getD k []))) := fun k hk => by
  obtain ⟨ad0, e0, hb0, hc0⟩ := h 0 _ (tv_get ps 0 (by omega))
  rw [tx_add0] at hc0
  have hsp := World.cell?_spot hc0
  obtain ⟨g, o, sp⟩ := ad0
  obtain rfl : sp = none := hsp
  refine ⟨g, o, e0, hb0, fun X hX => ?_⟩
  obtain ⟨ad, e, hb, hc⟩ := h k _ (tv_get ps k hk)
  rw [e0] at e
  injection e with e
  subst e
  rw [tx_addn] at hc
  exact (hX.cell (p := ⟨g, o + k, none⟩) hb).trans hc
/-- an envelope: from, to, when. -/
abbrev Env := L × List L × Int
def EnvAt (w : World) (B : Nat) (x : Value) (e : Env) : Prop := ∃ A c, x = .agg #[.string (str e.1), .slice A e.2.1.length c, .int .i64 e.2.2] ∧ Tx w B A e.2.1
def OkE (e : Env) : Prop := e.1.length ≤ 140737488355328 ∧ ∀ k, (e.2.1.getD k []).length ≤ 140737488355328
end Rt
end Go.Proofs.Ytokaifnpmhkkpaa
