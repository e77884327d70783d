/- RtRow. Conditions: as stated at each. -/
import Derived.Test.YteapnkedpmcokaaGreatDoorRm06
import Derived.Test.YteapnkedpmcokaaGreatDoorRm02
import Derived.Deep.MidRow
/- Rows of pairs in memory: classes, rules. Conditions: none. -/
namespace Go.Proofs.YteapnkedpmcokaaGreatDoor
set_option maxRecDepth 100000
namespace Rt
open Go.RowKit Go
/-- pairs as cells. -/
def pc (xs : List (Value × Value)) : List Value := xs.flatMap fun p => [p.1, p.2]
theorem pc_cons (p : Value × Value) (xs : List (Value × Value)) : pc (p :: xs) = p.1 :: p.2 :: pc xs := rfl
theorem pc_get : ∀ {xs : List (Value × Value)} {k : Nat} {p : Value × Value}, xs[k]? = some p → (pc xs)[k * 2]? = some p.1 ∧ (pc xs)[k * 2 + 1]? = some p.2
  | [], k, p, h => by simp at h
  | q :: xs, 0, p, h => by
    have : q = p := by simpa using h
    subst this
    exact ⟨rfl, rfl⟩
  | q :: xs, k + 1, p, h => by
    have := pc_get (xs := xs) (k := k) (p := p) (by simpa using h)
    rw [pc_cons, show (k + 1) * 2 = (k * 2 + 1) + 1 by omega]
    simpa using this
/-- the slice at A reads as these pairs. -/
def Prs (w : World) (B : Nat) (A : Option Addr) (xs : List (Value × Value)) : Prop := xs = [] ∨ ∃ g o, A = some ⟨g, o, none⟩ ∧ g < B ∧ w.rangeAt g o (pc xs)
section
variable {w w' : World} {B B' : Nat} {A : Option Addr} {xs : List (Value × Value)}
theorem Prs.below (h : Prs w B A xs) (hb : Below B w w') : Prs w' B A xs := by
  rcases h with h | ⟨g, o, e, hg, hr⟩
  · exact .inl h
  · exact .inr ⟨g, o, e, hg, fun j v hj => (hb.cell (p := ⟨g, o + j, none⟩) hg).trans (hr j v hj)⟩
theorem Prs.more (h : Prs w B A xs) (hB : B ≤ B') : Prs w B' A xs := by
  rcases h with h | ⟨g, o, e, hg, hr⟩
  · exact .inl h
  · exact .inr ⟨g, o, e, by omega, hr⟩
theorem Prs.els (h : Prs w B A xs) {k : Nat} {p : Value × Value} (hk : xs[k]? = some p) : ∃ g o, A = some ⟨g, o, none⟩ ∧ g < B ∧ ∀ X, Below B w X → X.cell? ⟨g, o + k * 2, none⟩ = some p.1 ∧ X.cell? ⟨g, o + k * 2 + 1, none⟩ = some p.2 := by
  rcases h with rfl | ⟨g, o, rfl, hg, hr⟩
  · simp at hk
  · obtain ⟨h1, h2⟩ := pc_get hk
    exact ⟨g, o, rfl, hg, fun X hX => ⟨(hX.cell (p := ⟨g, _, none⟩) hg).trans (hr _ _ h1), (hX.cell (p := ⟨g, _, none⟩) hg).trans (hr _ _ h2)⟩⟩
end
def cvC (l : List C) : List (Value × Value) := l.map fun c => (.string (str c.1), .int .i64 c.2)
def cvR (l : List R) : List (Value × Value) := l.map fun r => (.string (str r.1), .string (str r.2))
theorem cvC_get {l : List C} {k : Nat} (h : k < l.length) : (cvC l)[k]? = some (.string (str (l.getD k c0).1), .int .i64 (l.getD k c0).2) := by simp [cvC, List.getD, h]
theorem cvR_get {l : List R} {k : Nat} (h : k < l.length) : (cvR l)[k]? = some (.string (str (l.getD k r0).1), .string (str (l.getD k r0).2)) := by simp [cvR, List.getD, h]
theorem pc_length : ∀ xs : List (Value × Value), (pc xs).length = xs.length * 2
  | [] => rfl
  | p :: xs => by rw [pc_cons, List.length_cons, List.length_cons, pc_length xs, List.length_cons]; omega
theorem prs_of {W : World} {a : Addr} {xs : List (Value × Value)} (h : ∀ i p, xs[i]? = some p → W.cell? (a.add (i * 2)) = some p.1 ∧ W.cell? (a.add (i * 2 + 1)) = some p.2) : Prs W W.heap.size (some a) xs := by
  rcases Decidable.em (xs = []) with h0 | h0
  · exact .inl h0
  · have hl : 0 < xs.length := List.length_pos_iff.2 h0
    obtain ⟨g, o, sp⟩ := a
    have h1 := (h 0 _ (List.getElem?_eq_getElem hl)).1
    have hs : sp = none := by
      cases sp with
      | none => rfl
      | some x =>
        rw [Nat.zero_mul] at h1
        simp only [Addr.add, if_true, World.cell?] at h1
        split at h1
        · simp at h1
        · cases h1
    subst hs
    have hg : g < W.heap.size := World.block_lt_of_cell? W ⟨g, o, none⟩ (by rw [Nat.zero_mul] at h1; exact h1)
    refine .inr ⟨g, o, rfl, hg, fun j v hj => ?_⟩
    have hjl : j < (pc xs).length := (List.getElem?_eq_some_iff.1 hj).1
    rw [pc_length] at hjl
    have hk : j / 2 < xs.length := by omega
    have hget : xs[j / 2]? = some xs[j / 2] := List.getElem?_eq_getElem hk
    have hadd : ∀ n, (⟨g, o, none⟩ : Addr).add n = ⟨g, o + n, none⟩ := fun n => by
      unfold Addr.add
      split
      · next e => subst e; rfl
      · rfl
    obtain ⟨k0, k1⟩ := h (j / 2) _ hget
    rw [hadd] at k0 k1
    rcases Nat.mod_two_eq_zero_or_one j with hm | hm
    · have e : j = j / 2 * 2 := by omega
      have := (pc_get hget).1
      rw [← e, hj] at this
      injection this with this
      rw [this, ← k0, ← e]
    · have e : j = j / 2 * 2 + 1 := by omega
      have := (pc_get hget).2
      rw [← e, hj] at this
      injection this with this
      rw [this, ← k1, ← e]
end Rt
end Go.Proofs.YteapnkedpmcokaaGreatDoor
