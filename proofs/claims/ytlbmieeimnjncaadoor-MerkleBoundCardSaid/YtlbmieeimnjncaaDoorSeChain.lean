/- Lists of seals in memory; contracts of Chain: the program's, the document's. Conditions: as stated at each. -/
import Derived.Test.YtlbmieeimnjncaaDoorSeSum
namespace Go.Proofs.YtlbmieeimnjncaaDoor
set_option maxRecDepth 100000
open Go.RowKit Go
def Oks (l : List Sl) : Prop := ∀ s ∈ l, s.ok
def scs (l : List Sl) : List Value := l.flatMap sc
theorem scs_length : ∀ {l : List Sl}, Oks l → (scs l).length = 66 * l.length
  | [], _ => rfl
  | x :: l, h => by
    rw [scs, List.flatMap_cons, List.length_append, sc_length (h x (by simp)), List.length_cons]
    have := scs_length (l := l) (fun y hy => h y (by simp [hy]))
    rw [scs] at this
    omega
theorem scs_append (a b : List Sl) : scs (a ++ b) = scs a ++ scs b := by simp [scs]
theorem scs_single (s : Sl) : scs [s] = sc s := by simp [scs]
/-- the slice at A reads as these seals. -/
def Ss (w : World) (B : Nat) (A : Option Addr) (l : List Sl) : Prop := Oks l ∧ (l = [] ∨ ∃ g o, A = some ⟨g, o, none⟩ ∧ g < B ∧ w.rangeAt g o (scs l))
theorem Ss.nil {w : World} {B : Nat} {A : Option Addr} : Ss w B A [] := ⟨fun _ h => (by cases h), .inl rfl⟩
theorem Ss.below {w w' : World} {B : Nat} {A : Option Addr} {l : List Sl} (h : Ss w B A l) (hb : Below B w w') : Ss w' B A l := by
  refine ⟨h.1, ?_⟩
  rcases h.2 with e | ⟨g, o, e, hg, hr⟩
  · exact .inl e
  · exact .inr ⟨g, o, e, hg, range_below hr hb hg⟩
theorem Ss.more {w : World} {B B' : Nat} {A : Option Addr} {l : List Sl} (h : Ss w B A l) (hB : B ≤ B') : Ss w B' A l := by
  refine ⟨h.1, ?_⟩
  rcases h.2 with e | ⟨g, o, e, hg, hr⟩
  · exact .inl e
  · exact .inr ⟨g, o, e, by omega, hr⟩
theorem Ss.at_ {w : World} {B : Nat} {A : Option Addr} {l : List Sl} (h : Ss w B A l) {k : Nat} (hk : k < l.length) : ∃ g o, A = some ⟨g, o, none⟩ ∧ g < B ∧ w.rangeAt g (o + k * 66) (sc (l.getD k zeroS)) := by
  rcases h.2 with rfl | ⟨g, o, rfl, hg, hr⟩
  · simp at hk
  · refine ⟨g, o, rfl, hg, ?_⟩
    have e : l = l.take k ++ ([l.getD k zeroS] ++ l.drop (k + 1)) := by
      rw [List.getD_eq_getElem?_getD, List.getElem?_eq_getElem hk]
      simp
    rw [e, scs_append, scs_append, scs_single] at hr
    refine range_sub (c := scs (l.drop (k + 1))) ?_ ?_ (a := scs (l.take k))
    · exact hr
    · rw [scs_length (fun x hx => h.1 x (List.mem_of_mem_take hx)), List.length_take]
      omega
theorem Ss.getD {l : List Sl} (h : Oks l) {k : Nat} (hk : k < l.length) : (l.getD k zeroS).ok := by
  rw [List.getD_eq_getElem?_getD, List.getElem?_eq_getElem hk]
  exact h _ (List.getElem_mem hk)
theorem drop_at {l : List Sl} {k : Nat} (hk : k < l.length) : l.drop k = l.getD k zeroS :: l.drop (k + 1) := by
  rw [List.drop_eq_getElem_cons hk, List.getD_eq_getElem?_getD, List.getElem?_eq_getElem hk]
  rfl
end Go.Proofs.YtlbmieeimnjncaaDoor
