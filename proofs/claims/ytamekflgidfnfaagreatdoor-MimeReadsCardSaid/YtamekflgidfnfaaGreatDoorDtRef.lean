/- The document's Whole, Close, Lines. Conditions: as stated at each. -/
import Derived.Test.YtamekflgidfnfaaGreatDoorDtMem
namespace Go.Proofs.YtamekflgidfnfaaGreatDoor
set_option maxRecDepth 100000
namespace Dt
open Go.RowKit Go Go.Proofs.YtamekflgidfnfaaGreatDoor.Hd
theorem whole_nil : whole [] = true := rfl
theorem whole_one {l : L} (h : l.length = 1) : whole l = false := by
  obtain ⟨x, rfl⟩ := List.length_eq_one_iff.1 h
  have := whole_iff [x]
  cases hw : whole [x] with
  | false => rfl
  | true =>
    rcases this.1 hw with h | ⟨s, h⟩
    · cases h
    · have := congrArg List.length h
      simp at this
theorem whole_two {l : L} {n : Nat} (h : l.length = n + 2) : whole l = (l.getD n 0 == 13 && l.getD (n + 1) 0 == 10) := by
  have e : l = l.take n ++ [l.getD n 0, l.getD (n + 1) 0] := by
    conv => lhs; rw [← List.take_append_drop n l]
    congr 1
    rw [List.drop_eq_getElem_cons (by omega), List.drop_eq_getElem_cons (by omega), List.drop_eq_nil_of_le (by omega)]
    simp [List.getD, h]
  rw [Bool.eq_iff_iff, whole_iff, Bool.and_eq_true, beq_iff_eq, beq_iff_eq]
  generalize l.getD n 0 = x at *
  generalize l.getD (n + 1) 0 = y at *
  constructor
  · rintro (h1 | ⟨s, hs⟩)
    · rw [h1] at h; simp at h
    · rw [hs] at e
      have := (List.append_inj' e (by simp)).2
      simp at this
      exact ⟨this.1.symm, this.2.symm⟩
  · rintro ⟨rfl, rfl⟩
    exact .inr ⟨_, e⟩
theorem eq_byte (x c : UInt8) : ((x.toNat : Int) == (c.toNat : Int)) = (x == c) := by
  rw [Bool.eq_iff_iff, beq_iff_eq, beq_iff_eq, ← UInt8.toNat_inj]
  omega
/-- bytes behind bytes, where the new ones are a row just built. -/
theorem bts_new (w : World) (l : L) (C : Array Value) (fr : Nat × Nat) (h : C.toList = bv l) : Bts (w.alloc (.cells C 5 fr)) (w.heap.size + 1) (some ⟨w.heap.size, 0, none⟩) l := Bts.newm w l C fr h
end Dt
end Go.Proofs.YtamekflgidfnfaaGreatDoor
