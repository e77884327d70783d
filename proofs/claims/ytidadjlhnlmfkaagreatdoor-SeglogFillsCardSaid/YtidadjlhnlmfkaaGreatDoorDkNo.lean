/- The disk's calls where they are refused, over its state. Conditions: as stated at each. -/
import Derived.Test.YtidadjlhnlmfkaaGreatDoorDkOps
namespace Go.Proofs.YtidadjlhnlmfkaaGreatDoor
set_option maxRecDepth 100000
open Go.RowKit Go.Shelf Go
/-- refused: no file is changed. -/
def Still (W : World) (N : Nat) (Ft : Nat → Prop) (Dk k : Nat) (F : Files) (rm x lf : Int) (b : Bool) (w' : World) : Prop :=
  DiskS w' N Ft Dk k F rm x lf b ∧ Below W.heap.size W w'
/-- Append's error ahead of the change: no power, no name, no room. -/
theorem append_no (W : World) (N : Nat) (Ft : Nat → Prop) (Dk k : Nat) (F : Files) (s : ByteArray) (rm x lf : Int) (b : Bool) (A : Option Addr) (n c : Nat)
    (hS : DiskS W N Ft Dk k F rm x lf b) (hs : s.size ≤ maxLen) (hx : 0 ≤ x) (hx2 : x ≤ 1000000000000) (hn : n ≤ 1000000000000) (h : b = true ∨ nameB s = false ∨ rm < x + n) :
    Calls Tryz.prog 29 #[.pointer (some ⟨Dk, 0, none⟩), .string s, .slice A n c] W fun e w' => e = .returned (.int .i64 (if b then 10 else if nameB s = false then 12 else 11)) ∧ Still W N Ft Dk k F rm x lf b w' := by
  have hS0 := hS
  obtain ⟨M, D, hD, hM, f1, f2, hF⟩ := hS
  cases b with
  | true =>
    refine (append_down W Dk M s _ _ _ _ hD ⟨A, n, c, rfl⟩).mono ?_
    rintro e w' ⟨rfl, hB⟩
    exact ⟨rfl, hS0.below hB, hB⟩
  | false =>
    cases hb : nameB s with
    | false =>
      refine (append_bad W Dk M s _ _ _ _ hD ⟨A, n, c, rfl⟩ hs hb).mono ?_
      rintro e w' ⟨rfl, hB⟩
      exact ⟨by simp, hS0.below hB, hB⟩
    | true =>
      refine (append_full W Dk M s A n c rm x _ hD hs hb hx hx2 hn ?_).mono ?_
      · rcases h with h | h | h
        · cases h
        · rw [hb] at h; cases h
        · exact h
      · rintro e w' ⟨rfl, hB⟩
        exact ⟨by simp, hS0.below hB, hB⟩
/-- Sync's: no power, no name, no file. -/
theorem sync_no (W : World) (N : Nat) (Ft : Nat → Prop) (Dk k : Nat) (F : Files) (s : ByteArray) (rm x lf : Int) (b : Bool)
    (hS : DiskS W N Ft Dk k F rm x lf b) (hs : s.size ≤ maxLen) (h : b = true ∨ nameB s = false ∨ F s = none) :
    Calls Tryz.prog 59 #[.pointer (some ⟨Dk, 0, none⟩), .string s] W fun e w' => e = .returned (.int .i64 (if b then 10 else if nameB s = false then 12 else 3)) ∧ Still W N Ft Dk k F rm x lf b w' := by
  have hS0 := hS
  obtain ⟨M, D, hD, hM, f1, f2, hF⟩ := hS
  cases b with
  | true =>
    refine (sync_down W Dk M s _ _ _ hD).mono ?_
    rintro e w' ⟨rfl, hB⟩
    exact ⟨rfl, hS0.below hB, hB⟩
  | false =>
    cases hb : nameB s with
    | false =>
      refine (sync_bad W Dk M s _ _ _ hD hs hb).mono ?_
      rintro e w' ⟨rfl, hB⟩
      exact ⟨by simp, hS0.below hB, hB⟩
    | true =>
      refine (sync_none W Dk M k D s _ _ _ hD hM hs hb (hF.1 s ?_)).mono ?_
      · rcases h with h | h | h
        · cases h
        · rw [hb] at h; cases h
        · exact h
      · rintro e w' ⟨rfl, hB⟩
        exact ⟨by simp, hS0.below hB, hB⟩
theorem down_S (W : World) (N : Nat) (Ft : Nat → Prop) (Dk k : Nat) (F : Files) (rm x lf : Int) (b : Bool) (hS : DiskS W N Ft Dk k F rm x lf b) :
    Calls Tryz.prog 20 #[.pointer (some ⟨Dk, 0, none⟩)] W fun e w' => e = .returned (.bool b) ∧ W = w' := by
  obtain ⟨M, D, hD, _⟩ := hS
  exact down_any W Dk M b (hD.cell 0) (hD.cell 4)
end Go.Proofs.YtidadjlhnlmfkaaGreatDoor
