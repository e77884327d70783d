/- Contracts of the disk's calls at the states that the example comes to. Conditions: as stated at each. -/
import Derived.Test.YtlcnpddkppikgaaNames
import Derived.WalkSpells
import Derived.WalkLawsBesides
import Derived.Below
import Derived.Deep.Draws
import Derived.Laws.Rows
import Derived.StillTailTactics
import Derived.BigQuiet
import Derived.Deep.QuietTactic
namespace Go.Proofs.Ytlcnpddkppikgaa
open Go.RowKit Go
/-- Block g of W is these cells of type t, and none is frozen. -/
def BlkIs (W : World) (g : Nat) (t : TypeId) (cs : Array Value) : Prop := W.heap[g]? = some (.cells cs t (0, 0))
theorem BlkIs.cell {W : World} {g : Nat} {t : TypeId} {cs : Array Value} (h : BlkIs W g t cs) (i : Nat) : W.cell? ⟨g, i, none⟩ = cs[i]? := cell_of_row W g i cs t (0, 0) h
theorem BlkIs.froz {W : World} {g : Nat} {t : TypeId} {cs : Array Value} (h : BlkIs W g t cs) (i : Nat) : W.frozen? ⟨g, i, none⟩ = false := by
  unfold BlkIs at h
  simp [World.frozen?, h]
set_option maxHeartbeats 400000 in
theorem made_any (W : World) (D M : Nat) (c0 : W.cell? ⟨D, 0, none⟩ = some (.map (some M))) :
    Calls Try.prog 22 #[.pointer (some ⟨D, 0, none⟩)] W fun e w' => e = .returned (.bool true) ∧ W = w' := by
  have hn : ∀ (w : World) (r : Option Nat), (binOp .neq 36 (.map r) (.map none)).run Try.prog w = .ok (.bool (!r.isNone)) w := fun w r => run_neq_map_nil w _ _ _ r Try.underlying36
  go_enter Try.func22, Try.ntmps22
  go_wp2_with fail
  go_ret
  exact ⟨rfl, rfl⟩
set_option maxHeartbeats 400000 in
theorem down_any (W : World) (D M : Nat) (b : Bool) (c0 : W.cell? ⟨D, 0, none⟩ = some (.map (some M))) (c4 : W.cell? ⟨D, 4, none⟩ = some (.bool b)) :
    Calls Try.prog 11 #[.pointer (some ⟨D, 0, none⟩)] W fun e w' => e = .returned (.bool b) ∧ W = w' := by
  go_enter Try.func11, Try.ntmps11
  go_wp2_with (go_at_call 22; refine (made_any _ D M c0).mono ?_; rintro e w' ⟨rfl, rfl⟩)
  go_ret
  exact ⟨rfl, rfl⟩
/-- the example's file name. -/
def nA : ByteArray := ⟨#[97]⟩
theorem nA_ok : nameB nA = true := by decide +kernel
set_option maxHeartbeats 400000 in
theorem refuse_one (W : World) (D M S : Nat) (s : ByteArray) (hs : s.size ≤ maxLen) (hb : nameB s = true) (c0 : W.cell? ⟨D, 0, none⟩ = some (.map (some M))) (c4 : W.cell? ⟨D, 4, none⟩ = some (.bool false))
    (cs : W.cell? ⟨S, 0, none⟩ = some (.string s)) :
    Calls Try.prog 15 #[.pointer (some ⟨D, 0, none⟩), .slice (some ⟨S, 0, none⟩) 1 1] W fun e w' => e = .returned (.int .i64 0) ∧ W = w' := by
  go_enter Try.func15, Try.ntmps15
  go_wp2_with (go_at_call 11; refine (down_any _ D M false c0 c4).mono ?_; rintro e w' ⟨rfl, rfl⟩)
  go_loop [11] (fun i => ∃ k : Nat, k ≤ 1 ∧ i = .int .i64 k) (fun i => 1 - (intOf i).toNat)
  case atStart => exact ⟨0, by omega, rfl⟩
  case round =>
    obtain ⟨k, hk, rfl⟩ := hrel
    by_cases h : k < 1
    · obtain rfl : k = 0 := by omega
      go_wp2_with (go_at_call 5; refine (diskName_any _ _ hs).mono ?_; rintro e w' ⟨rfl, rfl⟩)
      go_round
      case rel => exact ⟨1, by omega, by go_num⟩
      case measure => simp [intOf]
    · obtain rfl : k = 1 := by omega
      go_wp2_with fail
      go_ret
      exact ⟨rfl, rfl⟩
end Go.Proofs.Ytlcnpddkppikgaa
