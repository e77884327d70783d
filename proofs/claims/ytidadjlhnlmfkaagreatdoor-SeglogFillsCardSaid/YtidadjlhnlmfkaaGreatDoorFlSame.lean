/- The document's Same at lists that are alike. Conditions: as stated. -/
import Derived.Test.YtidadjlhnlmfkaaGreatDoorFlMem
namespace Go.Proofs.YtidadjlhnlmfkaaGreatDoor
set_option maxRecDepth 100000
open Go.RowKit Go
set_option maxHeartbeats 800000 in
theorem same_any (A1 A2 : Option Addr) (B c1 c2 : Nat) (ll : List (List UInt8)) (w : World) (h1 : Rws w B A1 ll) (h2 : Rws w B A2 ll) (hl : ll.length ≤ maxLen) :
    Calls Tryz.prog 16 #[.slice A1 ll.length c1, .slice A2 ll.length c2] w fun e w' => e = .returned (.bool true) ∧ Below w.heap.size w w' := by
  unfold maxLen at hl
  go_enter Tryz.func16, Tryz.ntmps16
  go_wp2_with fail
  go_loopw [13] (fun i wr => ∃ k j : Nat, k ≤ ll.length ∧ i = .int .i64 k ∧ wr = w.drewN j) (fun i _ => ll.length - (intOf i).toNat)
  case atStart => exact ⟨0, 0, Nat.zero_le _, rfl, rfl⟩
  case round =>
    obtain ⟨k, j, hk, rfl, rfl⟩ := hrel
    by_cases hlt : k < ll.length
    · obtain ⟨a1, D1, d1, rfl, _, e1, _, _, b1⟩ := (h1.drewN j).at_ hlt
      obtain ⟨a2, D2, d2, rfl, _, e2, _, _, b2⟩ := (h2.drewN j).at_ hlt
      generalize hw : w.drewN j = w1 at *
      have HW := Lib.hid hw
      clear hw
      generalize ll.getD k [] = r at *
      have s1 := fun n => run_str Tryz.prog Tryz.underlying26 Tryz.underlying5 Tryz.underlying9 d1 (b1.below (drewN_below w1 B n))
      have s2 := fun n => run_str Tryz.prog Tryz.underlying26 Tryz.underlying5 Tryz.underlying9 d2 (b2.below (drewN_below w1 B n))
      have x1 : (0 : Int) ≤ (k : Int) := by omega
      have x2 : (k : Int) < (ll.length : Int) := by omega
      clear b1 b2
      go_wp2_with fail
      go_quiet (fail)
      go_wp2_with fail
      go_roundw
      case rel => exact ⟨k + 1, j + nq, by omega, by go_num, by rw [← HW.out, World.drewN_drewN]⟩
      case measure => simp [intOf]; omega
    · obtain rfl : k = ll.length := by omega
      go_wp2_with fail
      go_ret
      exact ⟨rfl, drewN_below _ _ _⟩
end Go.Proofs.YtidadjlhnlmfkaaGreatDoor
