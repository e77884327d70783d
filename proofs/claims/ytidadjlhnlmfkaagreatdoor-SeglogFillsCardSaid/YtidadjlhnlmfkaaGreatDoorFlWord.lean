/- frame.word. Conditions: as stated. -/
import Derived.Test.YtidadjlhnlmfkaaGreatDoorFlNum
namespace Go.Proofs.YtidadjlhnlmfkaaGreatDoor
set_option maxRecDepth 100000
open Go.RowKit Go
set_option maxHeartbeats 400000 in
theorem word_any (A : Option Addr) (B c : Nat) (l : List UInt8) (w : World) (h : Bts w B A l) (hl : l.length ≤ 1000000000) (h4 : 4 ≤ l.length) :
    Calls Tryz.prog 100 #[.slice A l.length c] w fun e w' => e = .returned (.int .u32 (num4 l : Nat)) ∧ w = w' := by
  have HE := Lib.hid (wordK_4 l)
  go_enter Tryz.func100, Tryz.ntmps100
  go_wp2_with fail
  go_loop [3, 5] (fun x i => ∃ k : Nat, k ≤ 4 ∧ i = .int .i64 k ∧ x = .int .u32 (wordK l k : Nat)) (fun _ i => 4 - (intOf i).toNat)
  case atStart => exact ⟨0, Nat.zero_le _, rfl, rfl⟩
  case round =>
    obtain ⟨k, hk, rfl, rfl⟩ := hrel
    by_cases hlt : k < 4
    · obtain ⟨ad, rfl, _, hcell⟩ := h.at_ (show k < l.length by omega)
      have hor := wordK_or l k hlt
      generalize hz : wordK l k = z at *
      generalize hz2 : wordK l (k + 1) = z2 at *
      generalize hq : l.getD k 0 = q at *
      have HZ := Lib.hid hz
      have HZ2 := Lib.hid hz2
      clear hz hz2 hq
      have hqlt := q.toNat_lt
      go_wp2_with fail
      go_round
      case rel => exact ⟨k + 1, by omega, by go_num, by rw [HZ2.out]⟩
      case measure => simp [intOf]; omega
    · obtain rfl : k = 4 := by omega
      go_wp2_with fail
      go_ret
      exact ⟨ret_u (by rw [HE.out]), rfl⟩
end Go.Proofs.YtidadjlhnlmfkaaGreatDoor
