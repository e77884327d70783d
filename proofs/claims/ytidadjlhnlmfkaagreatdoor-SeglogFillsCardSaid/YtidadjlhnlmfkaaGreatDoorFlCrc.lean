/- frame.down, frame.Crc. Conditions: as stated. -/
import Derived.Test.YtidadjlhnlmfkaaGreatDoorFlMem
namespace Go.Proofs.YtidadjlhnlmfkaaGreatDoor
set_option maxRecDepth 100000
open Go.RowKit Go
set_option maxHeartbeats 400000 in
theorem fdown_any (s : Nat) (w : World) (h : s < 4294967296) :
    Calls Tryz.prog 90 #[.int .u32 s] w fun e w' => e = .returned (.int .u32 (downN 8 s : Nat)) ∧ w = w' := by
  go_enter Tryz.func90, Tryz.ntmps90
  go_wp2_with fail
  go_loop [0, 4] (fun x i => ∃ k : Nat, k ≤ 8 ∧ i = .int .i64 k ∧ x = .int .u32 (downN k s : Nat)) (fun _ i => 8 - (intOf i).toNat)
  case atStart => exact ⟨0, Nat.zero_le _, rfl, rfl⟩
  case round =>
    obtain ⟨k, hk, rfl, rfl⟩ := hrel
    have hb := downN_lt h k
    generalize hz : downN k s = z at *
    have HZ := Lib.hid hz
    clear hz
    by_cases hlt : k < 8
    · have hx : bits .and .u32 (z : Int) 1 = (z : Int) % 2 := by
        rw [u32_and (z : Int) 1 (by omega) (by omega) (by omega) (by omega)]
        simp
      go_wp2_with fail
      all_goals
        go_round
        case rel =>
          refine ⟨k + 1, by omega, by go_num, ?_⟩
          rw [downN, HZ.out, bitDown]
          first
            | (have hm : ((z : Int) % 2 == 1) = true := by assumption
               have hm2 : z % 2 = 1 := by simp at hm; omega
               rw [if_pos hm2, u32_xor _ _ (by omega) (by omega) (by omega) (by omega)]
               rfl)
            | (have hm : ((z : Int) % 2 == 1) = false := by assumption
               have hm2 : ¬ z % 2 = 1 := by simp at hm; omega
               rw [if_neg hm2]
               rfl)
        case measure => simp [intOf]; omega
    · obtain rfl : k = 8 := by omega
      go_wp2_with fail
      go_ret
      exact ⟨ret_u32 HZ.out.symm, rfl⟩
set_option maxHeartbeats 800000 in
theorem crc_any (A : Option Addr) (B c : Nat) (l : List UInt8) (w : World) (h : Bts w B A l) (hl : l.length ≤ 1000000000) :
    Calls Tryz.prog 69 #[.slice A l.length c] w fun e w' => e = .returned (.int .u32 (crc l : Nat)) ∧ w = w' := by
  have HC := Lib.hid (crc_end l l.length (Nat.le_refl _))
  go_enter Tryz.func69, Tryz.ntmps69
  go_wp2_with fail
  go_loop [3, 8] (fun x i => ∃ k : Nat, k ≤ l.length ∧ i = .int .i64 k ∧ x = .int .u32 (crcReg (l.take k) : Nat)) (fun _ i => l.length - (intOf i).toNat)
  case atStart => exact ⟨0, Nat.zero_le _, rfl, rfl⟩
  case round =>
    obtain ⟨k, hk, rfl, rfl⟩ := hrel
    have hb := crcReg_lt (l.take k)
    by_cases hlt : k < l.length
    · have HN := Lib.hid (crcReg_next l k hlt)
      obtain ⟨ad, hA, _, hcell⟩ := h.at_ hlt
      subst hA
      generalize hz : crcReg (l.take k) = z at *
      have HZ := Lib.hid hz
      clear hz
      generalize hq : l.getD k 0 = q at *
      have HQ := Lib.hid hq
      clear hq
      have hq := q.toNat_lt
      have hx : bits .xor .u32 (z : Int) (q.toNat : Int) = ((z ^^^ q.toNat : Nat) : Int) := u32_xor_nat _ _ (by omega) (by omega)
      have hlt2 : z ^^^ q.toNat < 4294967296 := xor_lt hb (by omega)
      go_wp2_with (go_at_call 90; refine (fdown_any _ _ hlt2).mono ?_; rintro e w' ⟨rfl, rfl⟩)
      go_round
      case rel => exact ⟨k + 1, by omega, by go_num, by rw [HN.out]; rfl⟩
      case measure => simp [intOf]; omega
    · obtain rfl : k = l.length := by omega
      go_wp2_with fail
      go_ret
      exact ⟨ret_u (crc_bits l), rfl⟩
end Go.Proofs.YtidadjlhnlmfkaaGreatDoor
