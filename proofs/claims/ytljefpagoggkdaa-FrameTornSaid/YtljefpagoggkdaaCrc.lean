/- The check sum's two programs: contracts of frame.down, frame.Crc and the document's Crc, on bytes in memory. Conditions: as stated at each. -/
import Derived.Test.YtljefpagoggkdaaMem
namespace Go.Proofs.Ytljefpagoggkdaa
open Go.RowKit Go
theorem ret_u32 {a b : Nat} (h : a = b) : Ending.returned (.int .u32 a) = .returned (.int .u32 b) := by rw [h]
set_option maxHeartbeats 400000 in
theorem down_any (s : Nat) (w : World) (h : s < 4294967296) :
    Calls Try.prog 22 #[.int .u32 s] w fun e w' => e = .returned (.int .u32 (downN 8 s : Nat)) ∧ w = w' := by
  go_enter Try.func22, Try.ntmps22
  go_wp2_with fail
  go_loop [0, 4] (fun x i => ∃ k : Nat, k ≤ 8 ∧ i = .int .i64 k ∧ x = .int .u32 (downN k s : Nat)) (fun _ i => 8 - (intOf i).toNat)
  case atStart => exact ⟨0, Nat.zero_le _, rfl, rfl⟩
  case round =>
    obtain ⟨k, hk, rfl, rfl⟩ := hrel
    have hb := downN_lt h k
    generalize hz : downN k s = z at *
    have HZ := Lib.hid hz
    clear hz
    by_cases hlt : k < 8
    · have hx : bits .and .u32 (z : Int) 1 = (z : Int) % 2 := by
        rw [u32_and (z : Int) 1 (by omega) (by omega) (by omega) (by omega)]
        simp
      go_wp2_with fail
      all_goals
        go_round
        case rel =>
          refine ⟨k + 1, by omega, by go_num, ?_⟩
          rw [downN, HZ.out, bitDown]
          first
            | (have hm : ((z : Int) % 2 == 1) = true := by assumption
               have hm2 : z % 2 = 1 := by simp at hm; omega
               rw [if_pos hm2, u32_xor _ _ (by omega) (by omega) (by omega) (by omega)]
               rfl)
            | (have hm : ((z : Int) % 2 == 1) = false := by assumption
               have hm2 : ¬ z % 2 = 1 := by simp at hm; omega
               rw [if_neg hm2]
               rfl)
        case measure => simp [intOf]; omega
    · obtain rfl : k = 8 := by omega
      go_wp2_with fail
      go_ret
      exact ⟨ret_u32 HZ.out.symm, rfl⟩
theorem ret_u {a b : Int} (h : a = b) : Ending.returned (.int .u32 a) = .returned (.int .u32 b) := by rw [h]
theorem crc_bits (l : List UInt8) : bits .xor .u32 IntKind.u32.max (crcReg l : Nat) = (crc l : Nat) := u32_xor_nat 4294967295 _ (by omega) (crcReg_lt l)
theorem take_snoc_ (l : List UInt8) (k : Nat) (h : k < l.length) : l.take (k + 1) = l.take k ++ [l.getD k 0] := by
  rw [List.take_succ_eq_append_getElem h, List.getD, List.getElem?_eq_getElem h]; rfl
theorem crcReg_next (l : List UInt8) (k : Nat) (h : k < l.length) : crcReg (l.take (k + 1)) = crcByte (crcReg (l.take k)) (l.getD k 0) := by
  rw [take_snoc_ l k h, crcReg_snoc]
theorem crc_end (l : List UInt8) (k : Nat) (h : l.length ≤ k) : crcReg (l.take k) = crcReg l := by rw [List.take_of_length_le h]
set_option maxHeartbeats 800000 in
theorem crc_any (A : Option Addr) (B c : Nat) (l : List UInt8) (w : World) (h : Bts w B A l) (hl : l.length ≤ 1000000000) :
    Calls Try.prog 12 #[.slice A l.length c] w fun e w' => e = .returned (.int .u32 (crc l : Nat)) ∧ w = w' := by
  have HC := Lib.hid (crc_end l l.length (Nat.le_refl _))
  go_enter Try.func12, Try.ntmps12
  go_wp2_with fail
  go_loop [3, 8] (fun x i => ∃ k : Nat, k ≤ l.length ∧ i = .int .i64 k ∧ x = .int .u32 (crcReg (l.take k) : Nat)) (fun _ i => l.length - (intOf i).toNat)
  case atStart => exact ⟨0, Nat.zero_le _, rfl, rfl⟩
  case round =>
    obtain ⟨k, hk, rfl, rfl⟩ := hrel
    have hb := crcReg_lt (l.take k)
    by_cases hlt : k < l.length
    · have HN := Lib.hid (crcReg_next l k hlt)
      obtain ⟨ad, hA, _, hcell⟩ := h.at_ hlt
      subst hA
      generalize hz : crcReg (l.take k) = z at *
      have HZ := Lib.hid hz
      clear hz
      generalize hq : l.getD k 0 = q at *
      have HQ := Lib.hid hq
      clear hq
      have hq := q.toNat_lt
      have hx : bits .xor .u32 (z : Int) (q.toNat : Int) = ((z ^^^ q.toNat : Nat) : Int) := u32_xor_nat _ _ (by omega) (by omega)
      have hlt2 : z ^^^ q.toNat < 4294967296 := xor_lt hb (by omega)
      go_wp2_with (go_at_call 22; refine (down_any _ _ hlt2).mono ?_; rintro e w' ⟨rfl, rfl⟩)
      go_round
      case rel => exact ⟨k + 1, by omega, by go_num, by rw [HN.out]; rfl⟩
      case measure => simp [intOf]; omega
    · obtain rfl : k = l.length := by omega
      go_wp2_with fail
      go_ret
      exact ⟨ret_u (crc_bits l), rfl⟩
theorem bitsIn_c (c z k : Nat) (hc : c < 256) (hz : z < 4294967296) (_ : k < 8) :
    bits .and .u32 (bits .xor .u32 (z : Int) ((c : Int) / 2 ^ k)) 1 = ((z ^^^ c / 2 ^ k : Nat) : Int) % 2 := by
  have e : (c : Int) / 2 ^ k = ((c / 2 ^ k : Nat) : Int) := by simp
  have hlt : c / 2 ^ k < 4294967296 := Nat.lt_of_le_of_lt (Nat.div_le_self _ _) (by omega)
  have h2 := xor_lt hz hlt
  rw [e, u32_xor_nat _ _ hz hlt, u32_and _ _ (by omega) (by omega) (by omega) (by omega)]
  simp
set_option maxHeartbeats 800000 in
theorem rcrc_any (A : Option Addr) (B c : Nat) (l : List UInt8) (w : World) (h : Bts w B A l) (hl : l.length ≤ 1000000000) :
    Calls Try.prog 13 #[.slice A l.length c] w fun e w' => e = .returned (.int .u32 (crc l : Nat)) ∧ w = w' := by
  go_enter Try.func13, Try.ntmps13
  go_wp2_with fail
  go_loop [3, 10] (fun x i => ∃ k : Nat, k ≤ l.length ∧ i = .int .i64 k ∧ x = .int .u32 (crcReg (l.take k) : Nat)) (fun _ i => l.length - (intOf i).toNat)
  case atStart => exact ⟨0, Nat.zero_le _, rfl, rfl⟩
  case round =>
    obtain ⟨k, hk, rfl, rfl⟩ := hrel
    have hb := crcReg_lt (l.take k)
    by_cases hlt : k < l.length
    · have HN := Lib.hid (crcReg_next l k hlt)
      obtain ⟨ad, hA, _, hcell⟩ := h.at_ hlt
      subst hA
      generalize hz : crcReg (l.take k) = z at *
      have HZ := Lib.hid hz
      clear hz
      generalize hq : l.getD k 0 = q at *
      have HQ := Lib.hid hq
      clear hq
      have hq := q.toNat_lt
      go_wp2_with fail
      go_loop [3, 6] (fun x i => ∃ j : Nat, j ≤ 8 ∧ i = .int .i64 j ∧ x = .int .u32 (bitsIn q.toNat z j : Nat)) (fun _ i => 8 - (intOf i).toNat)
      case atStart => exact ⟨0, Nat.zero_le _, rfl, rfl⟩
      case round =>
        obtain ⟨j, hj, rfl, rfl⟩ := hrel
        have hy := bitsIn_lt q.toNat hb j
        by_cases hlj : j < 8
        · have hm0 : bitsIn q.toNat z (j + 1) = bitIn q.toNat j (bitsIn q.toNat z j) := rfl
          have HM := Lib.hid hm0
          clear hm0
          generalize hz2 : bitsIn q.toNat z j = y at *
          have HY := Lib.hid hz2
          clear hz2
          have hmin : min j 32 = j := by omega
          have hbits := bitsIn_c q.toNat y j hq hy hlj
          go_wp2_with fail
          all_goals
            go_round
            case rel =>
              refine ⟨j + 1, by omega, by go_num, ?_⟩
              rw [HM.out]
              unfold bitIn
              first
                | (have hm : (((y ^^^ q.toNat / 2 ^ j : Nat) : Int) % 2 == 1) = true := by assumption
                   have hm2 : (y ^^^ q.toNat / 2 ^ j) % 2 = 1 := by simp only [beq_iff_eq] at hm; omega
                   rw [if_pos hm2, u32_xor _ _ (by omega) (by omega) (by omega) (by omega)]
                   rfl)
                | (have hm : (((y ^^^ q.toNat / 2 ^ j : Nat) : Int) % 2 == 1) = false := by assumption
                   have hm2 : ¬ (y ^^^ q.toNat / 2 ^ j) % 2 = 1 := by simp only [beq_eq_false_iff_ne] at hm; omega
                   rw [if_neg hm2]
                   rfl)
            case measure => simp [intOf]; omega
        · obtain rfl : j = 8 := by omega
          go_wp2_with fail
          go_round
          case rel => exact ⟨k + 1, by omega, by go_num, by rw [HN.out, bitsIn_8]⟩
          case measure => simp [intOf]; omega
    · obtain rfl : k = l.length := by omega
      go_wp2_with fail
      go_ret
      exact ⟨ret_u (crc_bits l), rfl⟩
end Go.Proofs.Ytljefpagoggkdaa
