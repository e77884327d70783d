/- Contracts of frame.word, frame.lay, the document's number and four. Conditions: as stated at each. -/
import Derived.Test.YtljefpagoggkdaaSmall
namespace Go.Proofs.Ytljefpagoggkdaa
open Go.RowKit Go
theorem add_0 (a : Addr) : a.add 0 = a := rfl
/-- the first k bytes as a number. -/
def wordK (l : List UInt8) : Nat → Nat
  | 0 => 0
  | k + 1 => wordK l k + (l.getD k 0).toNat * 2 ^ (8 * k)
theorem wordK_lt (l : List UInt8) : ∀ k, wordK l k < 2 ^ (8 * k)
  | 0 => by simp [wordK]
  | k + 1 => by
    have h := wordK_lt l k
    have hc := (l.getD k 0).toNat_lt
    have e : 2 ^ (8 * (k + 1)) = 256 * 2 ^ (8 * k) := by rw [show 8 * (k + 1) = 8 + 8 * k from by omega, Nat.pow_add]
    have hm : (l.getD k 0).toNat * 2 ^ (8 * k) ≤ 255 * 2 ^ (8 * k) := Nat.mul_le_mul_right _ (by omega)
    rw [wordK, e]
    omega
theorem wordK_4 (l : List UInt8) : wordK l 4 = num4 l := by
  simp [wordK, num4]
  omega
theorem wordK_or (l : List UInt8) (k : Nat) (hk : k < 4) :
    bits .or .u32 (wordK l k : Nat) (((l.getD k 0).toNat : Int) * 2 ^ (8 * k) % 4294967296) = (wordK l (k + 1) : Nat) := by
  have h0 := wordK_lt l k
  have h1 := wordK_lt l (k + 1)
  have hp : (2 : Nat) ^ (8 * (k + 1)) ≤ 4294967296 := Nat.pow_le_pow_right (n := 2) (by omega) (show 8 * (k + 1) ≤ 32 by omega)
  have e : ((l.getD k 0).toNat : Int) * 2 ^ (8 * k) = (((l.getD k 0).toNat * 2 ^ (8 * k) : Nat) : Int) := by simp
  have hle : wordK l (k + 1) = (l.getD k 0).toNat * 2 ^ (8 * k) + wordK l k := by rw [wordK]; omega
  have hd : (l.getD k 0).toNat * 2 ^ (8 * k) % 2 ^ (8 * k) = 0 := by simp
  rw [e]
  generalize (l.getD k 0).toNat * 2 ^ (8 * k) = p at *
  rw [Int.emod_eq_of_lt (by omega) (by omega), u32_or_nat _ _ (by omega) (by omega), Nat.or_comm, nat_join (8 * k) _ _ hd h0, hle]
set_option maxHeartbeats 400000 in
theorem word_any (A : Option Addr) (B c : Nat) (l : List UInt8) (w : World) (h : Bts w B A l) (hl : l.length ≤ 1000000000) (h4 : 4 ≤ l.length) :
    Calls Try.prog 29 #[.slice A l.length c] w fun e w' => e = .returned (.int .u32 (num4 l : Nat)) ∧ w = w' := by
  have HE := Lib.hid (wordK_4 l)
  go_enter Try.func29, Try.ntmps29
  go_wp2_with fail
  go_loop [3, 5] (fun x i => ∃ k : Nat, k ≤ 4 ∧ i = .int .i64 k ∧ x = .int .u32 (wordK l k : Nat)) (fun _ i => 4 - (intOf i).toNat)
  case atStart => exact ⟨0, Nat.zero_le _, rfl, rfl⟩
  case round =>
    obtain ⟨k, hk, rfl, rfl⟩ := hrel
    by_cases hlt : k < 4
    · obtain ⟨ad, rfl, _, hcell⟩ := h.at_ (show k < l.length by omega)
      have hor := wordK_or l k hlt
      generalize hz : wordK l k = z at *
      generalize hz2 : wordK l (k + 1) = z2 at *
      generalize hq : l.getD k 0 = q at *
      have HZ := Lib.hid hz
      have HZ2 := Lib.hid hz2
      clear hz hz2 hq
      have hqlt := q.toNat_lt
      go_wp2_with fail
      go_round
      case rel => exact ⟨k + 1, by omega, by go_num, by rw [HZ2.out]⟩
      case measure => simp [intOf]; omega
    · obtain rfl : k = 4 := by omega
      go_wp2_with fail
      go_ret
      exact ⟨ret_u (by rw [HE.out]), rfl⟩
theorem or_low (i a b : Nat) (ha : a < 2 ^ i) (hb : b * 2 ^ i < 4294967296) (hi : 2 ^ i < 4294967296) : bits .or .u32 (a : Int) ((b * 2 ^ i : Nat) : Int) = ((a + b * 2 ^ i : Nat) : Int) := by
  rw [u32_or_nat _ _ (by omega) hb, Nat.or_comm, nat_join i _ _ (by simp) ha, Nat.add_comm]
theorem four_or {q0 q1 q2 q3 : Nat} (h0 : q0 < 2 ^ 8) (h1 : q1 < 2 ^ 8) (h2 : q2 < 2 ^ 8) (h3 : q3 < 2 ^ 8) :
    bits .or .u32 (bits .or .u32 (bits .or .u32 (q0 : Int) ((q1 : Int) * 256)) ((q2 : Int) * 65536)) ((q3 : Int) * 16777216) = ((q0 + 256 * q1 + 65536 * q2 + 16777216 * q3 : Nat) : Int) := by
  have e1 : (q1 : Int) * 256 = ((q1 * 2 ^ 8 : Nat) : Int) := by simp
  have e2 : (q2 : Int) * 65536 = ((q2 * 2 ^ 16 : Nat) : Int) := by simp
  have e3 : (q3 : Int) * 16777216 = ((q3 * 2 ^ 24 : Nat) : Int) := by simp
  rw [e1, e2, e3, or_low 8 _ _ h0 (by omega) (by omega), or_low 16 _ _ (by omega) (by omega) (by omega), or_low 24 _ _ (by omega) (by omega) (by omega)]
  congr 1
  omega
set_option maxHeartbeats 400000 in
theorem number_any (A : Option Addr) (B c : Nat) (l : List UInt8) (w : World) (h : Bts w B A l) (hl : l.length ≤ 1000000000) (h4 : 4 ≤ l.length) :
    Calls Try.prog 26 #[.slice A l.length c] w fun e w' => e = .returned (.int .u32 (num4 l : Nat)) ∧ ∃ n, w' = w.drewN n := by
  have HE := Lib.hid (wordK_4 l)
  obtain ⟨ad, rfl, _, c0⟩ := h.at_ (show 0 < l.length by omega)
  obtain ⟨_, e1, _, c1⟩ := h.at_ (show 1 < l.length by omega)
  injection e1 with e1
  subst e1
  obtain ⟨_, e1, _, c2⟩ := h.at_ (show 2 < l.length by omega)
  injection e1 with e1
  subst e1
  obtain ⟨_, e1, _, c3⟩ := h.at_ (show 3 < l.length by omega)
  injection e1 with e1
  subst e1
  have b0 : 0 < l.length := by omega
  have b1 : (1 : Int) < (l.length : Int) := by omega
  have b2 : (2 : Int) < (l.length : Int) := by omega
  have b3 : (3 : Int) < (l.length : Int) := by omega
  rw [add_0] at c0
  rw [show ad.add 1 = ⟨ad.block, ad.off + 1, none⟩ from rfl] at c1
  rw [show ad.add 2 = ⟨ad.block, ad.off + 2, none⟩ from rfl] at c2
  rw [show ad.add 3 = ⟨ad.block, ad.off + 3, none⟩ from rfl] at c3
  have HV : Hid (num4 l = (l.getD 0 0).toNat + 256 * (l.getD 1 0).toNat + 65536 * (l.getD 2 0).toNat + 16777216 * (l.getD 3 0).toNat) := by
    have h : num4 l = (l.getD 0 0).toNat + 256 * (l.getD 1 0).toNat + 65536 * (l.getD 2 0).toNat + 16777216 * (l.getD 3 0).toNat := rfl
    exact Lib.hid h
  have t0 := (l.getD 0 0).toNat_lt
  have t1 := (l.getD 1 0).toNat_lt
  have t2 := (l.getD 2 0).toNat_lt
  have t3 := (l.getD 3 0).toNat_lt
  generalize (l.getD 0 0).toNat = q0 at *
  generalize (l.getD 1 0).toNat = q1 at *
  generalize (l.getD 2 0).toNat = q2 at *
  generalize (l.getD 3 0).toNat = q3 at *
  go_enter Try.func26, Try.ntmps26
  go_wp2_with fail
  go_quiet (fail)
  go_wp2_with fail
  go_ret
  refine ⟨ret_u ?_, nq, rfl⟩
  rw [HV.out]
  exact four_or t0 t1 t2 t3
end Go.Proofs.Ytljefpagoggkdaa
