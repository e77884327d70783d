/- Four bytes as a number. Conditions: none. -/
import Derived.Test.YtidadjlhnlmfkaaGreatDoorFlMem
namespace Go.Proofs.YtidadjlhnlmfkaaGreatDoor
set_option maxRecDepth 100000
open Go.RowKit Go
/-- the first k bytes as a number. -/
def wordK (l : List UInt8) : Nat → Nat
  | 0 => 0
  | k + 1 => wordK l k + (l.getD k 0).toNat * 2 ^ (8 * k)
theorem wordK_lt (l : List UInt8) : ∀ k, wordK l k < 2 ^ (8 * k)
  | 0 => by simp [wordK]
  | k + 1 => by
    have h := wordK_lt l k
    have hc := (l.getD k 0).toNat_lt
    have e : 2 ^ (8 * (k + 1)) = 256 * 2 ^ (8 * k) := by rw [show 8 * (k + 1) = 8 + 8 * k from by omega, Nat.pow_add]
    have hm : (l.getD k 0).toNat * 2 ^ (8 * k) ≤ 255 * 2 ^ (8 * k) := Nat.mul_le_mul_right _ (by omega)
    rw [wordK, e]
    omega
theorem wordK_4 (l : List UInt8) : wordK l 4 = num4 l := by
  simp [wordK, num4]
  omega
theorem wordK_or (l : List UInt8) (k : Nat) (hk : k < 4) :
    bits .or .u32 (wordK l k : Nat) (((l.getD k 0).toNat : Int) * 2 ^ (8 * k) % 4294967296) = (wordK l (k + 1) : Nat) := by
  have h0 := wordK_lt l k
  have h1 := wordK_lt l (k + 1)
  have hp : (2 : Nat) ^ (8 * (k + 1)) ≤ 4294967296 := Nat.pow_le_pow_right (n := 2) (by omega) (show 8 * (k + 1) ≤ 32 by omega)
  have e : ((l.getD k 0).toNat : Int) * 2 ^ (8 * k) = (((l.getD k 0).toNat * 2 ^ (8 * k) : Nat) : Int) := by simp
  have hle : wordK l (k + 1) = (l.getD k 0).toNat * 2 ^ (8 * k) + wordK l k := by rw [wordK]; omega
  have hd : (l.getD k 0).toNat * 2 ^ (8 * k) % 2 ^ (8 * k) = 0 := by simp
  rw [e]
  generalize (l.getD k 0).toNat * 2 ^ (8 * k) = p at *
  rw [Int.emod_eq_of_lt (by omega) (by omega), u32_or_nat _ _ (by omega) (by omega), Nat.or_comm, nat_join (8 * k) _ _ hd h0, hle]
theorem or_low (i a b : Nat) (ha : a < 2 ^ i) (hb : b * 2 ^ i < 4294967296) (hi : 2 ^ i < 4294967296) : bits .or .u32 (a : Int) ((b * 2 ^ i : Nat) : Int) = ((a + b * 2 ^ i : Nat) : Int) := by
  rw [u32_or_nat _ _ (by omega) hb, Nat.or_comm, nat_join i _ _ (by simp) ha, Nat.add_comm]
theorem four_or {q0 q1 q2 q3 : Nat} (h0 : q0 < 2 ^ 8) (h1 : q1 < 2 ^ 8) (h2 : q2 < 2 ^ 8) (h3 : q3 < 2 ^ 8) :
    bits .or .u32 (bits .or .u32 (bits .or .u32 (q0 : Int) ((q1 : Int) * 256)) ((q2 : Int) * 65536)) ((q3 : Int) * 16777216) = ((q0 + 256 * q1 + 65536 * q2 + 16777216 * q3 : Nat) : Int) := by
  have e1 : (q1 : Int) * 256 = ((q1 * 2 ^ 8 : Nat) : Int) := by simp
  have e2 : (q2 : Int) * 65536 = ((q2 * 2 ^ 16 : Nat) : Int) := by simp
  have e3 : (q3 : Int) * 16777216 = ((q3 * 2 ^ 24 : Nat) : Int) := by simp
  rw [e1, e2, e3, or_low 8 _ _ h0 (by omega) (by omega), or_low 16 _ _ (by omega) (by omega) (by omega), or_low 24 _ _ (by omega) (by omega) (by omega)]
  congr 1
  omega
end Go.Proofs.YtidadjlhnlmfkaaGreatDoor
