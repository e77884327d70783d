/- Contracts of the greatest power of 2 below a number: the program's, the document's. Conditions: as stated at each. -/
import Derived.Test.YtlbmieeimnjncaaDoorMkMem
import Derived.Lib.BitFns
namespace Go.Proofs.YtlbmieeimnjncaaDoor
set_option maxRecDepth 100000
open Go.RowKit Go
theorem bitLenAux_is : ∀ (f x : Nat), x ≠ 0 → x < 2 ^ f → Lib.bitLenAux f x = Nat.log2 x + 1
  | 0, x, h, h' => by simp at h'; omega
  | f + 1, x, h, h' => by
    rw [Lib.bitLenAux, if_neg h, Nat.log2_def]
    by_cases h2 : 2 ≤ x
    · rw [if_pos h2, bitLenAux_is f (x / 2) (by omega) (by rw [Nat.pow_succ] at h'; omega)]
      omega
    · rw [if_neg h2]
      have : x / 2 = 0 := by omega
      rw [this]
      cases f <;> simp [Lib.bitLenAux]
theorem bitLen_is {x : Nat} (h : x ≠ 0) (h' : x < 2 ^ 64) : Lib.bitLen x = Nat.log2 x + 1 := bitLenAux_is 64 x h h'
theorem log2_63 {n : Nat} (h2 : 2 ≤ n) (h63 : n ≤ 9223372036854775807) : Nat.log2 (n - 1) ≤ 62 := by
  have : Nat.log2 (n - 1) < 63 := (Nat.log2_lt (by omega)).2 (by omega)
  omega
theorem shl_one (d : Nat) (hd : d ≤ 62) : Op.shift .shl .i64 1 .i64 (d : Int) = pure (.int .i64 ((2 ^ d : Nat) : Int)) := by
  have h1 : 2 ^ d ≤ 2 ^ 62 := Nat.pow_le_pow_right (by omega) hd
  have h0 : 1 ≤ 2 ^ d := Nat.one_le_two_pow
  have e : min ((d : Int).toNat) IntKind.i64.bits = d := by
    show min ((d : Int).toNat) 64 = d
    omega
  unfold Op.shift
  rw [if_neg (by omega)]
  simp only [e]
  congr 2
  rw [show (1 : Int) * 2 ^ d = ((2 ^ d : Nat) : Int) from by rw [Int.one_mul]; simp]
  exact IntWalk.i64_in _ (by omega)
theorem ret_n {a b : Nat} (h : a = b) : Ending.returned (.int .i64 (a : Nat)) = .returned (.int .i64 (b : Nat)) := by rw [h]
end Go.Proofs.YtlbmieeimnjncaaDoor
