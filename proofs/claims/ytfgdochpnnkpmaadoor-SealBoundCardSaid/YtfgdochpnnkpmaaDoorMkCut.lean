/- Contracts of the greatest power of 2 below a number: the program's, the document's. Conditions: as stated at each. -/
import Derived.Test.YtfgdochpnnkpmaaDoorMkMem
import Derived.Lib.BitFns
namespace Go.Proofs.YtfgdochpnnkpmaaDoor
set_option maxRecDepth 100000
open Go.RowKit Go
theorem bitLenAux_is : ∀ (f x : Nat), x ≠ 0 → x < 2 ^ f → Lib.bitLenAux f x = Nat.log2 x + 1
  | 0, x, h, h' => by simp at h'; omega
  | f + 1, x, h, h' => by
    rw [Lib.bitLenAux, if_neg h, Nat.log2_def]
    by_cases h2 : 2 ≤ x
    · rw [if_pos h2, bitLenAux_is f (x / 2) (by omega) (by rw [Nat.pow_succ] at h'; omega)]
      omega
    · rw [if_neg h2]
      have : x / 2 = 0 := by omega
      rw [this]
      cases f <;> simp [Lib.bitLenAux]
theorem bitLen_is {x : Nat} (h : x ≠ 0) (h' : x < 2 ^ 64) : Lib.bitLen x = Nat.log2 x + 1 := bitLenAux_is 64 x h h'
theorem log2_63 {n : Nat} (h2 : 2 ≤ n) (h63 : n ≤ 9223372036854775807) : Nat.log2 (n - 1) ≤ 62 := by
  have : Nat.log2 (n - 1) < 63 := (Nat.log2_lt (by omega)).2 (by omega)
  omega
theorem shl_one (d : Nat) (hd : d ≤ 62) : Op.shift .shl .i64 1 .i64 (d : Int) = pure (.int .i64 ((2 ^ d : Nat) : Int)) := by
  have h1 : 2 ^ d ≤ 2 ^ 62 := Nat.pow_le_pow_right (by omega) hd
  have h0 : 1 ≤ 2 ^ d := Nat.one_le_two_pow
  have e : min ((d : Int).toNat) IntKind.i64.bits = d := by
    show min ((d : Int).toNat) 64 = d
    omega
  unfold Op.shift
  rw [if_neg (by omega)]
  simp only [e]
  congr 2
  rw [show (1 : Int) * 2 ^ d = ((2 ^ d : Nat) : Int) from by rw [Int.one_mul]; simp]
  exact IntWalk.i64_in _ (by omega)
theorem ret_n {a b : Nat} (h : a = b) : Ending.returned (.int .i64 (a : Nat)) = .returned (.int .i64 (b : Nat)) := by rw [h]
set_option maxHeartbeats 800000 in
theorem split_any (n : Nat) (w : World) (h2 : 2 ≤ n) (h63 : n ≤ 9223372036854775807) :
    Calls Tryd.prog 64 #[.int .i64 n] w fun e w' => e = .returned (.int .i64 (spl n : Nat)) ∧ w = w' := by
  go_enter Tryd.func64, Tryd.ntmps64
  go_wp2_with fail
  go_loop [3] (fun k => ∃ p : Nat, Hid (∃ j, p = 2 ^ j) ∧ 1 ≤ p ∧ p < n ∧ k = .int .i64 p) (fun k => n - (intOf k).toNat)
  case atStart => exact ⟨1, Lib.hid ⟨0, rfl⟩, by omega, by omega, rfl⟩
  case round =>
    obtain ⟨p, hp, h1, hlt, rfl⟩ := hrel
    by_cases hc : p < n - p
    · have hc' : (p : Int) < (n : Int) - (p : Int) := by omega
      go_wp2_with fail
      go_round
      case rel =>
        refine ⟨2 * p, Lib.hid ?_, by omega, by omega, by go_num⟩
        obtain ⟨j, hj⟩ := hp.out
        exact ⟨j + 1, by rw [hj, Nat.pow_succ]; omega⟩
      case measure => simp [intOf]; omega
    · have hc' : ¬ (p : Int) < (n : Int) - (p : Int) := by omega
      go_wp2_with fail
      go_ret
      refine ⟨ret_n ?_, rfl⟩
      obtain ⟨j, hj⟩ := hp.out
      rw [spl_is (j := j) (by omega) (by omega), hj]
end Go.Proofs.YtfgdochpnnkpmaaDoor
