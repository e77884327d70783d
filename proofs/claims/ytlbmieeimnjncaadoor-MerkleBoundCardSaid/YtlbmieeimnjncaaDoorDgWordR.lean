/- The document's words out of texts. Conditions: as stated at each. -/
import Derived.Test.YtlbmieeimnjncaaDoorDgDig
namespace Go.Proofs.YtlbmieeimnjncaaDoor
set_option maxRecDepth 100000
open Go.RowKit Go
/-- the first k of the n-th word's digits. -/
def wordN (l : List UInt8) (n : Nat) : Nat → Nat
  | 0 => 0
  | k + 1 => wordN l n k * 16 + hexv (l.getD (8 * n + k) 0)
theorem wordN_lt (l : List UInt8) (n : Nat) (hd : ∀ i, i < l.length → hexv (l.getD i 0) < 16) (hn : 8 * n + 8 ≤ l.length) : ∀ k, k ≤ 8 → wordN l n k < 16 ^ k
  | 0, _ => by simp [wordN]
  | k + 1, h => by
    have h1 := wordN_lt l n hd hn k (by omega)
    have h2 := hd (8 * n + k) (by omega)
    rw [wordN, Nat.pow_succ]
    omega
theorem word_or (x v : Nat) (hx : x < 268435456) (hv : v < 16) : bits .or .u32 ((x : Int) * 16) (v : Int) = ((x * 16 + v : Nat) : Int) := by
  rw [show (x : Int) * 16 = ((x * 16 : Nat) : Int) from by omega, u32_or_nat _ _ (by omega) (by omega), nat_join 4 _ _ (by omega) (by omega)]
set_option maxHeartbeats 800000 in
theorem word_any (s : ByteArray) (l : List UInt8) (n : Nat) (w : World) (hs : s.data.toList = l) (hl : l.length ≤ 1000000) (hn : 8 * n + 8 ≤ l.length) (hd : ∀ i, i < l.length → hexv (l.getD i 0) < 16) :
    Calls Tryd.prog 24 #[.string s, .int .i64 n] w fun e w' => e = .returned (.int .u32 (wordN l n 8 : Nat)) ∧ w = w' := by
  have HS := Lib.hid hs
  have HD := Lib.hid hd
  have HL := Lib.hid (wordN_lt l n hd hn)
  obtain ⟨q, hq⟩ : ∃ q, q = 8 * n := ⟨_, rfl⟩
  have eq8 : IntKind.i64.wrap (8 * (n : Int)) = (q : Int) := by rw [IntWalk.i64_in _ (by omega)]; omega
  have eq9 : 8 * (n : Int) = (q : Int) := by omega
  have HQ := Lib.hid hq
  have q2 : q + 8 ≤ l.length := by omega
  clear hs hd hq
  go_enter Tryd.func24, Tryd.ntmps24
  go_wp2_with fail
  go_loop [5, 6] (fun x i => ∃ k : Nat, k ≤ 8 ∧ i = .int .i64 (q + k : Nat) ∧ x = .int .u32 (wordN l n k : Nat)) (fun _ i => 8 + q - (intOf i).toNat)
  case atStart => exact ⟨0, Nat.zero_le _, rfl, rfl⟩
  case round =>
    obtain ⟨k, hk, rfl, rfl⟩ := hrel
    obtain ⟨j, hj⟩ : ∃ j, j = q + k := ⟨_, rfl⟩
    rw [← hj]
    by_cases hlt : k < 8
    · have hat := fun w => run_at s l HS.out j (by omega) w
      have hv := HD.out j (by omega)
      have HX : Hid (wordN l n (k + 1) = wordN l n k * 16 + hexv (l.getD j 0)) := Lib.hid (by rw [hj, HQ.out]; rfl)
      have hx : wordN l n k < 268435456 := Nat.lt_of_lt_of_le (HL.out k hk) (by
        have := Nat.pow_le_pow_right (n := 16) (by omega) (show k ≤ 7 by omega)
        simpa using this)
      have HJ := Lib.hid hj
      have j1 : (j : Int) < (q : Int) + 8 := by omega
      generalize wordN l n k = x at *
      have hdg := fun w => digit_any (l.getD j 0) w
      generalize hexv (l.getD j 0) = v at *
      generalize l.getD j 0 = c at *
      have ho := word_or x v hx hv
      have hc := c.toNat_lt
      have HDG := Lib.hid hdg
      clear hj hdg
      go_wp2_with (first
        | (go_at_call 30; refine (HDG.out _).mono ?_; rintro e w' ⟨rfl, rfl⟩)
        | fail)
      go_round
      case rel => exact ⟨k + 1, by omega, by rw [HJ.out]; go_num, by rw [HX.out]; go_num⟩
      case measure => simp [intOf]; omega
    · have j1 : ¬ (j : Int) < (q : Int) + 8 := by omega
      have HK : Hid (k = 8) := Lib.hid (by omega)
      clear hj
      go_wp2_with fail
      go_ret
      exact ⟨ret_u (by rw [HK.out]), rfl⟩
def rootsL : List UInt8 := [52, 50, 56, 97, 50, 102, 57, 56, 55, 49, 51, 55, 52, 52, 57, 49, 98, 53, 99, 48, 102, 98, 99, 102, 101, 57, 98, 53, 100, 98, 97, 53, 51, 57, 53, 54, 99, 50, 53, 98, 53, 57, 102, 49, 49, 49, 102, 49, 57, 50, 51, 102, 56, 50, 97, 52, 97, 98, 49, 99, 53, 101, 100, 53, 100, 56, 48, 55, 97, 97, 57, 56, 49, 50, 56, 51, 53, 98, 48, 49, 50, 52, 51, 49, 56, 53, 98, 101, 53, 53, 48, 99, 55, 100, 99, 51, 55, 50, 98, 101, 53, 100, 55, 52, 56, 48, 100, 101, 98, 49, 102, 101, 57, 98, 100, 99, 48, 54, 97, 55, 99, 49, 57, 98, 102, 49, 55, 52, 101, 52, 57, 98, 54, 57, 99, 49, 101, 102, 98, 101, 52, 55, 56, 54, 48, 102, 99, 49, 57, 100, 99, 54, 50, 52, 48, 99, 97, 49, 99, 99, 50, 100, 101, 57, 50, 99, 54, 102, 52, 97, 55, 52, 56, 52, 97, 97, 53, 99, 98, 48, 97, 57, 100, 99, 55, 54, 102, 57, 56, 56, 100, 97, 57, 56, 51, 101, 53, 49, 53, 50, 97, 56, 51, 49, 99, 54, 54, 100, 98, 48, 48, 51, 50, 55, 99, 56, 98, 102, 53, 57, 55, 102, 99, 55, 99, 54, 101, 48, 48, 98, 102, 51, 100, 53, 97, 55, 57, 49, 52, 55, 48, 54, 99, 97, 54, 51, 53, 49, 49, 52, 50, 57, 50, 57, 54, 55, 50, 55, 98, 55, 48, 97, 56, 53, 50, 101, 49, 98, 50, 49, 51, 56, 52, 100, 50, 99, 54, 100, 102, 99, 53, 51, 51, 56, 48, 100, 49, 51, 54, 53, 48, 97, 55, 51, 53, 52, 55, 54, 54, 97, 48, 97, 98, 98, 56, 49, 99, 50, 99, 57, 50, 101, 57, 50, 55, 50, 50, 99, 56, 53, 97, 50, 98, 102, 101, 56, 97, 49, 97, 56, 49, 97, 54, 54, 52, 98, 99, 50, 52, 98, 56, 98, 55, 48, 99, 55, 54, 99, 53, 49, 97, 51, 100, 49, 57, 50, 101, 56, 49, 57, 100, 54, 57, 57, 48, 54, 50, 52, 102, 52, 48, 101, 51, 53, 56, 53, 49, 48, 54, 97, 97, 48, 55, 48, 49, 57, 97, 52, 99, 49, 49, 54, 49, 101, 51, 55, 54, 99, 48, 56, 50, 55, 52, 56, 55, 55, 52, 99, 51, 52, 98, 48, 98, 99, 98, 53, 51, 57, 49, 99, 48, 99, 98, 51, 52, 101, 100, 56, 97, 97, 52, 97, 53, 98, 57, 99, 99, 97, 52, 102, 54, 56, 50, 101, 54, 102, 102, 51, 55, 52, 56, 102, 56, 50, 101, 101, 55, 56, 97, 53, 54, 51, 54, 102, 56, 52, 99, 56, 55, 56, 49, 52, 56, 99, 99, 55, 48, 50, 48, 56, 57, 48, 98, 101, 102, 102, 102, 97, 97, 52, 53, 48, 54, 99, 101, 98, 98, 101, 102, 57, 97, 51, 102, 55, 99, 54, 55, 49, 55, 56, 102, 50]
def beginL : List UInt8 := [54, 97, 48, 57, 101, 54, 54, 55, 98, 98, 54, 55, 97, 101, 56, 53, 51, 99, 54, 101, 102, 51, 55, 50, 97, 53, 52, 102, 102, 53, 51, 97, 53, 49, 48, 101, 53, 50, 55, 102, 57, 98, 48, 53, 54, 56, 56, 99, 49, 102, 56, 51, 100, 57, 97, 98, 53, 98, 101, 48, 99, 100, 49, 57]
theorem rootsL_ok : ∀ i, i < rootsL.length → hexv (rootsL.getD i 0) < 16 := by decide +kernel
theorem beginL_ok : ∀ i, i < beginL.length → hexv (beginL.getD i 0) < 16 := by decide +kernel
theorem rootsL_is : ∀ t, t < 64 → wordN rootsL t 8 = kk.getD t 0 := by decide +kernel
theorem beginL_is : ∀ t, t < 8 → wordN beginL t 8 = init8.l.getD t 0 := by decide +kernel
theorem rootsL_len : rootsL.length = 512 := by decide +kernel
theorem kword_any (s : ByteArray) (t : Nat) (w : World) (hs : s.data.toList = rootsL) (ht : t < 64) : Calls Tryd.prog 24 #[.string s, .int .i64 t] w fun e w' => e = .returned (.int .u32 (kk.getD t 0 : Nat)) ∧ w = w' := by
  have := word_any s rootsL t w hs (by rw [rootsL_len]; omega) (by rw [rootsL_len]; omega) rootsL_ok
  rwa [rootsL_is t ht] at this
theorem bword_any (s : ByteArray) (t : Nat) (w : World) (hs : s.data.toList = beginL) (ht : t < 8) : Calls Tryd.prog 24 #[.string s, .int .i64 t] w fun e w' => e = .returned (.int .u32 (init8.l.getD t 0 : Nat)) ∧ w = w' := by
  have := word_any s beginL t w hs (by decide) (by show 8 * t + 8 ≤ 64; omega) beginL_ok
  rwa [beginL_is t ht] at this
end Go.Proofs.YtlbmieeimnjncaaDoor
