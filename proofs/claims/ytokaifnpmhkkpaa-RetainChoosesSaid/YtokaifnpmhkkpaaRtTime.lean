/- retain.Until, the document's. Conditions: none. -/
import Derived.Test.YtokaifnpmhkkpaaRtRow
import Derived.Deep.QuietTactic
namespace Go.Proofs.Ytokaifnpmhkkpaa
set_option maxRecDepth 100000
namespace Rt
open Go.RowKit Go
/-- a number of 64 bits. -/
def I64 (n : Int) : Prop := -9223372036854775808 ≤ n ∧ n ≤ 9223372036854775807
theorem w64 {n : Int} (h : I64 n) : wrap64 n = n := IntWalk.wrap64_in n h
theorem wtop : wrap64 9223372036854775807 = 9223372036854775807 := w64 (by unfold I64; omega)
theorem until_i64 {a k : Int} (ha : I64 a) (hk : I64 k) : I64 (untilS a k) := by
  unfold I64 at *
  have := until_le a k ha.1 (by unfold topT; omega) (by unfold topT; omega)
  unfold topT at this
  omega
set_option maxHeartbeats 800000 in
theorem until_any (a k : Int) (ha : I64 a) (hk : I64 k) (w : World) :
    Calls Try.prog 17 #[.int .i64 a, .int .i64 k] w fun e w' => e = .returned (.int .i64 (untilS a k)) ∧ w = w' := by
  have HA := Lib.hid ha
  have HK := Lib.hid hk
  clear ha hk
  go_enter Try.func17, Try.ntmps17
  go_wp2_with fail
  · rename_i h0
    have ha := HA.out
    have hk := HK.out
    unfold I64 at ha hk
    rw [wtop] at h
    exfalso; omega
  · rename_i h0
    have ha := HA.out
    go_ret
    refine ⟨?_, rfl⟩
    rw [until_neg (by omega) (by unfold I64 at ha; unfold topT; omega)]
    simp [w64 ha]
  · rename_i h0
    have ha := HA.out
    have hk := HK.out
    unfold I64 at ha hk
    rw [w64 (show I64 (9223372036854775807 - k) by unfold I64; omega)] at h ⊢
    rw [show (9223372036854775807 - k + k) = 9223372036854775807 by omega]
    go_ret
    refine ⟨?_, rfl⟩
    rw [until_high (by omega) (by unfold topT; omega)]
    simp [wtop, topT]
  · rename_i h0
    have ha := HA.out
    have hk := HK.out
    unfold I64 at ha hk
    rw [w64 (show I64 (9223372036854775807 - k) by unfold I64; omega)] at h ⊢
    rw [w64 (show I64 (a + k) by unfold I64; omega)]
    go_ret
    refine ⟨?_, rfl⟩
    rw [until_low (by omega) (by unfold topT; omega)]
    simp
set_option maxHeartbeats 800000 in
theorem runtil_any (a k : Int) (ha : I64 a) (hk : I64 k) (w : World) :
    Calls Try.prog 18 #[.int .i64 a, .int .i64 k] w fun e w' => e = .returned (.int .i64 (untilS a k)) ∧ w = w' := by
  have HA := Lib.hid ha
  have HK := Lib.hid hk
  unfold I64 at ha hk
  by_cases hk0 : k < 0
  · have e0 : wrap64 a = a := w64 HA.out
    by_cases ha0 : 0 < a
    · have e2 : wrap64 (9223372036854775807 - a) = 9223372036854775807 - a := w64 (by unfold I64; omega)
      have h3 : ¬ 9223372036854775807 - a < 0 := by omega
      have HU : Hid (untilS a k = a) := Lib.hid (until_neg hk0 (by unfold topT; omega))
      clear ha hk
      go_enter Try.func18, Try.ntmps18
      go_wp2_with fail
      all_goals first
        | (go_ret; refine ⟨?_, rfl⟩; rw [HU.out]; simp; done)
        | (exfalso; rename_i h; rw [e2] at h; omega)
    · have HU : Hid (untilS a k = a) := Lib.hid (until_neg hk0 (by unfold topT; omega))
      clear ha hk
      go_enter Try.func18, Try.ntmps18
      go_wp2_with fail
      all_goals (go_ret; refine ⟨?_, rfl⟩; rw [HU.out]; simp; done)
  · have hk1 : 0 ≤ k := by omega
    by_cases ha0 : 0 < a
    · have e2 : wrap64 (9223372036854775807 - a) = 9223372036854775807 - a := w64 (by unfold I64; omega)
      by_cases hc : 9223372036854775807 - a < k
      · have HU : Hid (untilS a k = 9223372036854775807) := Lib.hid (by rw [until_high hk1 (by unfold topT; omega)]; rfl)
        clear ha hk
        go_enter Try.func18, Try.ntmps18
        go_wp2_with fail
        all_goals first
          | (go_ret; refine ⟨?_, rfl⟩; rw [HU.out]; simp; done)
          | (exfalso; rename_i h; rw [e2] at h; omega)
      · have HU : Hid (untilS a k = a + k) := Lib.hid (until_low hk1 (by unfold topT; omega))
        have e3 : wrap64 (a + k) = a + k := w64 (by unfold I64; omega)
        clear ha hk
        go_enter Try.func18, Try.ntmps18
        go_wp2_with fail
        all_goals first
          | (go_ret; refine ⟨?_, rfl⟩; rw [HU.out]; simp; done)
          | (exfalso; rename_i h; rw [e2] at h; omega)
    · have HU : Hid (untilS a k = a + k) := Lib.hid (until_low hk1 (by unfold topT; omega))
      have e3 : wrap64 (a + k) = a + k := w64 (by unfold I64; omega)
      clear ha hk
      go_enter Try.func18, Try.ntmps18
      go_wp2_with fail
      all_goals (go_ret; refine ⟨?_, rfl⟩; rw [HU.out]; simp; done)
end Rt
end Go.Proofs.Ytokaifnpmhkkpaa
