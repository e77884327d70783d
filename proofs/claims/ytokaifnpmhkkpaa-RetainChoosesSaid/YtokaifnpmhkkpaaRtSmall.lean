/- Names of small letters: retain.unfit, the document's Small; a class found by its name. Conditions: as stated at each. -/
import Derived.Test.YtokaifnpmhkkpaaRtTime
import Derived.Test.YtokaifnpmhkkpaaRtPure
import Derived.Test.YtokaifnpmhkkpaaPaAtom
import Derived.Test.YtokaifnpmhkkpaaDkMem
namespace Go.Proofs.Ytokaifnpmhkkpaa
set_option maxRecDepth 100000
namespace Rt
open Go.RowKit Go Go.Proofs.Ytokaifnpmhkkpaa.Pa
def azB (c : UInt8) : Bool := decide (97 ≤ c.toNat ∧ c.toNat ≤ 122)
theorem small_is (n : Nat) (s : L) : smallS n s = (s.all azB && decide (1 ≤ s.length ∧ s.length ≤ n)) := rfl
set_option maxHeartbeats 800000 in
theorem small_any (l : L) (n : Nat) (hl : l.length ≤ 140737488355328) (w : World) :
    Calls Try.prog 28 #[.string (str l), .int .i64 n] w fun e w' => e = .returned (.bool (smallS n l)) ∧ w = w' := by
  have hsz := str_size l
  have HSZ := Lib.hid hsz
  have HAT := Lib.hid (str_at l)
  have HIS := Lib.hid (small_is n l)
  generalize smallS n l = r at *
  generalize str l = s at *
  go_enter Try.func28, Try.ntmps28
  go_wp2_with fail
  go_loop [5] (fun i => ∃ k : Nat, k ≤ s.size ∧ i = .int .i64 k ∧ allK azB l k = true) (fun i => s.size - (intOf i).toNat)
  case atStart => exact ⟨0, Nat.zero_le _, rfl, rfl⟩
  case round =>
    obtain ⟨k, hk, rfl, ha⟩ := hrel
    have HA := Lib.hid ha
    clear ha
    by_cases hlt : k < s.size
    · have hc := HAT.out k hlt
      have HLT : Hid (k < l.length) := Lib.hid (by have := HSZ.out; omega)
      have HS := Lib.hid (allK_succ (f := azB) HLT.out)
      have HF := Lib.hid (fun h => allK_false (f := azB) HLT.out h)
      generalize l.getD k 0 = c at *
      have HZ : Hid (azB c = decide (97 ≤ (c.toNat : Int) ∧ (c.toNat : Int) ≤ 122)) := Lib.hid (by unfold azB; rw [Bool.eq_iff_iff, decide_eq_true_eq, decide_eq_true_eq]; omega)
      rcases Decidable.em ((c.toNat : Int) < 97) with h1 | h1
      · go_wp2_with fail
        go_ret
        refine ⟨ret_bool ?_, rfl⟩
        rw [HIS.out, HF.out (by rw [HZ.out, decide_eq_false (by omega)])]; rfl
      · rcases Decidable.em (122 < (c.toNat : Int)) with h2 | h2
        · go_wp2_with fail
          go_ret
          refine ⟨ret_bool ?_, rfl⟩
          rw [HIS.out, HF.out (by rw [HZ.out, decide_eq_false (by omega)])]; rfl
        · go_wp2_with fail
          go_round
          case rel => exact ⟨k + 1, by omega, by go_num, by rw [HS.out, HA.out, HZ.out, decide_eq_true (by omega)]; rfl⟩
          case measure => simp [intOf]; omega
    · have HR : Hid (r = decide (1 ≤ (s.size : Int) ∧ (s.size : Int) ≤ n)) := Lib.hid (by
        have h1 := HA.out
        rw [allK_full (by have := HSZ.out; omega)] at h1
        rw [HIS.out, h1, Bool.true_and, Bool.eq_iff_iff, decide_eq_true_eq, decide_eq_true_eq]
        have := HSZ.out
        omega)
      go_wp2_with fail
      all_goals
        go_ret
        refine ⟨ret_bool ?_, rfl⟩
        rw [HR.out, Bool.eq_iff_iff]
        simp only [decide_eq_true_eq]
        first | omega | (simp; omega)
set_option maxHeartbeats 1600000 in
theorem unfit_any (nm : L) (kp : Int) (hl : nm.length ≤ 140737488355328) (w : World) :
    Calls Try.prog 22 #[.agg #[.string (str nm), .int .i64 kp]] w fun e w' => e = .returned (.bool (unfitS (nm, kp))) ∧ Below w.heap.size w w' := by
  have hsz := str_size nm
  have HSZ := Lib.hid hsz
  have HAT := Lib.hid (str_at nm)
  have HE := Lib.hid (str_empty nm)
  have HIS : Hid (unfitS (nm, kp) = !(nm.all azB && decide (1 ≤ nm.length ∧ nm.length ≤ 20) && decide (1 ≤ kp))) := Lib.hid rfl
  generalize unfitS (nm, kp) = r at *
  generalize str nm = s at *
  have hbl := BlkIs.new w 34 #[.string s, .int .i64 kp]
  have hb := (Below.refl _ w).alloc (Nat.le_refl _) (.cells #[.string s, .int .i64 kp] 34)
  have HB := Lib.hid hb
  go_enter Try.func22, Try.ntmps22
  go_wp2_with fail
  generalize w.alloc (.cells #[.string s, .int .i64 kp] 34) = w1 at *
  have y0 : w1.cell? ⟨w.heap.size, 0, none⟩ = some (.string s) := hbl.cell 0
  have y1 : w1.cell? ⟨w.heap.size, 1, none⟩ = some (.int .i64 kp) := hbl.cell 1
  clear hbl hb
  go_wp2_with fail
  go_loop [3, 7] (fun _ i => ∃ k : Nat, k ≤ s.size ∧ i = .int .i64 k ∧ allK azB nm k = true) (fun _ i => s.size - (intOf i).toNat)
  case atStart => exact ⟨0, Nat.zero_le _, rfl, rfl⟩
  case round =>
    obtain ⟨k, hk, rfl, ha⟩ := hrel
    have HA := Lib.hid ha
    clear ha
    by_cases hlt : k < s.size
    · have hc := HAT.out k hlt
      have HLT : Hid (k < nm.length) := Lib.hid (by have := HSZ.out; omega)
      have HS := Lib.hid (allK_succ (f := azB) HLT.out)
      have HF := Lib.hid (fun h => allK_false (f := azB) HLT.out h)
      generalize nm.getD k 0 = c at *
      have HZ : Hid (azB c = decide (97 ≤ (c.toNat : Int) ∧ (c.toNat : Int) ≤ 122)) := Lib.hid (by unfold azB; rw [Bool.eq_iff_iff, decide_eq_true_eq, decide_eq_true_eq]; omega)
      rcases Decidable.em ((c.toNat : Int) < 97) with h1 | h1
      · go_wp2_with fail
        go_ret
        refine ⟨ret_bool ?_, HB.out⟩
        rw [HIS.out, HF.out (by rw [HZ.out, decide_eq_false (by omega)])]; rfl
      · rcases Decidable.em (122 < (c.toNat : Int)) with h2 | h2
        · go_wp2_with fail
          go_ret
          refine ⟨ret_bool ?_, HB.out⟩
          rw [HIS.out, HF.out (by rw [HZ.out, decide_eq_false (by omega)])]; rfl
        · go_wp2_with fail
          go_round
          case rel => exact ⟨k + 1, by omega, by go_num, by rw [HS.out, HA.out, HZ.out, decide_eq_true (by omega)]; rfl⟩
          case measure => simp [intOf]; omega
    · have HR : Hid (r = !(decide (1 ≤ nm.length ∧ nm.length ≤ 20) && decide (1 ≤ kp))) := Lib.hid (by
        have h1 := HA.out
        rw [allK_full (by have := HSZ.out; omega)] at h1
        rw [HIS.out, h1, Bool.true_and])
      clear HIS HA HAT
      by_cases h0 : nm = []
      · have he : s.toList.isEmpty = true := by
          have := HE.out
          rw [h0] at this
          simpa using this
        have HR2 : Hid (true = r) := Lib.hid (by rw [HR.out, h0]; rfl)
        clear HR HE h0
        go_wp2_with fail
        go_ret
        exact ⟨ret_bool HR2.out, HB.out⟩
      · have he : s.toList.isEmpty = false := by
          have := HE.out
          rw [bne_iff_ne.2 h0] at this
          simpa using this
        have hpos : 1 ≤ nm.length := List.length_pos_iff.2 h0
        have HR2 : Hid (r = (decide (20 < nm.length) || decide (kp < 1))) := Lib.hid (by
          rw [HR.out, Bool.eq_iff_iff]
          simp only [Bool.not_eq_true', Bool.and_eq_false_iff, decide_eq_false_iff_not, Bool.or_eq_true, decide_eq_true_eq]
          omega)
        clear HR HE h0
        go_wp2_with fail
        all_goals
          go_ret
          refine ⟨ret_bool ?_, HB.out⟩
          rw [HR2.out, Bool.eq_iff_iff]
          simp
          try omega
end Rt
end Go.Proofs.Ytokaifnpmhkkpaa
