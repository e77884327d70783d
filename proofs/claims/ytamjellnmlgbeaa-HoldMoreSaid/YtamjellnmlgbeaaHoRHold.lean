/- The document's Hold: whether a hold may be. Conditions: as stated at each. -/
import Derived.Test.YtamjellnmlgbeaaHoMay
import Derived.Test.YtamjellnmlgbeaaPaRDom
namespace Go.Proofs.Ytamjellnmlgbeaa
set_option maxRecDepth 100000
namespace Ho
open Go.RowKit Go Go.Proofs.Ytamjellnmlgbeaa.Pa Go.Proofs.Ytamjellnmlgbeaa.Rt
theorem nm_int (c : UInt8) : nmB c = decide ((97 ≤ (c.toNat : Int) ∧ (c.toNat : Int) ≤ 122) ∨ (48 ≤ (c.toNat : Int) ∧ (c.toNat : Int) ≤ 57) ∨ (c.toNat : Int) = 45) := by
  unfold nmB
  rw [Bool.eq_iff_iff]
  simp only [Bool.or_eq_true, decide_eq_true_eq]
  omega
theorem six (v : Int) : (97 ≤ v ∧ v ≤ 122) ∨ (¬ 97 ≤ v ∧ 48 ≤ v ∧ v ≤ 57) ∨ (¬ 97 ≤ v ∧ ¬ 48 ≤ v ∧ v = 45) ∨ (¬ 97 ≤ v ∧ ¬ 48 ≤ v ∧ ¬ v = 45) ∨ (¬ 97 ≤ v ∧ 48 ≤ v ∧ ¬ v ≤ 57 ∧ ¬ v = 45) ∨ (97 ≤ v ∧ ¬ v ≤ 122 ∧ 48 ≤ v ∧ ¬ v ≤ 57 ∧ ¬ v = 45) := by omega
set_option maxHeartbeats 3200000 in
theorem rhold_any (r : R) (w : World) (h1 : r.1.length ≤ 140737488355328) (h2 : r.2.length ≤ 140737488355328) :
    Calls Try.prog 21 #[.agg #[.string (str r.1), .string (str r.2)]] w fun e w' => e = .returned (.bool (holdS r)) ∧ Below w.heap.size w w' := by
  have HM := Lib.hid (fun X => rmailbox_any r.2 X h2)
  have HQ := Lib.hid (hold_is r)
  have hsz := str_size r.1
  have HSZ := Lib.hid hsz
  have HAT := Lib.hid (str_at r.1)
  have he0 := st_empty r.1
  have he1 := st_empty r.2
  have HB := Lib.hid (below_b w (.cells #[.string (str r.1), .string (str r.2)] 24))
  have HN := BlkIs.new w 24 #[.string (str r.1), .string (str r.2)]
  have x0 := (HN.cell 0).trans (rfl : _ = some (Value.string (str r.1)))
  have x1 := (HN.cell 1).trans (rfl : _ = some (Value.string (str r.2)))
  have hNl := HN.lt
  generalize holdS r = hr at *
  generalize str r.1 = s0 at *
  generalize str r.2 = s1 at *
  clear h2 HN
  go_enter Try.func21, Try.ntmps21
  go_wp2_with fail
  have HBB := HB.out
  clear HB
  have HB := Lib.hid HBB
  clear HBB
  generalize w.alloc (.cells #[.string s0, .string s1] 24) = w1 at *
  go_loopw [3, 4] (fun i _ wr => ∃ k : Nat, k ≤ s0.size ∧ i = .int .i64 k ∧ allK nmB r.1 k = true ∧ wr = w1) (fun i _ _ => s0.size - (intOf i).toNat)
  case atStart => exact ⟨0, Nat.zero_le _, rfl, rfl, rfl⟩
  case round =>
    obtain ⟨k, hk, rfl, ha, rfl⟩ := hrel
    have HA := Lib.hid ha
    clear ha
    by_cases hlt : k < s0.size
    · have hc := HAT.out k hlt
      have HLT : Hid (k < r.1.length) := Lib.hid (by have := HSZ.out; omega)
      have HS := Lib.hid (allK_succ (f := nmB) HLT.out)
      have HF := Lib.hid (fun h => allK_false (f := nmB) HLT.out h)
      generalize r.1.getD k 0 = c at *
      have HZ := Lib.hid (nm_int c)
      generalize nmB c = z at *
      clear he0 he1 x1 HM
      rcases six (c.toNat : Int) with ⟨g1, g2⟩ | ⟨g1, g2, g3⟩ | ⟨g1, g2, g3⟩ | ⟨g1, g2, g3⟩ | ⟨g1, g2, g3, g4⟩ | ⟨g1, g2, g3, g4, g5⟩
      · go_wp2_with fail
        go_roundw
        case rel => exact ⟨k + 1, by omega, by go_num, by rw [HS.out, HA.out, HZ.out, decide_eq_true (by omega)]; rfl, trivial⟩
        case measure => simp [intOf]; omega
      · go_wp2_with fail
        go_roundw
        case rel => exact ⟨k + 1, by omega, by go_num, by rw [HS.out, HA.out, HZ.out, decide_eq_true (by omega)]; rfl, trivial⟩
        case measure => simp [intOf]; omega
      · go_wp2_with fail
        go_roundw
        case rel => exact ⟨k + 1, by omega, by go_num, by rw [HS.out, HA.out, HZ.out, decide_eq_true (by omega)]; rfl, trivial⟩
        case measure => simp [intOf]; omega
      · have n45 : ((c.toNat : Int) == 45) = false := by rw [beq_eq_false_iff_ne]; assumption
        go_wp2_with fail
        go_ret
        exact ⟨ret_bool (by rw [HQ.out, nameS, HF.out (by rw [HZ.out, decide_eq_false (by omega)])]; simp), HB.out⟩
      · have n45 : ((c.toNat : Int) == 45) = false := by rw [beq_eq_false_iff_ne]; assumption
        go_wp2_with fail
        go_ret
        exact ⟨ret_bool (by rw [HQ.out, nameS, HF.out (by rw [HZ.out, decide_eq_false (by omega)])]; simp), HB.out⟩
      · have n45 : ((c.toNat : Int) == 45) = false := by rw [beq_eq_false_iff_ne]; assumption
        go_wp2_with fail
        go_ret
        exact ⟨ret_bool (by rw [HQ.out, nameS, HF.out (by rw [HZ.out, decide_eq_false (by omega)])]; simp), HB.out⟩
    · have HALL : Hid (r.1.all nmB = true) := Lib.hid (by
        have h1 := HA.out
        rw [allK_full (by have := HSZ.out; omega)] at h1
        exact h1)
      have HNM : Hid (nameS r.1 = decide (1 ≤ (s0.size : Int) ∧ (s0.size : Int) ≤ 30)) := Lib.hid (by
        unfold nameS
        rw [HALL.out, Bool.true_and, Bool.eq_iff_iff, decide_eq_true_eq, decide_eq_true_eq]
        have := HSZ.out
        omega)
      clear HA HAT HSZ hsz he0
      by_cases c1 : 1 ≤ (s0.size : Int)
      · by_cases c2 : (s0.size : Int) ≤ 30
        · have HR : Hid (hr = (r.2 == [] || mailS r.2)) := Lib.hid (by rw [HQ.out, HNM.out, decide_eq_true ⟨c1, c2⟩, Bool.true_and])
          clear HQ HNM
          cases c4 : (r.2 == []) with
          | true =>
            rw [c4] at he1 HR
            clear c4 HM
            go_wp2_with fail
            go_ret
            exact ⟨ret_bool (by rw [HR.out]; rfl), HB.out⟩
          | false =>
            rw [c4] at he1 HR
            clear c4
            generalize mailS r.2 = m at *
            go_wp2_with (first | (go_at_call 37; refine (HM.out _).mono ?_; rintro e w4 ⟨rfl, hb4⟩) | fail)
            go_ret
            exact ⟨ret_bool (by rw [HR.out]; rfl), HB.out.trans (hb4.mono HB.out.size)⟩
        · have HR : Hid (hr = false) := Lib.hid (by rw [HQ.out, HNM.out, decide_eq_false (by omega), Bool.false_and])
          clear HQ HNM HM he1
          go_wp2_with fail
          go_ret
          exact ⟨ret_bool HR.out.symm, HB.out⟩
      · have HR : Hid (hr = false) := Lib.hid (by rw [HQ.out, HNM.out, decide_eq_false (by omega), Bool.false_and])
        clear HQ HNM HM he1
        go_wp2_with fail
        go_ret
        exact ⟨ret_bool HR.out.symm, HB.out⟩
end Ho
end Go.Proofs.Ytamjellnmlgbeaa
