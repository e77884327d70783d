/- path.told, letter.OrDigit, letter.Small, the document's letter and atom. Conditions: none. -/
import Derived.Test.YtpfonpjcnpfipaaGreatDoorPaCut
namespace Go.Proofs.YtpfonpjcnpfipaaGreatDoor
set_option maxRecDepth 100000
namespace Pa
open Go.RowKit Go
theorem u8_eq (c : UInt8) (n : Nat) (hn : n < 256) : c = UInt8.ofNat n ↔ c.toNat = n := by
  constructor
  · rintro rfl; simp; omega
  · intro h; apply UInt8.toNat_inj.1; rw [h]; simp; omega
theorem labB_num (c : UInt8) : labB c = (decide ((97 ≤ c.toNat ∧ c.toNat ≤ 122) ∨ (65 ≤ c.toNat ∧ c.toNat ≤ 90) ∨ (48 ≤ c.toNat ∧ c.toNat ≤ 57) ∨ c.toNat = 45)) := by
  have e : (c == 45) = decide (c.toNat = 45) := by
    rw [Bool.eq_iff_iff, beq_iff_eq, decide_eq_true_eq]; exact u8_eq c 45 (by decide)
  unfold labB letB
  rw [e, Bool.eq_iff_iff]
  simp only [Bool.or_eq_true, Bool.and_eq_true, decide_eq_true_eq]
  omega
theorem mem_marks (c : UInt8) : marksL.contains c = (decide (0 ≤ Go.Lib.indexByte marksL c)) := by
  rw [idx_has, Bool.eq_iff_iff, List.contains_iff_mem, decide_eq_true_eq]
  by_cases h : c ∈ marksL
  · rw [if_pos h]; simp [h]
  · rw [if_neg h]; simp [h]
theorem marks_any (c : UInt8) (w : World) :
    Calls Tryz.prog 88 #[.string ⟨#[33, 35, 36, 37, 38, 39, 42, 43, 47, 61, 63, 94, 95, 123, 124, 125, 126, 96]⟩, .int .u8 (c.toNat : Int)] w fun e w' => e = .returned (.int .i64 (Go.Lib.indexByte marksL c)) ∧ w = w' := by
  have h := Tryz.strings_IndexByte ⟨#[33, 35, 36, 37, 38, 39, 42, 43, 47, 61, 63, 94, 95, 123, 124, 125, 126, 96]⟩ (c.toNat : Int) w
  refine h.mono fun e w' ⟨h1, h2⟩ => ⟨?_, h2.symm⟩
  rw [h1]
  simp [marksL]
theorem ret_bools {a b c d : Bool} (h : a = b) (h' : c = d) : Ending.returned (.tuple #[.bool a, .bool c]) = .returned (.tuple #[.bool b, .bool d]) := by rw [h, h']
theorem ret_bool {a b : Bool} (h : a = b) : Ending.returned (.bool a) = .returned (.bool b) := by rw [h]
theorem letB_num (c : UInt8) : letB c = decide ((97 ≤ (c.toNat : Int) ∧ (c.toNat : Int) ≤ 122) ∨ (65 ≤ (c.toNat : Int) ∧ (c.toNat : Int) ≤ 90) ∨ (48 ≤ (c.toNat : Int) ∧ (c.toNat : Int) ≤ 57)) := by
  unfold letB
  rw [Bool.eq_iff_iff]
  simp only [Bool.or_eq_true, Bool.and_eq_true, decide_eq_true_eq]
  omega
set_option maxHeartbeats 800000 in
theorem orDigit_any (c : UInt8) (w : World) :
    Calls Tryz.prog 87 #[.int .u8 (c.toNat : Int)] w fun e w' => e = .returned (.bool (letB c)) ∧ w = w' := by
  have hl := letB_num c
  have hn := c.toNat_lt
  rw [hl]
  clear hl
  generalize (c.toNat : Int) = n at *
  go_enter Tryz.func87, Tryz.ntmps87
  go_wp2_with fail
  all_goals (go_ret; refine ⟨ret_bool ?_, rfl⟩)
  all_goals first
    | (simp; omega)
    | (simp; done)
    | (rw [Bool.eq_iff_iff]; simp only [Bool.or_eq_true, Bool.and_eq_true, decide_eq_true_eq]; omega)
set_option maxHeartbeats 800000 in
theorem told_any (c : UInt8) (w : World) :
    Calls Tryz.prog 66 #[.int .u8 (c.toNat : Int)] w fun e w' => e = .returned (.tuple #[.bool (labB c), .bool (atB c)]) ∧ w = w' := by
  have HM := Lib.hid (marks_any c)
  have HO := Lib.hid (orDigit_any c)
  have hm := mem_marks c
  have h45 : (c == 45) = decide (c.toNat = 45) := by
    rw [Bool.eq_iff_iff, beq_iff_eq, decide_eq_true_eq]; exact u8_eq c 45 (by decide)
  have hl : labB c = (letB c || decide (c.toNat = 45)) := by rw [← h45]; rfl
  have ha : atB c = (labB c || marksL.contains c) := rfl
  rw [hm] at ha
  rw [ha, hl]
  have hn := c.toNat_lt
  clear hm ha hl h45
  generalize Go.Lib.indexByte marksL c = i at *
  generalize letB c = p at *
  generalize c.toNat = n at *
  cases p with
  | true =>
    go_enter Tryz.func66, Tryz.ntmps66
    go_wp2_with (first | (refine (HO.out _).mono ?_; rintro e w' ⟨rfl, rfl⟩) | fail)
    refine bodyPost_ret (results_tmp2 rfl _ _ _) rfl ?_
    exact ⟨ret_bools (by simp) (by simp), rfl⟩
  | false =>
    by_cases h45 : n = 45
    · have n45 : ((n : Int) == 45) = true := by rw [h45]; rfl
      have H := Lib.hid h45
      clear h45
      go_enter Tryz.func66, Tryz.ntmps66
      go_wp2_with (first | (refine (HO.out _).mono ?_; rintro e w' ⟨rfl, rfl⟩) | fail)
      refine bodyPost_ret (results_tmp2 rfl _ _ _) rfl ?_
      exact ⟨ret_bools (by rw [decide_eq_true H.out]; rfl) (by rw [decide_eq_true H.out]; rfl), rfl⟩
    · have n45 : ((n : Int) == 45) = false := by rw [beq_eq_false_iff_ne]; omega
      have H := Lib.hid h45
      clear h45
      by_cases hi : 0 ≤ i
      · go_enter Tryz.func66, Tryz.ntmps66
        go_wp2_with (first | (refine (HO.out _).mono ?_; rintro e w' ⟨rfl, rfl⟩) | (refine (HM.out _).mono ?_; rintro e w' ⟨rfl, rfl⟩) | fail)
        refine bodyPost_ret (results_tmp2 rfl _ _ _) rfl ?_
        exact ⟨ret_bools (by rw [decide_eq_false H.out]; rfl) (by rw [decide_eq_false H.out, decide_eq_true hi]; rfl), rfl⟩
      · go_enter Tryz.func66, Tryz.ntmps66
        go_wp2_with (first | (refine (HO.out _).mono ?_; rintro e w' ⟨rfl, rfl⟩) | (refine (HM.out _).mono ?_; rintro e w' ⟨rfl, rfl⟩) | fail)
        refine bodyPost_ret (results_tmp2 rfl _ _ _) rfl ?_
        exact ⟨ret_bools (by rw [decide_eq_false H.out]; rfl) (by rw [decide_eq_false H.out, decide_eq_false (by omega)]; rfl), rfl⟩
theorem lowB_num (c : UInt8) : ((lowB c).toNat : Int) = if (65 : Int) ≤ c.toNat ∧ (c.toNat : Int) ≤ 90 then (c.toNat : Int) + 32 else c.toNat := by
  rcases lowB_cases c with ⟨h1, h2, h3⟩ | ⟨h1, h2⟩
  · rw [if_pos (by omega), h3]; omega
  · rw [if_neg (by omega), h2]
theorem letter_any (c : UInt8) (w : World) :
    Calls Tryz.prog 91 #[.int .u8 (c.toNat : Int)] w fun e w' => e = .returned (.bool (letB c)) ∧ w = w' := by
  have hl := letB_num c
  have hn := c.toNat_lt
  rw [hl]
  clear hl
  generalize (c.toNat : Int) = n at *
  go_enter Tryz.func91, Tryz.ntmps91
  go_wp2_with fail
  all_goals (go_ret; refine ⟨ret_bool ?_, rfl⟩)
  all_goals first
    | (simp; omega)
    | (simp; done)
    | (rw [Bool.eq_iff_iff]; simp only [Bool.or_eq_true, Bool.and_eq_true, decide_eq_true_eq]; omega)
theorem atB_num (c : UInt8) (h : letB c = false) : atB c = decide ((c.toNat : Int) ∈ [33, 35, 36, 37, 38, 39, 42, 43, 45, 47, 61, 63, 94, 95, 123, 124, 125, 126, 96]) := by
  have e : ∀ k : UInt8, (c = k) ↔ (c.toNat : Int) = (k.toNat : Int) := fun k => by
    rw [← UInt8.toNat_inj]; omega
  unfold atB labB
  rw [h, Bool.eq_iff_iff]
  simp only [Bool.or_eq_true, decide_eq_true_eq, beq_iff_eq, List.contains_iff_mem, marksL, List.mem_cons, List.not_mem_nil, or_false, e]
  simp
  omega
set_option maxHeartbeats 1600000 in
theorem ratom_any (c : UInt8) (w : World) :
    Calls Tryz.prog 79 #[.int .u8 (c.toNat : Int)] w fun e w' => e = .returned (.bool (atB c)) ∧ w = w' := by
  have HL := Lib.hid (letter_any c)
  cases hl : letB c with
  | true =>
    have ha : atB c = true := by unfold atB labB; rw [hl]; rfl
    rw [hl] at HL
    rw [ha]
    go_enter Tryz.func79, Tryz.ntmps79
    go_wp2_with (first | (refine (HL.out _).mono ?_; rintro e w' ⟨rfl, rfl⟩) | fail)
    go_ret
    exact ⟨rfl, rfl⟩
  | false =>
    rw [atB_num c hl]
    rw [hl] at HL
    generalize (c.toNat : Int) = n at *
    have HM : Hid (∀ k, (n == k) = true → k ∈ [33, 35, 36, 37, 38, 39, 42, 43, 45, 47, 61, 63, 94, 95, 123, 124, 125, 126, (96 : Int)] → true = decide (n ∈ [33, 35, 36, 37, 38, 39, 42, 43, 45, 47, 61, 63, 94, 95, 123, 124, 125, 126, (96 : Int)])) := Lib.hid fun k hk hm => by
      rw [beq_iff_eq] at hk; rw [hk]; exact (decide_eq_true hm).symm
    go_enter Tryz.func79, Tryz.ntmps79
    go_wp2_with (first | (refine (HL.out _).mono ?_; rintro e w' ⟨rfl, rfl⟩) | fail)
    all_goals (go_ret; refine ⟨ret_bool ?_, rfl⟩)
    all_goals first
      | exact HM.out _ (by assumption) (by decide)
      | (symm; rw [decide_eq_false_iff_not]; simp only [beq_eq_false_iff_ne, ne_eq] at *; simp only [List.mem_cons, List.not_mem_nil, or_false, not_or]; omega)
end Pa
end Go.Proofs.YtpfonpjcnpfipaaGreatDoor
