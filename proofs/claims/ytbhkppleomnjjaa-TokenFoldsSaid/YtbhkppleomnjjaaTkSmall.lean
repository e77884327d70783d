/- letter.OrDigit, letter.Small, the document's part and Term. Conditions: none. -/
import Derived.Test.YtbhkppleomnjjaaTkStr
import Derived.Test.YtbhkppleomnjjaaTkMath
namespace Go.Proofs.Ytbhkppleomnjjaa
set_option maxRecDepth 100000
namespace Tk
open Go.RowKit Go Go.Proofs.Ytbhkppleomnjjaa.Pa
theorem ret_b {a b : Bool} (h : a = b) : Ending.returned (.bool a) = .returned (.bool b) := by rw [h]
theorem let_num (c : UInt8) : letB c = decide ((97 ≤ (c.toNat : Int) ∧ (c.toNat : Int) ≤ 122) ∨ (65 ≤ (c.toNat : Int) ∧ (c.toNat : Int) ≤ 90) ∨ (48 ≤ (c.toNat : Int) ∧ (c.toNat : Int) ≤ 57)) := by
  unfold letB
  rw [Bool.eq_iff_iff]
  simp only [Bool.or_eq_true, Bool.and_eq_true, decide_eq_true_eq]
  omega
set_option maxHeartbeats 800000 in
theorem orDigit_any (c : UInt8) (w : World) :
    Calls Try.prog 24 #[.int .u8 (c.toNat : Int)] w fun e w' => e = .returned (.bool (letB c)) ∧ w = w' := by
  have hl := let_num c
  have hn := c.toNat_lt
  rw [hl]
  clear hl
  generalize (c.toNat : Int) = n at *
  go_enter Try.func24, Try.ntmps24
  go_wp2_with fail
  all_goals (go_ret; refine ⟨ret_b ?_, rfl⟩)
  all_goals first
    | (simp; omega)
    | (simp; done)
    | (rw [Bool.eq_iff_iff]; simp only [Bool.or_eq_true, Bool.and_eq_true, decide_eq_true_eq]; omega)
set_option maxHeartbeats 800000 in
theorem part_any (c : UInt8) (w : World) :
    Calls Try.prog 18 #[.int .u8 (c.toNat : Int)] w fun e w' => e = .returned (.bool (letB c)) ∧ w = w' := by
  have hl := let_num c
  have hn := c.toNat_lt
  rw [hl]
  clear hl
  generalize (c.toNat : Int) = n at *
  go_enter Try.func18, Try.ntmps18
  go_wp2_with fail
  all_goals (go_ret; refine ⟨ret_b ?_, rfl⟩)
  all_goals first
    | (simp; omega)
    | (simp; done)
    | (rw [Bool.eq_iff_iff]; simp only [Bool.or_eq_true, Bool.and_eq_true, decide_eq_true_eq]; omega)
theorem lsmall_any (c : UInt8) (w : World) :
    Calls Try.prog 26 #[.int .u8 (c.toNat : Int)] w fun e w' => e = .returned (.int .u8 ((lowB c).toNat : Int)) ∧ w = w' := by
  have hl := lowB_num c
  have hn := c.toNat_lt
  by_cases c1 : (65 : Int) ≤ c.toNat
  · by_cases c2 : (c.toNat : Int) ≤ 90
    · rw [if_pos ⟨c1, c2⟩] at hl
      rw [hl]
      generalize c.toNat = n at *
      clear hl
      have e1 : IntKind.u8.wrap ((n : Int) - 65) = n - 65 := IntWalk.u8_in _ (by omega)
      have e2 : IntKind.u8.wrap ((n : Int) - 65 + 97) = n + 32 := by rw [IntWalk.u8_in _ (by omega)]; omega
      go_enter Try.func26, Try.ntmps26
      go_wp2_with fail
      go_ret
      exact ⟨rfl, rfl⟩
    · rw [if_neg (fun h => c2 h.2)] at hl
      rw [hl]
      go_enter Try.func26, Try.ntmps26
      go_wp2_with fail
      go_ret
      exact ⟨rfl, rfl⟩
  · rw [if_neg (fun h => c1 h.1)] at hl
    rw [hl]
    go_enter Try.func26, Try.ntmps26
    go_wp2_with fail
    go_ret
    exact ⟨rfl, rfl⟩
/-- the first k may all stand in a term. -/
def okB (c : UInt8) : Bool := letB c && !decide (65 ≤ c.toNat ∧ c.toNat ≤ 90)
theorem term_all (s : L) : termS s = (s.all okB && decide (1 ≤ s.length ∧ s.length ≤ 32)) := rfl
theorem term_bad {s : L} {k : Nat} (hk : k < s.length) (h : okB (s.getD k 0) = false) : termS s = false := by
  rw [term_all, allK_false hk h, Bool.false_and]
theorem term_good {s : L} (h : allK okB s s.length = true) : termS s = decide (1 ≤ s.length ∧ s.length ≤ 32) := by
  rw [allK_full (Nat.le_refl _)] at h
  rw [term_all, h, Bool.true_and]
set_option maxHeartbeats 1600000 in
theorem rterm_any (s : L) (w : World) (hl : s.length ≤ 1000000) :
    Calls Try.prog 15 #[.string (str s)] w fun e w' => e = .returned (.bool (termS s)) ∧ w = w' := by
  have hsz := str_size s
  have HAT := Lib.hid (str_at s)
  have HP := Lib.hid part_any
  have HBAD : Hid (∀ k, k < s.length → okB (s.getD k 0) = false → termS s = false) := Lib.hid fun k h1 h2 => term_bad h1 h2
  have HGOOD : Hid (allK okB s s.length = true → termS s = decide (1 ≤ s.length ∧ s.length ≤ 32)) := Lib.hid fun h => term_good h
  have HNX : Hid (∀ k, k < s.length → allK okB s (k + 1) = (allK okB s k && okB (s.getD k 0))) := Lib.hid fun k h => allK_succ h
  have H0 : Hid (allK okB s 0 = true) := Lib.hid rfl
  generalize termS s = r at *
  generalize str s = t at *
  have HSZ := Lib.hid hsz
  generalize hn : s.length = n at *
  clear hn
  go_enter Try.func15, Try.ntmps15
  go_wp2_with fail
  go_loop [3] (fun i => ∃ k : Nat, k ≤ n ∧ i = .int .i64 k ∧ Hid (allK okB s k = true)) (fun i => n - (intOf i).toNat)
  case atStart => exact ⟨0, Nat.zero_le _, rfl, H0⟩
  case round =>
    obtain ⟨k, hk, rfl, HA⟩ := hrel
    by_cases hlt : k < n
    · have hks : k < t.size := by omega
      have hc := HAT.out k hks
      have HNK := Lib.hid (HNX.out k hlt)
      have HBK := Lib.hid (HBAD.out k hlt)
      have hpc := Lib.hid (HP.out (s.getD k 0))
      have HOK : Hid (okB (s.getD k 0) = (letB (s.getD k 0) && !decide (65 ≤ (s.getD k 0).toNat ∧ (s.getD k 0).toNat ≤ 90))) := Lib.hid rfl
      generalize s.getD k 0 = c at *
      have hcn := c.toNat_lt
      cases hb : letB c with
      | false =>
        have HR := Lib.hid (HBK.out (by rw [HOK.out, hb]; rfl))
        rw [hb] at hpc
        go_wp2_with (first
          | (refine (hpc.out _).mono ?_; rintro e w3 ⟨rfl, rfl⟩)
          | fail)
        go_ret
        exact ⟨ret_b HR.out.symm, rfl⟩
      | true =>
        rw [hb] at hpc
        by_cases c1 : (65 : Int) ≤ c.toNat
        · by_cases c2 : (c.toNat : Int) ≤ 90
          · have HR := Lib.hid (HBK.out (by rw [HOK.out, decide_eq_true (by omega)]; simp))
            go_wp2_with (first
              | (refine (hpc.out _).mono ?_; rintro e w3 ⟨rfl, rfl⟩)
              | fail)
            go_ret
            exact ⟨ret_b HR.out.symm, rfl⟩
          · have HR : Hid (allK okB s (k + 1) = true) := Lib.hid (by rw [HNK.out, HA.out, HOK.out, hb, decide_eq_false (by omega)]; rfl)
            go_wp2_with (first
              | (refine (hpc.out _).mono ?_; rintro e w3 ⟨rfl, rfl⟩)
              | fail)
            go_round
            case rel => exact ⟨k + 1, by omega, by go_num, HR⟩
            case measure => simp [intOf]; omega
        · have HR : Hid (allK okB s (k + 1) = true) := Lib.hid (by rw [HNK.out, HA.out, HOK.out, hb, decide_eq_false (by omega)]; rfl)
          go_wp2_with (first
            | (refine (hpc.out _).mono ?_; rintro e w3 ⟨rfl, rfl⟩)
            | fail)
          go_round
          case rel => exact ⟨k + 1, by omega, by go_num, HR⟩
          case measure => simp [intOf]; omega
    · obtain rfl : k = n := by omega
      have HR := Lib.hid (HGOOD.out HA.out)
      by_cases h1 : (1 : Int) ≤ k
      · by_cases h2 : (k : Int) ≤ 32
        · go_wp2_with fail
          go_ret
          exact ⟨ret_b (by rw [HR.out, decide_eq_true (by omega)]), rfl⟩
        · go_wp2_with fail
          go_ret
          exact ⟨ret_b (by rw [HR.out, decide_eq_false (by omega)]), rfl⟩
      · go_wp2_with fail
        go_ret
        exact ⟨ret_b (by rw [HR.out, decide_eq_false (by omega)]), rfl⟩
end Tk
end Go.Proofs.Ytbhkppleomnjjaa
