/- Whether a hold's name fits: unfit, slices.ContainsFunc over bytes. Conditions: as stated at each. -/
import Derived.Test.YtamjellnmlgbeaaHoRow
import Derived.Test.YtamjellnmlgbeaaPaAtom
namespace Go.Proofs.Ytamjellnmlgbeaa
set_option maxRecDepth 100000
namespace Ho
open Go.RowKit Go Go.Proofs.Ytamjellnmlgbeaa.Pa Go.Proofs.Ytamjellnmlgbeaa.Rt
theorem nm_45 {c : UInt8} (h : c.toNat = 45) : nmB c = true := by
  unfold nmB
  rw [decide_eq_true h, Bool.or_true]
theorem nm_no {c : UInt8} (h : c.toNat ≠ 45) : (!nmB c) = (!letB c || !(((lowB c).toNat : Int) == (c.toNat : Int))) := by
  have hl := letB_num c
  have hs := lowB_num c
  unfold nmB
  rw [hl, hs, decide_eq_false h, Bool.or_false, Bool.eq_iff_iff]
  by_cases c1 : (65 : Int) ≤ c.toNat ∧ (c.toNat : Int) ≤ 90
  · rw [if_pos c1]
    simp only [Bool.not_eq_true', Bool.or_eq_true, Bool.or_eq_false_iff, decide_eq_false_iff_not, beq_eq_false_iff_ne]
    omega
  · rw [if_neg c1]
    simp only [Bool.not_eq_true', Bool.or_eq_true, Bool.or_eq_false_iff, decide_eq_false_iff_not, beq_eq_false_iff_ne]
    omega
set_option maxHeartbeats 800000 in
theorem unfit_any (c : UInt8) (w : World) :
    Calls Try.prog 32 #[.int .u8 (c.toNat : Int)] w fun e w' => e = .returned (.bool (!nmB c)) ∧ w = w' := by
  have HO := Lib.hid (orDigit_any c)
  have HS := Lib.hid (small_any c)
  by_cases h45 : c.toNat = 45
  · have HN := Lib.hid (nm_45 h45)
    rw [h45]
    clear h45 HO HS
    generalize nmB c = q at *
    go_enter Try.func32, Try.ntmps32
    go_wp2_with fail
    go_ret
    exact ⟨ret_bool (by rw [HN.out]; rfl), rfl⟩
  · have n45 : ¬ (c.toNat : Int) = 45 := by omega
    have HN := Lib.hid (nm_no h45)
    clear h45
    generalize nmB c = q at *
    generalize ((lowB c).toNat : Int) = m at *
    generalize (c.toNat : Int) = n at *
    cases hp : letB c with
    | false =>
      rw [hp] at HO HN
      clear hp
      go_enter Try.func32, Try.ntmps32
      go_wp2_with (first | (go_at_call 45; refine (HO.out _).mono ?_; rintro e w' ⟨rfl, rfl⟩) | fail)
      go_ret
      exact ⟨ret_bool (by rw [HN.out]; simp [n45]), rfl⟩
    | true =>
      rw [hp] at HO HN
      clear hp
      cases hm : (m == n) with
      | false =>
        rw [hm] at HN
        have hmn : ¬ m = n := by simpa using hm
        clear hm
        go_enter Try.func32, Try.ntmps32
        go_wp2_with (first | (go_at_call 45; refine (HO.out _).mono ?_; rintro e w' ⟨rfl, rfl⟩) | (go_at_call 40; refine (HS.out _).mono ?_; rintro e w' ⟨rfl, rfl⟩) | fail)
        go_ret
        exact ⟨ret_bool (by rw [HN.out]; simp [n45, hmn]), rfl⟩
      | true =>
        rw [hm] at HN
        obtain rfl : m = n := by simpa using hm
        clear hm
        go_enter Try.func32, Try.ntmps32
        go_wp2_with (first | (go_at_call 45; refine (HO.out _).mono ?_; rintro e w' ⟨rfl, rfl⟩) | (go_at_call 40; refine (HS.out _).mono ?_; rintro e w' ⟨rfl, rfl⟩) | fail)
        go_ret
        exact ⟨ret_bool (by rw [HN.out]; simp), rfl⟩
theorem anyN_step {l : List UInt8} {k : Nat} (h : k < l.length) : (l.take (k + 1)).all nmB = ((l.take k).all nmB && nmB (l.getD k 0)) := by
  rw [List.take_succ_eq_append_getElem h, List.all_append, List.getD, List.getElem?_eq_getElem h]
  simp
theorem anyN_no {l : List UInt8} {k : Nat} (h : k < l.length) (hu : nmB (l.getD k 0) = false) : l.all nmB = false := by
  rw [List.all_eq_false]
  exact ⟨l.getD k 0, by simp [List.getD, h], by rw [hu]; decide⟩
def NmP (w : World) (l : List UInt8) (e : Ending) (w' : World) : Prop := ∃ z : Int, e = .returned (.int .i64 z) ∧ decide (0 ≤ z) = !(l.all nmB) ∧ w' = w
set_option maxHeartbeats 1600000 in
theorem indexN_any {w : World} {B : Nat} {A : Option Addr} {l : List UInt8} (h : Bts w B A l) (n c : Nat) (hn : l.length = n) (hn1 : n ≤ 1000) :
    Calls Try.prog 44 #[.slice A n c, .func (.func 32) #[] #[]] w (NmP w l) := by
  have HEL := Lib.hid (fun k => h.at_ (k := k))
  have HN := Lib.hid hn
  have HU := Lib.hid (fun k X => unfit_any (l.getD k 0) X)
  clear h hn
  go_enter Try.func44, Try.ntmps44
  go_wp2_with fail
  go_loopw [5, 8] (fun _ i wr => ∃ k : Nat, k ≤ n ∧ i = .int .i64 k ∧ (l.take k).all nmB = true ∧ wr = w) (fun _ i _ => n - (intOf i).toNat)
  case atStart => exact ⟨0, Nat.zero_le _, rfl, rfl, rfl⟩
  case round =>
    obtain ⟨k, hk, rfl, hno, rfl⟩ := hrel
    by_cases hlt : k < n
    · obtain ⟨ad, rfl, hb, hc⟩ := HEL.out k (by rw [HN.out]; exact hlt)
      have HS := Lib.hid (anyN_step (l := l) (k := k) (by rw [HN.out]; exact hlt))
      have HH := Lib.hid (anyN_no (l := l) (k := k) (by rw [HN.out]; exact hlt))
      have HC := Lib.hid (HU.out k)
      have HNO := Lib.hid hno
      clear hno hb
      generalize hu : nmB (l.getD k 0) = u at *
      clear hu
      generalize ((l.getD k 0).toNat : Int) = v0 at *
      cases u with
      | false =>
        go_wp2_with (first
          | (go_at_call 32; refine (HC.out _).mono ?_; rintro e w1 ⟨rfl, rfl⟩)
          | fail)
        go_ret
        exact ⟨k, rfl, by rw [HH.out (by simp)]; exact decide_eq_true (by omega), rfl⟩
      | true =>
        rw [HNO.out] at HS
        go_wp2_with (first
          | (go_at_call 32; refine (HC.out _).mono ?_; rintro e w1 ⟨rfl, rfl⟩)
          | fail)
        go_roundw
        case rel => exact ⟨k + 1, by omega, by go_num, HS.out, trivial⟩
        case measure => simp [intOf]; omega
    · have hkn : k = n := by omega
      have HF : Hid (l.all nmB = true) := Lib.hid (by rw [← hno, hkn, ← HN.out, List.take_length])
      clear hno
      go_wp2_with fail
      go_ret
      exact ⟨-1, rfl, by rw [HF.out]; decide, rfl⟩
theorem containsN_any {w : World} {B : Nat} {A : Option Addr} {l : List UInt8} (h : Bts w B A l) (n c : Nat) (hn : l.length = n) (hn1 : n ≤ 1000) :
    Calls Try.prog 31 #[.slice A n c, .func (.func 32) #[] #[]] w fun e w' => e = .returned (.bool (!(l.all nmB))) ∧ w = w' := by
  have HI := Lib.hid (indexN_any h n c hn hn1)
  clear h hn hn1
  go_enter Try.func31, Try.ntmps31
  go_wp2_with (first
    | (refine HI.out.mono ?_; rintro e w1 ⟨z, rfl, hz, rfl⟩)
    | fail)
  go_ret
  exact ⟨rfl, rfl⟩
end Ho
end Go.Proofs.Ytamjellnmlgbeaa
