/- Chapter 13's example; few; the laws on times. Conditions: as stated at each. -/
import Derived.Test.YtokaifnpmhkkpaaRtCheck
import Derived.Test.YtokaifnpmhkkpaaRtOver
namespace Go.Proofs.Ytokaifnpmhkkpaa
set_option maxRecDepth 100000
namespace Rt
open Go.RowKit Go Go.Proofs.Ytokaifnpmhkkpaa.Pa
def exC : List C := [([97], 5)]
theorem ex1 : untilS 9223372036854775803 10 = 9223372036854775807 := by decide
theorem ex2 : checkS exC [] = true := by decide
theorem ex3 : overS exC [97] 10 15 = true := by decide
theorem ex4 : overS exC [97] 10 14 = false := by decide
set_option maxHeartbeats 1600000 in
theorem awake_any (w : World) :
    Calls Try.prog 9 #[] w fun e w' => e = .returned (.bool true) ∧ Below w.heap.size w w' := by
  have hb1 := below_a w (.cells #[.string ⟨#[97]⟩, .int .i64 5] 34)
  have hq := BlkIs.new w 34 #[.string ⟨#[97]⟩, .int .i64 5]
  have hz : (w.alloc (.cells #[.string ⟨#[97]⟩, .int .i64 5] 34)).heap.size = w.heap.size + 1 := by simp
  have HU := Lib.hid (fun X => until_any 9223372036854775803 10 (by unfold I64; omega) (by unfold I64; omega) X)
  rw [ex1] at HU
  go_enter Try.func9, Try.ntmps9
  go_wp2_with fail
  generalize w.alloc (.cells #[.string ⟨#[97]⟩, .int .i64 5] 34) = w1 at *
  have hP : Prs w1 w1.heap.size (some ⟨w.heap.size, 0, none⟩) (cvC exC) := .inr ⟨w.heap.size, 0, rfl, by omega, fun j v hj => by
    have hj2 : j < 2 := (List.getElem?_eq_some_iff.1 hj).1
    rcases (by omega : j = 0 ∨ j = 1) with rfl | rfl
    · exact (hq.cell 0).trans hj
    · exact (hq.cell 1).trans hj⟩
  have hok : OkC exC := fun c hc => by
    rw [List.mem_singleton.1 hc]
    exact ⟨by decide, by unfold I64; decide⟩
  refine (HU.out _).mono ?_
  rintro e w' ⟨rfl, rfl⟩
  have HC := Lib.hid (check_any (rs := []) (A2 := none) hP (.inl rfl) (Nat.le_refl _) 1 1 0 0 rfl rfl hok (fun r hr => by cases hr))
  have HO : Hid (∀ X, Below w1.heap.size w1 X → ∀ t : Int, Calls Try.prog 19 #[.slice (some ⟨w.heap.size, 0, none⟩) 1 1, .string ⟨#[97]⟩, .int .i64 10, .int .i64 t] X fun e w' => e = .returned (.bool (overS exC [97] 10 t)) ∧ Below X.heap.size X w') := Lib.hid fun X hX t => over_any (hP.below hX) hX.size 1 1 rfl (by omega) hok [97] 10 t (by unfold I64; omega)
  unfold CheckP at HC
  rw [ex2] at HC
  clear hq hP hok HU
  have h0 : errC true = 0 := rfl
  rw [h0] at HC
  go_wp2_with (first | (go_at_call 11; refine HC.out.mono ?_; rintro e w2 ⟨rfl, hb2⟩) | fail)
  refine (HO.out _ hb2 15).mono ?_
  rw [ex3]
  rintro e w3 ⟨rfl, hb3⟩
  have hb13 := hb2.trans (hb3.mono hb2.size)
  go_wp2_with fail
  refine (HO.out _ hb13 14).mono ?_
  rw [ex4]
  rintro e w4 ⟨rfl, hb4⟩
  go_wp2_with fail
  go_ret
  exact ⟨rfl, hb1.trans ((hb13.trans (hb4.mono hb13.size)).mono hb1.size)⟩
set_option maxHeartbeats 800000 in
theorem few_any (A A2 T : Option Addr) (n c n2 c2 tn tc : Nat) (s : ByteArray) (z : Int) (w : World) :
    Calls Try.prog 10 #[.slice A n c, .slice A2 n2 c2, .agg #[.string s, .slice T tn tc, .int .i64 z]] w fun e w' => e = .returned (.bool (decide (n ≤ 101 ∧ n2 ≤ 101 ∧ tn ≤ 20))) ∧ Below w.heap.size w w' := by
  have hb := below_a w (.cells #[.string s, .slice T tn tc, .int .i64 z] 28)
  have HR : Hid (decide (n ≤ 101 ∧ n2 ≤ 101 ∧ tn ≤ 20) = (decide ((n : Int) ≤ 101) && decide ((n2 : Int) ≤ 101) && decide ((tn : Int) ≤ 20))) := Lib.hid (by
    rw [Bool.eq_iff_iff]
    simp only [Bool.and_eq_true, decide_eq_true_eq]
    omega)
  generalize decide (n ≤ 101 ∧ n2 ≤ 101 ∧ tn ≤ 20) = r at *
  go_enter Try.func10, Try.ntmps10
  go_wp2_with fail
  all_goals
    go_ret
    refine ⟨ret_bool ?_, hb⟩
    rw [HR.out]
    simp
    try omega
end Rt
end Go.Proofs.Ytokaifnpmhkkpaa
