/- Chapter 14's example; few. Conditions: as stated at each. -/
import Derived.Test.YtamjellnmlgbeaaHoRCov
namespace Go.Proofs.Ytamjellnmlgbeaa
set_option maxRecDepth 100000
namespace Ho
open Go.RowKit Go Go.Proofs.Ytamjellnmlgbeaa.Pa Go.Proofs.Ytamjellnmlgbeaa.Rt
def exH : R := ([97], [])
theorem ex1 : placeE [] exH = 0 ∧ placeS [] exH = [exH] := by decide
theorem ex2 : placeE [exH] exH = 140 := by decide
theorem ex3 : covS [exH] [] [] = true := by decide
theorem exOk : OkH [exH] := fun r hr => by
  rw [List.mem_singleton.1 hr]
  exact ⟨by decide, by decide⟩
set_option maxHeartbeats 1600000 in
theorem awake_any (w : World) :
    Calls Try.prog 7 #[] w fun e w' => e = .returned (.bool true) ∧ Below w.heap.size w w' := by
  have HP1 : Hid (Calls Try.prog 9 #[.slice none 0 0, .agg #[.string ⟨#[97]⟩, .string ⟨#[]⟩]] w (OutE w [exH] 0)) := Lib.hid (by
    have := place_any (w0 := w) (B := 0) (A := none) (l := []) (h := exH) (.inl rfl) (Nat.zero_le _) 0 0 rfl (by omega) (fun r hr => by cases hr) (by decide) (by decide)
    rw [ex1.1, ex1.2] at this
    exact this)
  have HP2 : Hid (∀ X A c, Prs X X.heap.size A (cvR [exH]) → Calls Try.prog 9 #[.slice A 1 c, .agg #[.string ⟨#[97]⟩, .string ⟨#[]⟩]] X fun e w' => ∃ v, e = .returned (.tuple #[v, .int .i64 140]) ∧ Below X.heap.size X w') := Lib.hid fun X A c h => by
    have := place_any (w0 := X) (l := [exH]) (h := exH) h (Nat.le_refl _) 1 c rfl (by omega) exOk (by decide) (by decide)
    rw [ex2] at this
    refine this.mono ?_
    rintro e w' ⟨v, h1, _, h2⟩
    exact ⟨v, h1, h2⟩
  have HC : Hid (∀ X A c, Prs X X.heap.size A (cvR [exH]) → Calls Try.prog 15 #[.slice A 1 c, .agg #[.string ⟨#[]⟩, .slice none 0 0, .int .i64 0]] X fun e w' => e = .returned (.bool true) ∧ Below X.heap.size X w') := Lib.hid fun X A c h => by
    have := covers_any (w0 := X) (l := [exH]) (fr := []) (to := []) (T := none) h Cs.nil (Nat.le_refl _) 1 c 0 0 0 rfl rfl (by omega) (by omega) exOk (by decide) (fun k => by simp)
    rw [ex3] at this
    exact this
  go_enter Try.func7, Try.ntmps7
  go_wp2_with fail
  refine HP1.out.mono ?_
  rintro e w1 ⟨v1, rfl, ho1, hb1⟩
  obtain ⟨A1, c1, rfl, _, _⟩ := ho1.slice
  have HPR := Lib.hid (OwnH.prs ho1)
  rw [show [exH].length = 1 from rfl]
  clear ho1 HP1
  go_wp2_with fail
  refine (HP2.out _ _ _ HPR.out).mono ?_
  rintro e w2 ⟨v2, rfl, hb2⟩
  have HPR2 := Lib.hid (HPR.out.below hb2 |>.more hb2.size)
  clear HP2 HPR
  go_wp2_with fail
  refine (HC.out _ _ _ HPR2.out).mono ?_
  rintro e w3 ⟨rfl, hb3⟩
  go_wp2_with fail
  go_ret
  exact ⟨rfl, (hb1.trans (hb2.mono hb1.size)).trans (hb3.mono (hb1.trans (hb2.mono hb1.size)).size)⟩
set_option maxHeartbeats 800000 in
theorem few_any (A T : Option Addr) (n c tn tc : Nat) (s : ByteArray) (z : Int) (w : World) :
    Calls Try.prog 8 #[.slice A n c, .agg #[.string s, .slice T tn tc, .int .i64 z]] w fun e w' => e = .returned (.bool (decide (n ≤ 101 ∧ tn ≤ 20))) ∧ Below w.heap.size w w' := by
  have hb := below_b w (.cells #[.string s, .slice T tn tc, .int .i64 z] 29)
  have HR : Hid (decide (n ≤ 101 ∧ tn ≤ 20) = (decide ((n : Int) ≤ 101) && decide ((tn : Int) ≤ 20))) := Lib.hid (by
    rw [Bool.eq_iff_iff]
    simp only [Bool.and_eq_true, decide_eq_true_eq]
    omega)
  generalize decide (n ≤ 101 ∧ tn ≤ 20) = r at *
  go_enter Try.func8, Try.ntmps8
  go_wp2_with fail
  all_goals
    go_ret
    refine ⟨ret_bool ?_, hb⟩
    rw [HR.out]
    simp
    try omega
end Ho
end Go.Proofs.Ytamjellnmlgbeaa
