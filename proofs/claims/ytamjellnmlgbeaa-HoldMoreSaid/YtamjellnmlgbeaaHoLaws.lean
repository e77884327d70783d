/- HoldPlaces' walk. Conditions: as stated at each. -/
import Derived.Test.YtamjellnmlgbeaaHoAwake
namespace Go.Proofs.Ytamjellnmlgbeaa
set_option maxRecDepth 100000
namespace Ho
open Go.RowKit Go Go.Proofs.Ytamjellnmlgbeaa.Pa Go.Proofs.Ytamjellnmlgbeaa.Rt
theorem placeS_len (l : List R) (h : R) : (placeS l h).length ≤ l.length + 1 := by
  unfold placeS
  split
  · simp
  · simp
set_option maxHeartbeats 3200000 in
theorem lplaces_any {w0 : World} {A : Option Addr} {l : List R} {h : R} (hp : Prs w0 w0.heap.size A (cvR l)) (c : Nat) (hok : OkH l) (h1 : h.1.length ≤ 140737488355328) (h2 : h.2.length ≤ 140737488355328) :
    Calls Try.prog 3 #[.slice A l.length c, .agg #[.string (str h.1), .string (str h.2)]] w0 fun e w' => e = .returned (.bool true) ∧ Below w0.heap.size w0 w' := by
  have HA := Lib.hid awake_any
  have HF := Lib.hid (fun X => few_any A none l.length c 0 0 ⟨#[]⟩ 0 X)
  have hq1 := BlkIs.new w0 24 #[.string (str h.1), .string (str h.2)]
  have hb1 := below_b w0 (.cells #[.string (str h.1), .string (str h.2)] 24)
  by_cases hl : l.length ≤ 101
  · have HP := Lib.hid (fun X (hX : Below w0.heap.size w0 X) => place_any (h := h) (hp.below hX) hX.size l.length c rfl (by omega) hok h1 h2)
    have HR := Lib.hid (fun X (hX : Below w0.heap.size w0 X) => rplace_any (h := h) (hp.below hX) hX.size l.length c rfl (by omega) h1 h2)
    have hsl := placeS_len l h
    have HS : Hid (∀ X A3 A4 c3 c4, Prs X X.heap.size A3 (cvR (placeS l h)) → Prs X X.heap.size A4 (cvR (placeS l h)) → Calls Try.prog 11 #[.slice A3 (placeS l h).length c3, .slice A4 (placeS l h).length c4] X fun e w' => e = .returned (.bool true) ∧ Below X.heap.size X w') := Lib.hid fun X A3 A4 c3 c4 g3 g4 => same_yes g3 g4 (Nat.le_refl _) _ c3 c4 rfl (by omega)
    rw [decide_eq_true ⟨hl, by omega⟩] at HF
    unfold OutE at HP HR
    generalize placeE l h = E at *
    generalize placeS l h = t at *
    generalize hm : t.length = m at *
    have HM := Lib.hid hm
    clear hp hok h1 h2 hl hsl hm
    generalize l.length = n at *
    generalize str h.1 = s0 at *
    generalize str h.2 = s1 at *
    go_enter Try.func3, Try.ntmps3
    go_wp2_with fail
    have hlt := hq1.lt
    generalize w0.alloc (.cells #[.string s0, .string s1] 24) = w1 at *
    refine (HA.out _).mono ?_
    rintro e w2 ⟨rfl, hb2⟩
    have hq2 : BlkIs w2 w0.heap.size 24 #[.string s0, .string s1] := (hb2.block _ hlt).trans hq1
    have hb12 := hb1.trans (hb2.mono hb1.size)
    clear hq1 hb2 hb1
    go_wp2_with fail
    refine (HF.out _).mono ?_
    rintro e w3 ⟨rfl, hb3⟩
    have hq3 : BlkIs w3 w0.heap.size 24 #[.string s0, .string s1] := (hb3.block _ hq2.lt).trans hq2
    have HB3 := Lib.hid (hb12.trans (hb3.mono hb12.size))
    have x0 := (hq3.cell 0).trans (rfl : _ = some (Value.string s0))
    have x1 := (hq3.cell 1).trans (rfl : _ = some (Value.string s1))
    have HQ3 := Lib.hid hq3
    clear hq2 hb12 hb3 hq3
    go_wp2_with fail
    refine (HP.out _ HB3.out).mono ?_
    rintro e w4 ⟨v4, rfl, ho4, hb4⟩
    obtain ⟨A4, c4, rfl, _, _⟩ := ho4.slice
    rw [HM.out]
    have hq4 : BlkIs w4 w0.heap.size 24 #[.string s0, .string s1] := (hb4.block _ HQ3.out.lt).trans HQ3.out
    have HB4 := Lib.hid (HB3.out.trans (hb4.mono HB3.out.size))
    have HO4 := Lib.hid ho4
    have y0 := (hq4.cell 0).trans (rfl : _ = some (Value.string s0))
    have y1 := (hq4.cell 1).trans (rfl : _ = some (Value.string s1))
    clear hq4 hb4 ho4 x0 x1
    go_wp2_with fail
    refine (HR.out _ HB4.out).mono ?_
    rintro e w5 ⟨v5, rfl, ho5, hb5⟩
    obtain ⟨A5, c5, rfl, _, _⟩ := ho5.slice
    rw [HM.out]
    have HB5 := Lib.hid (HB4.out.trans (hb5.mono HB4.out.size))
    have HS5 := Lib.hid (HS.out w5 A4 A5 c4 c5 ((OwnH.prs HO4.out).below hb5 |>.more hb5.size) (OwnH.prs ho5))
    have hee : (E == E) = true := by simp
    clear hb5 ho5 HO4 y0 y1
    go_wp2_with (first
      | (go_at_call 11; refine HS5.out.mono ?_; rintro e w6 ⟨rfl, hb6⟩)
      | fail)
    go_ret
    exact ⟨rfl, HB5.out.trans (hb6.mono HB5.out.size)⟩
  · rw [decide_eq_false (fun h => hl h.1)] at HF
    clear hp hok h1 h2 hl
    generalize l.length = n at *
    generalize str h.1 = s0 at *
    generalize str h.2 = s1 at *
    go_enter Try.func3, Try.ntmps3
    go_wp2_with fail
    generalize w0.alloc (.cells #[.string s0, .string s1] 24) = w1 at *
    refine (HA.out _).mono ?_
    rintro e w2 ⟨rfl, hb2⟩
    have hb12 := hb1.trans (hb2.mono hb1.size)
    clear hq1 hb2 hb1
    go_wp2_with fail
    refine (HF.out _).mono ?_
    rintro e w3 ⟨rfl, hb3⟩
    go_wp2_with fail
    go_ret
    exact ⟨rfl, hb12.trans (hb3.mono hb12.size)⟩
end Ho
end Go.Proofs.Ytamjellnmlgbeaa
