/- HoldLifts' walk. Conditions: as stated at each. -/
import Derived.Test.YtamjellnmlgbeaaHoLaws
namespace Go.Proofs.Ytamjellnmlgbeaa
set_option maxRecDepth 100000
namespace Ho
open Go.RowKit Go Go.Proofs.Ytamjellnmlgbeaa.Pa Go.Proofs.Ytamjellnmlgbeaa.Rt
theorem liftS_len (l : List R) (nm : L) : (liftS l nm).length ≤ l.length := by
  unfold liftS
  split
  · next h =>
    have := lift_length h
    omega
  · simp
theorem map_fst_at {l : List R} {k : Nat} (h : k < l.length) : (l.map Prod.fst).getD k [] = (l.getD k r0).1 := by simp [List.getD, h]
set_option maxHeartbeats 3200000 in
theorem llifts_any {w0 : World} {A : Option Addr} {l : List R} (hp : Prs w0 w0.heap.size A (cvR l)) (c : Nat) (hok : OkH l) (hnc : l.length ≤ c) (s : ByteArray) :
    Calls Try.prog 4 #[.slice A l.length c, .string s] w0 fun e w' => e = .returned (.bool true) ∧ Below w0.heap.size w0 w' := by
  rw [show s = str s.data.toList by simp [str]]
  generalize s.data.toList = nm
  have HA := Lib.hid awake_any
  have HF := Lib.hid (fun X => few_any A none l.length c 0 0 ⟨#[]⟩ 0 X)
  by_cases hl : l.length ≤ 101
  · have HP := Lib.hid (fun X (hX : Below w0.heap.size w0 X) => lift_any nm (hp.below hX) hX.size l.length c rfl (by omega) hok)
    have HR := Lib.hid (fun X (hX : Below w0.heap.size w0 X) => rlift_any nm (hp.below hX) hX.size l.length c rfl (by omega) hnc)
    have HNM := Lib.hid (fun X (hX : Below w0.heap.size w0 X) => names_any (hp.below hX) hX.size l.length c rfl (by omega) hok)
    have hsl := liftS_len l nm
    have HS : Hid (∀ X A3 A4 c3 c4, Prs X X.heap.size A3 (cvR (liftS l nm)) → Prs X X.heap.size A4 (cvR (liftS l nm)) → Calls Try.prog 11 #[.slice A3 (liftS l nm).length c3, .slice A4 (liftS l nm).length c4] X fun e w' => e = .returned (.bool true) ∧ Below X.heap.size X w') := Lib.hid fun X A3 A4 c3 c4 g3 g4 => same_yes g3 g4 (Nat.le_refl _) _ c3 c4 rfl (by omega)
    have HEL := Lib.hid (holds_of hp)
    have hml : (l.map Prod.fst).length = l.length := List.length_map ..
    have HAT := Lib.hid (fun k hk => map_fst_at (l := l) (k := k) hk)
    rw [decide_eq_true ⟨hl, by omega⟩] at HF
    unfold OutE at HP HR
    unfold OutT at HNM
    generalize liftE l nm = E at *
    generalize liftS l nm = t at *
    generalize hm : t.length = m at *
    have HM := Lib.hid hm
    have HL2 := Lib.hid hl
    clear hp hok hsl hm hnc hl
    generalize l.map Prod.fst = ws at *
    generalize hn : l.length = n at *
    have HML := Lib.hid hml
    have HN := Lib.hid hn
    clear hml hn
    generalize str nm = s0 at *
    go_enter Try.func4, Try.ntmps4
    go_wp2_with fail
    refine (HA.out _).mono ?_
    rintro e w2 ⟨rfl, hb2⟩
    have HB2 := Lib.hid hb2
    clear hb2
    go_wp2_with fail
    refine (HF.out _).mono ?_
    rintro e w3 ⟨rfl, hb3⟩
    have HB3 := Lib.hid (HB2.out.trans (hb3.mono HB2.out.size))
    clear hb3 HB2
    go_wp2_with fail
    refine (HP.out _ HB3.out).mono ?_
    rintro e w4 ⟨v4, rfl, ho4, hb4⟩
    obtain ⟨A4, c4, rfl, _, _⟩ := ho4.slice
    rw [HM.out]
    have HB4 := Lib.hid (HB3.out.trans (hb4.mono HB3.out.size))
    have HO4 := Lib.hid (OwnH.prs ho4)
    clear hb4 ho4 HB3
    go_wp2_with fail
    refine (HR.out _ HB4.out).mono ?_
    rintro e w5 ⟨v5, rfl, ho5, hb5⟩
    obtain ⟨A5, c5, rfl, _, _⟩ := ho5.slice
    rw [HM.out]
    have HB5 := Lib.hid (HB4.out.trans (hb5.mono HB4.out.size))
    have HO5 := Lib.hid (And.intro (HO4.out.below hb5 |>.more hb5.size) (OwnH.prs ho5))
    clear hb5 ho5 HO4 HB4
    go_wp2_with fail
    refine (HNM.out _ HB5.out).mono ?_
    rintro e w6 ⟨v6, rfl, ho6, hb6⟩
    obtain ⟨A6, c6, rfl, _, _⟩ := ho6.slice
    rw [HML.out]
    have HB6 := Lib.hid (HB5.out.trans (hb6.mono HB5.out.size))
    have HO6 := Lib.hid (And.intro (HO5.out.1.below hb6 |>.more hb6.size) (HO5.out.2.below hb6 |>.more hb6.size))
    have HT6 := Lib.hid (OwnT.tx ho6)
    have hnn : ((n : Int) != (n : Int)) = false := by simp
    have hee : (E == E) = true := by simp
    clear hb6 ho6 HO5 HB5 HP HR HNM HA HF
    go_wp2_with fail
    have hn101 : n ≤ 101 := HL2.out
    go_loopw [10, 38] (fun _ i wr => ∃ k : Nat, k ≤ n ∧ i = .int .i64 k ∧ Hid (∃ m, wr = w6.drewN m)) (fun _ i _ => n - (intOf i).toNat)
    case atStart => exact ⟨0, Nat.zero_le _, rfl, Lib.hid ⟨0, rfl⟩⟩
    case round =>
      obtain ⟨k, hk, rfl, HW⟩ := hrel
      have hwr : Below w6.heap.size w6 wr := by obtain ⟨m, hm⟩ := HW.out; rw [hm]; exact below_dn _ _ _
      by_cases hlt : k < n
      · obtain ⟨g, o, rfl, hg, hall⟩ := HEL.out k hlt
        obtain ⟨g2, o2, rfl, hg2, hall2⟩ := HT6.out.els k (by rw [HML.out]; exact hlt)
        rw [HAT.out k hlt] at hall2
        have hb0 := HB6.out.trans (hwr.mono HB6.out.size)
        have hd1 := fun m => (hall _ (hb0.trans (below_dn wr _ m))).1
        have hd2 := fun m => hall2 _ (hwr.trans (below_dn wr _ m))
        have hc1 := (hall _ hb0).1
        have hc2 := hall2 _ hwr
        clear hall hall2 hwr hb0
        generalize str (l.getD k r0).1 = q at *
        go_wp2_with fail
        go_quiet (fail)
        go_wp2_with fail
        go_roundw
        case rel => exact ⟨k + 1, by omega, by go_num, by obtain ⟨m, rfl⟩ := HW.out; exact Lib.hid ⟨_, by first | rfl | (simp [World.drewN]; done) | (simp only [World.drewN]; congr 1; exact Nat.add_assoc _ _ _)⟩⟩
        case measure => simp [intOf]; omega
      · have HB7 := Lib.hid (HB6.out.trans (hwr.mono HB6.out.size))
        have HS7 := Lib.hid (HS.out wr A4 A5 c4 c5 (HO6.out.1.below hwr |>.more hwr.size) (HO6.out.2.below hwr |>.more hwr.size))
        clear hwr HW HEL HT6
        go_wp2_with (first
          | (go_at_call 11; refine HS7.out.mono ?_; rintro e w8 ⟨rfl, hb8⟩)
          | fail)
        go_ret
        exact ⟨rfl, HB7.out.trans (hb8.mono HB7.out.size)⟩
  · rw [decide_eq_false (fun h => hl h.1)] at HF
    clear hp hok hl hnc
    generalize l.length = n at *
    generalize str nm = s0 at *
    go_enter Try.func4, Try.ntmps4
    go_wp2_with fail
    refine (HA.out _).mono ?_
    rintro e w2 ⟨rfl, hb2⟩
    go_wp2_with fail
    refine (HF.out _).mono ?_
    rintro e w3 ⟨rfl, hb3⟩
    go_wp2_with fail
    go_ret
    exact ⟨rfl, hb2.trans (hb3.mono hb2.size)⟩
end Ho
end Go.Proofs.Ytamjellnmlgbeaa
