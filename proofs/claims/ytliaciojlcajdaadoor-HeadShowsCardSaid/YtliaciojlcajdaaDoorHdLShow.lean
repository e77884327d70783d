/- HeadShows: the walk of the law. Conditions: as stated at each. -/
import Derived.Test.YtliaciojlcajdaaDoorHdRShow
import Derived.Test.YtliaciojlcajdaaDoorHdAwake
import Derived.Test.YtliaciojlcajdaaDoorHdTold
namespace Go.Proofs.YtliaciojlcajdaaDoor
set_option maxRecDepth 100000
namespace Hd
open Go.RowKit Go Go.Proofs.YtliaciojlcajdaaDoor.Pa
set_option maxHeartbeats 3200000 in
theorem shows_any {w : World} {A : Option Addr} {fs : List F} (hb : Prs w w.heap.size A (fv fs)) (c : Nat) (hG : Gl w) :
    Calls Tryd.prog 4 #[.slice A fs.length c] w fun e w' => e = .returned (.bool true) ∧ Below w.heap.size w w' := by
  have HAW := Lib.hid (awake8 w hG)
  have HB : Hid (∀ X, Below w.heap.size w X → Prs X X.heap.size A (fv fs)) := Lib.hid fun X hX => (hb.below hX).more hX.size
  obtain ⟨n, hn⟩ : ∃ n, n = fs.length := ⟨_, rfl⟩
  rw [← hn]
  have HFE : Hid (∀ X, Below w.heap.size w X → Calls Tryd.prog 12 #[.slice A n c] X (FewP X fs n)) := Lib.hid fun X hX => few_any (HB.out X hX) n c hn.symm
  have HNT := Lib.hid hn
  clear hb hG hn
  go_enter Tryd.func4, Tryd.ntmps4
  go_wp2_with fail
  refine HAW.out.mono ?_
  rintro e w1 ⟨rfl, b1⟩
  go_wp2_with fail
  refine (HFE.out w1 b1).mono ?_
  rintro e w2 ⟨r, rfl, b2', hr⟩
  have b2 : Below w.heap.size w w2 := b1.trans (b2'.mono b1.size)
  clear b2'
  cases r with
  | false =>
    go_wp2_with fail
    go_ret
    exact ⟨rfl, b2⟩
  | true =>
    obtain ⟨hl, hsm⟩ := hr rfl
    have HSH : Hid (∀ X, Below w.heap.size w X → Calls Tryd.prog 13 #[.slice A n c] X (ShowP X fs n)) := Lib.hid fun X hX => show_any (HB.out X hX) n c HNT.out.symm hl hsm
    have HRS : Hid (∀ X, Below w.heap.size w X → Calls Tryd.prog 14 #[.slice A n c] X (ShowP X fs n)) := Lib.hid fun X hX => rshow_any (HB.out X hX) n c HNT.out.symm hl hsm
    clear hr hl hsm
    go_wp2_with fail
    refine (HSH.out w2 b2).mono ?_
    rintro e w3 ⟨b3', hc⟩
    have b3 : Below w.heap.size w w3 := b2.trans (b3'.mono b2.size)
    have H3 := Lib.hid b3'
    clear b3'
    rcases hc with ⟨v, rfl, h1, h2, h3⟩ | ⟨rfl, h1⟩ | ⟨rfl, h1, h2⟩
    · obtain ⟨A3, c3, rfl, hc3, hm3⟩ := own5_len h3
      have HF := Lib.hid (And.intro h1 (And.intro h2 h3))
      clear h1 h2 h3
      generalize hsl : shownL fs ++ [13, 10] = sl at *
      have HSL := Lib.hid hsl
      clear hsl
      go_wp2_with fail
      refine (HRS.out w3 b3).mono ?_
      rintro e w4 ⟨b4', ⟨v4, rfl, _, _, h4⟩ | ⟨_, ⟨f, hf, hff⟩⟩ | ⟨_, h5, _⟩⟩
      · have b4 : Below w.heap.size w w4 := b3.trans (b4'.mono b3.size)
        obtain ⟨A4, c4, rfl, hc4, hm4⟩ := own5_len h4
        rw [HSL.out] at h4
        have k0 : Own5 w4 w2.heap.size (.slice A3 sl.length c3) sl := own_kept2 HF.out.2.2 b4' (Nat.le_refl _)
        have k1 := conv_str k0.bts c3
        have k2 := conv_str h4.bts c4
        rw [HSL.out]
        clear b4' h4 k0
        generalize sl.length = m at *
        go_wp2_with fail
        go_ret
        exact ⟨rfl, b4⟩
      · rw [HF.out.2.1 f hf] at hff; cases hff
      · have := HF.out.1; omega
    · have HF := Lib.hid h1
      clear h1
      go_wp2_with fail
      refine (HRS.out w3 b3).mono ?_
      rintro e w4 ⟨b4', ⟨v4, _, _, h2, _⟩ | ⟨rfl, _⟩ | ⟨_, _, h2⟩⟩
      · obtain ⟨f, hf, hff⟩ := HF.out
        rw [h2 f hf] at hff; cases hff
      · have b4 : Below w.heap.size w w4 := b3.trans (b4'.mono b3.size)
        have k1 : (convert 22 9 (.slice none 0 0)).run Tryd.prog w4 = .ok (.string (str [])) w4 := conv_str (B := 0) (l := []) Cs.nil 0
        clear b4'
        go_wp2_with fail
        go_ret
        exact ⟨rfl, b4⟩
      · obtain ⟨f, hf, hff⟩ := HF.out
        rw [h2 f hf] at hff; cases hff
    · have HF := Lib.hid (And.intro h1 h2)
      clear h1 h2
      go_wp2_with fail
      refine (HRS.out w3 b3).mono ?_
      rintro e w4 ⟨b4', ⟨v4, _, h5, _, _⟩ | ⟨_, ⟨f, hf, hff⟩⟩ | ⟨rfl, _, _⟩⟩
      · have := HF.out.1; omega
      · rw [HF.out.2 f hf] at hff; cases hff
      · have b4 : Below w.heap.size w w4 := b3.trans (b4'.mono b3.size)
        have k1 : (convert 22 9 (.slice none 0 0)).run Tryd.prog w4 = .ok (.string (str [])) w4 := conv_str (B := 0) (l := []) Cs.nil 0
        clear b4'
        go_wp2_with fail
        go_ret
        exact ⟨rfl, b4⟩
end Hd
end Go.Proofs.YtliaciojlcajdaaDoor
