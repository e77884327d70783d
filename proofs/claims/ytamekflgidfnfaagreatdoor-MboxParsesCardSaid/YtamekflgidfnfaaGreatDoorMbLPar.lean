/- The walk of MboxParses. Conditions: as stated at each. -/
import Derived.Test.YtamekflgidfnfaaGreatDoorMbRPar
import Derived.Test.YtamekflgidfnfaaGreatDoorMbAwake
namespace Go.Proofs.YtamekflgidfnfaaGreatDoor
set_option maxRecDepth 100000
namespace Mb
open Go.RowKit Go Go.Proofs.YtamekflgidfnfaaGreatDoor.Pa
set_option maxHeartbeats 3200000 in
theorem lparses_any {w : World} {A : Option Addr} {l : L} (h : Bts w w.heap.size A l) (c : Nat) (hc : l.length ≤ c) (hm : c ≤ maxLen) (hA : A = none → c = 0) (hG : GlT w ∧ GlE w) :
    Calls Tryz.prog 3 #[.slice A l.length c] w fun e w' => e = .returned (.bool true) ∧ Below w.heap.size w w' := by
  have HAW := Lib.hid (awake_any w hG.1)
  have HB : Hid (∀ X, Below w.heap.size w X → Bts X X.heap.size A l) := Lib.hid fun X hX => (h.below hX).more hX.size
  have HP : Hid (∀ X, Below w.heap.size w X → l.length ≤ 2000 → Calls Tryz.prog 6 #[.slice A l.length c] X (ParseQ X l)) := Lib.hid fun X hX hl => parse_any (HB.out X hX) c hc hm hA (by omega) (hG.1.below hX hG.1.lt) (hG.2.below hX hG.2.lt)
  have HR : Hid (∀ X, Below w.heap.size w X → l.length ≤ 2000 → Calls Tryz.prog 7 #[.slice A l.length c] X (ParseQ X l)) := Lib.hid fun X hX hl => rparse_any (HB.out X hX) c hc hm hl (hG.1.below hX hG.1.lt)
  have HLN : Hid (∀ ls, parseS l = some ls → l.length ≤ 2000 → ls.length ≤ 1000000) := Lib.hid fun ls hp hl => by
    have := (parse_exp l.length l ls (Nat.le_refl _) hp).2.2
    omega
  clear h hG hm hA hc
  generalize l.length = n at *
  go_enter Tryz.func3, Tryz.ntmps3
  go_wp2_with fail
  refine HAW.out.mono ?_
  rintro e w1 ⟨rfl, b1⟩
  have B1 := Lib.hid b1
  clear b1 HAW
  by_cases hl : n ≤ 2000
  · have hl2 : ¬ (2000 : Int) < (n : Int) := by omega
    go_wp2_with fail
    refine (HP.out w1 B1.out hl).mono ?_
    rintro e w2 ⟨hb2, ⟨ls, v, hp, rfl, hr⟩ | ⟨hp, rfl⟩⟩
    · have B2 := Lib.hid (B1.out.trans (hb2.mono B1.out.size))
      have HP2 := Lib.hid hp
      have HR2 := Lib.hid hr
      obtain ⟨A2, c2, rfl, hc2, _⟩ := hr.slice
      clear hb2 hp hr HP
      go_wp2_with fail
      refine (HR.out w2 B2.out hl).mono ?_
      rintro e w3 ⟨hb3, ⟨ls', v', hp', rfl, hr'⟩ | ⟨hp', rfl⟩⟩
      · have els : ls' = ls := by
          rw [HP2.out] at hp'
          injection hp' with e
          exact e.symm
        subst els
        have B3 := Lib.hid (B2.out.trans (hb3.mono B2.out.size))
        have hr3 := HR2.out.less hb3 (Nat.le_refl _)
        obtain ⟨A3, c3, rfl, _, _⟩ := hr'.slice
        have HS0 : Hid (Calls Tryz.prog 8 #[.slice A2 ls'.length c2, .slice A3 ls'.length c3] w3 fun e w' => e = .returned (.bool true) ∧ Below w3.heap.size w3 w') := Lib.hid (same_any hr3.ls hr'.ls ls'.length c2 c3 rfl (HLN.out _ HP2.out hl))
        clear hb3 hr3 hr' HR HR2 hp'
        generalize ls'.length = m at *
        go_wp2_with fail
        refine HS0.out.mono ?_
        rintro e w4 ⟨rfl, hb4⟩
        have B4 := Lib.hid (B3.out.trans (hb4.mono B3.out.size))
        clear hb4
        go_wp2_with fail
        go_ret
        exact ⟨rfl, B4.out⟩
      · rw [HP2.out] at hp'
        cases hp'
    · have B2 := Lib.hid (B1.out.trans (hb2.mono B1.out.size))
      have HP2 := Lib.hid hp
      clear hb2 hp HP
      go_wp2_with fail
      refine (HR.out w2 B2.out hl).mono ?_
      rintro e w3 ⟨hb3, ⟨ls', v', hp', rfl, hr'⟩ | ⟨hp', rfl⟩⟩
      · rw [HP2.out] at hp'
        cases hp'
      · have B3 := Lib.hid (B2.out.trans (hb3.mono B2.out.size))
        have HS0 : Hid (Calls Tryz.prog 8 #[.slice none 0 0, .slice none 0 0] w3 fun e w' => e = .returned (.bool true) ∧ Below w3.heap.size w3 w') := Lib.hid (same_any (ls := []) (fun k hk => by simp at hk) (fun k hk => by simp at hk) 0 0 0 rfl (by omega))
        clear hb3 HR hp'
        go_wp2_with fail
        refine HS0.out.mono ?_
        rintro e w4 ⟨rfl, hb4⟩
        have B4 := Lib.hid (B3.out.trans (hb4.mono B3.out.size))
        clear hb4
        go_wp2_with fail
        go_ret
        exact ⟨rfl, B4.out⟩
  · have hl2 : (2000 : Int) < (n : Int) := by omega
    go_wp2_with fail
    go_ret
    exact ⟨rfl, B1.out⟩
end Mb
end Go.Proofs.YtamekflgidfnfaaGreatDoor
