/- HeadParses, HeadCuts: the walks of the laws. Conditions: as stated at each. -/
import Derived.Test.YtliaciojlcajdaaDoorHdRParse
namespace Go.Proofs.YtliaciojlcajdaaDoor
set_option maxRecDepth 100000
namespace Hd
open Go.RowKit Go Go.Proofs.YtliaciojlcajdaaDoor.Pa
theorem same_own {w : World} {N : Nat} {v v' : Value} {fs : List F} (h : OwnA w N v fs) (h' : OwnA w N v' fs) (hl : fs.length ≤ 1000000) :
    Calls Tryd.prog 11 #[v, v'] w fun e w' => e = .returned (.bool true) ∧ ∃ m, w' = w.drewN m := by
  obtain ⟨A, c, rfl, _, _⟩ := own_slice2 h
  obtain ⟨A', c', rfl, _, _⟩ := own_slice2 h'
  have := same_yes (own_prs h) (own_prs h') fs.length c c' rfl hl
  rw [fv_length]
  exact this
set_option maxHeartbeats 3200000 in
theorem parses_any {w : World} {A : Option Addr} {b : List UInt8} (hb : Bts w w.heap.size A b) (c : Nat) (hc : b.length ≤ c) (hm : c ≤ maxLen) (hA : A = none → c = 0) (hG : Gl w) :
    Calls Tryd.prog 3 #[.slice A b.length c] w fun e w' => e = .returned (.bool true) ∧ Below w.heap.size w w' := by
  have HAW := Lib.hid (awake8 w hG)
  have h0 := hG.lt
  by_cases hl : b.length ≤ 2000
  · obtain ⟨res, hrun⟩ := Run.total [] b
    have hres : ∀ gs r, res = some (gs, r) → gs.length ≤ 1000 ∧ b.length - r.length ≤ 100000 := fun gs r e => by
      subst e
      have := hrun.facts
      simp at this
      omega
    have hfl : ∀ gs r, res = some (gs, r) → ∀ f ∈ gs, f.2.length ≤ 1000000 := fun gs r e f hf => by
      subst e
      have := hrun.short f hf
      omega
    have HP : Hid (∀ w1, Below w.heap.size w w1 → Calls Tryd.prog 9 #[.slice A b.length c] w1 (ParseP w1 b.length res)) := Lib.hid fun w1 h1 =>
      parse_any ((hb.below h1).more h1.size) c hc hm hA (by omega) (hG.below h1 h0) res hrun hres hfl
    have HR : Hid (∀ w1, Below w.heap.size w w1 → Calls Tryd.prog 10 #[.slice A b.length c] w1 (RParseP w1 b.length res)) := Lib.hid fun w1 h1 =>
      rparse_any ((hb.below h1).more h1.size) c hc hm (by omega) res hrun hres
    have HRES := Lib.hid hres
    clear hb hG hfl hres hrun hc hm hA
    have hl2 : ((b.length : Nat) : Int) ≤ 2000 := by omega
    generalize b.length = n at *
    go_enter Tryd.func3, Tryd.ntmps3
    go_wp2_with fail
    refine HAW.out.mono ?_
    rintro e w1 ⟨rfl, b1⟩
    go_wp2_with fail
    refine (HP.out w1 b1).mono ?_
    rintro e w2 (⟨fs, r, k, v, h1, h2, rfl, h3, h4⟩ | ⟨h1, rfl, h4⟩)
    · have b2 : Below w.heap.size w w2 := b1.trans (h4.mono b1.size)
      have HF := Lib.hid (And.intro h1 (And.intro h2 (And.intro h3 h4)))
      clear h1 h2 h3 h4
      go_wp2_with fail
      refine (HR.out w2 b2).mono ?_
      rintro e w3 (⟨fs', r', k', v', h1, h2, rfl, h3, h4⟩ | ⟨h1, _⟩)
      · rw [HF.out.1] at h1
        injection h1 with h1
        injection h1 with e1 e2
        subst e1
        subst e2
        obtain rfl : k = k' := by have := HF.out.2.1; omega
        have b3 : Below w.heap.size w w3 := b2.trans (h4.mono b2.size)
        have o1 : OwnA w3 w1.heap.size v (fs.map trimF) := own_kept2 HF.out.2.2.1 h4 (Nat.le_refl _)
        have o2 : OwnA w3 w1.heap.size v' (fs.map trimF) := ⟨h3.1, by
          rcases h3.2 with h | ⟨g, cap, cur, q1, q2, q3⟩
          · exact .inl h
          · exact .inr ⟨g, cap, cur, q1, Nat.le_trans HF.out.2.2.2.size q2, q3⟩⟩
        have hfl : (fs.map trimF).length ≤ 1000000 := by
          have := (HRES.out _ _ HF.out.1).1
          simp; omega
        have HS := Lib.hid (same_own o1 o2 hfl)
        clear HF h2 h3 h4 o1 o2 hfl
        go_wp2_with fail
        refine HS.out.mono ?_
        rintro e w4 ⟨rfl, m, rfl⟩
        have b4 : Below w.heap.size w (w3.drewN m) := b3.trans (below_drewN' _ _ _)
        generalize w3.drewN m = w4 at *
        go_wp2_with fail
        go_ret
        exact ⟨rfl, b4⟩
      · rw [HF.out.1] at h1
        cases h1
    · have b2 : Below w.heap.size w w2 := b1.trans (h4.mono b1.size)
      clear h4
      go_wp2_with fail
      refine (HR.out w2 b2).mono ?_
      rintro e w3 (⟨fs', r', k', v', h2, _⟩ | ⟨_, rfl, h4⟩)
      · rw [h1] at h2
        cases h2
      · have b3 : Below w.heap.size w w3 := b2.trans (h4.mono b2.size)
        have HS := Lib.hid (same_own (w := w3) (N := 0) (v := .slice none 0 0) (v' := .slice none 0 0) (fs := []) (World.ownsRow_nil _ _ _ _) (World.ownsRow_nil _ _ _ _) (by simp))
        clear h4 h1
        go_wp2_with fail
        refine HS.out.mono ?_
        rintro e w4 ⟨rfl, m, rfl⟩
        have b4 : Below w.heap.size w (w3.drewN m) := b3.trans (below_drewN' _ _ _)
        generalize w3.drewN m = w4 at *
        go_wp2_with fail
        go_ret
        exact ⟨rfl, b4⟩
  · clear hb hG hc hm hA
    have hl2 : ¬ ((b.length : Nat) : Int) ≤ 2000 := by omega
    generalize b.length = n at *
    go_enter Tryd.func3, Tryd.ntmps3
    go_wp2_with fail
    refine HAW.out.mono ?_
    rintro e w1 ⟨rfl, b1⟩
    go_wp2_with fail
    go_ret
    exact ⟨rfl, b1⟩
end Hd
end Go.Proofs.YtliaciojlcajdaaDoor
