/- HeadCuts: the walk of the law. Conditions: as stated at each. -/
import Derived.Test.YtliaciojlcajdaaDoorHdLParse
namespace Go.Proofs.YtliaciojlcajdaaDoor
set_option maxRecDepth 100000
namespace Hd
open Go.RowKit Go Go.Proofs.YtliaciojlcajdaaDoor.Pa
set_option maxHeartbeats 3200000 in
theorem cuts_any {w : World} {A : Option Addr} {b : List UInt8} (hb : Bts w w.heap.size A b) (c : Nat) (hc : b.length ≤ c) (hm : c ≤ maxLen) (hA : A = none → c = 0) (hG : Gl w) :
    Calls Tryd.prog 7 #[.slice A b.length c] w fun e w' => e = .returned (.bool true) ∧ Below w.heap.size w w' := by
  have HAW := Lib.hid (awake8 w hG)
  have h0 := hG.lt
  by_cases hl : b.length ≤ 2000
  · obtain ⟨res, hrun⟩ := Run.total [] b
    have hres : ∀ gs r, res = some (gs, r) → gs.length ≤ 1000 ∧ b.length - r.length ≤ 100000 := fun gs r e => by
      subst e
      have := hrun.facts
      simp at this
      omega
    have hfl : ∀ gs r, res = some (gs, r) → ∀ f ∈ gs, f.2.length ≤ 1000000 := fun gs r e f hf => by
      subst e
      have := hrun.short f hf
      omega
    have HP : Hid (∀ w1, Below w.heap.size w w1 → Calls Tryd.prog 9 #[.slice A b.length c] w1 (ParseP w1 b.length res)) := Lib.hid fun w1 h1 =>
      parse_any ((hb.below h1).more h1.size) c hc hm hA (by omega) (hG.below h1 h0) res hrun hres hfl
    have HC : Hid (∀ gs r k, res = some (gs, r) → k + r.length = b.length → k ≤ b.length ∧ gs.length ≤ 1000000 ∧ ∀ w1, Below w.heap.size w w1 → Calls Tryd.prog 9 #[.slice A k c] w1 (ParseP w1 k (some (gs, [])))) := Lib.hid fun gs r k e hk => by
      subst e
      have hf := hrun.facts
      have hw := hrun.whole
      rw [show b.length - r.length = k by omega] at hw
      have hkl : (b.take k).length = k := by simp; omega
      have hg := (hres gs r rfl).1
      have hfb := hrun.short
      refine ⟨by omega, by omega, fun w1 h1 => ?_⟩
      have hb1 : Bts w1 w1.heap.size A (b.take k) := by
        unfold Bts
        rw [show bv (b.take k) = (bv b).take k by simp [bv]]
        exact Cs.take ((hb.below h1).more h1.size) k
      have := parse_any hb1 c (by omega) hm hA (by omega) (hG.below h1 h0) (some (gs, [])) hw (fun gs' r' e => by
        injection e with e
        injection e with e1 e2
        subst e1
        subst e2
        simp
        omega) (fun gs' r' e f hf' => by
        injection e with e
        injection e with e1 e2
        subst e1
        have := hfb f hf'
        omega)
      rw [hkl] at this
      exact this
    clear hb hG hfl hres hrun hm hA
    have hl2 : ((b.length : Nat) : Int) ≤ 2000 := by omega
    generalize b.length = n at *
    go_enter Tryd.func7, Tryd.ntmps7
    go_wp2_with fail
    refine HAW.out.mono ?_
    rintro e w1 ⟨rfl, b1⟩
    go_wp2_with fail
    refine (HP.out w1 b1).mono ?_
    rintro e w2 (⟨fs, r, k, v, h1, h2, rfl, h3, h4⟩ | ⟨h1, rfl, h4⟩)
    · have b2 : Below w.heap.size w w2 := b1.trans (h4.mono b1.size)
      obtain ⟨hkn, hgl, hcall⟩ := HC.out fs r k h1 h2
      have HF := Lib.hid (And.intro h3 h4)
      have HCA := Lib.hid (hcall w2 b2)
      obtain ⟨A5, c5, rfl, hc5, hm5⟩ := own_slice2 h3
      have hq5 : (k : Int) ≤ n := by omega
      have hk0 : (0 : Int) ≤ k := by omega
      clear h1 h2 h3 h4 hcall
      go_wp2_with fail
      refine HCA.out.mono ?_
      rintro e w3 (⟨fs', r', k', v', h1, h2, rfl, h3, h4⟩ | ⟨h1, _⟩)
      · injection h1 with h1
        injection h1 with e1 e2
        subst e1
        subst e2
        obtain rfl : k' = k := by simpa using h2
        have b3 : Below w.heap.size w w3 := b2.trans (h4.mono b2.size)
        have o1 := own_kept2 HF.out.1 h4 (Nat.le_refl _)
        have o2 : OwnA w3 w1.heap.size v' (fs.map trimF) := ⟨h3.1, by
          rcases h3.2 with h | ⟨g, cap, cur, q1, q2, q3⟩
          · exact .inl h
          · exact .inr ⟨g, cap, cur, q1, Nat.le_trans HF.out.2.size q2, q3⟩⟩
        have HS := Lib.hid (same_own o1 o2 (by simp; omega))
        clear HF h2 h3 h4 o1 o2
        go_wp2_with fail
        refine HS.out.mono ?_
        rintro e w4 ⟨rfl, m, rfl⟩
        have b4 : Below w.heap.size w (w3.drewN m) := b3.trans (below_drewN' _ _ _)
        generalize w3.drewN m = w4 at *
        go_wp2_with fail
        go_ret
        exact ⟨rfl, b4⟩
      · cases h1
    · have b2 : Below w.heap.size w w2 := b1.trans (h4.mono b1.size)
      clear h4 h1 HC
      go_wp2_with fail
      go_ret
      exact ⟨rfl, b2⟩
  · clear hb hG hc hm hA
    have hl2 : ¬ ((b.length : Nat) : Int) ≤ 2000 := by omega
    generalize b.length = n at *
    go_enter Tryd.func7, Tryd.ntmps7
    go_wp2_with fail
    refine HAW.out.mono ?_
    rintro e w1 ⟨rfl, b1⟩
    go_wp2_with fail
    go_ret
    exact ⟨rfl, b1⟩
end Hd
end Go.Proofs.YtliaciojlcajdaaDoor
