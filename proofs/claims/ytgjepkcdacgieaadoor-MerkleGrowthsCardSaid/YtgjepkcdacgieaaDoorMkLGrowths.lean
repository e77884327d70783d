/- The walk of MerkleGrowths. Conditions: as stated. -/
import Derived.Test.YtgjepkcdacgieaaDoorMkSame
namespace Go.Proofs.YtgjepkcdacgieaaDoor
open Go.RowKit Go
set_option maxRecDepth 100000 in
set_option maxHeartbeats 1600000 in
theorem growths_any (A : Option Addr) (n c : Nat) (z : Int) (L : List (List UInt8)) (w : World) (h : Hs w w.heap.size A L) (hn : L.length = n) (hl : n ≤ c) (hc : c ≤ maxLen) (hg : Glob w) :
    Calls Tryd.prog 6 #[.slice A n c, .int .i64 z] w fun e w' => e = .returned (.bool true) ∧ Below w.heap.size w w' := by
  have GS := Lib.hid hg.size
  have HAW := Lib.hid (awake_any w hg)
  by_cases h20 : n ≤ 20
  · have HG : Hid (∀ W, Below w.heap.size w W → Glob W) := Lib.hid fun W hb => hg.below hb GS.out
    by_cases hz : 1 ≤ z ∧ z ≤ (n : Int)
    · obtain ⟨i, rfl⟩ : ∃ i : Nat, z = (i : Int) := ⟨z.toNat, by omega⟩
      have hi : 1 ≤ i ∧ i ≤ n := by omega
      have HP : Hid (∀ W, Below w.heap.size w W → Calls Tryd.prog 23 #[.slice A n c, .int .i64 i] W fun e w' => ∃ v, e = .returned (.tuple #[v, .int .i64 0]) ∧ OwnH w' W.heap.size v (subS L i true) ∧ Below W.heap.size W w') := Lib.hid fun W hb =>
        growth_yes A n c i L W hn (by omega) (by omega) (by omega) hl hc ((h.below hb).more hb.size) (HG.out W hb)
      have HR : Hid (∀ W, Below w.heap.size w W → Calls Tryd.prog 24 #[.slice A n c, .int .i64 i] W fun e w' => ∃ v, e = .returned (.tuple #[v, .int .i64 0]) ∧ OwnH w' W.heap.size v (subS L i true) ∧ Below W.heap.size W w') := Lib.hid fun W hb =>
        rgrowth_yes A n c i L W hn (by omega) (by omega) (by omega) hl hc ((h.below hb).more hb.size)
      have hlen := (subS_sms n L i true (by omega) (by omega) (by omega) h.1).2
      generalize subS L i true = Y at *
      obtain ⟨m, hm⟩ : ∃ m, Y.length = m := ⟨_, rfl⟩
      have HM := Lib.hid hm
      have hm9 : m ≤ 100000 := by omega
      clear hlen hm hn h hg hl hc hz hi
      go_enter Tryd.func6, Tryd.ntmps6
      go_wp2_with (first
        | (go_at_call 10; refine HAW.out.mono ?_; rintro e w2 ⟨rfl, hb2⟩; have HB2 := Lib.hid hb2; clear hb2)
        | (go_at_call 11; refine (few_yes _ _ _ _ h20).mono ?_; rintro e w3 ⟨rfl, rfl⟩)
        | (go_at_call 23; refine (HP.out _ HB2.out).mono ?_; rintro e w4 ⟨v4, rfl, ho4, hb4⟩; have HB4 : Hid (Below w.heap.size w w4) := Lib.hid (HB2.out.trans (hb4.mono HB2.out.size)); have HO4 := Lib.hid ho4; clear hb4 ho4)
        | (go_at_call 24; refine (HR.out _ HB4.out).mono ?_; rintro e w5 ⟨v5, rfl, ho5, hb5⟩; have HB5 : Hid (Below w.heap.size w w5) := Lib.hid (HB4.out.trans (hb5.mono HB4.out.size)); obtain ⟨A4, c4, rfl, _, _⟩ := HO4.out.slice; obtain ⟨A5, c5, rfl, _, _⟩ := ho5.slice; have hs4 := (HO4.out.hs.below hb5).more hb5.size; have hs5 := ho5.hs; have HSM := Lib.hid (same_yes A4 A5 m c4 c5 Y w5 HM.out hm9 hs4 hs5); clear hb5 ho5 hs4 hs5; rw [HM.out])
        | (go_at_call 20; refine HSM.out.mono ?_; rintro e w6 ⟨rfl, hb6⟩; have HB6 : Hid (Below w.heap.size w w6) := Lib.hid (HB5.out.trans (hb6.mono HB5.out.size)); clear hb6)
        | fail)
      go_ret
      exact ⟨rfl, HB6.out⟩
    · have hz' : z < 1 ∨ (n : Int) < z := by omega
      clear hz h hn hg hl hc
      go_enter Tryd.func6, Tryd.ntmps6
      go_wp2_with (first
        | (go_at_call 10; refine HAW.out.mono ?_; rintro e w2 ⟨rfl, hb2⟩; have HB2 := Lib.hid hb2; clear hb2)
        | (go_at_call 11; refine (few_yes _ _ _ _ h20).mono ?_; rintro e w3 ⟨rfl, rfl⟩)
        | (go_at_call 23; refine (growth_no _ _ _ _ _ hz').mono ?_; rintro e w4 ⟨rfl, rfl⟩)
        | (go_at_call 24; refine (rgrowth_no _ _ _ _ _ hz').mono ?_; rintro e w5 ⟨rfl, rfl⟩; have HSM := Lib.hid (same_yes none none 0 0 0 [] w2 rfl (by omega) (Hs.nil _) (Hs.nil _)))
        | (go_at_call 20; refine HSM.out.mono ?_; rintro e w6 ⟨rfl, hb6⟩; have HB6 : Hid (Below w.heap.size w w6) := Lib.hid (HB2.out.trans (hb6.mono HB2.out.size)); clear hb6)
        | fail)
      go_ret
      exact ⟨rfl, HB6.out⟩
  · clear h hn hg hl hc
    go_enter Tryd.func6, Tryd.ntmps6
    go_wp2_with (first
      | (go_at_call 10; refine HAW.out.mono ?_; rintro e w2 ⟨rfl, hb2⟩; have HB2 := Lib.hid hb2; clear hb2)
      | (go_at_call 11; refine (few_no _ _ _ _ h20).mono ?_; rintro e w3 ⟨rfl, rfl⟩)
      | fail)
    go_ret
    exact ⟨rfl, HB2.out⟩
end Go.Proofs.YtgjepkcdacgieaaDoor
