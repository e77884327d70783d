/- HeadBack: the walk of the law. Conditions: as stated at each. -/
import Derived.Test.YtliaciojlcajdaaDoorHdBack
import Derived.Test.YtliaciojlcajdaaDoorHdRShow
import Derived.Test.YtliaciojlcajdaaDoorHdLParse
namespace Go.Proofs.YtliaciojlcajdaaDoor
set_option maxRecDepth 100000
namespace Hd
open Go.RowKit Go Go.Proofs.YtliaciojlcajdaaDoor.Pa
theorem own5_nil {w : World} {N n c : Nat} {A : Option Addr} {l : List UInt8} (h : Own5 w N (.slice A n c) l) : A = none → c = 0 := by
  intro e
  subst e
  rcases h.2 with ⟨h0, _⟩ | ⟨g, cap, cur, h0, _⟩
  · injection h0
  · injection h0 with h1 _ _
    cases h1
set_option maxHeartbeats 3200000 in
theorem back_any {w : World} {A B : Option Addr} {fs : List F} {more : List UInt8} (hb : Prs w w.heap.size A (fv fs)) (c : Nat) (hm : Bts w w.heap.size B more) (d : Nat) (hG : Gl w) :
    Calls Tryd.prog 6 #[.slice A fs.length c, .slice B more.length d] w fun e w' => e = .returned (.bool true) ∧ Below w.heap.size w w' := by
  have HAW := Lib.hid (awake8 w hG)
  have HB : Hid (∀ X, Below w.heap.size w X → Prs X X.heap.size A (fv fs)) := Lib.hid fun X hX => (hb.below hX).more hX.size
  have HM : Hid (∀ X, Below w.heap.size w X → Bts X X.heap.size B more) := Lib.hid fun X hX => (hm.below hX).more hX.size
  have HG : Hid (∀ X, Below w.heap.size w X → Gl X) := Lib.hid fun X hX => hG.below hX hG.lt
  obtain ⟨n, hn⟩ : ∃ n, n = fs.length := ⟨_, rfl⟩
  obtain ⟨ml, hml⟩ : ∃ n, n = more.length := ⟨_, rfl⟩
  rw [← hn, ← hml]
  have HFE : Hid (∀ X, Below w.heap.size w X → Calls Tryd.prog 12 #[.slice A n c] X (FewP X fs n)) := Lib.hid fun X hX => few_any (HB.out X hX) n c hn.symm
  have HNT := Lib.hid hn
  have HML := Lib.hid hml
  clear hb hG hn hm hml
  go_enter Tryd.func6, Tryd.ntmps6
  go_wp2_with fail
  refine HAW.out.mono ?_
  rintro e w1 ⟨rfl, b1⟩
  go_wp2_with fail
  refine (HFE.out w1 b1).mono ?_
  rintro e w2 ⟨r, rfl, b2', hr⟩
  have b2 : Below w.heap.size w w2 := b1.trans (b2'.mono b1.size)
  clear b2'
  cases r with
  | false =>
    go_wp2_with fail
    go_ret
    exact ⟨rfl, b2⟩
  | true =>
    obtain ⟨hl, hsm⟩ := hr rfl
    by_cases hmo : ml ≤ 500
    · have hmo2 : (ml : Int) ≤ 500 := by omega
      have HSH : Hid (∀ X, Below w.heap.size w X → Calls Tryd.prog 13 #[.slice A n c] X (ShowP X fs n)) := Lib.hid fun X hX => show_any (HB.out X hX) n c HNT.out.symm hl hsm
      have HSM := Lib.hid hsm
      clear hr hl hsm
      go_wp2_with fail
      refine (HSH.out w2 b2).mono ?_
      rintro e w3 ⟨b3', hc⟩
      have b3 : Below w.heap.size w w3 := b2.trans (b3'.mono b2.size)
      clear b3'
      rcases hc with ⟨v, rfl, h1, h2, h3⟩ | ⟨rfl, _⟩ | ⟨rfl, _, _⟩
      · obtain ⟨A3, c3, rfl, hc3, hm3⟩ := own5_len h3
        have hlen : (shownL fs ++ [13, 10]).length ≤ 10082 := by
          have := sizeL_le HSM.out n
          rw [List.take_of_length_le (by rw [HNT.out]; exact Nat.le_refl _)] at this
          rw [List.length_append, shownL_len]
          simp
          omega
        have HRUN : Hid (Run [] ((shownL fs ++ [13, 10]) ++ more) (some (fs.map spF, more))) := Lib.hid (by
          have := run_shown more fs [] h2
          rw [List.nil_append] at this
          rw [List.append_assoc]
          exact this)
        have HTR := Lib.hid (trim_all h2)
        have HN20 := Lib.hid h1
        have hbs : Bts w3 w3.heap.size A3 (shownL fs ++ [13, 10]) := h3.bts
        have HBS := Lib.hid hbs
        clear h1 h2 h3 hbs hc3 hm3
        obtain ⟨sl, hsl⟩ : ∃ x, x = shownL fs ++ [13, 10] := ⟨_, rfl⟩
        rw [← hsl] at HBS HRUN hlen ⊢
        clear hsl
        obtain ⟨m, hm⟩ : ∃ x, x = sl.length := ⟨_, rfl⟩
        rw [← hm]
        have HMM := Lib.hid hm
        have h63 : ([] : List UInt8).length + m ≤ 1000000000 := by simp; omega
        have h63b : ([] ++ sl).length + ml ≤ 1000000000 := by simp; omega
        have hmi : (m : Int) ≤ 10082 := by omega
        have HNIL : Hid (Own5 w3 w.heap.size (.slice none 0 0) []) := Lib.hid (World.ownsRow_nil _ _ _ _)
        have hz3 : w.heap.size ≤ w3.heap.size := b3.size
        have HB3 := Lib.hid b3
        have HLN := Lib.hid hlen
        have HB7 : Hid (∀ X, Below w.heap.size w X → ∀ v, Own5 X w.heap.size v (sl ++ more) → ∃ A7 l7 c7, v = .slice A7 l7 c7 ∧ Calls Tryd.prog 9 #[.slice A7 l7 c7] X (ParseP X l7 (some (fs.map spF, more))) ∧ l7 = m + ml) := Lib.hid fun X hX v hv => by
          obtain ⟨A7, c7, rfl, hc7, hm7⟩ := own5_len hv
          have hl7 : (sl ++ more).length = m + ml := by rw [List.length_append, HMM.out, HML.out]
          have hfl := HN20.out
          have hnf := HNT.out
          have hmm := HMM.out
          refine ⟨A7, _, c7, rfl, parse_any hv.bts c7 hc7 hm7 (own5_nil hv) (by omega) (HG.out X hX) _ HRUN.out (fun gs r e => ?_) (fun gs r e f hf => ?_), hl7⟩
          · injection e with e
            injection e with e1 e2
            subst e1
            rw [List.length_map]
            omega
          · injection e with e
            injection e with e1 e2
            subst e1
            obtain ⟨g, hg, rfl⟩ := List.mem_map.1 hf
            have := (HSM.out g hg).2
            show (32 :: g.2).length ≤ 1000000
            rw [List.length_cons]
            omega
        clear hm hlen
        go_wp2_with (first
          | (refine lapp5b (.const (.slice none 0 0)) (.tmp 31) rfl rfl rfl HNIL.out rfl HMM.out.symm HBS.out h63 hz3 ?_; intro v6 w6 ho6 hg6; have hb6 := HB3.out.grown hg6 hz3 (fun b hb => by cases hb); have HO6 := Lib.hid ho6; have HB6 := Lib.hid hb6; have hz6 := hb6.size; clear ho6 hg6 hb6)
          | (refine lapp5b (.tmp 32) (.tmp 33) rfl rfl rfl HO6.out rfl HML.out.symm (HM.out w6 HB6.out) h63b hz6 ?_; intro v7 w7 ho7 hg7; have hb7 := HB6.out.grown hg7 hz6 (fun b hb => (HO6.out.lt b hb).1); obtain ⟨A7, l7, c7, rfl, hp7, hl7⟩ := HB7.out w7 hb7 v7 ho7; have HP7 := Lib.hid (And.intro hp7 (And.intro hl7 hb7)); clear ho7 hg7 hb7 hp7 hl7)
          | fail)
        refine HP7.out.1.mono ?_
        rintro e w8 (⟨fs', r', k', v', q1, q2, rfl, q3, q4⟩ | ⟨q1, _⟩)
        · injection q1 with q1
          injection q1 with e1 e2
          subst e1
          obtain rfl : k' = m := by
            have := HP7.out.2.1
            have := HML.out
            rw [← e2] at q2
            omega
          rw [HTR.out] at q3
          have b8 : Below w.heap.size w w8 := HP7.out.2.2.trans (q4.mono HP7.out.2.2.size)
          obtain ⟨A9, c9, rfl, _, _⟩ := own_slice2 q3
          have hfn : (fv fs).length = n := by rw [fv_length, HNT.out]
          have HS := Lib.hid (same_yes (own_prs q3) (HB.out w8 b8) n c9 c HNT.out.symm (by have := HN20.out; omega))
          rw [hfn]
          clear q2 q3 q4 e2 hfn
          go_wp2_with fail
          refine HS.out.mono ?_
          rintro e w9 ⟨rfl, q, rfl⟩
          have b9 : Below w.heap.size w (w8.drewN q) := b8.trans (below_drewN' _ _ _)
          generalize w8.drewN q = w9 at *
          go_wp2_with fail
          go_ret
          exact ⟨rfl, b9⟩
        · cases q1
      · go_wp2_with fail
        go_ret
        exact ⟨rfl, b3⟩
      · go_wp2_with fail
        go_ret
        exact ⟨rfl, b3⟩
    · have hmo2 : ¬ (ml : Int) ≤ 500 := by omega
      have hmo3 : (500 : Int) < ml := by omega
      clear hr hl hsm
      go_wp2_with fail
      go_ret
      exact ⟨rfl, b2⟩
end Hd
end Go.Proofs.YtliaciojlcajdaaDoor
