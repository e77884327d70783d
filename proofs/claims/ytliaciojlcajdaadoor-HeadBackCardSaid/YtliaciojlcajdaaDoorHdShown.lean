/- head.shown. Conditions: as stated at each. -/
import Derived.Test.YtliaciojlcajdaaDoorHdStr
import Derived.Test.YtliaciojlcajdaaDoorHdGet
namespace Go.Proofs.YtliaciojlcajdaaDoor
set_option maxRecDepth 100000
namespace Hd
open Go.RowKit Go Go.Proofs.YtliaciojlcajdaaDoor.Pa
theorem getD_in {fs : List F} {k : Nat} (h : k < fs.length) : fs.getD k ([], []) ∈ fs := by simp [List.getD, h]
theorem sizeL_le {fs : List F} (h : ∀ f ∈ fs, small f) : ∀ k, sizeL (fs.take k) ≤ 504 * k := by
  intro k
  induction k with
  | zero => simp [sizeL]
  | succ k ih =>
    rcases Nat.lt_or_ge k fs.length with hk | hk
    · rw [sizeL_take hk]
      have := h _ (getD_in hk)
      unfold small at this
      omega
    · rw [List.take_of_length_le (by omega)] at ih ⊢
      omega
def ShownP (w : World) (fs : List F) (n : Nat) (e : Ending) (w' : World) : Prop :=
  Below w.heap.size w w' ∧ ((∃ v, e = .returned v ∧ n ≤ 20 ∧ (∀ f ∈ fs, okF f = true) ∧ Own5 w' w.heap.size v (shownL fs ++ [13, 10])) ∨ (e = bad 80 ∧ ∃ f ∈ fs, okF f = false) ∨ (e = bad 2 ∧ n = 1001 ∧ ∀ f ∈ fs, okF f = true))
set_option maxHeartbeats 3200000 in
theorem shown_any {w : World} {A : Option Addr} {fs : List F} (h : Prs w w.heap.size A (fv fs)) (n c : Nat) (hn : fs.length = n) (hl : n ≤ 20 ∨ n = 1001) (hsm : ∀ f ∈ fs, small f) :
    Calls Tryd.prog 30 #[.slice A n c] w (ShownP w fs n) := by
  have HEL := Lib.hid (els_of h hn)
  have HNA : Hid (∀ k, k < n → ∀ X, Calls Tryd.prog 18 #[.string (str (fs.getD k ([], [])).1)] X fun e w' => e = .returned (.bool (nameS (fs.getD k ([], [])).1)) ∧ X = w') := Lib.hid fun k hk X => by
    have := (hsm _ (getD_in (fs := fs) (k := k) (by omega))).1
    exact name_any _ X (by omega)
  have HPL : Hid (∀ k, k < n → ∀ X, Calls Tryd.prog 43 #[.string (str (fs.getD k ([], [])).2)] X (PlP X (plainS (fs.getD k ([], [])).2))) := Lib.hid fun k hk X => by
    have := (hsm _ (getD_in (fs := fs) (k := k) (by omega))).2
    exact plain_any _ X (by omega)
  have HMEM : Hid (∀ k, k < n → fs.getD k ([], []) ∈ fs) := Lib.hid fun k hk => getD_in (by omega)
  have HALL : Hid ((∀ j, j < n → okF (fs.getD j ([], [])) = true) → ∀ f ∈ fs, okF f = true) := Lib.hid fun hk f hf => by
    obtain ⟨i, hi, rfl⟩ := List.mem_iff_getElem.1 hf
    have := hk i (by omega)
    simpa [List.getD, hi] using this
  have HSZ : Hid (∀ k, k < n → sizeL (fs.take (k + 1)) = sizeL (fs.take k) + ((fs.getD k ([], [])).1.length + 2 + (fs.getD k ([], [])).2.length + 2)) := Lib.hid fun k hk => sizeL_take (by omega)
  have HSL := Lib.hid (sizeL_le hsm)
  have HSH : Hid (∀ k, k < n → shownL (fs.take (k + 1)) = shownL (fs.take k) ++ lineL (fs.getD k ([], []))) := Lib.hid fun k hk => shownL_take (by omega)
  have HLE : Hid (∀ k, (shownL (fs.take k)).length ≤ 504 * k) := Lib.hid fun k => by rw [shownL_len]; exact sizeL_le hsm k
  have HEND : Hid (shownL (fs.take n) = shownL fs) := Lib.hid (by rw [List.take_of_length_le (by omega)])
  have hz0 : sizeL (fs.take 0) = 0 := rfl
  have hl1 : n ≤ 1001 := by omega
  clear h hn
  go_enter Tryd.func30, Tryd.ntmps30
  go_upto_block 0 with fail
  go_cut [3] from 4 to 37 (fun x3 wd => ∃ m : Nat, x3 = .int .i64 (2 + m : Nat) ∧ m ≤ 504 * n ∧ (∀ j, j < n → okF (fs.getD j ([], [])) = true) ∧ Below w.heap.size w wd)
  case first =>
    go_wp2_with fail
    go_loopw [3, 5, 11] (fun x3 _ i wr => ∃ k : Nat, k ≤ n ∧ i = .int .i64 k ∧ x3 = .int .i64 (2 + sizeL (fs.take k) : Nat) ∧ (∀ j, j < k → okF (fs.getD j ([], [])) = true) ∧ Below w.heap.size w wr) (fun _ _ i _ => n - (intOf i).toNat)
    case atStart => exact ⟨0, Nat.zero_le _, rfl, by rw [hz0]; rfl, fun j hj => absurd hj (Nat.not_lt_zero _), Below.refl _ _⟩
    case round =>
      obtain ⟨k, hk, rfl, rfl, hok, hbel⟩ := hrel
      by_cases hlt : k < n
      · obtain ⟨g, o, rfl, hall⟩ := HEL.out k hlt
        obtain ⟨y0, y1⟩ := hall wr hbel
        have HN := Lib.hid (HNA.out k hlt)
        have HP := Lib.hid (HPL.out k hlt)
        have HSK := Lib.hid (HSZ.out k hlt)
        have HBAD : Hid (okF (fs.getD k ([], [])) = false → ∃ f ∈ fs, okF f = false) := Lib.hid fun e => ⟨_, HMEM.out k hlt, e⟩
        have hss := HSL.out k
        obtain ⟨hs0, hs1⟩ := hsm _ (HMEM.out k hlt)
        have hz1 := str_size (fs.getD k ([], [])).1
        have hz2 := str_size (fs.getD k ([], [])).2
        have HSS : Hid (2 + sizeL (fs.take (k + 1)) = 2 + sizeL (fs.take k) + ((str (fs.getD k ([], [])).1).size + 2 + (str (fs.getD k ([], [])).2).size + 2)) := Lib.hid (by rw [HSK.out, hz1, hz2]; omega)
        have hb0 : (str (fs.getD k ([], [])).1).size ≤ 200 := by omega
        have hb1 : (str (fs.getD k ([], [])).2).size ≤ 300 := by omega
        have HK : Hid (∀ X, Below wr.heap.size wr X → Below w.heap.size w X) := Lib.hid fun X hX => hbel.trans (hX.mono hbel.size)
        have HOKJ := Lib.hid hok
        have hss2 : 2 + sizeL (fs.take k) ≤ 600000 := by omega
        clear hall hbel hok hz1 hz2 hs0 hs1 hss HSK
        obtain ⟨nb, hnb⟩ : ∃ x, x = nameS (fs.getD k ([], [])).1 := ⟨_, rfl⟩
        obtain ⟨pb, hpb⟩ : ∃ x, x = plainS (fs.getD k ([], [])).2 := ⟨_, rfl⟩
        have HOK : Hid (okF (fs.getD k ([], [])) = (nb && pb)) := Lib.hid (by unfold okF; rw [hnb, hpb])
        rw [← hnb] at HN
        rw [← hpb] at HP
        clear hnb hpb
        generalize str (fs.getD k ([], [])).1 = s0 at *
        generalize str (fs.getD k ([], [])).2 = s1 at *
        generalize hmm : 2 + sizeL (fs.take k) = m at *
        have HMM := Lib.hid hmm
        clear hmm
        go_wp2_with fail
        have hq := BlkIs.new wr 47 #[.string s0, .string s1]
        have ha : Below wr.heap.size wr (wr.alloc (.cells #[.string s0, .string s1] 47)) := belowA wr _
        generalize wr.alloc (.cells #[.string s0, .string s1] 47) = w1 at *
        refine (HN.out w1).mono ?_
        rintro e w1' ⟨rfl, rfl⟩
        cases nb with
        | false =>
          have HB := Lib.hid (HBAD.out (by rw [HOK.out]; rfl))
          have HF := Lib.hid (HK.out _ ha)
          clear ha
          go_wp2_with (first
            | (go_at_call 42; refine (Fa.nd_f (by first | rfl | (simp; done) | (simp; omega) | decide) _ _).mono ?_; rintro e w' ⟨rfl, rfl⟩)
            | fail)
          exact ⟨rfl, HF.out, .inr (.inl ⟨rfl, HB.out⟩)⟩
        | true =>
          have z1 := (BlkIs.cell hq 1).trans (rfl : _ = some (Value.string s1))
          have HQ := Lib.hid (And.intro ha hq)
          clear ha hq
          go_wp2_with fail
          refine (HP.out w1).mono ?_
          rintro e w2 ⟨rfl, hb2⟩
          have hq2 : BlkIs w2 wr.heap.size 47 #[.string s0, .string s1] := (hb2.block _ HQ.out.2.lt).trans HQ.out.2
          have hB2 := HK.out _ (HQ.out.1.trans (hb2.mono HQ.out.1.size))
          have z0 := (BlkIs.cell hq2 0).trans (rfl : _ = some (Value.string s0))
          have z1 := (BlkIs.cell hq2 1).trans (rfl : _ = some (Value.string s1))
          clear hb2 hq2
          cases pb with
          | false =>
            have HB := Lib.hid (HBAD.out (by rw [HOK.out]; rfl))
            have HF := Lib.hid hB2
            clear hB2
            go_wp2_with (first
              | (go_at_call 42; refine (Fa.nd_f (by first | rfl | (simp; done) | (simp; omega) | decide) _ _).mono ?_; rintro e w' ⟨rfl, rfl⟩)
              | fail)
            exact ⟨rfl, HF.out, .inr (.inl ⟨rfl, HB.out⟩)⟩
          | true =>
            have HF := Lib.hid hB2
            clear hB2
            go_wp2_with (first
              | (go_at_call 42; refine (Fa.nd_t (by first | rfl | (simp; done) | (simp; omega) | decide) _ _).mono ?_; rintro e w' ⟨rfl, rfl⟩)
              | fail)
            go_roundw
            case rel =>
              refine ⟨k + 1, by omega, by go_num, ?_, fun j hj => ?_, HF.out⟩
              · rw [HSS.out]
                go_num
              · rcases Nat.lt_or_ge j k with h | h
                · exact HOKJ.out j h
                · obtain rfl : j = k := by omega
                  rw [HOK.out]
                  rfl
            case measure => simp [intOf]; omega
      · have hkn : k = n := by omega
        subst hkn
        have HF := Lib.hid (And.intro hok (And.intro hbel (HSL.out k)))
        clear hok hbel
        go_wp2_with fail
        go_meet
        exact ⟨_, rfl, HF.out.2.2, HF.out.1, HF.out.2.1⟩
  case rest =>
    obtain ⟨m, rfl, hm, hok, hbel⟩ := hcut
    have HOK := Lib.hid (HALL.out hok)
    rcases hl with hn20 | hn1001
    · have HBO := Lib.hid (bound_ok (n : Int) ((2 + m : Nat) : Int) wc (by omega) (by omega))
      have hm2 : 2 + m ≤ 100000 := by omega
      clear hok hm hz0
      generalize 2 + m = sz at *
      obtain ⟨i, hi, hz, h0, h1⟩ := info_parts info5
      obtain ⟨w1, hmk, hown, hgr⟩ := run_makeSlice_owned (P := Tryd.prog) wc w.heap.size 22 5 i _ 1 Tryd.underlying22 hi hz h0 .i64 .i64 sz (by omega) (by rw [h1]; omega) (by unfold maxLen; omega) hbel.size
      clear hi hz h0 h1
      have hsz1 : w.heap.size ≤ wc.heap.size := hbel.size
      have HO1 : Hid (Own5 w1 w.heap.size (.slice (some ⟨wc.heap.size, 0, none⟩) 0 sz) (shownL (fs.take 0))) := Lib.hid (by unfold Own5; exact hown)
      have HB1 : Hid (Below w.heap.size w w1) := Lib.hid (hbel.grown hgr hsz1 (fun b hb => by cases hb))
      clear hown hgr hbel
      go_wp2_with (first
        | (go_at_call 40; refine HBO.out.mono ?_; rintro e w' ⟨rfl, rfl⟩)
        | fail)
      go_loopw [6, 8, 44] (fun x6 _ i wr => ∃ k : Nat, k ≤ n ∧ i = .int .i64 k ∧ Own5 wr w.heap.size x6 (shownL (fs.take k)) ∧ Below w.heap.size w wr) (fun _ _ i _ => n - (intOf i).toNat)
      case atStart => exact ⟨0, Nat.zero_le _, rfl, HO1.out, HB1.out⟩
      case round =>
        obtain ⟨k, hk, rfl, hown, hbel⟩ := hrel
        obtain ⟨A6, c6, rfl, hc6, hm6⟩ := own5_len hown
        by_cases hlt : k < n
        · obtain ⟨g, o, rfl, hall⟩ := HEL.out k hlt
          obtain ⟨y0, y1⟩ := hall _ hbel
          have hss := HLE.out k
          obtain ⟨hs0, hs1⟩ := hsm _ (HMEM.out k hlt)
          have hz1 := str_size (fs.getD k ([], [])).1
          have hz2 := str_size (fs.getD k ([], [])).2
          have hb0 : (str (fs.getD k ([], [])).1).size ≤ 200 := by omega
          have hb1 : (str (fs.getD k ([], [])).2).size ≤ 300 := by omega
          have hll := lineL_len (fs.getD k ([], []))
          have hO1 : Own5 (wr.alloc (.cells #[.string (str (fs.getD k ([], [])).1), .string (str (fs.getD k ([], [])).2)] 47)) w.heap.size (.slice A6 (shownL (fs.take k)).length c6) (shownL (fs.take k)) := own_kept2 hown (belowA wr _) (Nat.le_refl _)
          have HO1 := Lib.hid hO1
          have hbA := hbel.trans ((belowA wr (.cells #[.string (str (fs.getD k ([], [])).1), .string (str (fs.getD k ([], [])).2)] 47)).mono hbel.size)
          have HBA := Lib.hid hbA
          have hNA := hbA.size
          have HST := Lib.hid (str_line (fs.getD k ([], [])))
          have h63 : (shownL (fs.take k)).length + (lineL (fs.getD k ([], []))).length ≤ 1000000000 := by omega
          have HSK := Lib.hid (HSH.out k hlt)
          have hlow := fun b hb => (hO1.lt b hb).1
          clear hall hown hbel hz1 hz2 hs0 hs1 hss hll hbA hO1
          generalize lineL (fs.getD k ([], [])) = ln at *
          generalize str (fs.getD k ([], [])).1 = s0 at *
          generalize str (fs.getD k ([], [])).2 = s1 at *
          generalize shownL (fs.take k) = sh at *
          go_wp2_with (first
            | (refine lapp5s (.tmp 48) (.tmp 55) rfl rfl rfl HO1.out rfl HST.out h63 hNA ?_; intro v6 w6 ho6 hg6)
            | fail)
          have HF : Hid (Own5 w6 w.heap.size v6 (shownL (fs.take (k + 1))) ∧ Below w.heap.size w w6) := Lib.hid ⟨by rw [HSK.out]; exact ho6, HBA.out.grown hg6 hNA hlow⟩
          go_roundw
          case rel => exact ⟨k + 1, by omega, by go_num, HF.out⟩
          case measure => simp [intOf]; omega
        · have hkn : k = n := by omega
          subst hkn
          rw [HEND.out] at hown
          have hss := HLE.out k
          rw [HEND.out] at hss
          have hN := hbel.size
          have HO := Lib.hid hown
          have HB := Lib.hid hbel
          have h63 : (shownL fs).length + [(13 : UInt8), 10].length ≤ 1000000000 := by simp; omega
          have hst : (⟨#[13, 10]⟩ : ByteArray) = str [13, 10] := rfl
          have HST := Lib.hid hst
          have HLW := Lib.hid fun b hb => (hown.lt b hb).1
          rw [HEND.out]
          clear hown hbel hss hst
          go_wp2_with (first
            | (refine lapp5s (.tmp 58) (.const (.string ⟨#[13, 10]⟩)) rfl rfl rfl HO.out rfl HST.out h63 hN ?_; intro v6 w6 ho6 hg6)
            | fail)
          go_ret
          exact ⟨HB.out.grown hg6 hN HLW.out, .inl ⟨_, rfl, hn20, HOK.out, ho6⟩⟩
    · have HBO := Lib.hid (bound_bad (n : Int) ((2 + m : Nat) : Int) wc (by omega))
      have HB := Lib.hid hbel
      have HN1 := Lib.hid hn1001
      clear hok hbel hm hn1001
      generalize 2 + m = sz at *
      go_wp2_with fail
      refine HBO.out.mono ?_
      rintro e w' ⟨rfl, rfl⟩
      unfold bad
      exact ⟨rfl, HB.out, .inr (.inr ⟨rfl, HN1.out, HOK.out⟩)⟩
end Hd
end Go.Proofs.YtliaciojlcajdaaDoor
