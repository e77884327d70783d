/- The walk of MboxLines. Conditions: as stated at each. -/
import Derived.Test.YtamekflgidfnfaaDoorMbLaws
namespace Go.Proofs.YtamekflgidfnfaaDoor
set_option maxRecDepth 100000
namespace Mb
open Go.RowKit Go Go.Proofs.YtamekflgidfnfaaDoor.Pa
/-- what would be found does not stand there. -/
theorem lines_no (b : L) (i : Nat) : (((10 :: quoteS b).drop i).take 6 == [10, 70, 114, 111, 109, 32]) = false := by
  rw [beq_eq_false_iff_ne]
  intro e
  have h1 : 10 :: quoteS b = (10 :: quoteS b).take i ++ (10 :: quoteS b).drop i := (List.take_append_drop i _).symm
  have h2 : (10 :: quoteS b).drop i = [10, 70, 114, 111, 109, 32] ++ ((10 :: quoteS b).drop i).drop 6 := by
    rw [← e, List.take_append_drop]
  have h3 : 10 :: quoteS b = (10 :: quoteS b).take i ++ 10 :: (mkL ++ ((10 :: quoteS b).drop i).drop 6) := by
    conv => lhs; rw [h1, h2]
    rfl
  have := quote_no b _ _ h3
  have hm : mark (mkL ++ ((10 :: quoteS b).drop i).drop 6) = true := (mark_iff _).2 ⟨_, rfl⟩
  rw [hm] at this
  cases this
set_option maxHeartbeats 1600000 in
theorem llines_any {w : World} {A : Option Addr} {l : L} (h : Bts w w.heap.size A l) (c : Nat) (hc : l.length ≤ c) (hm : c ≤ maxLen) (hA : A = none → c = 0) (hT : GlT w) :
    Calls Tryd.prog 6 #[.slice A l.length c] w fun e w' => e = .returned (.bool true) ∧ Below w.heap.size w w' := by
  have HAW := Lib.hid (awake_any w hT)
  have H8 : Hid (∀ X, Below w.heap.size w X → l.length ≤ 2000 → Calls Tryd.prog 11 #[.slice A l.length c] X (OutP X (quoteS l))) := Lib.hid fun X hX hl => quote_any ((h.below hX).more hX.size) c hc hm hA (by omega)
  have hql := quote_len l
  have HNO := Lib.hid (lines_no l)
  clear h hT hm hA
  generalize l.length = n at *
  go_enter Tryd.func6, Tryd.ntmps6
  go_wp2_with fail
  refine HAW.out.mono ?_
  rintro e w1 ⟨rfl, b1⟩
  have B1 := Lib.hid b1
  clear b1 HAW
  by_cases hl : n ≤ 2000
  · have hl2 : ¬ (2000 : Int) < (n : Int) := by omega
    have hs1 := B1.out.size
    have HB2 := Lib.hid (B1.out.alloc hs1 (.cells #[.int .u8 10] 5))
    have HO2 : Hid (Own5 (w1.alloc (.cells #[.int .u8 10] 5)) w.heap.size (.slice (some ⟨w1.heap.size, 0, none⟩) 1 1) [10]) := Lib.hid (own_more (Own5.new w1 [10] #[.int .u8 10] rfl (by unfold maxLen; simp)) hs1)
    have HQ := Lib.hid (H8.out _ HB2.out hl)
    clear H8
    go_wp2_with fail
    generalize w1.alloc (.cells #[.int .u8 10] 5) = w2 at *
    refine HQ.out.mono ?_
    rintro e w3 ⟨v3, rfl, ho3, hb3⟩
    obtain ⟨A3, c3, rfl, _, _⟩ := own_slice ho3
    have HO3 := Lib.hid (own_kept HO2.out hb3 (Nat.le_refl _))
    have HB3 := Lib.hid (HB2.out.trans (hb3.mono HB2.out.size))
    have HT3 := Lib.hid (Own5.bts ho3)
    have hN3 := HB3.out.size
    clear HQ HO2 ho3 hb3
    generalize quoteS l = qs at *
    generalize hqn : qs.length = qn at *
    have HQN := Lib.hid hqn
    clear hqn
    obtain ⟨q6, hq6⟩ : ∃ q6, q6 = qn + 1 := ⟨_, rfl⟩
    have HE6 : Hid (([10] ++ qs : L).length = q6) := Lib.hid (by rw [hq6, List.length_append, HQN.out]; simp; omega)
    have hle6 : q6 ≤ 5000 := by omega
    clear hq6
    go_wp2_with (first
      | (refine app5 (.tmp 10) (.tmp 12) rfl rfl w.heap.size _ [10] qs rfl HO3.out w3.heap.size A3 c3 (by rw [HQN.out]; rfl) HT3.out (by rw [HQN.out]; simp; omega) hN3 ?_; intro v6 w6 h1 h2; have h1' : Own5 w6 w.heap.size v6 ([10] ++ qs) := h1; obtain ⟨A6, c6, hv6, hc6, hm6⟩ := own_slice h1'; rw [HE6.out] at hv6 hc6; have HO6 := Lib.hid h1'; have HB6 := Lib.hid (HB3.out.grown h2 hN3 (own5_low HO3.out)); clear h1 h1' h2)
      | fail)
    subst hv6
    have HX6 : Hid ((10 :: qs : L).length = q6) := HE6
    have HO6' : Hid (Own5 w6 w.heap.size (.slice A6 q6 c6) (10 :: qs)) := HO6
    have hb6 := Own5.bts HO6'.out
    obtain ⟨g, o, rfl, hg, _⟩ := bts_at_ hb6 (by simp)
    have HBT := Lib.hid hb6
    clear hb6
    unfold maxLen at hm6
    go_wp2_with fail
    go_loopw [4] (fun i wr => ∃ k : Nat, i = .int .i64 k ∧ k ≤ q6 + 2 ∧ w6 = wr) (fun i _ => q6 + 3 - (intOf i).toNat)
    case atStart => exact ⟨0, rfl, by omega, rfl⟩
    case round =>
      obtain ⟨k, rfl, hk, rfl⟩ := hrel
      have hw : IntKind.i64.wrap ((k : Int) + 6) = (k : Int) + 6 := IntWalk.i64_in _ (by omega)
      by_cases h6 : k + 6 ≤ q6
      · have z1 : (k : Int) + 6 ≤ (q6 : Int) := by omega
        have z2 : (k : Int) + 6 ≤ (c6 : Int) := by omega
        have hca : ¬ c6 = k := by omega
        have hno := HNO.out k
        have hl6 : (((10 :: qs : L).drop k).take 6).length = 6 := by rw [List.length_take, List.length_drop, HX6.out]; omega
        have hst : (convert 22 9 (.slice (some ⟨g, o + k, none⟩) 6 (c6 - k))).run Tryd.prog w6 = .ok (.string (str (((10 :: qs : L).drop k).take 6))) w6 := by
          have hb : Bts w6 w6.heap.size (some ⟨g, o + k, none⟩) (((10 :: qs : L).drop k).take 6) := by
            have := (HBT.out.drop_eq k).take 6
            rwa [add_at] at this
          have := conv_str hb (c6 - k)
          rwa [hl6] at this
        have hse : ((str (((10 :: qs : L).drop k).take 6)).toList == [10, 70, 114, 111, 109, 32]) = false := by
          rw [Go.Lib.toList_data]
          exact hno
        clear hno
        generalize str (((10 :: qs : L).drop k).take 6) = sx at *
        go_wp2_with fail
        go_roundw
        case rel => exact ⟨k + 1, by go_num, by omega, trivial⟩
        case measure => simp [intOf]; omega
      · have z1 : ¬ (k : Int) + 6 ≤ (q6 : Int) := by omega
        go_wp2_with fail
        go_ret
        exact ⟨rfl, HB6.out⟩
  · have hl2 : (2000 : Int) < (n : Int) := by omega
    go_wp2_with fail
    go_ret
    exact ⟨rfl, B1.out⟩
end Mb
end Go.Proofs.YtamekflgidfnfaaDoor
