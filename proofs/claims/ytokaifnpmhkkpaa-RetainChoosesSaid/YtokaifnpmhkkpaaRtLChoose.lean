/- RetainChooses' walk; an envelope as a parameter. Conditions: as stated at each. -/
import Derived.Test.YtokaifnpmhkkpaaRtLaws
import Derived.Test.YtokaifnpmhkkpaaRtRChoose
import Derived.Test.YtokaifnpmhkkpaaRtLChecks
namespace Go.Proofs.Ytokaifnpmhkkpaa
set_option maxRecDepth 100000
namespace Rt
open Go.RowKit Go Go.Proofs.Ytokaifnpmhkkpaa.Pa
set_option maxHeartbeats 1600000 in
theorem lchooses_any {w0 : World} {A A2 : Option Addr} {l : List C} {rs : List R} {v : Value} {e : Env} (h : Prs w0 w0.heap.size A (cvC l)) (c : Nat) (hok : OkC l) (h2 : Prs w0 w0.heap.size A2 (cvR rs)) (c2 : Nat) (hor : OkR rs) (he : EnvAt w0 w0.heap.size v e) (hoe : OkE e) (s : ByteArray) :
    Calls Try.prog 4 #[.slice A l.length c, .slice A2 rs.length c2, v, .string s] w0 fun e w' => e = .returned (.bool true) ∧ Below w0.heap.size w0 w' := by
  obtain ⟨T, tc, rfl, ht⟩ := he
  obtain ⟨fr, to, at'⟩ := e
  dsimp only at ht hoe ⊢
  rw [str_of s]
  have HA := Lib.hid awake_any
  have HF := Lib.hid (fun X => few_any A A2 T l.length c rs.length c2 to.length tc (str fr) at' X)
  have hq1 := BlkIs.new w0 28 #[.string (str fr), .slice T to.length tc, .int .i64 at']
  have hb1 := below_a w0 (.cells #[.string (str fr), .slice T to.length tc, .int .i64 at'] 28)
  by_cases hl : l.length ≤ 101 ∧ rs.length ≤ 101 ∧ to.length ≤ 20
  · have HFI := Lib.hid (fun X (hX : Below w0.heap.size w0 X) => find_any (h.below hX) hX.size l.length c rfl (by omega) hok s.data.toList)
    have HRF := Lib.hid (fun X (hX : Below w0.heap.size w0 X) => rfind_any (h.below hX) hX.size l.length c rfl (by omega) s.data.toList)
    have HC := Lib.hid (fun X (hX : Below w0.heap.size w0 X) => callsIn_wide.1 (choose_in (h.below hX) (h2.below hX) (ht.below hX) hX.size l.length c rs.length c2 to.length tc at' rfl rfl rfl (by omega) (by omega) (by omega) hok hor hoe.1 hoe.2))
    have HR := Lib.hid (fun X (hX : Below w0.heap.size w0 X) => rchoose_any (h.below hX) (h2.below hX) (ht.below hX) hX.size l.length c rs.length c2 to.length tc at' rfl rfl rfl (by omega) (by omega) (by omega) hoe.1 hoe.2)
    unfold FindP at HFI HRF
    unfold ChooseP at HC HR
    rw [decide_eq_true hl] at HF
    generalize str (chooseS l rs fr to) = r at *
    generalize (findS l s.data.toList).isSome = tw at *
    generalize fc l s.data.toList = fcv at *
    generalize str fcv.1 = fs at *
    generalize fcv.2 = fv at *
    clear h h2 ht hok hor hl hoe
    generalize l.length = n at *
    generalize rs.length = n2 at *
    generalize to.length = tn at *
    generalize str fr = sf at *
    generalize str s.data.toList = t at *
    go_enter Try.func4, Try.ntmps4
    go_wp2_with fail
    have hlt := hq1.lt
    generalize w0.alloc (.cells #[.string sf, .slice T tn tc, .int .i64 at'] 28) = w1 at *
    refine (HA.out _).mono ?_
    rintro e w2 ⟨rfl, hb2⟩
    have hq2 : BlkIs w2 w0.heap.size 28 #[.string sf, .slice T tn tc, .int .i64 at'] := (hb2.block _ hlt).trans hq1
    have hb12 := hb1.trans (hb2.mono hb1.size)
    have x0 := (BlkIs.cell hq2 0).trans (rfl : _ = some (Value.string sf))
    have x1 := (BlkIs.cell hq2 1).trans (rfl : _ = some (Value.slice T tn tc))
    have x2 := (BlkIs.cell hq2 2).trans (rfl : _ = some (Value.int .i64 at'))
    clear hq1 hb2 hb1
    go_wp2_with (first
      | (go_at_call 10; refine (HF.out _).mono ?_; rintro e w3 ⟨rfl, hb3⟩; have hb13 := hb12.trans (hb3.mono hb12.size); have hq3 := (hb3.block _ hq2.lt).trans hq2)
      | (go_at_call 13; refine (HFI.out _ hb13).mono ?_; rintro e w4 ⟨rfl, hb4⟩; have hb14 := hb13.trans (hb4.mono hb13.size); have hq4 := (hb4.block _ (BlkIs.lt hq3)).trans hq3; have hb15 := hb14.alloc hb14.size (.cells #[.string fs, .int .i64 fv] 34); have hq5 := BlkIs.alloc hq4 (.cells #[.string fs, .int .i64 fv] 34); have hy5 := BlkIs.new w4 34 #[.string fs, .int .i64 fv])
      | fail)
    refine (HRF.out _ hb15).mono ?_
    rintro e w6 ⟨rfl, hb6⟩
    have hb16 := hb15.trans (hb6.mono hb15.size)
    have hq6 : BlkIs w6 w0.heap.size 28 #[.string sf, .slice T tn tc, .int .i64 at'] := (hb6.block _ (BlkIs.lt hq5)).trans hq5
    have hy6 : BlkIs w6 w4.heap.size 34 #[.string fs, .int .i64 fv] := (hb6.block _ (BlkIs.lt hy5)).trans hy5
    have HX := Lib.hid (And.intro (hb16.alloc hb16.size (.cells #[.string fs, .int .i64 fv] 34)) (And.intro (hq6.alloc (.cells #[.string fs, .int .i64 fv] 34)) (And.intro (hy6.alloc (.cells #[.string fs, .int .i64 fv] 34)) (BlkIs.new w6 34 #[.string fs, .int .i64 fv]))))
    clear hb12 hb13 hb14 hb15 hb16 hb3 hb4 hb6 hq2 hq3 hq4 hq5 hq6 hy5 hy6 x0 x1 x2 HF HFI HRF HA
    go_wp2_with fail
    have hX : Below w0.heap.size w0 (w6.alloc (.cells #[.string fs, .int .i64 fv] 34)).drew ∧ BlkIs (w6.alloc (.cells #[.string fs, .int .i64 fv] 34)).drew w0.heap.size 28 #[.string sf, .slice T tn tc, .int .i64 at'] ∧ BlkIs (w6.alloc (.cells #[.string fs, .int .i64 fv] 34)).drew w4.heap.size 34 #[.string fs, .int .i64 fv] ∧ BlkIs (w6.alloc (.cells #[.string fs, .int .i64 fv] 34)).drew w6.heap.size 34 #[.string fs, .int .i64 fv] := ⟨HX.out.1.drew, HX.out.2.1, HX.out.2.2.1, HX.out.2.2.2⟩
    clear HX
    generalize w6.alloc (.cells #[.string fs, .int .i64 fv] 34) = w7 at *
    generalize w4.heap.size = b4 at *
    generalize w6.heap.size = b6 at *
    refine wp_region_held_drew (S := (fun Y => Below w0.heap.size w0 Y ∧ BlkIs Y w0.heap.size 28 #[.string sf, .slice T tn tc, .int .i64 at'] ∧ BlkIs Y b4 34 #[.string fs, .int .i64 fv] ∧ BlkIs Y b6 34 #[.string fs, .int .i64 fv])) (by kernel_rfl) (hX) (fun hHeld => ?_)
    generalize w7.drew = w8 at *
    refine wpAnyH_take (i := 0) (v := .agg #[.string fs, .int .i64 fv]) rfl (by kernel_rfl) (by kernel_rfl) (by kernel_rfl) (fun _ _ _ h => h) (Or.inl ⟨by rfl, fun w hS => by (have x0 := (BlkIs.cell hS.2.2.1 0).trans (rfl : _ = some (Value.string fs)); have x1 := (BlkIs.cell hS.2.2.1 1).trans (rfl : _ = some (Value.int .i64 fv)); first | (go_simp; done) | (go_simp; with_reducible rfl))⟩) hHeld ?_
    try simp only [Act.put, List.getElem_toArray, List.getElem_cons_zero, List.setIfInBounds_toArray, List.set_cons_zero, List.set_cons_succ]
    refine wpAnyH_take (i := 1) (v := .agg #[.string fs, .int .i64 fv]) rfl (by kernel_rfl) (by kernel_rfl) (by kernel_rfl) (fun _ _ _ h => h) (Or.inl ⟨by rfl, fun w hS => by (have x0 := (BlkIs.cell hS.2.2.2 0).trans (rfl : _ = some (Value.string fs)); have x1 := (BlkIs.cell hS.2.2.2 1).trans (rfl : _ = some (Value.int .i64 fv)); first | (go_simp; done) | (go_simp; with_reducible rfl))⟩) hHeld ?_
    try simp only [Act.put, List.getElem_toArray, List.getElem_cons_zero, List.getElem_cons_succ, List.setIfInBounds_toArray, List.set_cons_zero, List.set_cons_succ]
    refine wpAnyH_take (i := 2) (v := .bool true) rfl (by kernel_rfl) (by kernel_rfl) (by kernel_rfl) (fun _ _ _ h => h) (Or.inl ⟨by rfl, fun w hS => by first | (go_simp; done) | (go_simp; with_reducible rfl)⟩) hHeld ?_
    try simp only [Act.put, List.getElem_toArray, List.getElem_cons_zero, List.getElem_cons_succ, List.setIfInBounds_toArray, List.set_cons_zero, List.set_cons_succ]
    refine wpAnyH_take (i := 3) (v := .bool true) rfl (by kernel_rfl) (by kernel_rfl) (by kernel_rfl) (fun _ _ _ h => h) (Or.inl ⟨by rfl, fun w hS => by first | (go_simp; done) | (go_simp; with_reducible rfl)⟩) hHeld ?_
    try simp only [Act.put, List.getElem_toArray, List.getElem_cons_zero, List.getElem_cons_succ, List.setIfInBounds_toArray, List.set_cons_zero, List.set_cons_succ]
    refine wpAnyH_take (i := 4) (v := .bool tw) rfl (by kernel_rfl) (by kernel_rfl) (by kernel_rfl) (fun _ _ _ h => h) (Or.inl ⟨by rfl, fun w hS => by first | (go_simp; done) | (go_simp; with_reducible rfl)⟩) hHeld ?_
    try simp only [Act.put, List.getElem_toArray, List.getElem_cons_zero, List.getElem_cons_succ, List.setIfInBounds_toArray, List.set_cons_zero, List.set_cons_succ]
    refine wpAnyH_take (i := 5) (v := .bool tw) rfl (by kernel_rfl) (by kernel_rfl) (by kernel_rfl) (fun _ _ _ h => h) (Or.inl ⟨by rfl, fun w hS => by first | (go_simp; done) | (go_simp; with_reducible rfl)⟩) hHeld ?_
    try simp only [Act.put, List.getElem_toArray, List.getElem_cons_zero, List.getElem_cons_succ, List.setIfInBounds_toArray, List.set_cons_zero, List.set_cons_succ]
    refine wpAnyH_take (i := 6) (v := .bool true) rfl (by kernel_rfl) (by kernel_rfl) (by kernel_rfl) (fun _ _ _ h => h) (Or.inl ⟨by rfl, fun w hS => by first | (go_simp; done) | (go_simp; with_reducible rfl)⟩) hHeld ?_
    try simp only [Act.put, List.getElem_toArray, List.getElem_cons_zero, List.getElem_cons_succ, List.setIfInBounds_toArray, List.set_cons_zero, List.set_cons_succ]
    refine wpAnyH_take (i := 7) (v := .bool true) rfl (by kernel_rfl) (by kernel_rfl) (by kernel_rfl) (fun _ _ _ h => h) (Or.inl ⟨by rfl, fun w hS => by first | (go_simp; done) | (go_simp; with_reducible rfl)⟩) hHeld ?_
    try simp only [Act.put, List.getElem_toArray, List.getElem_cons_zero, List.getElem_cons_succ, List.setIfInBounds_toArray, List.set_cons_zero, List.set_cons_succ]
    refine wpAnyH_take (i := 8) (v := .bool true) rfl (by kernel_rfl) (by kernel_rfl) (by kernel_rfl) (fun _ _ _ h => h) (Or.inl ⟨by rfl, fun w hS => by first | (go_simp; done) | (go_simp; with_reducible rfl)⟩) hHeld ?_
    try simp only [Act.put, List.getElem_toArray, List.getElem_cons_zero, List.getElem_cons_succ, List.setIfInBounds_toArray, List.set_cons_zero, List.set_cons_succ]
    refine wpAnyH_take (i := 9) (v := .slice A n c) rfl (by kernel_rfl) (by kernel_rfl) (by kernel_rfl) (fun _ _ _ h => h) (Or.inl ⟨by rfl, fun w hS => by first | (go_simp; done) | (go_simp; with_reducible rfl)⟩) hHeld ?_
    try simp only [Act.put, List.getElem_toArray, List.getElem_cons_zero, List.getElem_cons_succ, List.setIfInBounds_toArray, List.set_cons_zero, List.set_cons_succ]
    refine wpAnyH_take (i := 10) (v := .slice A2 n2 c2) rfl (by kernel_rfl) (by kernel_rfl) (by kernel_rfl) (fun _ _ _ h => h) (Or.inl ⟨by rfl, fun w hS => by first | (go_simp; done) | (go_simp; with_reducible rfl)⟩) hHeld ?_
    try simp only [Act.put, List.getElem_toArray, List.getElem_cons_zero, List.getElem_cons_succ, List.setIfInBounds_toArray, List.set_cons_zero, List.set_cons_succ]
    refine wpAnyH_take (i := 11) (v := .agg #[.string sf, .slice T tn tc, .int .i64 at']) rfl (by kernel_rfl) (by kernel_rfl) (by kernel_rfl) (fun _ _ _ h => h) (Or.inl ⟨by rfl, fun w hS => by (have x0 := (BlkIs.cell hS.2.1 0).trans (rfl : _ = some (Value.string sf)); have x1 := (BlkIs.cell hS.2.1 1).trans (rfl : _ = some (Value.slice T tn tc)); have x2 := (BlkIs.cell hS.2.1 2).trans (rfl : _ = some (Value.int .i64 at')); first | (go_simp; done) | (go_simp; with_reducible rfl))⟩) hHeld ?_
    try simp only [Act.put, List.getElem_toArray, List.getElem_cons_zero, List.getElem_cons_succ, List.setIfInBounds_toArray, List.set_cons_zero, List.set_cons_succ]
    refine wpAnyH_take (i := 13) (v := .slice A n c) rfl (by kernel_rfl) (by kernel_rfl) (by kernel_rfl) (fun _ _ _ h => h) (Or.inl ⟨by rfl, fun w hS => by first | (go_simp; done) | (go_simp; with_reducible rfl)⟩) hHeld ?_
    try simp only [Act.put, List.getElem_toArray, List.getElem_cons_zero, List.getElem_cons_succ, List.setIfInBounds_toArray, List.set_cons_zero, List.set_cons_succ]
    refine wpAnyH_take (i := 14) (v := .slice A2 n2 c2) rfl (by kernel_rfl) (by kernel_rfl) (by kernel_rfl) (fun _ _ _ h => h) (Or.inl ⟨by rfl, fun w hS => by first | (go_simp; done) | (go_simp; with_reducible rfl)⟩) hHeld ?_
    try simp only [Act.put, List.getElem_toArray, List.getElem_cons_zero, List.getElem_cons_succ, List.setIfInBounds_toArray, List.set_cons_zero, List.set_cons_succ]
    refine wpAnyH_take (i := 15) (v := .agg #[.string sf, .slice T tn tc, .int .i64 at']) rfl (by kernel_rfl) (by kernel_rfl) (by kernel_rfl) (fun _ _ _ h => h) (Or.inl ⟨by rfl, fun w hS => by (have x0 := (BlkIs.cell hS.2.1 0).trans (rfl : _ = some (Value.string sf)); have x1 := (BlkIs.cell hS.2.1 1).trans (rfl : _ = some (Value.slice T tn tc)); have x2 := (BlkIs.cell hS.2.1 2).trans (rfl : _ = some (Value.int .i64 at')); first | (go_simp; done) | (go_simp; with_reducible rfl))⟩) hHeld ?_
    try simp only [Act.put, List.getElem_toArray, List.getElem_cons_zero, List.getElem_cons_succ, List.setIfInBounds_toArray, List.set_cons_zero, List.set_cons_succ]
    refine wpAnyH_ready (rs := [12]) (by kernel_rfl) (by simp) ?_
    refine AllReadyH.cons rfl (fun K hK => ?_) AllReadyH.nil
    go_simp
    go_wp2_with ((first | (refine (HC.out _ hX.1).mono ?_; rintro e w9 ⟨rfl, hb9⟩; have hX9 := And.intro (hX.1.trans (hb9.mono hX.1.size)) (And.intro ((hb9.block _ hX.2.1.lt).trans hX.2.1) (And.intro ((hb9.block _ hX.2.2.1.lt).trans hX.2.2.1) ((hb9.block _ hX.2.2.2.lt).trans hX.2.2.2)))) | fail))
    refine hK.out _ _ ?_ (fun hHeld => ?_)
    · exact hX9
    clear hK K
    try simp only [Act.put, List.getElem_toArray, List.getElem_cons_zero, List.getElem_cons_succ, List.setIfInBounds_toArray, List.set_cons_zero, List.set_cons_succ]
    clear hHeld
    have hHeld : Below w0.heap.size w0 w9 ∧ BlkIs w9 w0.heap.size 28 #[.string sf, .slice T tn tc, .int .i64 at'] ∧ BlkIs w9 b4 34 #[.string fs, .int .i64 fv] ∧ BlkIs w9 b6 34 #[.string fs, .int .i64 fv] := hX9
    refine wpAnyH_ready (rs := [16]) (by kernel_rfl) (by simp) ?_
    refine AllReadyH.cons rfl (fun K hK => ?_) AllReadyH.nil
    go_simp
    go_wp2_with ((first | (refine (HR.out _ hX9.1).mono ?_; rintro e w10 ⟨rfl, hb10⟩; have hX10 := And.intro (hX9.1.trans (hb10.mono hX9.1.size)) (And.intro ((hb10.block _ (BlkIs.lt hX9.2.1)).trans hX9.2.1) (And.intro ((hb10.block _ (BlkIs.lt hX9.2.2.1)).trans hX9.2.2.1) ((hb10.block _ (BlkIs.lt hX9.2.2.2)).trans hX9.2.2.2)))) | fail))
    refine hK.out _ _ ?_ (fun hHeld => ?_)
    · exact hX10
    clear hK K
    try simp only [Act.put, List.getElem_toArray, List.getElem_cons_zero, List.getElem_cons_succ, List.setIfInBounds_toArray, List.set_cons_zero, List.set_cons_succ]
    clear hHeld
    have hHeld : Below w0.heap.size w0 w10 ∧ BlkIs w10 w0.heap.size 28 #[.string sf, .slice T tn tc, .int .i64 at'] ∧ BlkIs w10 b4 34 #[.string fs, .int .i64 fv] ∧ BlkIs w10 b6 34 #[.string fs, .int .i64 fv] := hX10
    refine wpAnyH_take (i := 17) (v := .bool true) rfl (by kernel_rfl) (by kernel_rfl) (by kernel_rfl) (fun _ _ _ h => h) (Or.inl ⟨by rfl, fun w hS => by first | (go_simp; done) | (go_simp; with_reducible rfl)⟩) hHeld ?_
    try simp only [Act.put, List.getElem_toArray, List.getElem_cons_zero, List.getElem_cons_succ, List.setIfInBounds_toArray, List.set_cons_zero, List.set_cons_succ]
    refine wpAnyH_take (i := 18) (v := .bool true) rfl (by kernel_rfl) (by kernel_rfl) (by kernel_rfl) (fun _ _ _ h => h) (Or.inl ⟨by rfl, fun w hS => by first | (go_simp; done) | (go_simp; with_reducible rfl)⟩) hHeld ?_
    try simp only [Act.put, List.getElem_toArray, List.getElem_cons_zero, List.getElem_cons_succ, List.setIfInBounds_toArray, List.set_cons_zero, List.set_cons_succ]
    refine wpAnyH_take (i := 19) (v := .bool true) rfl (by kernel_rfl) (by kernel_rfl) (by kernel_rfl) (fun _ _ _ h => h) (Or.inl ⟨by rfl, fun w hS => by first | (go_simp; done) | (go_simp; with_reducible rfl)⟩) hHeld ?_
    try simp only [Act.put, List.getElem_toArray, List.getElem_cons_zero, List.getElem_cons_succ, List.setIfInBounds_toArray, List.set_cons_zero, List.set_cons_succ]
    refine wpAnyH_done (by kernel_rfl) ?_ _
    go_wp2_with fail
    go_ret
    exact ⟨rfl, hX10.1⟩
  · rw [decide_eq_false hl] at HF
    clear h h2 ht hok hor hl hoe
    generalize l.length = n at *
    generalize rs.length = n2 at *
    generalize to.length = tn at *
    generalize str fr = sf at *
    generalize str s.data.toList = t at *
    go_enter Try.func4, Try.ntmps4
    go_wp2_with fail
    have hlt := hq1.lt
    generalize w0.alloc (.cells #[.string sf, .slice T tn tc, .int .i64 at'] 28) = w1 at *
    refine (HA.out _).mono ?_
    rintro e w2 ⟨rfl, hb2⟩
    have hq2 : BlkIs w2 w0.heap.size 28 #[.string sf, .slice T tn tc, .int .i64 at'] := (hb2.block _ hlt).trans hq1
    have hb12 := hb1.trans (hb2.mono hb1.size)
    have x0 := (BlkIs.cell hq2 0).trans (rfl : _ = some (Value.string sf))
    have x1 := (BlkIs.cell hq2 1).trans (rfl : _ = some (Value.slice T tn tc))
    have x2 := (BlkIs.cell hq2 2).trans (rfl : _ = some (Value.int .i64 at'))
    clear hq1 hb2 hb1
    go_wp2_with (first
      | (go_at_call 10; refine (HF.out _).mono ?_; rintro e w3 ⟨rfl, hb3⟩)
      | fail)
    go_ret
    exact ⟨rfl, hb12.trans (hb3.mono hb12.size)⟩
end Rt
end Go.Proofs.Ytokaifnpmhkkpaa
