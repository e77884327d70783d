/- The document's Check. Conditions: as stated at each. -/
import Derived.Test.YtokaifnpmhkkpaaRtCheck
import Derived.Test.YtokaifnpmhkkpaaPaRDom
import Derived.Test.YtokaifnpmhkkpaaPaFold
namespace Go.Proofs.Ytokaifnpmhkkpaa
set_option maxRecDepth 100000
namespace Rt
open Go.RowKit Go Go.Proofs.Ytokaifnpmhkkpaa.Pa
theorem rcheck_bad {l : List C} {rs : List R} (h : clsS [] l = false) : 130 = errC (checkS l rs) := by
  unfold checkS
  rw [h, Bool.and_false, Bool.false_and]; rfl
theorem rcheck_badr {l : List C} {rs : List R} (h : rs.all (ruleS l) = false) : 130 = errC (checkS l rs) := by
  unfold checkS
  rw [h, Bool.and_false]; rfl
theorem rcheck_size {l : List C} {rs : List R} (h : ¬ (1 ≤ l.length ∧ l.length ≤ 100 ∧ rs.length ≤ 100)) : 130 = errC (checkS l rs) := by
  unfold checkS
  rw [decide_eq_false h, Bool.false_and, Bool.false_and]; rfl
theorem rcheck_good {l : List C} {rs : List R} (h : 1 ≤ l.length ∧ l.length ≤ 100 ∧ rs.length ≤ 100) (h1 : clsS [] l = true) (h2 : rs.all (ruleS l) = true) : 0 = errC (checkS l rs) := by
  unfold checkS
  rw [decide_eq_true h, h1, h2]; rfl
theorem ret_int {a b : Int} (h : a = b) : Ending.returned (.int .i64 a) = .returned (.int .i64 b) := by rw [h]
theorem rule_dom (l : List C) (r : R) : ruleS l r = ((findS l r.2).isSome && (domS r.1 && (r.1.map lowB == r.1))) := by unfold ruleS; rw [Bool.and_assoc]
theorem cls_at (l : List C) (k : Nat) : clsAt l k = (!(findS (l.take k) (l.getD k c0).1).isSome && smallS 20 (l.getD k c0).1 && decide (1 ≤ (l.getD k c0).2)) := by
  unfold clsAt
  cases findS (l.take k) (l.getD k c0).1 <;> rfl
theorem take_len {l : List C} {k n : Nat} (hn : l.length = n) (hk : k ≤ n) : (l.take k).length = k := by simp; omega
set_option maxHeartbeats 3200000 in
theorem rcheck_any {w : World} {B : Nat} {A A2 : Option Addr} {l : List C} {rs : List R} (h : Prs w B A (cvC l)) (hr : Prs w B A2 (cvR rs)) (hB : B ≤ w.heap.size) (n c n2 c2 : Nat) (hn : l.length = n) (hn2 : rs.length = n2) (hc : n ≤ c) (hok : OkC l) (hor : OkR rs) :
    Calls Try.prog 12 #[.slice A n c, .slice A2 n2 c2] w (CheckP w l rs) := by
  have HN := Lib.hid (And.intro hn hn2)
  have H1 := Lib.hid h
  have H2 := Lib.hid hr
  have HO := Lib.hid (And.intro hok hor)
  clear h hr hn hn2 hok hor
  go_enter Try.func12, Try.ntmps12
  by_cases hs : 1 ≤ n ∧ n ≤ 100 ∧ n2 ≤ 100
  · obtain ⟨g1, g2, g3⟩ := hs
    have hl1 : ¬ (n : Int) < 1 := by omega
    have hl2 : ¬ (100 : Int) < n := by omega
    have hl3 : ¬ (100 : Int) < n2 := by omega
    go_wp2_with fail
    go_loopw [5, 6, 7, 8, 28] (fun _ _ _ _ i wr => ∃ k : Nat, k ≤ n ∧ i = .int .i64 k ∧ Hid (clsS [] l = clsS (l.take k) (l.drop k) ∧ Below w.heap.size w wr)) (fun _ _ _ _ i _ => n - (intOf i).toNat)
    case atStart => exact ⟨0, Nat.zero_le _, rfl, Lib.hid ⟨by simp, Below.refl _ _⟩⟩
    case round =>
      obtain ⟨k, hk, rfl, HR⟩ := hrel
      by_cases hlt : k < n
      · obtain ⟨ga, oa, rfl, hga, hall⟩ := cls_of H1.out k (by rw [HN.out.1]; exact hlt)
        obtain ⟨y0, y1⟩ := hall wr (HR.out.2.mono hB)
        have HQ := Lib.hid (BlkIs.new wr 34 #[.string (str (l.getD k c0).1), .int .i64 (l.getD k c0).2])
        have HB := Lib.hid (HR.out.2.trans ((below_a wr (.cells #[.string (str (l.getD k c0).1), .int .i64 (l.getD k c0).2] 34)).mono HR.out.2.size))
        have HS : Hid (clsS [] l = (clsAt l k && clsS (l.take (k + 1)) (l.drop (k + 1)))) := Lib.hid (HR.out.1.trans (cls_step (by rw [HN.out.1]; exact hlt)))
        have HF := Lib.hid (fun X (hX : Below w.heap.size w X) => rfind_any (w := X) (l := l.take k) (A := some ⟨ga, oa, none⟩) (B := B) (by rw [← cvC_take]; exact (H1.out.below (hX.mono hB)).take k) (by have := hX.size; omega) k c (take_len HN.out.1 hk) (by omega) (l.getD k c0).1)
        have HSM := Lib.hid (fun X => small_any (l.getD k c0).1 20 (HO.out.1.at_ k).1 X)
        have HA := Lib.hid (cls_at l k)
        have hkc : k ≤ c := by omega
        unfold FindP at HF
        generalize (fc (l.take k) (l.getD k c0).1) = fcv at *
        generalize (findS (l.take k) (l.getD k c0).1).isSome = tw at *
        generalize smallS 20 (l.getD k c0).1 = sm at *
        generalize str (l.getD k c0).1 = s0 at *
        generalize (l.getD k c0).2 = v0 at *
        generalize str fcv.1 = fs at *
        generalize fcv.2 = fv at *
        clear hall
        go_wp2_with fail
        have hq2 := HQ.out
        have hb2 := HB.out
        generalize wr.alloc (.cells #[.string s0, .int .i64 v0] 34) = w2 at *
        have hq4 : BlkIs w2.drew wr.heap.size 34 #[.string s0, .int .i64 v0] := hq2
        have hb4 : Below w.heap.size w w2.drew := hb2.drew
        clear HQ HB hq2 hb2
        generalize wr.heap.size = b6 at *
        cases tw with
        | true =>
          have HBAD : Hid (130 = errC (checkS l rs)) := Lib.hid (rcheck_bad (by rw [HS.out, HA.out]; rfl))
          refine wp_region_held_drew (S := (fun Y => BlkIs Y b6 34 #[.string s0, .int .i64 v0] ∧ Below w.heap.size w Y)) (by kernel_rfl) (⟨hq4, hb4⟩) (fun hHeld => ?_)
          generalize w2.drew = w4 at *
          refine wpAnyH_take (i := 0) (v := .slice (some ⟨ga, oa, none⟩) n c) rfl (by kernel_rfl) (by kernel_rfl) (by kernel_rfl) (fun _ _ _ h => h) (Or.inl ⟨by rfl, fun w hS => by first | (go_simp; done) | (go_simp; with_reducible rfl)⟩) hHeld ?_
          try simp only [Act.put, List.getElem_toArray, List.getElem_cons_zero, List.setIfInBounds_toArray, List.set_cons_zero, List.set_cons_succ]
          refine wpAnyH_take (i := 1) (v := .int .i64 k) rfl (by kernel_rfl) (by kernel_rfl) (by kernel_rfl) (fun _ _ _ h => h) (Or.inl ⟨by rfl, fun w hS => by first | (go_simp; done) | (go_simp; with_reducible rfl)⟩) hHeld ?_
          try simp only [Act.put, List.getElem_toArray, List.getElem_cons_zero, List.getElem_cons_succ, List.setIfInBounds_toArray, List.set_cons_zero, List.set_cons_succ]
          refine wpAnyH_take (i := 2) (v := .slice (some ⟨ga, oa, none⟩) k c) rfl (by kernel_rfl) (by kernel_rfl) (by kernel_rfl) (fun _ _ _ h => h) (Or.inl ⟨by rfl, fun w hS => by first | (go_simp; done) | (go_simp; with_reducible rfl)⟩) hHeld ?_
          try simp only [Act.put, List.getElem_toArray, List.getElem_cons_zero, List.getElem_cons_succ, List.setIfInBounds_toArray, List.set_cons_zero, List.set_cons_succ]
          refine wpAnyH_take (i := 3) (v := .pointer (some ⟨b6, 0, none⟩)) rfl (by kernel_rfl) (by kernel_rfl) (by kernel_rfl) (fun _ _ _ h => h) (Or.inl ⟨by rfl, fun w hS => by first | (go_simp; done) | (go_simp; with_reducible rfl)⟩) hHeld ?_
          try simp only [Act.put, List.getElem_toArray, List.getElem_cons_zero, List.getElem_cons_succ, List.setIfInBounds_toArray, List.set_cons_zero, List.set_cons_succ]
          refine wpAnyH_take (i := 4) (v := .string s0) rfl (by kernel_rfl) (by kernel_rfl) (by kernel_rfl) (fun _ _ _ h => h) (Or.inl ⟨by rfl, fun w hS => by (have x0 := (BlkIs.cell hS.1 0).trans (rfl : _ = some (Value.string s0)); first | (go_simp; done) | (go_simp; with_reducible rfl))⟩) hHeld ?_
          try simp only [Act.put, List.getElem_toArray, List.getElem_cons_zero, List.getElem_cons_succ, List.setIfInBounds_toArray, List.set_cons_zero, List.set_cons_succ]
          refine wpAnyH_ready (rs := [5, 9]) (by kernel_rfl) (by simp) ?_
          refine AllReadyH.cons rfl (fun K hK => ?_) (AllReadyH.cons rfl (fun K hK => ?_) AllReadyH.nil)
          go_simp
          go_wp2_with ((first | (refine (HF.out w4 hb4).mono ?_; rintro e w5 ⟨rfl, hb5⟩) | fail))
          refine hK.out _ _ ?_ (fun hHeld => ?_)
          · exact ⟨(hb5.block _ hq4.lt).trans hq4, hb4.trans (hb5.mono hb4.size)⟩
          clear hK K
          try simp only [Act.put, List.getElem_toArray, List.getElem_cons_zero, List.getElem_cons_succ, List.setIfInBounds_toArray, List.set_cons_zero, List.set_cons_succ]
          have hq5 : BlkIs w5 b6 34 #[.string s0, .int .i64 v0] := (hb5.block _ hq4.lt).trans hq4
          have hb6 : Below w.heap.size w w5 := hb4.trans (hb5.mono hb4.size)
          clear hb5 hHeld
          have hHeld := And.intro hq5 hb6
          refine wpAnyH_take (i := 6) (v := .tuple #[.agg #[.string fs, .int .i64 fv], .bool true]) rfl (by kernel_rfl) (by kernel_rfl) (by kernel_rfl) (fun _ _ _ h => h) (Or.inl ⟨by rfl, fun w hS => by first | (go_simp; done) | (go_simp; with_reducible rfl)⟩) hHeld ?_
          try simp only [Act.put, List.getElem_toArray, List.getElem_cons_zero, List.getElem_cons_succ, List.setIfInBounds_toArray, List.set_cons_zero, List.set_cons_succ]
          refine wpAnyH_take (i := 7) (v := .agg #[.string fs, .int .i64 fv]) rfl (by kernel_rfl) (by kernel_rfl) (by kernel_rfl) (fun _ _ _ h => h) (Or.inl ⟨by rfl, fun w hS => by first | (go_simp; done) | (go_simp; with_reducible rfl)⟩) hHeld ?_
          try simp only [Act.put, List.getElem_toArray, List.getElem_cons_zero, List.getElem_cons_succ, List.setIfInBounds_toArray, List.set_cons_zero, List.set_cons_succ]
          refine wpAnyH_take (i := 8) (v := .bool true) rfl (by kernel_rfl) (by kernel_rfl) (by kernel_rfl) (fun _ _ _ h => h) (Or.inl ⟨by rfl, fun w hS => by first | (go_simp; done) | (go_simp; with_reducible rfl)⟩) hHeld ?_
          try simp only [Act.put, List.getElem_toArray, List.getElem_cons_zero, List.getElem_cons_succ, List.setIfInBounds_toArray, List.set_cons_zero, List.set_cons_succ]
          have hq7 := BlkIs.new w5 34 #[.string ⟨#[]⟩, .int .i64 0]
          have hq8 := hq5.alloc (.cells #[.string ⟨#[]⟩, .int .i64 0] 34)
          have hb8 := hb6.alloc hb6.size (.cells #[.string ⟨#[]⟩, .int .i64 0] 34)
          have hne : b6 ≠ w5.heap.size := by have := hq5.lt; omega
          have hle : w.heap.size ≤ w5.heap.size := hb6.size
          refine wpAnyH_ready (rs := [9]) (by kernel_rfl) (by simp) ?_
          refine AllReadyH.cons rfl (fun K hK => ?_) AllReadyH.nil
          go_simp
          refine hK.out _ _ ?_ (fun hHeld => ?_)
          · exact ⟨hq8, hb8⟩
          clear hK K
          try simp only [Act.put, List.getElem_toArray, List.getElem_cons_zero, List.getElem_cons_succ, List.setIfInBounds_toArray, List.set_cons_zero, List.set_cons_succ]
          clear hq5 hb6 hHeld
          generalize w5.alloc (.cells #[.string ⟨#[]⟩, .int .i64 0] 34) = X at *
          generalize w5.heap.size = b7 at *
          rotate_left
          have hq7 := BlkIs.new w4 34 #[.string ⟨#[]⟩, .int .i64 0]
          have hq8 := hq4.alloc (.cells #[.string ⟨#[]⟩, .int .i64 0] 34)
          have hb8 := hb4.alloc hb4.size (.cells #[.string ⟨#[]⟩, .int .i64 0] 34)
          have hne : b6 ≠ w4.heap.size := by have := hq4.lt; omega
          have hle : w.heap.size ≤ w4.heap.size := hb4.size
          go_simp
          refine hK.out _ _ ?_ (fun hHeld => ?_)
          · exact ⟨hq8, hb8⟩
          clear hK K
          try simp only [Act.put, List.getElem_toArray, List.getElem_cons_zero, List.getElem_cons_succ, List.setIfInBounds_toArray, List.set_cons_zero, List.set_cons_succ]
          clear hq4 hb4 hHeld
          generalize w4.alloc (.cells #[.string ⟨#[]⟩, .int .i64 0] 34) = w5 at *
          generalize w4.heap.size = b7 at *
          have hHeld := And.intro hq8 hb8
          refine wpAnyH_ready (rs := [5]) (by kernel_rfl) (by simp) ?_
          refine AllReadyH.cons rfl (fun K hK => ?_) AllReadyH.nil
          go_simp
          go_wp2_with ((first | (refine (HF.out w5 hb8).mono ?_; rintro e X ⟨rfl, hb5⟩) | fail))
          refine hK.out _ _ ?_ (fun hHeld => ?_)
          · exact ⟨(hb5.block _ hq8.lt).trans hq8, hb8.trans (hb5.mono hb8.size)⟩
          clear hK K
          try simp only [Act.put, List.getElem_toArray, List.getElem_cons_zero, List.getElem_cons_succ, List.setIfInBounds_toArray, List.set_cons_zero, List.set_cons_succ]
          replace hq7 : BlkIs X b7 34 #[.string ⟨#[]⟩, .int .i64 0] := (hb5.block _ hq7.lt).trans hq7
          replace hq8 : BlkIs X b6 34 #[.string s0, .int .i64 v0] := (hb5.block _ hq8.lt).trans hq8
          replace hb8 : Below w.heap.size w X := hb8.trans (hb5.mono hb8.size)
          clear hb5
          refine wpAnyH_take (i := 6) (v := .tuple #[.agg #[.string fs, .int .i64 fv], .bool true]) rfl (by kernel_rfl) (by kernel_rfl) (by kernel_rfl) (fun _ _ _ h => h) (Or.inl ⟨by rfl, fun w hS => by first | (go_simp; done) | (go_simp; with_reducible rfl)⟩) hHeld ?_
          try simp only [Act.put, List.getElem_toArray, List.getElem_cons_zero, List.getElem_cons_succ, List.setIfInBounds_toArray, List.set_cons_zero, List.set_cons_succ]
          refine wpAnyH_take (i := 7) (v := .agg #[.string fs, .int .i64 fv]) rfl (by kernel_rfl) (by kernel_rfl) (by kernel_rfl) (fun _ _ _ h => h) (Or.inl ⟨by rfl, fun w hS => by first | (go_simp; done) | (go_simp; with_reducible rfl)⟩) hHeld ?_
          try simp only [Act.put, List.getElem_toArray, List.getElem_cons_zero, List.getElem_cons_succ, List.setIfInBounds_toArray, List.set_cons_zero, List.set_cons_succ]
          refine wpAnyH_take (i := 8) (v := .bool true) rfl (by kernel_rfl) (by kernel_rfl) (by kernel_rfl) (fun _ _ _ h => h) (Or.inl ⟨by rfl, fun w hS => by first | (go_simp; done) | (go_simp; with_reducible rfl)⟩) hHeld ?_
          try simp only [Act.put, List.getElem_toArray, List.getElem_cons_zero, List.getElem_cons_succ, List.setIfInBounds_toArray, List.set_cons_zero, List.set_cons_succ]
          clear hHeld
          rotate_left
          all_goals
            have hHeld := And.intro hq8 hb8
            have x0 := (BlkIs.cell hq7 0).trans (rfl : _ = some (Value.string ⟨#[]⟩))
            have x1 := (BlkIs.cell hq7 1).trans (rfl : _ = some (Value.int .i64 0))
            have f0 := hq7.froz 0
            have f1 := hq7.froz 1
            have HQF : Hid (BlkIs ((X.setCell ⟨b7, 0, none⟩ (.string fs)).setCell ⟨b7, 1, none⟩ (.int .i64 fv)) b6 34 #[.string s0, .int .i64 v0]) := Lib.hid ((hq8.far (x := ⟨b7, 0, none⟩) hne (.string fs)).far (x := ⟨b7, 1, none⟩) hne (.int .i64 fv))
            have HBF := Lib.hid ((hb8.setCell (p := ⟨b7, 0, none⟩) hle (.string fs)).setCell (p := ⟨b7, 1, none⟩) hle (.int .i64 fv))
            refine wpAnyH_ready (rs := [10]) (by kernel_rfl) (by simp) ?_
            refine AllReadyH.cons rfl (fun K hK => ?_) AllReadyH.nil
            go_simp
            refine hK.out _ _ ?_ (fun hHeld => ?_)
            · exact ⟨HQF.out, HBF.out⟩
            clear hK K
            try simp only [Act.put, List.getElem_toArray, List.getElem_cons_zero, List.getElem_cons_succ, List.setIfInBounds_toArray, List.set_cons_zero, List.set_cons_succ]
            refine wpAnyH_take (i := 11) (v := .bool true) rfl (by kernel_rfl) (by kernel_rfl) (by kernel_rfl) (fun _ _ _ h => h) (Or.inl ⟨by rfl, fun w hS => by first | (go_simp; done) | (go_simp; with_reducible rfl)⟩) hHeld ?_
            try simp only [Act.put, List.getElem_toArray, List.getElem_cons_zero, List.getElem_cons_succ, List.setIfInBounds_toArray, List.set_cons_zero, List.set_cons_succ]
            refine wpAnyH_done (by kernel_rfl) ?_ _
            clear hq7 hq8 hb8 x0 x1 f0 f1
            generalize (X.setCell ⟨b7, 0, none⟩ (.string fs)).setCell ⟨b7, 1, none⟩ (.int .i64 fv) = Z at *
            have z0 := (BlkIs.cell HQF.out 0).trans (rfl : _ = some (Value.string s0))
            have z1 := (BlkIs.cell HQF.out 1).trans (rfl : _ = some (Value.int .i64 v0))
            go_wp2_with (first | (refine (HSM.out _).mono ?_; rintro e Z2 ⟨rfl, rfl⟩) | fail)
            go_ret
            exact ⟨ret_int HBAD.out, HBF.out⟩
        | false =>
          cases sm with
          | false =>
            have HBAD : Hid (130 = errC (checkS l rs)) := Lib.hid (rcheck_bad (by rw [HS.out, HA.out]; rfl))
            refine wp_region_held_drew (S := (fun Y => BlkIs Y b6 34 #[.string s0, .int .i64 v0] ∧ Below w.heap.size w Y)) (by kernel_rfl) (⟨hq4, hb4⟩) (fun hHeld => ?_)
            generalize w2.drew = w4 at *
            refine wpAnyH_take (i := 0) (v := .slice (some ⟨ga, oa, none⟩) n c) rfl (by kernel_rfl) (by kernel_rfl) (by kernel_rfl) (fun _ _ _ h => h) (Or.inl ⟨by rfl, fun w hS => by first | (go_simp; done) | (go_simp; with_reducible rfl)⟩) hHeld ?_
            try simp only [Act.put, List.getElem_toArray, List.getElem_cons_zero, List.setIfInBounds_toArray, List.set_cons_zero, List.set_cons_succ]
            refine wpAnyH_take (i := 1) (v := .int .i64 k) rfl (by kernel_rfl) (by kernel_rfl) (by kernel_rfl) (fun _ _ _ h => h) (Or.inl ⟨by rfl, fun w hS => by first | (go_simp; done) | (go_simp; with_reducible rfl)⟩) hHeld ?_
            try simp only [Act.put, List.getElem_toArray, List.getElem_cons_zero, List.getElem_cons_succ, List.setIfInBounds_toArray, List.set_cons_zero, List.set_cons_succ]
            refine wpAnyH_take (i := 2) (v := .slice (some ⟨ga, oa, none⟩) k c) rfl (by kernel_rfl) (by kernel_rfl) (by kernel_rfl) (fun _ _ _ h => h) (Or.inl ⟨by rfl, fun w hS => by first | (go_simp; done) | (go_simp; with_reducible rfl)⟩) hHeld ?_
            try simp only [Act.put, List.getElem_toArray, List.getElem_cons_zero, List.getElem_cons_succ, List.setIfInBounds_toArray, List.set_cons_zero, List.set_cons_succ]
            refine wpAnyH_take (i := 3) (v := .pointer (some ⟨b6, 0, none⟩)) rfl (by kernel_rfl) (by kernel_rfl) (by kernel_rfl) (fun _ _ _ h => h) (Or.inl ⟨by rfl, fun w hS => by first | (go_simp; done) | (go_simp; with_reducible rfl)⟩) hHeld ?_
            try simp only [Act.put, List.getElem_toArray, List.getElem_cons_zero, List.getElem_cons_succ, List.setIfInBounds_toArray, List.set_cons_zero, List.set_cons_succ]
            refine wpAnyH_take (i := 4) (v := .string s0) rfl (by kernel_rfl) (by kernel_rfl) (by kernel_rfl) (fun _ _ _ h => h) (Or.inl ⟨by rfl, fun w hS => by (have x0 := (BlkIs.cell hS.1 0).trans (rfl : _ = some (Value.string s0)); first | (go_simp; done) | (go_simp; with_reducible rfl))⟩) hHeld ?_
            try simp only [Act.put, List.getElem_toArray, List.getElem_cons_zero, List.getElem_cons_succ, List.setIfInBounds_toArray, List.set_cons_zero, List.set_cons_succ]
            refine wpAnyH_ready (rs := [5, 9]) (by kernel_rfl) (by simp) ?_
            refine AllReadyH.cons rfl (fun K hK => ?_) (AllReadyH.cons rfl (fun K hK => ?_) AllReadyH.nil)
            go_simp
            go_wp2_with ((first | (refine (HF.out w4 hb4).mono ?_; rintro e w5 ⟨rfl, hb5⟩) | fail))
            refine hK.out _ _ ?_ (fun hHeld => ?_)
            · exact ⟨(hb5.block _ hq4.lt).trans hq4, hb4.trans (hb5.mono hb4.size)⟩
            clear hK K
            try simp only [Act.put, List.getElem_toArray, List.getElem_cons_zero, List.getElem_cons_succ, List.setIfInBounds_toArray, List.set_cons_zero, List.set_cons_succ]
            have hq5 : BlkIs w5 b6 34 #[.string s0, .int .i64 v0] := (hb5.block _ hq4.lt).trans hq4
            have hb6 : Below w.heap.size w w5 := hb4.trans (hb5.mono hb4.size)
            clear hb5 hHeld
            have hHeld := And.intro hq5 hb6
            refine wpAnyH_take (i := 6) (v := .tuple #[.agg #[.string fs, .int .i64 fv], .bool false]) rfl (by kernel_rfl) (by kernel_rfl) (by kernel_rfl) (fun _ _ _ h => h) (Or.inl ⟨by rfl, fun w hS => by first | (go_simp; done) | (go_simp; with_reducible rfl)⟩) hHeld ?_
            try simp only [Act.put, List.getElem_toArray, List.getElem_cons_zero, List.getElem_cons_succ, List.setIfInBounds_toArray, List.set_cons_zero, List.set_cons_succ]
            refine wpAnyH_take (i := 7) (v := .agg #[.string fs, .int .i64 fv]) rfl (by kernel_rfl) (by kernel_rfl) (by kernel_rfl) (fun _ _ _ h => h) (Or.inl ⟨by rfl, fun w hS => by first | (go_simp; done) | (go_simp; with_reducible rfl)⟩) hHeld ?_
            try simp only [Act.put, List.getElem_toArray, List.getElem_cons_zero, List.getElem_cons_succ, List.setIfInBounds_toArray, List.set_cons_zero, List.set_cons_succ]
            refine wpAnyH_take (i := 8) (v := .bool false) rfl (by kernel_rfl) (by kernel_rfl) (by kernel_rfl) (fun _ _ _ h => h) (Or.inl ⟨by rfl, fun w hS => by first | (go_simp; done) | (go_simp; with_reducible rfl)⟩) hHeld ?_
            try simp only [Act.put, List.getElem_toArray, List.getElem_cons_zero, List.getElem_cons_succ, List.setIfInBounds_toArray, List.set_cons_zero, List.set_cons_succ]
            have hq7 := BlkIs.new w5 34 #[.string ⟨#[]⟩, .int .i64 0]
            have hq8 := hq5.alloc (.cells #[.string ⟨#[]⟩, .int .i64 0] 34)
            have hb8 := hb6.alloc hb6.size (.cells #[.string ⟨#[]⟩, .int .i64 0] 34)
            have hne : b6 ≠ w5.heap.size := by have := hq5.lt; omega
            have hle : w.heap.size ≤ w5.heap.size := hb6.size
            refine wpAnyH_ready (rs := [9]) (by kernel_rfl) (by simp) ?_
            refine AllReadyH.cons rfl (fun K hK => ?_) AllReadyH.nil
            go_simp
            refine hK.out _ _ ?_ (fun hHeld => ?_)
            · exact ⟨hq8, hb8⟩
            clear hK K
            try simp only [Act.put, List.getElem_toArray, List.getElem_cons_zero, List.getElem_cons_succ, List.setIfInBounds_toArray, List.set_cons_zero, List.set_cons_succ]
            clear hq5 hb6 hHeld
            generalize w5.alloc (.cells #[.string ⟨#[]⟩, .int .i64 0] 34) = X at *
            generalize w5.heap.size = b7 at *
            rotate_left
            have hq7 := BlkIs.new w4 34 #[.string ⟨#[]⟩, .int .i64 0]
            have hq8 := hq4.alloc (.cells #[.string ⟨#[]⟩, .int .i64 0] 34)
            have hb8 := hb4.alloc hb4.size (.cells #[.string ⟨#[]⟩, .int .i64 0] 34)
            have hne : b6 ≠ w4.heap.size := by have := hq4.lt; omega
            have hle : w.heap.size ≤ w4.heap.size := hb4.size
            go_simp
            refine hK.out _ _ ?_ (fun hHeld => ?_)
            · exact ⟨hq8, hb8⟩
            clear hK K
            try simp only [Act.put, List.getElem_toArray, List.getElem_cons_zero, List.getElem_cons_succ, List.setIfInBounds_toArray, List.set_cons_zero, List.set_cons_succ]
            clear hq4 hb4 hHeld
            generalize w4.alloc (.cells #[.string ⟨#[]⟩, .int .i64 0] 34) = w5 at *
            generalize w4.heap.size = b7 at *
            have hHeld := And.intro hq8 hb8
            refine wpAnyH_ready (rs := [5]) (by kernel_rfl) (by simp) ?_
            refine AllReadyH.cons rfl (fun K hK => ?_) AllReadyH.nil
            go_simp
            go_wp2_with ((first | (refine (HF.out w5 hb8).mono ?_; rintro e X ⟨rfl, hb5⟩) | fail))
            refine hK.out _ _ ?_ (fun hHeld => ?_)
            · exact ⟨(hb5.block _ hq8.lt).trans hq8, hb8.trans (hb5.mono hb8.size)⟩
            clear hK K
            try simp only [Act.put, List.getElem_toArray, List.getElem_cons_zero, List.getElem_cons_succ, List.setIfInBounds_toArray, List.set_cons_zero, List.set_cons_succ]
            replace hq7 : BlkIs X b7 34 #[.string ⟨#[]⟩, .int .i64 0] := (hb5.block _ hq7.lt).trans hq7
            replace hq8 : BlkIs X b6 34 #[.string s0, .int .i64 v0] := (hb5.block _ hq8.lt).trans hq8
            replace hb8 : Below w.heap.size w X := hb8.trans (hb5.mono hb8.size)
            clear hb5
            refine wpAnyH_take (i := 6) (v := .tuple #[.agg #[.string fs, .int .i64 fv], .bool false]) rfl (by kernel_rfl) (by kernel_rfl) (by kernel_rfl) (fun _ _ _ h => h) (Or.inl ⟨by rfl, fun w hS => by first | (go_simp; done) | (go_simp; with_reducible rfl)⟩) hHeld ?_
            try simp only [Act.put, List.getElem_toArray, List.getElem_cons_zero, List.getElem_cons_succ, List.setIfInBounds_toArray, List.set_cons_zero, List.set_cons_succ]
            refine wpAnyH_take (i := 7) (v := .agg #[.string fs, .int .i64 fv]) rfl (by kernel_rfl) (by kernel_rfl) (by kernel_rfl) (fun _ _ _ h => h) (Or.inl ⟨by rfl, fun w hS => by first | (go_simp; done) | (go_simp; with_reducible rfl)⟩) hHeld ?_
            try simp only [Act.put, List.getElem_toArray, List.getElem_cons_zero, List.getElem_cons_succ, List.setIfInBounds_toArray, List.set_cons_zero, List.set_cons_succ]
            refine wpAnyH_take (i := 8) (v := .bool false) rfl (by kernel_rfl) (by kernel_rfl) (by kernel_rfl) (fun _ _ _ h => h) (Or.inl ⟨by rfl, fun w hS => by first | (go_simp; done) | (go_simp; with_reducible rfl)⟩) hHeld ?_
            try simp only [Act.put, List.getElem_toArray, List.getElem_cons_zero, List.getElem_cons_succ, List.setIfInBounds_toArray, List.set_cons_zero, List.set_cons_succ]
            clear hHeld
            rotate_left
            all_goals
              have hHeld := And.intro hq8 hb8
              have x0 := (BlkIs.cell hq7 0).trans (rfl : _ = some (Value.string ⟨#[]⟩))
              have x1 := (BlkIs.cell hq7 1).trans (rfl : _ = some (Value.int .i64 0))
              have f0 := hq7.froz 0
              have f1 := hq7.froz 1
              have HQF : Hid (BlkIs ((X.setCell ⟨b7, 0, none⟩ (.string fs)).setCell ⟨b7, 1, none⟩ (.int .i64 fv)) b6 34 #[.string s0, .int .i64 v0]) := Lib.hid ((hq8.far (x := ⟨b7, 0, none⟩) hne (.string fs)).far (x := ⟨b7, 1, none⟩) hne (.int .i64 fv))
              have HBF := Lib.hid ((hb8.setCell (p := ⟨b7, 0, none⟩) hle (.string fs)).setCell (p := ⟨b7, 1, none⟩) hle (.int .i64 fv))
              refine wpAnyH_ready (rs := [10]) (by kernel_rfl) (by simp) ?_
              refine AllReadyH.cons rfl (fun K hK => ?_) AllReadyH.nil
              go_simp
              refine hK.out _ _ ?_ (fun hHeld => ?_)
              · exact ⟨HQF.out, HBF.out⟩
              clear hK K
              try simp only [Act.put, List.getElem_toArray, List.getElem_cons_zero, List.getElem_cons_succ, List.setIfInBounds_toArray, List.set_cons_zero, List.set_cons_succ]
              refine wpAnyH_take (i := 11) (v := .bool false) rfl (by kernel_rfl) (by kernel_rfl) (by kernel_rfl) (fun _ _ _ h => h) (Or.inl ⟨by rfl, fun w hS => by first | (go_simp; done) | (go_simp; with_reducible rfl)⟩) hHeld ?_
              try simp only [Act.put, List.getElem_toArray, List.getElem_cons_zero, List.getElem_cons_succ, List.setIfInBounds_toArray, List.set_cons_zero, List.set_cons_succ]
              refine wpAnyH_done (by kernel_rfl) ?_ _
              clear hq7 hq8 hb8 x0 x1 f0 f1
              generalize (X.setCell ⟨b7, 0, none⟩ (.string fs)).setCell ⟨b7, 1, none⟩ (.int .i64 fv) = Z at *
              have z0 := (BlkIs.cell HQF.out 0).trans (rfl : _ = some (Value.string s0))
              have z1 := (BlkIs.cell HQF.out 1).trans (rfl : _ = some (Value.int .i64 v0))
              go_wp2_with (first | (refine (HSM.out _).mono ?_; rintro e Z2 ⟨rfl, rfl⟩) | fail)
              go_ret
              exact ⟨ret_int HBAD.out, HBF.out⟩
          | true =>
            by_cases hv : v0 < 1
            · have HBAD : Hid (130 = errC (checkS l rs)) := Lib.hid (rcheck_bad (by rw [HS.out, HA.out, decide_eq_false (by omega)]; rfl))
              refine wp_region_held_drew (S := (fun Y => BlkIs Y b6 34 #[.string s0, .int .i64 v0] ∧ Below w.heap.size w Y)) (by kernel_rfl) (⟨hq4, hb4⟩) (fun hHeld => ?_)
              generalize w2.drew = w4 at *
              refine wpAnyH_take (i := 0) (v := .slice (some ⟨ga, oa, none⟩) n c) rfl (by kernel_rfl) (by kernel_rfl) (by kernel_rfl) (fun _ _ _ h => h) (Or.inl ⟨by rfl, fun w hS => by first | (go_simp; done) | (go_simp; with_reducible rfl)⟩) hHeld ?_
              try simp only [Act.put, List.getElem_toArray, List.getElem_cons_zero, List.setIfInBounds_toArray, List.set_cons_zero, List.set_cons_succ]
              refine wpAnyH_take (i := 1) (v := .int .i64 k) rfl (by kernel_rfl) (by kernel_rfl) (by kernel_rfl) (fun _ _ _ h => h) (Or.inl ⟨by rfl, fun w hS => by first | (go_simp; done) | (go_simp; with_reducible rfl)⟩) hHeld ?_
              try simp only [Act.put, List.getElem_toArray, List.getElem_cons_zero, List.getElem_cons_succ, List.setIfInBounds_toArray, List.set_cons_zero, List.set_cons_succ]
              refine wpAnyH_take (i := 2) (v := .slice (some ⟨ga, oa, none⟩) k c) rfl (by kernel_rfl) (by kernel_rfl) (by kernel_rfl) (fun _ _ _ h => h) (Or.inl ⟨by rfl, fun w hS => by first | (go_simp; done) | (go_simp; with_reducible rfl)⟩) hHeld ?_
              try simp only [Act.put, List.getElem_toArray, List.getElem_cons_zero, List.getElem_cons_succ, List.setIfInBounds_toArray, List.set_cons_zero, List.set_cons_succ]
              refine wpAnyH_take (i := 3) (v := .pointer (some ⟨b6, 0, none⟩)) rfl (by kernel_rfl) (by kernel_rfl) (by kernel_rfl) (fun _ _ _ h => h) (Or.inl ⟨by rfl, fun w hS => by first | (go_simp; done) | (go_simp; with_reducible rfl)⟩) hHeld ?_
              try simp only [Act.put, List.getElem_toArray, List.getElem_cons_zero, List.getElem_cons_succ, List.setIfInBounds_toArray, List.set_cons_zero, List.set_cons_succ]
              refine wpAnyH_take (i := 4) (v := .string s0) rfl (by kernel_rfl) (by kernel_rfl) (by kernel_rfl) (fun _ _ _ h => h) (Or.inl ⟨by rfl, fun w hS => by (have x0 := (BlkIs.cell hS.1 0).trans (rfl : _ = some (Value.string s0)); first | (go_simp; done) | (go_simp; with_reducible rfl))⟩) hHeld ?_
              try simp only [Act.put, List.getElem_toArray, List.getElem_cons_zero, List.getElem_cons_succ, List.setIfInBounds_toArray, List.set_cons_zero, List.set_cons_succ]
              refine wpAnyH_ready (rs := [5, 9]) (by kernel_rfl) (by simp) ?_
              refine AllReadyH.cons rfl (fun K hK => ?_) (AllReadyH.cons rfl (fun K hK => ?_) AllReadyH.nil)
              go_simp
              go_wp2_with ((first | (refine (HF.out w4 hb4).mono ?_; rintro e w5 ⟨rfl, hb5⟩) | fail))
              refine hK.out _ _ ?_ (fun hHeld => ?_)
              · exact ⟨(hb5.block _ hq4.lt).trans hq4, hb4.trans (hb5.mono hb4.size)⟩
              clear hK K
              try simp only [Act.put, List.getElem_toArray, List.getElem_cons_zero, List.getElem_cons_succ, List.setIfInBounds_toArray, List.set_cons_zero, List.set_cons_succ]
              have hq5 : BlkIs w5 b6 34 #[.string s0, .int .i64 v0] := (hb5.block _ hq4.lt).trans hq4
              have hb6 : Below w.heap.size w w5 := hb4.trans (hb5.mono hb4.size)
              clear hb5 hHeld
              have hHeld := And.intro hq5 hb6
              refine wpAnyH_take (i := 6) (v := .tuple #[.agg #[.string fs, .int .i64 fv], .bool false]) rfl (by kernel_rfl) (by kernel_rfl) (by kernel_rfl) (fun _ _ _ h => h) (Or.inl ⟨by rfl, fun w hS => by first | (go_simp; done) | (go_simp; with_reducible rfl)⟩) hHeld ?_
              try simp only [Act.put, List.getElem_toArray, List.getElem_cons_zero, List.getElem_cons_succ, List.setIfInBounds_toArray, List.set_cons_zero, List.set_cons_succ]
              refine wpAnyH_take (i := 7) (v := .agg #[.string fs, .int .i64 fv]) rfl (by kernel_rfl) (by kernel_rfl) (by kernel_rfl) (fun _ _ _ h => h) (Or.inl ⟨by rfl, fun w hS => by first | (go_simp; done) | (go_simp; with_reducible rfl)⟩) hHeld ?_
              try simp only [Act.put, List.getElem_toArray, List.getElem_cons_zero, List.getElem_cons_succ, List.setIfInBounds_toArray, List.set_cons_zero, List.set_cons_succ]
              refine wpAnyH_take (i := 8) (v := .bool false) rfl (by kernel_rfl) (by kernel_rfl) (by kernel_rfl) (fun _ _ _ h => h) (Or.inl ⟨by rfl, fun w hS => by first | (go_simp; done) | (go_simp; with_reducible rfl)⟩) hHeld ?_
              try simp only [Act.put, List.getElem_toArray, List.getElem_cons_zero, List.getElem_cons_succ, List.setIfInBounds_toArray, List.set_cons_zero, List.set_cons_succ]
              have hq7 := BlkIs.new w5 34 #[.string ⟨#[]⟩, .int .i64 0]
              have hq8 := hq5.alloc (.cells #[.string ⟨#[]⟩, .int .i64 0] 34)
              have hb8 := hb6.alloc hb6.size (.cells #[.string ⟨#[]⟩, .int .i64 0] 34)
              have hne : b6 ≠ w5.heap.size := by have := hq5.lt; omega
              have hle : w.heap.size ≤ w5.heap.size := hb6.size
              refine wpAnyH_ready (rs := [9]) (by kernel_rfl) (by simp) ?_
              refine AllReadyH.cons rfl (fun K hK => ?_) AllReadyH.nil
              go_simp
              refine hK.out _ _ ?_ (fun hHeld => ?_)
              · exact ⟨hq8, hb8⟩
              clear hK K
              try simp only [Act.put, List.getElem_toArray, List.getElem_cons_zero, List.getElem_cons_succ, List.setIfInBounds_toArray, List.set_cons_zero, List.set_cons_succ]
              clear hq5 hb6 hHeld
              generalize w5.alloc (.cells #[.string ⟨#[]⟩, .int .i64 0] 34) = X at *
              generalize w5.heap.size = b7 at *
              rotate_left
              have hq7 := BlkIs.new w4 34 #[.string ⟨#[]⟩, .int .i64 0]
              have hq8 := hq4.alloc (.cells #[.string ⟨#[]⟩, .int .i64 0] 34)
              have hb8 := hb4.alloc hb4.size (.cells #[.string ⟨#[]⟩, .int .i64 0] 34)
              have hne : b6 ≠ w4.heap.size := by have := hq4.lt; omega
              have hle : w.heap.size ≤ w4.heap.size := hb4.size
              go_simp
              refine hK.out _ _ ?_ (fun hHeld => ?_)
              · exact ⟨hq8, hb8⟩
              clear hK K
              try simp only [Act.put, List.getElem_toArray, List.getElem_cons_zero, List.getElem_cons_succ, List.setIfInBounds_toArray, List.set_cons_zero, List.set_cons_succ]
              clear hq4 hb4 hHeld
              generalize w4.alloc (.cells #[.string ⟨#[]⟩, .int .i64 0] 34) = w5 at *
              generalize w4.heap.size = b7 at *
              have hHeld := And.intro hq8 hb8
              refine wpAnyH_ready (rs := [5]) (by kernel_rfl) (by simp) ?_
              refine AllReadyH.cons rfl (fun K hK => ?_) AllReadyH.nil
              go_simp
              go_wp2_with ((first | (refine (HF.out w5 hb8).mono ?_; rintro e X ⟨rfl, hb5⟩) | fail))
              refine hK.out _ _ ?_ (fun hHeld => ?_)
              · exact ⟨(hb5.block _ hq8.lt).trans hq8, hb8.trans (hb5.mono hb8.size)⟩
              clear hK K
              try simp only [Act.put, List.getElem_toArray, List.getElem_cons_zero, List.getElem_cons_succ, List.setIfInBounds_toArray, List.set_cons_zero, List.set_cons_succ]
              replace hq7 : BlkIs X b7 34 #[.string ⟨#[]⟩, .int .i64 0] := (hb5.block _ hq7.lt).trans hq7
              replace hq8 : BlkIs X b6 34 #[.string s0, .int .i64 v0] := (hb5.block _ hq8.lt).trans hq8
              replace hb8 : Below w.heap.size w X := hb8.trans (hb5.mono hb8.size)
              clear hb5
              refine wpAnyH_take (i := 6) (v := .tuple #[.agg #[.string fs, .int .i64 fv], .bool false]) rfl (by kernel_rfl) (by kernel_rfl) (by kernel_rfl) (fun _ _ _ h => h) (Or.inl ⟨by rfl, fun w hS => by first | (go_simp; done) | (go_simp; with_reducible rfl)⟩) hHeld ?_
              try simp only [Act.put, List.getElem_toArray, List.getElem_cons_zero, List.getElem_cons_succ, List.setIfInBounds_toArray, List.set_cons_zero, List.set_cons_succ]
              refine wpAnyH_take (i := 7) (v := .agg #[.string fs, .int .i64 fv]) rfl (by kernel_rfl) (by kernel_rfl) (by kernel_rfl) (fun _ _ _ h => h) (Or.inl ⟨by rfl, fun w hS => by first | (go_simp; done) | (go_simp; with_reducible rfl)⟩) hHeld ?_
              try simp only [Act.put, List.getElem_toArray, List.getElem_cons_zero, List.getElem_cons_succ, List.setIfInBounds_toArray, List.set_cons_zero, List.set_cons_succ]
              refine wpAnyH_take (i := 8) (v := .bool false) rfl (by kernel_rfl) (by kernel_rfl) (by kernel_rfl) (fun _ _ _ h => h) (Or.inl ⟨by rfl, fun w hS => by first | (go_simp; done) | (go_simp; with_reducible rfl)⟩) hHeld ?_
              try simp only [Act.put, List.getElem_toArray, List.getElem_cons_zero, List.getElem_cons_succ, List.setIfInBounds_toArray, List.set_cons_zero, List.set_cons_succ]
              clear hHeld
              rotate_left
              all_goals
                have hHeld := And.intro hq8 hb8
                have x0 := (BlkIs.cell hq7 0).trans (rfl : _ = some (Value.string ⟨#[]⟩))
                have x1 := (BlkIs.cell hq7 1).trans (rfl : _ = some (Value.int .i64 0))
                have f0 := hq7.froz 0
                have f1 := hq7.froz 1
                have HQF : Hid (BlkIs ((X.setCell ⟨b7, 0, none⟩ (.string fs)).setCell ⟨b7, 1, none⟩ (.int .i64 fv)) b6 34 #[.string s0, .int .i64 v0]) := Lib.hid ((hq8.far (x := ⟨b7, 0, none⟩) hne (.string fs)).far (x := ⟨b7, 1, none⟩) hne (.int .i64 fv))
                have HBF := Lib.hid ((hb8.setCell (p := ⟨b7, 0, none⟩) hle (.string fs)).setCell (p := ⟨b7, 1, none⟩) hle (.int .i64 fv))
                refine wpAnyH_ready (rs := [10]) (by kernel_rfl) (by simp) ?_
                refine AllReadyH.cons rfl (fun K hK => ?_) AllReadyH.nil
                go_simp
                refine hK.out _ _ ?_ (fun hHeld => ?_)
                · exact ⟨HQF.out, HBF.out⟩
                clear hK K
                try simp only [Act.put, List.getElem_toArray, List.getElem_cons_zero, List.getElem_cons_succ, List.setIfInBounds_toArray, List.set_cons_zero, List.set_cons_succ]
                refine wpAnyH_take (i := 11) (v := .bool false) rfl (by kernel_rfl) (by kernel_rfl) (by kernel_rfl) (fun _ _ _ h => h) (Or.inl ⟨by rfl, fun w hS => by first | (go_simp; done) | (go_simp; with_reducible rfl)⟩) hHeld ?_
                try simp only [Act.put, List.getElem_toArray, List.getElem_cons_zero, List.getElem_cons_succ, List.setIfInBounds_toArray, List.set_cons_zero, List.set_cons_succ]
                refine wpAnyH_done (by kernel_rfl) ?_ _
                clear hq7 hq8 hb8 x0 x1 f0 f1
                generalize (X.setCell ⟨b7, 0, none⟩ (.string fs)).setCell ⟨b7, 1, none⟩ (.int .i64 fv) = Z at *
                have z0 := (BlkIs.cell HQF.out 0).trans (rfl : _ = some (Value.string s0))
                have z1 := (BlkIs.cell HQF.out 1).trans (rfl : _ = some (Value.int .i64 v0))
                go_wp2_with (first | (refine (HSM.out _).mono ?_; rintro e Z2 ⟨rfl, rfl⟩) | fail)
                go_ret
                exact ⟨ret_int HBAD.out, HBF.out⟩
            · have HNX : Hid (clsS [] l = clsS (l.take (k + 1)) (l.drop (k + 1))) := Lib.hid (by rw [HS.out, HA.out, decide_eq_true (by omega)]; rfl)
              refine wp_region_held_drew (S := (fun Y => BlkIs Y b6 34 #[.string s0, .int .i64 v0] ∧ Below w.heap.size w Y)) (by kernel_rfl) (⟨hq4, hb4⟩) (fun hHeld => ?_)
              generalize w2.drew = w4 at *
              refine wpAnyH_take (i := 0) (v := .slice (some ⟨ga, oa, none⟩) n c) rfl (by kernel_rfl) (by kernel_rfl) (by kernel_rfl) (fun _ _ _ h => h) (Or.inl ⟨by rfl, fun w hS => by first | (go_simp; done) | (go_simp; with_reducible rfl)⟩) hHeld ?_
              try simp only [Act.put, List.getElem_toArray, List.getElem_cons_zero, List.setIfInBounds_toArray, List.set_cons_zero, List.set_cons_succ]
              refine wpAnyH_take (i := 1) (v := .int .i64 k) rfl (by kernel_rfl) (by kernel_rfl) (by kernel_rfl) (fun _ _ _ h => h) (Or.inl ⟨by rfl, fun w hS => by first | (go_simp; done) | (go_simp; with_reducible rfl)⟩) hHeld ?_
              try simp only [Act.put, List.getElem_toArray, List.getElem_cons_zero, List.getElem_cons_succ, List.setIfInBounds_toArray, List.set_cons_zero, List.set_cons_succ]
              refine wpAnyH_take (i := 2) (v := .slice (some ⟨ga, oa, none⟩) k c) rfl (by kernel_rfl) (by kernel_rfl) (by kernel_rfl) (fun _ _ _ h => h) (Or.inl ⟨by rfl, fun w hS => by first | (go_simp; done) | (go_simp; with_reducible rfl)⟩) hHeld ?_
              try simp only [Act.put, List.getElem_toArray, List.getElem_cons_zero, List.getElem_cons_succ, List.setIfInBounds_toArray, List.set_cons_zero, List.set_cons_succ]
              refine wpAnyH_take (i := 3) (v := .pointer (some ⟨b6, 0, none⟩)) rfl (by kernel_rfl) (by kernel_rfl) (by kernel_rfl) (fun _ _ _ h => h) (Or.inl ⟨by rfl, fun w hS => by first | (go_simp; done) | (go_simp; with_reducible rfl)⟩) hHeld ?_
              try simp only [Act.put, List.getElem_toArray, List.getElem_cons_zero, List.getElem_cons_succ, List.setIfInBounds_toArray, List.set_cons_zero, List.set_cons_succ]
              refine wpAnyH_take (i := 4) (v := .string s0) rfl (by kernel_rfl) (by kernel_rfl) (by kernel_rfl) (fun _ _ _ h => h) (Or.inl ⟨by rfl, fun w hS => by (have x0 := (BlkIs.cell hS.1 0).trans (rfl : _ = some (Value.string s0)); first | (go_simp; done) | (go_simp; with_reducible rfl))⟩) hHeld ?_
              try simp only [Act.put, List.getElem_toArray, List.getElem_cons_zero, List.getElem_cons_succ, List.setIfInBounds_toArray, List.set_cons_zero, List.set_cons_succ]
              refine wpAnyH_ready (rs := [5, 9]) (by kernel_rfl) (by simp) ?_
              refine AllReadyH.cons rfl (fun K hK => ?_) (AllReadyH.cons rfl (fun K hK => ?_) AllReadyH.nil)
              go_simp
              go_wp2_with ((first | (refine (HF.out w4 hb4).mono ?_; rintro e w5 ⟨rfl, hb5⟩) | fail))
              refine hK.out _ _ ?_ (fun hHeld => ?_)
              · exact ⟨(hb5.block _ hq4.lt).trans hq4, hb4.trans (hb5.mono hb4.size)⟩
              clear hK K
              try simp only [Act.put, List.getElem_toArray, List.getElem_cons_zero, List.getElem_cons_succ, List.setIfInBounds_toArray, List.set_cons_zero, List.set_cons_succ]
              have hq5 : BlkIs w5 b6 34 #[.string s0, .int .i64 v0] := (hb5.block _ hq4.lt).trans hq4
              have hb6 : Below w.heap.size w w5 := hb4.trans (hb5.mono hb4.size)
              clear hb5 hHeld
              have hHeld := And.intro hq5 hb6
              refine wpAnyH_take (i := 6) (v := .tuple #[.agg #[.string fs, .int .i64 fv], .bool false]) rfl (by kernel_rfl) (by kernel_rfl) (by kernel_rfl) (fun _ _ _ h => h) (Or.inl ⟨by rfl, fun w hS => by first | (go_simp; done) | (go_simp; with_reducible rfl)⟩) hHeld ?_
              try simp only [Act.put, List.getElem_toArray, List.getElem_cons_zero, List.getElem_cons_succ, List.setIfInBounds_toArray, List.set_cons_zero, List.set_cons_succ]
              refine wpAnyH_take (i := 7) (v := .agg #[.string fs, .int .i64 fv]) rfl (by kernel_rfl) (by kernel_rfl) (by kernel_rfl) (fun _ _ _ h => h) (Or.inl ⟨by rfl, fun w hS => by first | (go_simp; done) | (go_simp; with_reducible rfl)⟩) hHeld ?_
              try simp only [Act.put, List.getElem_toArray, List.getElem_cons_zero, List.getElem_cons_succ, List.setIfInBounds_toArray, List.set_cons_zero, List.set_cons_succ]
              refine wpAnyH_take (i := 8) (v := .bool false) rfl (by kernel_rfl) (by kernel_rfl) (by kernel_rfl) (fun _ _ _ h => h) (Or.inl ⟨by rfl, fun w hS => by first | (go_simp; done) | (go_simp; with_reducible rfl)⟩) hHeld ?_
              try simp only [Act.put, List.getElem_toArray, List.getElem_cons_zero, List.getElem_cons_succ, List.setIfInBounds_toArray, List.set_cons_zero, List.set_cons_succ]
              have hq7 := BlkIs.new w5 34 #[.string ⟨#[]⟩, .int .i64 0]
              have hq8 := hq5.alloc (.cells #[.string ⟨#[]⟩, .int .i64 0] 34)
              have hb8 := hb6.alloc hb6.size (.cells #[.string ⟨#[]⟩, .int .i64 0] 34)
              have hne : b6 ≠ w5.heap.size := by have := hq5.lt; omega
              have hle : w.heap.size ≤ w5.heap.size := hb6.size
              refine wpAnyH_ready (rs := [9]) (by kernel_rfl) (by simp) ?_
              refine AllReadyH.cons rfl (fun K hK => ?_) AllReadyH.nil
              go_simp
              refine hK.out _ _ ?_ (fun hHeld => ?_)
              · exact ⟨hq8, hb8⟩
              clear hK K
              try simp only [Act.put, List.getElem_toArray, List.getElem_cons_zero, List.getElem_cons_succ, List.setIfInBounds_toArray, List.set_cons_zero, List.set_cons_succ]
              clear hq5 hb6 hHeld
              generalize w5.alloc (.cells #[.string ⟨#[]⟩, .int .i64 0] 34) = X at *
              generalize w5.heap.size = b7 at *
              rotate_left
              have hq7 := BlkIs.new w4 34 #[.string ⟨#[]⟩, .int .i64 0]
              have hq8 := hq4.alloc (.cells #[.string ⟨#[]⟩, .int .i64 0] 34)
              have hb8 := hb4.alloc hb4.size (.cells #[.string ⟨#[]⟩, .int .i64 0] 34)
              have hne : b6 ≠ w4.heap.size := by have := hq4.lt; omega
              have hle : w.heap.size ≤ w4.heap.size := hb4.size
              go_simp
              refine hK.out _ _ ?_ (fun hHeld => ?_)
              · exact ⟨hq8, hb8⟩
              clear hK K
              try simp only [Act.put, List.getElem_toArray, List.getElem_cons_zero, List.getElem_cons_succ, List.setIfInBounds_toArray, List.set_cons_zero, List.set_cons_succ]
              clear hq4 hb4 hHeld
              generalize w4.alloc (.cells #[.string ⟨#[]⟩, .int .i64 0] 34) = w5 at *
              generalize w4.heap.size = b7 at *
              have hHeld := And.intro hq8 hb8
              refine wpAnyH_ready (rs := [5]) (by kernel_rfl) (by simp) ?_
              refine AllReadyH.cons rfl (fun K hK => ?_) AllReadyH.nil
              go_simp
              go_wp2_with ((first | (refine (HF.out w5 hb8).mono ?_; rintro e X ⟨rfl, hb5⟩) | fail))
              refine hK.out _ _ ?_ (fun hHeld => ?_)
              · exact ⟨(hb5.block _ hq8.lt).trans hq8, hb8.trans (hb5.mono hb8.size)⟩
              clear hK K
              try simp only [Act.put, List.getElem_toArray, List.getElem_cons_zero, List.getElem_cons_succ, List.setIfInBounds_toArray, List.set_cons_zero, List.set_cons_succ]
              replace hq7 : BlkIs X b7 34 #[.string ⟨#[]⟩, .int .i64 0] := (hb5.block _ hq7.lt).trans hq7
              replace hq8 : BlkIs X b6 34 #[.string s0, .int .i64 v0] := (hb5.block _ hq8.lt).trans hq8
              replace hb8 : Below w.heap.size w X := hb8.trans (hb5.mono hb8.size)
              clear hb5
              refine wpAnyH_take (i := 6) (v := .tuple #[.agg #[.string fs, .int .i64 fv], .bool false]) rfl (by kernel_rfl) (by kernel_rfl) (by kernel_rfl) (fun _ _ _ h => h) (Or.inl ⟨by rfl, fun w hS => by first | (go_simp; done) | (go_simp; with_reducible rfl)⟩) hHeld ?_
              try simp only [Act.put, List.getElem_toArray, List.getElem_cons_zero, List.getElem_cons_succ, List.setIfInBounds_toArray, List.set_cons_zero, List.set_cons_succ]
              refine wpAnyH_take (i := 7) (v := .agg #[.string fs, .int .i64 fv]) rfl (by kernel_rfl) (by kernel_rfl) (by kernel_rfl) (fun _ _ _ h => h) (Or.inl ⟨by rfl, fun w hS => by first | (go_simp; done) | (go_simp; with_reducible rfl)⟩) hHeld ?_
              try simp only [Act.put, List.getElem_toArray, List.getElem_cons_zero, List.getElem_cons_succ, List.setIfInBounds_toArray, List.set_cons_zero, List.set_cons_succ]
              refine wpAnyH_take (i := 8) (v := .bool false) rfl (by kernel_rfl) (by kernel_rfl) (by kernel_rfl) (fun _ _ _ h => h) (Or.inl ⟨by rfl, fun w hS => by first | (go_simp; done) | (go_simp; with_reducible rfl)⟩) hHeld ?_
              try simp only [Act.put, List.getElem_toArray, List.getElem_cons_zero, List.getElem_cons_succ, List.setIfInBounds_toArray, List.set_cons_zero, List.set_cons_succ]
              clear hHeld
              rotate_left
              all_goals
                have hHeld := And.intro hq8 hb8
                have x0 := (BlkIs.cell hq7 0).trans (rfl : _ = some (Value.string ⟨#[]⟩))
                have x1 := (BlkIs.cell hq7 1).trans (rfl : _ = some (Value.int .i64 0))
                have f0 := hq7.froz 0
                have f1 := hq7.froz 1
                have HQF : Hid (BlkIs ((X.setCell ⟨b7, 0, none⟩ (.string fs)).setCell ⟨b7, 1, none⟩ (.int .i64 fv)) b6 34 #[.string s0, .int .i64 v0]) := Lib.hid ((hq8.far (x := ⟨b7, 0, none⟩) hne (.string fs)).far (x := ⟨b7, 1, none⟩) hne (.int .i64 fv))
                have HBF := Lib.hid ((hb8.setCell (p := ⟨b7, 0, none⟩) hle (.string fs)).setCell (p := ⟨b7, 1, none⟩) hle (.int .i64 fv))
                refine wpAnyH_ready (rs := [10]) (by kernel_rfl) (by simp) ?_
                refine AllReadyH.cons rfl (fun K hK => ?_) AllReadyH.nil
                go_simp
                refine hK.out _ _ ?_ (fun hHeld => ?_)
                · exact ⟨HQF.out, HBF.out⟩
                clear hK K
                try simp only [Act.put, List.getElem_toArray, List.getElem_cons_zero, List.getElem_cons_succ, List.setIfInBounds_toArray, List.set_cons_zero, List.set_cons_succ]
                refine wpAnyH_take (i := 11) (v := .bool false) rfl (by kernel_rfl) (by kernel_rfl) (by kernel_rfl) (fun _ _ _ h => h) (Or.inl ⟨by rfl, fun w hS => by first | (go_simp; done) | (go_simp; with_reducible rfl)⟩) hHeld ?_
                try simp only [Act.put, List.getElem_toArray, List.getElem_cons_zero, List.getElem_cons_succ, List.setIfInBounds_toArray, List.set_cons_zero, List.set_cons_succ]
                refine wpAnyH_done (by kernel_rfl) ?_ _
                clear hq7 hq8 hb8 x0 x1 f0 f1
                generalize (X.setCell ⟨b7, 0, none⟩ (.string fs)).setCell ⟨b7, 1, none⟩ (.int .i64 fv) = Z at *
                have z0 := (BlkIs.cell HQF.out 0).trans (rfl : _ = some (Value.string s0))
                have z1 := (BlkIs.cell HQF.out 1).trans (rfl : _ = some (Value.int .i64 v0))
                go_wp2_with (first | (refine (HSM.out _).mono ?_; rintro e Z2 ⟨rfl, rfl⟩) | fail)
                go_roundw
                case rel => exact ⟨k + 1, by omega, by go_num, Lib.hid ⟨HNX.out, HBF.out⟩⟩
                case measure => first | (simp [intOf]; done) | (simp [intOf]; omega)
      · have hkn : k = n := by omega
        subst hkn
        have HCL : Hid (clsS [] l = true) := Lib.hid (by rw [HR.out.1, ← HN.out.1]; exact cls_end l)
        have HB0 := Lib.hid HR.out.2
        clear HR hlt hk
        go_wp2_with fail
        rename World => wb
        go_loopw [10, 11, 12, 57] (fun _ _ _ i wr => ∃ j : Nat, j ≤ n2 ∧ i = .int .i64 j ∧ Hid ((∀ i, i < j → ruleS l (rs.getD i r0) = true) ∧ Below w.heap.size w wr)) (fun _ _ _ i _ => n2 - (intOf i).toNat)
        case atStart => exact ⟨0, Nat.zero_le _, rfl, Lib.hid ⟨fun i hi => absurd hi (Nat.not_lt_zero _), HB0.out⟩⟩
        case round =>
          obtain ⟨j, hj, rfl, HR⟩ := hrel
          by_cases hlt : j < n2
          · obtain ⟨gb, ob, rfl, hgb, hall⟩ := rls_of H2.out j (by rw [HN.out.2]; exact hlt)
            obtain ⟨y0, y1⟩ := hall wr (HR.out.2.mono hB)
            have HQ := Lib.hid (BlkIs.new wr 50 #[.string (str (rs.getD j r0).1), .string (str (rs.getD j r0).2)])
            have HB := Lib.hid (HR.out.2.trans ((below_a wr (.cells #[.string (str (rs.getD j r0).1), .string (str (rs.getD j r0).2)] 50)).mono HR.out.2.size))
            have HF := Lib.hid (fun X (hX : Below w.heap.size w X) => rfind_any (w := X) (l := l) (A := A) (B := B) (H1.out.below (hX.mono hB)) (by have := hX.size; omega) k c HN.out.1 (by omega) (rs.getD j r0).2)
            have HD := Lib.hid (fun X => rdomain_any (rs.getD j r0).1 X (HO.out.2.at_ j).1)
            have HL := Lib.hid (fun X => rlower_any (rs.getD j r0).1 X (HO.out.2.at_ j).1)
            have HE : Hid (((str ((rs.getD j r0).1.map lowB)).toList == (str (rs.getD j r0).1).toList) = ((rs.getD j r0).1.map lowB == (rs.getD j r0).1)) := Lib.hid beq_str
            have HRU := Lib.hid (rule_dom l (rs.getD j r0))
            have HRA : Hid (ruleS l (rs.getD j r0) = false → rs.all (ruleS l) = false) := Lib.hid fun h => rules_bad (by rw [HN.out.2]; exact hlt) h
            have HRN : Hid (ruleS l (rs.getD j r0) = true → ∀ i, i < j + 1 → ruleS l (rs.getD i r0) = true) := Lib.hid fun h i hi => by
              rcases Nat.lt_or_ge i j with h2 | h2
              · exact HR.out.1 i h2
              · obtain rfl : i = j := by omega
                exact h
            unfold FindP at HF
            generalize (fc l (rs.getD j r0).2) = fcv at *
            generalize (findS l (rs.getD j r0).2).isSome = tw at *
            generalize domS (rs.getD j r0).1 = dm at *
            generalize ((rs.getD j r0).1.map lowB == (rs.getD j r0).1) = eq at *
            generalize str ((rs.getD j r0).1.map lowB) = sl at *
            generalize str (rs.getD j r0).1 = s0 at *
            generalize str (rs.getD j r0).2 = s1 at *
            generalize str fcv.1 = fs at *
            generalize fcv.2 = fv at *
            have hq2 := HQ.out
            have hb2 := HB.out
            have hlr : w.heap.size ≤ wr.heap.size := HR.out.2.size
            clear hall HR HQ HB
            cases tw with
            | false =>
              have HBAD : Hid (130 = errC (checkS l rs)) := Lib.hid (rcheck_badr (HRA.out (by rw [HRU.out]; rfl)))
              go_wp2_with (first | (go_at_call 14; refine (HF.out _ hb2).mono ?_; rintro e w3 ⟨rfl, hb3⟩) | fail)
              have hq4 : BlkIs (w3.alloc (.cells #[.string fs, .int .i64 fv] 34)) wr.heap.size 50 #[.string s0, .string s1] := BlkIs.alloc ((hb3.block _ hq2.lt).trans hq2) _
              have hb4 : Below w.heap.size w (w3.alloc (.cells #[.string fs, .int .i64 fv] 34)) := (hb2.trans (hb3.mono hb2.size)).alloc (by have := hb2.size; have := hb3.size; omega) _
              generalize w3.alloc (.cells #[.string fs, .int .i64 fv] 34) = w4 at *
              have hq5 : BlkIs w4.drew wr.heap.size 50 #[.string s0, .string s1] := hq4
              have hb5 : Below w.heap.size w w4.drew := hb4.drew
              clear hq4 hb4 hq2 hb2 hb3
              generalize wr.heap.size = b9 at *
              refine wp_region_held_drew (S := (fun Y => BlkIs Y b9 50 #[.string s0, .string s1] ∧ Below w.heap.size w Y)) (by kernel_rfl) (⟨hq5, hb5⟩) (fun hHeld => ?_)
              generalize w4.drew = w5 at *
              refine wpAnyH_take (i := 0) (v := .bool false) rfl (by kernel_rfl) (by kernel_rfl) (by kernel_rfl) (fun _ _ _ h => h) (Or.inl ⟨by rfl, fun w hS => by first | (go_simp; done) | (go_simp; with_reducible rfl)⟩) hHeld ?_
              try simp only [Act.put, List.getElem_toArray, List.getElem_cons_zero, List.setIfInBounds_toArray, List.set_cons_zero, List.set_cons_succ]
              refine wpAnyH_take (i := 1) (v := .bool true) rfl (by kernel_rfl) (by kernel_rfl) (by kernel_rfl) (fun _ _ _ h => h) (Or.inl ⟨by rfl, fun w hS => by first | (go_simp; done) | (go_simp; with_reducible rfl)⟩) hHeld ?_
              try simp only [Act.put, List.getElem_toArray, List.getElem_cons_zero, List.getElem_cons_succ, List.setIfInBounds_toArray, List.set_cons_zero, List.set_cons_succ]
              refine wpAnyH_take (i := 2) (v := .bool true) rfl (by kernel_rfl) (by kernel_rfl) (by kernel_rfl) (fun _ _ _ h => h) (Or.inl ⟨by rfl, fun w hS => by first | (go_simp; done) | (go_simp; with_reducible rfl)⟩) hHeld ?_
              try simp only [Act.put, List.getElem_toArray, List.getElem_cons_zero, List.getElem_cons_succ, List.setIfInBounds_toArray, List.set_cons_zero, List.set_cons_succ]
              refine wpAnyH_take (i := 3) (v := undef) rfl (by kernel_rfl) (by kernel_rfl) (by kernel_rfl) (fun _ _ _ h => h) (Or.inr ⟨by rfl, rfl⟩) hHeld ?_
              try simp only [Act.put, List.getElem_toArray, List.getElem_cons_zero, List.getElem_cons_succ, List.setIfInBounds_toArray, List.set_cons_zero, List.set_cons_succ]
              refine wpAnyH_take (i := 4) (v := undef) rfl (by kernel_rfl) (by kernel_rfl) (by kernel_rfl) (fun _ _ _ h => h) (Or.inr ⟨by rfl, rfl⟩) hHeld ?_
              try simp only [Act.put, List.getElem_toArray, List.getElem_cons_zero, List.getElem_cons_succ, List.setIfInBounds_toArray, List.set_cons_zero, List.set_cons_succ]
              refine wpAnyH_take (i := 5) (v := undef) rfl (by kernel_rfl) (by kernel_rfl) (by kernel_rfl) (fun _ _ _ h => h) (Or.inr ⟨by rfl, rfl⟩) hHeld ?_
              try simp only [Act.put, List.getElem_toArray, List.getElem_cons_zero, List.getElem_cons_succ, List.setIfInBounds_toArray, List.set_cons_zero, List.set_cons_succ]
              refine wpAnyH_take (i := 6) (v := undef) rfl (by kernel_rfl) (by kernel_rfl) (by kernel_rfl) (fun _ _ _ h => h) (Or.inr ⟨by rfl, rfl⟩) hHeld ?_
              try simp only [Act.put, List.getElem_toArray, List.getElem_cons_zero, List.getElem_cons_succ, List.setIfInBounds_toArray, List.set_cons_zero, List.set_cons_succ]
              refine wpAnyH_take (i := 7) (v := .bool true) rfl (by kernel_rfl) (by kernel_rfl) (by kernel_rfl) (fun _ _ _ h => h) (Or.inl ⟨by rfl, fun w hS => by first | (go_simp; done) | (go_simp; with_reducible rfl)⟩) hHeld ?_
              try simp only [Act.put, List.getElem_toArray, List.getElem_cons_zero, List.getElem_cons_succ, List.setIfInBounds_toArray, List.set_cons_zero, List.set_cons_succ]
              refine wpAnyH_take (i := 8) (v := .bool true) rfl (by kernel_rfl) (by kernel_rfl) (by kernel_rfl) (fun _ _ _ h => h) (Or.inl ⟨by rfl, fun w hS => by first | (go_simp; done) | (go_simp; with_reducible rfl)⟩) hHeld ?_
              try simp only [Act.put, List.getElem_toArray, List.getElem_cons_zero, List.getElem_cons_succ, List.setIfInBounds_toArray, List.set_cons_zero, List.set_cons_succ]
              refine wpAnyH_take (i := 9) (v := undef) rfl (by kernel_rfl) (by kernel_rfl) (by kernel_rfl) (fun _ _ _ h => h) (Or.inr ⟨by rfl, rfl⟩) hHeld ?_
              try simp only [Act.put, List.getElem_toArray, List.getElem_cons_zero, List.getElem_cons_succ, List.setIfInBounds_toArray, List.set_cons_zero, List.set_cons_succ]
              refine wpAnyH_take (i := 10) (v := undef) rfl (by kernel_rfl) (by kernel_rfl) (by kernel_rfl) (fun _ _ _ h => h) (Or.inr ⟨by rfl, rfl⟩) hHeld ?_
              try simp only [Act.put, List.getElem_toArray, List.getElem_cons_zero, List.getElem_cons_succ, List.setIfInBounds_toArray, List.set_cons_zero, List.set_cons_succ]
              refine wpAnyH_take (i := 11) (v := undef) rfl (by kernel_rfl) (by kernel_rfl) (by kernel_rfl) (fun _ _ _ h => h) (Or.inr ⟨by rfl, rfl⟩) hHeld ?_
              try simp only [Act.put, List.getElem_toArray, List.getElem_cons_zero, List.getElem_cons_succ, List.setIfInBounds_toArray, List.set_cons_zero, List.set_cons_succ]
              refine wpAnyH_take (i := 12) (v := undef) rfl (by kernel_rfl) (by kernel_rfl) (by kernel_rfl) (fun _ _ _ h => h) (Or.inr ⟨by rfl, rfl⟩) hHeld ?_
              try simp only [Act.put, List.getElem_toArray, List.getElem_cons_zero, List.getElem_cons_succ, List.setIfInBounds_toArray, List.set_cons_zero, List.set_cons_succ]
              refine wpAnyH_take (i := 13) (v := undef) rfl (by kernel_rfl) (by kernel_rfl) (by kernel_rfl) (fun _ _ _ h => h) (Or.inr ⟨by rfl, rfl⟩) hHeld ?_
              try simp only [Act.put, List.getElem_toArray, List.getElem_cons_zero, List.getElem_cons_succ, List.setIfInBounds_toArray, List.set_cons_zero, List.set_cons_succ]
              refine wpAnyH_take (i := 14) (v := undef) rfl (by kernel_rfl) (by kernel_rfl) (by kernel_rfl) (fun _ _ _ h => h) (Or.inr ⟨by rfl, rfl⟩) hHeld ?_
              try simp only [Act.put, List.getElem_toArray, List.getElem_cons_zero, List.getElem_cons_succ, List.setIfInBounds_toArray, List.set_cons_zero, List.set_cons_succ]
              refine wpAnyH_take (i := 15) (v := .bool true) rfl (by kernel_rfl) (by kernel_rfl) (by kernel_rfl) (fun _ _ _ h => h) (Or.inl ⟨by rfl, fun w hS => by first | (go_simp; done) | (go_simp; with_reducible rfl)⟩) hHeld ?_
              try simp only [Act.put, List.getElem_toArray, List.getElem_cons_zero, List.getElem_cons_succ, List.setIfInBounds_toArray, List.set_cons_zero, List.set_cons_succ]
              refine wpAnyH_done (by kernel_rfl) ?_ _
              go_wp2_with fail
              go_ret
              exact ⟨ret_int HBAD.out, hb5⟩
            | true =>
              cases dm with
              | false =>
                have HBAD : Hid (130 = errC (checkS l rs)) := Lib.hid (rcheck_badr (HRA.out (by rw [HRU.out]; rfl)))
                go_wp2_with (first | (go_at_call 14; refine (HF.out _ hb2).mono ?_; rintro e w3 ⟨rfl, hb3⟩) | fail)
                have hq4 : BlkIs (w3.alloc (.cells #[.string fs, .int .i64 fv] 34)) wr.heap.size 50 #[.string s0, .string s1] := BlkIs.alloc ((hb3.block _ hq2.lt).trans hq2) _
                have hb4 : Below w.heap.size w (w3.alloc (.cells #[.string fs, .int .i64 fv] 34)) := (hb2.trans (hb3.mono hb2.size)).alloc (by have := hb2.size; have := hb3.size; omega) _
                generalize w3.alloc (.cells #[.string fs, .int .i64 fv] 34) = w4 at *
                have hq5 : BlkIs w4.drew wr.heap.size 50 #[.string s0, .string s1] := hq4
                have hb5 : Below w.heap.size w w4.drew := hb4.drew
                clear hq4 hb4 hq2 hb2 hb3
                generalize wr.heap.size = b9 at *
                refine wp_region_held_drew (S := (fun Y => BlkIs Y b9 50 #[.string s0, .string s1] ∧ Below w.heap.size w Y)) (by kernel_rfl) (⟨hq5, hb5⟩) (fun hHeld => ?_)
                generalize w4.drew = w5 at *
                refine wpAnyH_take (i := 0) (v := .bool true) rfl (by kernel_rfl) (by kernel_rfl) (by kernel_rfl) (fun _ _ _ h => h) (Or.inl ⟨by rfl, fun w hS => by first | (go_simp; done) | (go_simp; with_reducible rfl)⟩) hHeld ?_
                try simp only [Act.put, List.getElem_toArray, List.getElem_cons_zero, List.setIfInBounds_toArray, List.set_cons_zero, List.set_cons_succ]
                refine wpAnyH_take (i := 1) (v := .bool false) rfl (by kernel_rfl) (by kernel_rfl) (by kernel_rfl) (fun _ _ _ h => h) (Or.inl ⟨by rfl, fun w hS => by first | (go_simp; done) | (go_simp; with_reducible rfl)⟩) hHeld ?_
                try simp only [Act.put, List.getElem_toArray, List.getElem_cons_zero, List.getElem_cons_succ, List.setIfInBounds_toArray, List.set_cons_zero, List.set_cons_succ]
                refine wpAnyH_take (i := 2) (v := .bool false) rfl (by kernel_rfl) (by kernel_rfl) (by kernel_rfl) (fun _ _ _ h => h) (Or.inl ⟨by rfl, fun w hS => by first | (go_simp; done) | (go_simp; with_reducible rfl)⟩) hHeld ?_
                try simp only [Act.put, List.getElem_toArray, List.getElem_cons_zero, List.getElem_cons_succ, List.setIfInBounds_toArray, List.set_cons_zero, List.set_cons_succ]
                refine wpAnyH_take (i := 3) (v := .pointer (some ⟨b9, 0, none⟩)) rfl (by kernel_rfl) (by kernel_rfl) (by kernel_rfl) (fun _ _ _ h => h) (Or.inl ⟨by rfl, fun w hS => by first | (go_simp; done) | (go_simp; with_reducible rfl)⟩) hHeld ?_
                try simp only [Act.put, List.getElem_toArray, List.getElem_cons_zero, List.getElem_cons_succ, List.setIfInBounds_toArray, List.set_cons_zero, List.set_cons_succ]
                refine wpAnyH_take (i := 4) (v := .string s0) rfl (by kernel_rfl) (by kernel_rfl) (by kernel_rfl) (fun _ _ _ h => h) (Or.inl ⟨by rfl, fun w hS => by (have x0 := (BlkIs.cell hS.1 0).trans (rfl : _ = some (Value.string s0)); first | (go_simp; done) | (go_simp; with_reducible rfl))⟩) hHeld ?_
                try simp only [Act.put, List.getElem_toArray, List.getElem_cons_zero, List.getElem_cons_succ, List.setIfInBounds_toArray, List.set_cons_zero, List.set_cons_succ]
                refine wpAnyH_ready (rs := [5]) (by kernel_rfl) (by simp) ?_
                refine AllReadyH.cons rfl (fun K hK => ?_) AllReadyH.nil
                go_simp
                go_wp2_with ((first | (refine (HD.out _).mono ?_; rintro e w6 ⟨rfl, hb6⟩) | fail))
                refine hK.out _ _ ?_ (fun hHeld => ?_)
                · exact ⟨(hb6.block _ hq5.lt).trans hq5, hb5.trans (hb6.mono hb5.size)⟩
                clear hK K
                try simp only [Act.put, List.getElem_toArray, List.getElem_cons_zero, List.getElem_cons_succ, List.setIfInBounds_toArray, List.set_cons_zero, List.set_cons_succ]
                refine wpAnyH_take (i := 6) (v := .bool true) rfl (by kernel_rfl) (by kernel_rfl) (by kernel_rfl) (fun _ _ _ h => h) (Or.inl ⟨by rfl, fun w hS => by first | (go_simp; done) | (go_simp; with_reducible rfl)⟩) hHeld ?_
                try simp only [Act.put, List.getElem_toArray, List.getElem_cons_zero, List.getElem_cons_succ, List.setIfInBounds_toArray, List.set_cons_zero, List.set_cons_succ]
                refine wpAnyH_take (i := 7) (v := .bool true) rfl (by kernel_rfl) (by kernel_rfl) (by kernel_rfl) (fun _ _ _ h => h) (Or.inl ⟨by rfl, fun w hS => by first | (go_simp; done) | (go_simp; with_reducible rfl)⟩) hHeld ?_
                try simp only [Act.put, List.getElem_toArray, List.getElem_cons_zero, List.getElem_cons_succ, List.setIfInBounds_toArray, List.set_cons_zero, List.set_cons_succ]
                refine wpAnyH_take (i := 8) (v := .bool true) rfl (by kernel_rfl) (by kernel_rfl) (by kernel_rfl) (fun _ _ _ h => h) (Or.inl ⟨by rfl, fun w hS => by first | (go_simp; done) | (go_simp; with_reducible rfl)⟩) hHeld ?_
                try simp only [Act.put, List.getElem_toArray, List.getElem_cons_zero, List.getElem_cons_succ, List.setIfInBounds_toArray, List.set_cons_zero, List.set_cons_succ]
                refine wpAnyH_take (i := 9) (v := undef) rfl (by kernel_rfl) (by kernel_rfl) (by kernel_rfl) (fun _ _ _ h => h) (Or.inr ⟨by rfl, rfl⟩) hHeld ?_
                try simp only [Act.put, List.getElem_toArray, List.getElem_cons_zero, List.getElem_cons_succ, List.setIfInBounds_toArray, List.set_cons_zero, List.set_cons_succ]
                refine wpAnyH_take (i := 10) (v := undef) rfl (by kernel_rfl) (by kernel_rfl) (by kernel_rfl) (fun _ _ _ h => h) (Or.inr ⟨by rfl, rfl⟩) hHeld ?_
                try simp only [Act.put, List.getElem_toArray, List.getElem_cons_zero, List.getElem_cons_succ, List.setIfInBounds_toArray, List.set_cons_zero, List.set_cons_succ]
                refine wpAnyH_take (i := 11) (v := undef) rfl (by kernel_rfl) (by kernel_rfl) (by kernel_rfl) (fun _ _ _ h => h) (Or.inr ⟨by rfl, rfl⟩) hHeld ?_
                try simp only [Act.put, List.getElem_toArray, List.getElem_cons_zero, List.getElem_cons_succ, List.setIfInBounds_toArray, List.set_cons_zero, List.set_cons_succ]
                refine wpAnyH_take (i := 12) (v := undef) rfl (by kernel_rfl) (by kernel_rfl) (by kernel_rfl) (fun _ _ _ h => h) (Or.inr ⟨by rfl, rfl⟩) hHeld ?_
                try simp only [Act.put, List.getElem_toArray, List.getElem_cons_zero, List.getElem_cons_succ, List.setIfInBounds_toArray, List.set_cons_zero, List.set_cons_succ]
                refine wpAnyH_take (i := 13) (v := undef) rfl (by kernel_rfl) (by kernel_rfl) (by kernel_rfl) (fun _ _ _ h => h) (Or.inr ⟨by rfl, rfl⟩) hHeld ?_
                try simp only [Act.put, List.getElem_toArray, List.getElem_cons_zero, List.getElem_cons_succ, List.setIfInBounds_toArray, List.set_cons_zero, List.set_cons_succ]
                refine wpAnyH_take (i := 14) (v := undef) rfl (by kernel_rfl) (by kernel_rfl) (by kernel_rfl) (fun _ _ _ h => h) (Or.inr ⟨by rfl, rfl⟩) hHeld ?_
                try simp only [Act.put, List.getElem_toArray, List.getElem_cons_zero, List.getElem_cons_succ, List.setIfInBounds_toArray, List.set_cons_zero, List.set_cons_succ]
                refine wpAnyH_take (i := 15) (v := .bool true) rfl (by kernel_rfl) (by kernel_rfl) (by kernel_rfl) (fun _ _ _ h => h) (Or.inl ⟨by rfl, fun w hS => by first | (go_simp; done) | (go_simp; with_reducible rfl)⟩) hHeld ?_
                try simp only [Act.put, List.getElem_toArray, List.getElem_cons_zero, List.getElem_cons_succ, List.setIfInBounds_toArray, List.set_cons_zero, List.set_cons_succ]
                refine wpAnyH_done (by kernel_rfl) ?_ _
                have hb7 := hHeld.2
                go_wp2_with fail
                go_ret
                exact ⟨ret_int HBAD.out, hb7⟩
              | true =>
                cases eq with
                | false =>
                  have HBAD : Hid (130 = errC (checkS l rs)) := Lib.hid (rcheck_badr (HRA.out (by rw [HRU.out]; rfl)))
                  go_wp2_with (first | (go_at_call 14; refine (HF.out _ hb2).mono ?_; rintro e w3 ⟨rfl, hb3⟩) | fail)
                  have hq4 : BlkIs (w3.alloc (.cells #[.string fs, .int .i64 fv] 34)) wr.heap.size 50 #[.string s0, .string s1] := BlkIs.alloc ((hb3.block _ hq2.lt).trans hq2) _
                  have hb4 : Below w.heap.size w (w3.alloc (.cells #[.string fs, .int .i64 fv] 34)) := (hb2.trans (hb3.mono hb2.size)).alloc (by have := hb2.size; have := hb3.size; omega) _
                  generalize w3.alloc (.cells #[.string fs, .int .i64 fv] 34) = w4 at *
                  have hq5 : BlkIs w4.drew wr.heap.size 50 #[.string s0, .string s1] := hq4
                  have hb5 : Below w.heap.size w w4.drew := hb4.drew
                  clear hq4 hb4 hq2 hb2 hb3
                  generalize wr.heap.size = b9 at *
                  refine wp_region_held_drew (S := (fun Y => BlkIs Y b9 50 #[.string s0, .string s1] ∧ Below w.heap.size w Y)) (by kernel_rfl) (⟨hq5, hb5⟩) (fun hHeld => ?_)
                  generalize w4.drew = w5 at *
                  refine wpAnyH_take (i := 0) (v := .bool true) rfl (by kernel_rfl) (by kernel_rfl) (by kernel_rfl) (fun _ _ _ h => h) (Or.inl ⟨by rfl, fun w hS => by first | (go_simp; done) | (go_simp; with_reducible rfl)⟩) hHeld ?_
                  try simp only [Act.put, List.getElem_toArray, List.getElem_cons_zero, List.setIfInBounds_toArray, List.set_cons_zero, List.set_cons_succ]
                  refine wpAnyH_take (i := 1) (v := .bool false) rfl (by kernel_rfl) (by kernel_rfl) (by kernel_rfl) (fun _ _ _ h => h) (Or.inl ⟨by rfl, fun w hS => by first | (go_simp; done) | (go_simp; with_reducible rfl)⟩) hHeld ?_
                  try simp only [Act.put, List.getElem_toArray, List.getElem_cons_zero, List.getElem_cons_succ, List.setIfInBounds_toArray, List.set_cons_zero, List.set_cons_succ]
                  refine wpAnyH_take (i := 2) (v := .bool false) rfl (by kernel_rfl) (by kernel_rfl) (by kernel_rfl) (fun _ _ _ h => h) (Or.inl ⟨by rfl, fun w hS => by first | (go_simp; done) | (go_simp; with_reducible rfl)⟩) hHeld ?_
                  try simp only [Act.put, List.getElem_toArray, List.getElem_cons_zero, List.getElem_cons_succ, List.setIfInBounds_toArray, List.set_cons_zero, List.set_cons_succ]
                  refine wpAnyH_take (i := 3) (v := .pointer (some ⟨b9, 0, none⟩)) rfl (by kernel_rfl) (by kernel_rfl) (by kernel_rfl) (fun _ _ _ h => h) (Or.inl ⟨by rfl, fun w hS => by first | (go_simp; done) | (go_simp; with_reducible rfl)⟩) hHeld ?_
                  try simp only [Act.put, List.getElem_toArray, List.getElem_cons_zero, List.getElem_cons_succ, List.setIfInBounds_toArray, List.set_cons_zero, List.set_cons_succ]
                  refine wpAnyH_take (i := 4) (v := .string s0) rfl (by kernel_rfl) (by kernel_rfl) (by kernel_rfl) (fun _ _ _ h => h) (Or.inl ⟨by rfl, fun w hS => by (have x0 := (BlkIs.cell hS.1 0).trans (rfl : _ = some (Value.string s0)); first | (go_simp; done) | (go_simp; with_reducible rfl))⟩) hHeld ?_
                  try simp only [Act.put, List.getElem_toArray, List.getElem_cons_zero, List.getElem_cons_succ, List.setIfInBounds_toArray, List.set_cons_zero, List.set_cons_succ]
                  refine wpAnyH_ready (rs := [5]) (by kernel_rfl) (by simp) ?_
                  refine AllReadyH.cons rfl (fun K hK => ?_) AllReadyH.nil
                  go_simp
                  go_wp2_with ((first | (refine (HD.out _).mono ?_; rintro e w6 ⟨rfl, hb6⟩) | fail))
                  refine hK.out _ _ ?_ (fun hHeld => ?_)
                  · exact ⟨(hb6.block _ hq5.lt).trans hq5, hb5.trans (hb6.mono hb5.size)⟩
                  clear hK K
                  try simp only [Act.put, List.getElem_toArray, List.getElem_cons_zero, List.getElem_cons_succ, List.setIfInBounds_toArray, List.set_cons_zero, List.set_cons_succ]
                  have hq7 := hHeld.1
                  have hb7 := hHeld.2
                  refine wpAnyH_take (i := 6) (v := .bool false) rfl (by kernel_rfl) (by kernel_rfl) (by kernel_rfl) (fun _ _ _ h => h) (Or.inl ⟨by rfl, fun w hS => by first | (go_simp; done) | (go_simp; with_reducible rfl)⟩) hHeld ?_
                  try simp only [Act.put, List.getElem_toArray, List.getElem_cons_zero, List.getElem_cons_succ, List.setIfInBounds_toArray, List.set_cons_zero, List.set_cons_succ]
                  refine wpAnyH_take (i := 7) (v := .bool false) rfl (by kernel_rfl) (by kernel_rfl) (by kernel_rfl) (fun _ _ _ h => h) (Or.inl ⟨by rfl, fun w hS => by first | (go_simp; done) | (go_simp; with_reducible rfl)⟩) hHeld ?_
                  try simp only [Act.put, List.getElem_toArray, List.getElem_cons_zero, List.getElem_cons_succ, List.setIfInBounds_toArray, List.set_cons_zero, List.set_cons_succ]
                  refine wpAnyH_take (i := 8) (v := .bool false) rfl (by kernel_rfl) (by kernel_rfl) (by kernel_rfl) (fun _ _ _ h => h) (Or.inl ⟨by rfl, fun w hS => by first | (go_simp; done) | (go_simp; with_reducible rfl)⟩) hHeld ?_
                  try simp only [Act.put, List.getElem_toArray, List.getElem_cons_zero, List.getElem_cons_succ, List.setIfInBounds_toArray, List.set_cons_zero, List.set_cons_succ]
                  refine wpAnyH_take (i := 9) (v := .pointer (some ⟨b9, 0, none⟩)) rfl (by kernel_rfl) (by kernel_rfl) (by kernel_rfl) (fun _ _ _ h => h) (Or.inl ⟨by rfl, fun w hS => by first | (go_simp; done) | (go_simp; with_reducible rfl)⟩) hHeld ?_
                  try simp only [Act.put, List.getElem_toArray, List.getElem_cons_zero, List.getElem_cons_succ, List.setIfInBounds_toArray, List.set_cons_zero, List.set_cons_succ]
                  refine wpAnyH_take (i := 10) (v := .string s0) rfl (by kernel_rfl) (by kernel_rfl) (by kernel_rfl) (fun _ _ _ h => h) (Or.inl ⟨by rfl, fun w hS => by (have x0 := (BlkIs.cell hS.1 0).trans (rfl : _ = some (Value.string s0)); first | (go_simp; done) | (go_simp; with_reducible rfl))⟩) hHeld ?_
                  try simp only [Act.put, List.getElem_toArray, List.getElem_cons_zero, List.getElem_cons_succ, List.setIfInBounds_toArray, List.set_cons_zero, List.set_cons_succ]
                  refine wpAnyH_take (i := 12) (v := .pointer (some ⟨b9, 0, none⟩)) rfl (by kernel_rfl) (by kernel_rfl) (by kernel_rfl) (fun _ _ _ h => h) (Or.inl ⟨by rfl, fun w hS => by first | (go_simp; done) | (go_simp; with_reducible rfl)⟩) hHeld ?_
                  try simp only [Act.put, List.getElem_toArray, List.getElem_cons_zero, List.getElem_cons_succ, List.setIfInBounds_toArray, List.set_cons_zero, List.set_cons_succ]
                  refine wpAnyH_take (i := 13) (v := .string s0) rfl (by kernel_rfl) (by kernel_rfl) (by kernel_rfl) (fun _ _ _ h => h) (Or.inl ⟨by rfl, fun w hS => by (have x0 := (BlkIs.cell hS.1 0).trans (rfl : _ = some (Value.string s0)); first | (go_simp; done) | (go_simp; with_reducible rfl))⟩) hHeld ?_
                  try simp only [Act.put, List.getElem_toArray, List.getElem_cons_zero, List.getElem_cons_succ, List.setIfInBounds_toArray, List.set_cons_zero, List.set_cons_succ]
                  refine wpAnyH_ready (rs := [11]) (by kernel_rfl) (by simp) ?_
                  refine AllReadyH.cons rfl (fun K hK => ?_) AllReadyH.nil
                  go_simp
                  go_wp2_with ((first | (refine (HL.out _).mono ?_; rintro e w8 ⟨rfl, hb8⟩) | fail))
                  refine hK.out _ _ ?_ (fun hHeld => ?_)
                  · exact ⟨(hb8.block _ hq7.lt).trans hq7, hb7.trans (hb8.mono hb7.size)⟩
                  clear hK K
                  try simp only [Act.put, List.getElem_toArray, List.getElem_cons_zero, List.getElem_cons_succ, List.setIfInBounds_toArray, List.set_cons_zero, List.set_cons_succ]
                  have hb9 := hHeld.2
                  refine wpAnyH_take (i := 14) (v := .bool true) rfl (by kernel_rfl) (by kernel_rfl) (by kernel_rfl) (fun _ _ _ h => h) (Or.inl ⟨by rfl, fun w hS => by (have he := HE.out; first | (go_simp; done) | (go_simp; simp [he]; done))⟩) hHeld ?_
                  try simp only [Act.put, List.getElem_toArray, List.getElem_cons_zero, List.getElem_cons_succ, List.setIfInBounds_toArray, List.set_cons_zero, List.set_cons_succ]
                  refine wpAnyH_take (i := 15) (v := .bool true) rfl (by kernel_rfl) (by kernel_rfl) (by kernel_rfl) (fun _ _ _ h => h) (Or.inl ⟨by rfl, fun w hS => by first | (go_simp; done) | (go_simp; with_reducible rfl)⟩) hHeld ?_
                  try simp only [Act.put, List.getElem_toArray, List.getElem_cons_zero, List.getElem_cons_succ, List.setIfInBounds_toArray, List.set_cons_zero, List.set_cons_succ]
                  refine wpAnyH_done (by kernel_rfl) ?_ _
                  go_wp2_with fail
                  go_ret
                  exact ⟨ret_int HBAD.out, hb9⟩
                | true =>
                  go_wp2_with (first | (go_at_call 14; refine (HF.out _ hb2).mono ?_; rintro e w3 ⟨rfl, hb3⟩) | fail)
                  have hq4 : BlkIs (w3.alloc (.cells #[.string fs, .int .i64 fv] 34)) wr.heap.size 50 #[.string s0, .string s1] := BlkIs.alloc ((hb3.block _ hq2.lt).trans hq2) _
                  have hb4 : Below w.heap.size w (w3.alloc (.cells #[.string fs, .int .i64 fv] 34)) := (hb2.trans (hb3.mono hb2.size)).alloc (by have := hb2.size; have := hb3.size; omega) _
                  generalize w3.alloc (.cells #[.string fs, .int .i64 fv] 34) = w4 at *
                  have hq5 : BlkIs w4.drew wr.heap.size 50 #[.string s0, .string s1] := hq4
                  have hb5 : Below w.heap.size w w4.drew := hb4.drew
                  clear hq4 hb4 hq2 hb2 hb3
                  generalize wr.heap.size = b9 at *
                  refine wp_region_held_drew (S := (fun Y => BlkIs Y b9 50 #[.string s0, .string s1] ∧ Below w.heap.size w Y)) (by kernel_rfl) (⟨hq5, hb5⟩) (fun hHeld => ?_)
                  generalize w4.drew = w5 at *
                  refine wpAnyH_take (i := 0) (v := .bool true) rfl (by kernel_rfl) (by kernel_rfl) (by kernel_rfl) (fun _ _ _ h => h) (Or.inl ⟨by rfl, fun w hS => by first | (go_simp; done) | (go_simp; with_reducible rfl)⟩) hHeld ?_
                  try simp only [Act.put, List.getElem_toArray, List.getElem_cons_zero, List.setIfInBounds_toArray, List.set_cons_zero, List.set_cons_succ]
                  refine wpAnyH_take (i := 1) (v := .bool false) rfl (by kernel_rfl) (by kernel_rfl) (by kernel_rfl) (fun _ _ _ h => h) (Or.inl ⟨by rfl, fun w hS => by first | (go_simp; done) | (go_simp; with_reducible rfl)⟩) hHeld ?_
                  try simp only [Act.put, List.getElem_toArray, List.getElem_cons_zero, List.getElem_cons_succ, List.setIfInBounds_toArray, List.set_cons_zero, List.set_cons_succ]
                  refine wpAnyH_take (i := 2) (v := .bool false) rfl (by kernel_rfl) (by kernel_rfl) (by kernel_rfl) (fun _ _ _ h => h) (Or.inl ⟨by rfl, fun w hS => by first | (go_simp; done) | (go_simp; with_reducible rfl)⟩) hHeld ?_
                  try simp only [Act.put, List.getElem_toArray, List.getElem_cons_zero, List.getElem_cons_succ, List.setIfInBounds_toArray, List.set_cons_zero, List.set_cons_succ]
                  refine wpAnyH_take (i := 3) (v := .pointer (some ⟨b9, 0, none⟩)) rfl (by kernel_rfl) (by kernel_rfl) (by kernel_rfl) (fun _ _ _ h => h) (Or.inl ⟨by rfl, fun w hS => by first | (go_simp; done) | (go_simp; with_reducible rfl)⟩) hHeld ?_
                  try simp only [Act.put, List.getElem_toArray, List.getElem_cons_zero, List.getElem_cons_succ, List.setIfInBounds_toArray, List.set_cons_zero, List.set_cons_succ]
                  refine wpAnyH_take (i := 4) (v := .string s0) rfl (by kernel_rfl) (by kernel_rfl) (by kernel_rfl) (fun _ _ _ h => h) (Or.inl ⟨by rfl, fun w hS => by (have x0 := (BlkIs.cell hS.1 0).trans (rfl : _ = some (Value.string s0)); first | (go_simp; done) | (go_simp; with_reducible rfl))⟩) hHeld ?_
                  try simp only [Act.put, List.getElem_toArray, List.getElem_cons_zero, List.getElem_cons_succ, List.setIfInBounds_toArray, List.set_cons_zero, List.set_cons_succ]
                  refine wpAnyH_ready (rs := [5]) (by kernel_rfl) (by simp) ?_
                  refine AllReadyH.cons rfl (fun K hK => ?_) AllReadyH.nil
                  go_simp
                  go_wp2_with ((first | (refine (HD.out _).mono ?_; rintro e w6 ⟨rfl, hb6⟩) | fail))
                  refine hK.out _ _ ?_ (fun hHeld => ?_)
                  · exact ⟨(hb6.block _ hq5.lt).trans hq5, hb5.trans (hb6.mono hb5.size)⟩
                  clear hK K
                  try simp only [Act.put, List.getElem_toArray, List.getElem_cons_zero, List.getElem_cons_succ, List.setIfInBounds_toArray, List.set_cons_zero, List.set_cons_succ]
                  have hq7 := hHeld.1
                  have hb7 := hHeld.2
                  refine wpAnyH_take (i := 6) (v := .bool false) rfl (by kernel_rfl) (by kernel_rfl) (by kernel_rfl) (fun _ _ _ h => h) (Or.inl ⟨by rfl, fun w hS => by first | (go_simp; done) | (go_simp; with_reducible rfl)⟩) hHeld ?_
                  try simp only [Act.put, List.getElem_toArray, List.getElem_cons_zero, List.getElem_cons_succ, List.setIfInBounds_toArray, List.set_cons_zero, List.set_cons_succ]
                  refine wpAnyH_take (i := 7) (v := .bool false) rfl (by kernel_rfl) (by kernel_rfl) (by kernel_rfl) (fun _ _ _ h => h) (Or.inl ⟨by rfl, fun w hS => by first | (go_simp; done) | (go_simp; with_reducible rfl)⟩) hHeld ?_
                  try simp only [Act.put, List.getElem_toArray, List.getElem_cons_zero, List.getElem_cons_succ, List.setIfInBounds_toArray, List.set_cons_zero, List.set_cons_succ]
                  refine wpAnyH_take (i := 8) (v := .bool false) rfl (by kernel_rfl) (by kernel_rfl) (by kernel_rfl) (fun _ _ _ h => h) (Or.inl ⟨by rfl, fun w hS => by first | (go_simp; done) | (go_simp; with_reducible rfl)⟩) hHeld ?_
                  try simp only [Act.put, List.getElem_toArray, List.getElem_cons_zero, List.getElem_cons_succ, List.setIfInBounds_toArray, List.set_cons_zero, List.set_cons_succ]
                  refine wpAnyH_take (i := 9) (v := .pointer (some ⟨b9, 0, none⟩)) rfl (by kernel_rfl) (by kernel_rfl) (by kernel_rfl) (fun _ _ _ h => h) (Or.inl ⟨by rfl, fun w hS => by first | (go_simp; done) | (go_simp; with_reducible rfl)⟩) hHeld ?_
                  try simp only [Act.put, List.getElem_toArray, List.getElem_cons_zero, List.getElem_cons_succ, List.setIfInBounds_toArray, List.set_cons_zero, List.set_cons_succ]
                  refine wpAnyH_take (i := 10) (v := .string s0) rfl (by kernel_rfl) (by kernel_rfl) (by kernel_rfl) (fun _ _ _ h => h) (Or.inl ⟨by rfl, fun w hS => by (have x0 := (BlkIs.cell hS.1 0).trans (rfl : _ = some (Value.string s0)); first | (go_simp; done) | (go_simp; with_reducible rfl))⟩) hHeld ?_
                  try simp only [Act.put, List.getElem_toArray, List.getElem_cons_zero, List.getElem_cons_succ, List.setIfInBounds_toArray, List.set_cons_zero, List.set_cons_succ]
                  refine wpAnyH_take (i := 12) (v := .pointer (some ⟨b9, 0, none⟩)) rfl (by kernel_rfl) (by kernel_rfl) (by kernel_rfl) (fun _ _ _ h => h) (Or.inl ⟨by rfl, fun w hS => by first | (go_simp; done) | (go_simp; with_reducible rfl)⟩) hHeld ?_
                  try simp only [Act.put, List.getElem_toArray, List.getElem_cons_zero, List.getElem_cons_succ, List.setIfInBounds_toArray, List.set_cons_zero, List.set_cons_succ]
                  refine wpAnyH_take (i := 13) (v := .string s0) rfl (by kernel_rfl) (by kernel_rfl) (by kernel_rfl) (fun _ _ _ h => h) (Or.inl ⟨by rfl, fun w hS => by (have x0 := (BlkIs.cell hS.1 0).trans (rfl : _ = some (Value.string s0)); first | (go_simp; done) | (go_simp; with_reducible rfl))⟩) hHeld ?_
                  try simp only [Act.put, List.getElem_toArray, List.getElem_cons_zero, List.getElem_cons_succ, List.setIfInBounds_toArray, List.set_cons_zero, List.set_cons_succ]
                  refine wpAnyH_ready (rs := [11]) (by kernel_rfl) (by simp) ?_
                  refine AllReadyH.cons rfl (fun K hK => ?_) AllReadyH.nil
                  go_simp
                  go_wp2_with ((first | (refine (HL.out _).mono ?_; rintro e w8 ⟨rfl, hb8⟩) | fail))
                  refine hK.out _ _ ?_ (fun hHeld => ?_)
                  · exact ⟨(hb8.block _ hq7.lt).trans hq7, hb7.trans (hb8.mono hb7.size)⟩
                  clear hK K
                  try simp only [Act.put, List.getElem_toArray, List.getElem_cons_zero, List.getElem_cons_succ, List.setIfInBounds_toArray, List.set_cons_zero, List.set_cons_succ]
                  have hb9 := hHeld.2
                  refine wpAnyH_take (i := 14) (v := .bool false) rfl (by kernel_rfl) (by kernel_rfl) (by kernel_rfl) (fun _ _ _ h => h) (Or.inl ⟨by rfl, fun w hS => by (have he := HE.out; first | (go_simp; done) | (go_simp; simp [he]; done))⟩) hHeld ?_
                  try simp only [Act.put, List.getElem_toArray, List.getElem_cons_zero, List.getElem_cons_succ, List.setIfInBounds_toArray, List.set_cons_zero, List.set_cons_succ]
                  refine wpAnyH_take (i := 15) (v := .bool false) rfl (by kernel_rfl) (by kernel_rfl) (by kernel_rfl) (fun _ _ _ h => h) (Or.inl ⟨by rfl, fun w hS => by first | (go_simp; done) | (go_simp; with_reducible rfl)⟩) hHeld ?_
                  try simp only [Act.put, List.getElem_toArray, List.getElem_cons_zero, List.getElem_cons_succ, List.setIfInBounds_toArray, List.set_cons_zero, List.set_cons_succ]
                  refine wpAnyH_done (by kernel_rfl) ?_ _
                  go_wp2_with fail
                  go_roundw
                  case rel => exact ⟨j + 1, by omega, by go_num, Lib.hid ⟨HRN.out (by rw [HRU.out]; rfl), hb9⟩⟩
                  case measure => first | (simp [intOf]; done) | (simp [intOf]; omega)
          · have HG : Hid (0 = errC (checkS l rs)) := Lib.hid (rcheck_good (by rw [HN.out.1, HN.out.2]; omega) HCL.out (rules_good fun i hi => HR.out.1 i (by rw [HN.out.2] at hi; omega)))
            have HB := Lib.hid HR.out.2
            clear HR
            go_wp2_with fail
            go_ret
            exact ⟨ret_int HG.out, HB.out⟩
  · have HBAD : Hid (130 = errC (checkS l rs)) := Lib.hid (rcheck_size (by rw [HN.out.1, HN.out.2]; exact hs))
    have hcs : n = 0 ∨ (100 < n) ∨ (1 ≤ n ∧ n ≤ 100 ∧ 100 < n2) := by omega
    clear hs
    rcases hcs with rfl | hs | ⟨h1, h2, hs⟩
    · go_wp2_with fail
      go_ret
      exact ⟨ret_int HBAD.out, Below.refl _ _⟩
    · have hl2 : (100 : Int) < n := by omega
      have hl1 : ¬ (n : Int) < 1 := by omega
      go_wp2_with fail
      go_ret
      exact ⟨ret_int HBAD.out, Below.refl _ _⟩
    · have hl1 : ¬ (n : Int) < 1 := by omega
      have hl2 : ¬ (100 : Int) < n := by omega
      have hl3 : (100 : Int) < n2 := by omega
      go_wp2_with fail
      go_ret
      exact ⟨ret_int HBAD.out, Below.refl _ _⟩
end Rt
end Go.Proofs.Ytokaifnpmhkkpaa
