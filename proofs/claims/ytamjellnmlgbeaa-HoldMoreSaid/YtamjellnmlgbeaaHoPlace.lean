/- hold.Place. Conditions: as stated at each. -/
import Derived.Test.YtamjellnmlgbeaaHoDel
import Derived.Test.YtamjellnmlgbeaaHoMay
namespace Go.Proofs.Ytamjellnmlgbeaa
set_option maxRecDepth 100000
namespace Ho
open Go.RowKit Go Go.Proofs.Ytamjellnmlgbeaa.Pa Go.Proofs.Ytamjellnmlgbeaa.Rt
theorem place_1 {l : List R} {h : R} (c : holdS h = false) : placeE l h = 140 ∧ placeS l h = [] := by
  have : placeE l h = 140 := by unfold placeE; rw [c]; rfl
  exact ⟨this, by unfold placeS; rw [this]; rfl⟩
theorem place_2 {l : List R} {h : R} (c : hasN l h.1 = true) : placeE l h = 140 ∧ placeS l h = [] := by
  have : placeE l h = 140 := by unfold placeE; rw [c, Bool.not_true, Bool.and_false]; rfl
  exact ⟨this, by unfold placeS; rw [this]; rfl⟩
theorem place_3 {l : List R} {h : R} (c1 : holdS h = true) (c : hasN l h.1 = false) (c2 : 100 ≤ l.length) : placeE l h = 2 ∧ placeS l h = [] := by
  have : placeE l h = 2 := by unfold placeE; rw [c1, c, if_pos c2]; rfl
  exact ⟨this, by unfold placeS; rw [this]; rfl⟩
theorem place_4 {l : List R} {h : R} (c1 : holdS h = true) (c : hasN l h.1 = false) (c2 : ¬ 100 ≤ l.length) : placeE l h = 0 ∧ placeS l h = l ++ [h] := by
  have : placeE l h = 0 := by unfold placeE; rw [c1, c, if_neg c2]; rfl
  exact ⟨this, by unfold placeS; rw [this]; rfl⟩
/-- what Place and Lift answer: holds of the call's own, the error's number. -/
def OutE (w : World) (t : List R) (z : Int) (e : Ending) (w' : World) : Prop := ∃ v, e = .returned (.tuple #[v, .int .i64 z]) ∧ OwnH w' w.heap.size v t ∧ Below w.heap.size w w'
set_option maxHeartbeats 3200000 in
theorem place_any {w0 : World} {B : Nat} {A : Option Addr} {l : List R} {h : R} (hp : Prs w0 B A (cvR l)) (hB : B ≤ w0.heap.size) (n c : Nat) (hn : l.length = n) (hn1 : n ≤ 1000) (hok : OkH l) (h1 : h.1.length ≤ 140737488355328) (h2 : h.2.length ≤ 140737488355328) :
    Calls Try.prog 9 #[.slice A n c, .agg #[.string (str h.1), .string (str h.2)]] w0 (OutE w0 (placeS l h) (placeE l h)) := by
  have HMY := Lib.hid (fun X => may_any h X h2)
  have HFD : Hid (∀ X, Below w0.heap.size w0 X → Calls Try.prog 18 #[.slice A n c, .string (str h.1)] X (FindP X l h.1)) := Lib.hid fun X hX => find_any h.1 (hp.below (hX.mono hB)) (Nat.le_trans hB hX.size) n c hn hn1
  have HOF : Hid (∀ X, Below w0.heap.size w0 X → Calls Try.prog 19 #[.slice A n c, .func (.func 20) #[] #[]] X (OutH X l)) := Lib.hid fun X hX => of_own (hp.below (hX.mono hB)) (Nat.le_trans hB hX.size) n c hn hn1 hok
  have HOW := Lib.hid (fun X => own_any h X h1 h2)
  have HBX := Lib.hid (below_b w0 (.cells #[.string (str h.1), .string (str h.2)] 24))
  have HN := BlkIs.new w0 24 #[.string (str h.1), .string (str h.2)]
  have HP1 := Lib.hid (place_1 (l := l) (h := h))
  have HP2 := Lib.hid (place_2 (l := l) (h := h))
  have HP3 := Lib.hid (place_3 (l := l) (h := h))
  have HP4 := Lib.hid (place_4 (l := l) (h := h))
  have HL := Lib.hid hn
  have HONE : Hid (∀ X : World, Prs (X.alloc (.cells #[.string (str h.1), .string (str h.2)] 24)) (X.heap.size + 1) (some ⟨X.heap.size, 0, none⟩) (cvR [h])) := Lib.hid fun X => prs_one X h
  clear hp hn hok h1 h2
  generalize str h.1 = s0 at *
  generalize str h.2 = s1 at *
  have x0 := (HN.cell 0).trans (rfl : _ = some (Value.string s0))
  have x1 := (HN.cell 1).trans (rfl : _ = some (Value.string s1))
  have hNl := HN.lt
  cases c1 : holdS h with
  | false =>
    rw [c1] at HMY
    obtain ⟨e1, e2⟩ := HP1.out c1
    rw [e1, e2]
    clear c1 e1 e2 HP1 HP2 HP3 HP4
    go_enter Try.func9, Try.ntmps9
    go_wp2_with (first | (go_at_call 17; refine (HMY.out _).mono ?_; rintro e w3 ⟨rfl, hb3⟩; have HB3 := Lib.hid (HBX.out.trans (hb3.mono HBX.out.size)); clear hb3) | fail)
    refine bodyPost_ret (results_tmp2 rfl _ _ _) rfl ?_
    exact ⟨_, rfl, OwnH.nil _ _, HB3.out⟩
  | true =>
    rw [c1] at HMY
    go_enter Try.func9, Try.ntmps9
    go_wp2_with fail
    have HQ := Lib.hid HN
    have HBB := HBX.out
    clear HN x0 x1
    generalize w0.alloc (.cells #[.string s0, .string s1] 24) = w1 at *
    refine (HMY.out _).mono ?_
    rintro e w3 ⟨rfl, hb3⟩
    have HB3 := Lib.hid (HBB.trans (hb3.mono HBB.size))
    have HQ3 : Hid (BlkIs w3 w0.heap.size 24 #[.string s0, .string s1]) := Lib.hid ((hb3.block _ hNl).trans HQ.out)
    have x0 := (BlkIs.cell HQ3.out 0).trans (rfl : _ = some (Value.string s0))
    clear hb3 HBX HBB HQ HMY
    go_wp2_with fail
    refine (HFD.out _ HB3.out).mono ?_
    rintro e w4 ⟨z, rfl, hz, hb4⟩
    have HB4 := Lib.hid (HB3.out.trans (hb4.mono HB3.out.size))
    have HQ4 : Hid (BlkIs w4 w0.heap.size 24 #[.string s0, .string s1]) := Lib.hid ((hb4.block _ HQ3.out.lt).trans HQ3.out)
    clear hb4 x0 HFD HB3 HQ3
    rcases hz with ⟨rfl, hz⟩ | ⟨k, rfl, hk, hz, _⟩
    · by_cases c2 : 100 ≤ l.length
      · obtain ⟨e1, e2⟩ := HP3.out c1 hz c2
        have HE := Lib.hid (And.intro e1 e2)
        rw [HL.out] at c2
        clear c1 e1 e2 HP1 HP2 HP3 HP4 hz
        go_wp2_with fail
        refine bodyPost_ret (results_tmp2 rfl _ _ _) rfl ?_
        exact ⟨.slice none 0 0, by rw [HE.out.1]; rfl, by rw [HE.out.2]; exact OwnH.nil _ _, HB4.out⟩
      · obtain ⟨e1, e2⟩ := HP4.out c1 hz c2
        have HE := Lib.hid (And.intro e1 e2)
        rw [HL.out] at c2
        clear c1 e1 e2 HP1 HP2 HP3 HP4 hz
        go_wp2_with fail
        have hq : BlkIs w4.drew w0.heap.size 24 #[.string s0, .string s1] := HQ4.out
        have hb : Below w0.heap.size w0 w4.drew := HB4.out.drew
        clear HQ4 HB4
        refine wp_region_held_drew (S := (fun Y => BlkIs Y w0.heap.size 24 #[.string s0, .string s1] ∧ Below w0.heap.size w0 Y)) (by kernel_rfl) (⟨hq, hb⟩) (fun hHeld => ?_)
        generalize w4.drew = w5 at *
        refine wpAnyH_take (i := 0) (v := .slice A n c) rfl (by kernel_rfl) (by kernel_rfl) (by kernel_rfl) (fun _ _ _ h => h) (Or.inl ⟨by rfl, fun w hS => by first | (go_simp; done) | (go_simp; with_reducible rfl)⟩) hHeld ?_
        try simp only [Act.put, List.getElem_toArray, List.getElem_cons_zero, List.setIfInBounds_toArray, List.set_cons_zero, List.set_cons_succ]
        refine wpAnyH_take (i := 2) (v := .agg #[.string s0, .string s1]) rfl (by kernel_rfl) (by kernel_rfl) (by kernel_rfl) (fun _ _ _ h => h) (Or.inl ⟨by rfl, fun w hS => by (have x0 := (BlkIs.cell hS.1 0).trans (rfl : _ = some (Value.string s0)); have x1 := (BlkIs.cell hS.1 1).trans (rfl : _ = some (Value.string s1)); first | (go_simp; done) | (go_simp; with_reducible rfl))⟩) hHeld ?_
        try simp only [Act.put, List.getElem_toArray, List.getElem_cons_zero, List.getElem_cons_succ, List.setIfInBounds_toArray, List.set_cons_zero, List.set_cons_succ]
        refine wpAnyH_ready (rs := [1]) (by kernel_rfl) (by simp) ?_
        refine AllReadyH.cons rfl (fun K hK => ?_) AllReadyH.nil
        go_simp
        go_wp2_with ((first | (refine (HOF.out _ hb).mono ?_; rintro e w6 ⟨v6, rfl, ho6, hb6⟩) | fail))
        refine hK.out _ _ ?_ (fun hHeld => ?_)
        · exact ⟨(hb6.block _ hq.lt).trans hq, hb.trans (hb6.mono hb.size)⟩
        clear hK K
        try simp only [Act.put, List.getElem_toArray, List.getElem_cons_zero, List.getElem_cons_succ, List.setIfInBounds_toArray, List.set_cons_zero, List.set_cons_succ]
        have hq6 : BlkIs w6 _ _ _ := (hb6.block _ hq.lt).trans hq
        have hb06 := hb.trans (hb6.mono hb.size)
        have HO6 : Hid (OwnH w6 w5.heap.size v6 l) := Lib.hid ho6
        have hlt5 : w0.heap.size < w5.heap.size := hq.lt
        have hs56 := hb6.size
        clear hq hb hb6 ho6 HOF
        refine wpAnyH_ready (rs := [3]) (by kernel_rfl) (by simp) ?_
        refine AllReadyH.cons rfl (fun K hK => ?_) AllReadyH.nil
        go_simp
        go_wp2_with ((first | (refine (HOW.out _).mono ?_; rintro e w7 ⟨rfl, hb7⟩) | fail))
        refine hK.out _ _ ?_ (fun hHeld => ?_)
        · exact ⟨(hb7.block _ hq6.lt).trans hq6, hb06.trans (hb7.mono hb06.size)⟩
        clear hK K
        try simp only [Act.put, List.getElem_toArray, List.getElem_cons_zero, List.getElem_cons_succ, List.setIfInBounds_toArray, List.set_cons_zero, List.set_cons_succ]
        have hs67 := hb7.size
        have hq7 : BlkIs w7 _ _ _ := (hb7.block _ hq6.lt).trans hq6
        have hb07 := hb06.trans (hb7.mono hb06.size)
        have HO7 : Hid (OwnH w7 w5.heap.size v6 l) := Lib.hid (HO6.out.below hb7)
        clear hq6 hb06 hb7 HO6 HOW
        have HB8 := Lib.hid (And.intro (hq7.alloc (.cells #[.string s0, .string s1] 24)) (hb07.alloc hb07.size (.cells #[.string s0, .string s1] 24)))
        refine wpAnyH_ready (rs := [4]) (by kernel_rfl) (by simp) ?_
        refine AllReadyH.cons rfl (fun K hK => ?_) AllReadyH.nil
        go_simp
        refine hK.out _ _ ?_ (fun hHeld => ?_)
        · exact HB8.out
        clear hK K
        try simp only [Act.put, List.getElem_toArray, List.getElem_cons_zero, List.getElem_cons_succ, List.setIfInBounds_toArray, List.set_cons_zero, List.set_cons_succ]
        have HO8 : Hid (OwnH (w7.alloc (.cells #[.string s0, .string s1] 24)) w5.heap.size v6 l) := Lib.hid (HO7.out.below (below_b w7 _))
        have HLO := Lib.hid (fun k hk => (HO8.out.low k hk).1)
        have hs7 := hb07.size
        refine wpAnyH_ready (rs := [5]) (by kernel_rfl) (by simp) ?_
        refine AllReadyH.cons rfl (fun K hK => ?_) AllReadyH.nil
        refine stepH (.tmp 20) (.tmp 23) rfl rfl (N := w5.heap.size) (l := l) (m := [h]) rfl HO8.out (B := w7.heap.size + 1) (n := 1) (c := 1) rfl (HONE.out w7) rfl (by rw [HL.out]; omega) (by simp; omega) ?_; intro v9 w9 ho9 hg9
        refine hK.out _ _ ?_ (fun hHeld => ?_)
        · exact ⟨HB8.out.1.grown hg9 (fun e => by have := HLO.out _ e; omega), HB8.out.2.grown hg9 HB8.out.2.size (fun k hk => by have := HLO.out k hk; omega)⟩
        clear hK K
        try simp only [Act.put, List.getElem_toArray, List.getElem_cons_zero, List.getElem_cons_succ, List.setIfInBounds_toArray, List.set_cons_zero, List.set_cons_succ]
        have HF : Hid (OwnH w9 w0.heap.size v9 (l ++ [h]) ∧ Below w0.heap.size w0 w9) := Lib.hid ⟨ho9.more (by omega), HB8.out.2.grown hg9 HB8.out.2.size (fun k hk => by have := HLO.out k hk; omega)⟩
        refine wpAnyH_take (i := 6) (v := v9) rfl (by kernel_rfl) (by kernel_rfl) (by kernel_rfl) (fun _ _ _ h => h) (Or.inl ⟨by rfl, fun w hS => by first | (go_simp; done) | (go_simp; with_reducible rfl)⟩) hHeld ?_
        try simp only [Act.put, List.getElem_toArray, List.getElem_cons_zero, List.getElem_cons_succ, List.setIfInBounds_toArray, List.set_cons_zero, List.set_cons_succ]
        refine wpAnyH_take (i := 7) (v := .int .i64 0) rfl (by kernel_rfl) (by kernel_rfl) (by kernel_rfl) (fun _ _ _ h => h) (Or.inl ⟨by rfl, fun w hS => by first | (go_simp; done) | (go_simp; with_reducible rfl)⟩) hHeld ?_
        try simp only [Act.put, List.getElem_toArray, List.getElem_cons_zero, List.getElem_cons_succ, List.setIfInBounds_toArray, List.set_cons_zero, List.set_cons_succ]
        refine wpAnyH_done (by kernel_rfl) ?_ _
        go_wp2_with fail
        refine bodyPost_ret (results_tmp2 rfl _ _ _) rfl ?_
        exact ⟨v9, by rw [HE.out.1]; rfl, by rw [HE.out.2]; exact HF.out.1, HF.out.2⟩
    · obtain ⟨e1, e2⟩ := HP2.out hz
      have HE := Lib.hid (And.intro e1 e2)
      have hk0 : (0 : Int) ≤ k := by omega
      clear c1 e1 e2 HP1 HP2 HP3 HP4 hz
      go_wp2_with fail
      refine bodyPost_ret (results_tmp2 rfl _ _ _) rfl ?_
      exact ⟨.slice none 0 0, by rw [HE.out.1]; rfl, by rw [HE.out.2]; exact OwnH.nil _ _, HB4.out⟩
end Ho
end Go.Proofs.Ytamjellnmlgbeaa
