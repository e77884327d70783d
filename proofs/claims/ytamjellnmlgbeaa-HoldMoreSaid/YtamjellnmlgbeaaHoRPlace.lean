/- The document's Place, Lift. Conditions: as stated at each. -/
import Derived.Test.YtamjellnmlgbeaaHoRef
namespace Go.Proofs.Ytamjellnmlgbeaa
set_option maxRecDepth 100000
namespace Ho
open Go.RowKit Go Go.Proofs.Ytamjellnmlgbeaa.Pa Go.Proofs.Ytamjellnmlgbeaa.Rt
set_option maxHeartbeats 3200000 in
theorem rplace_any {w0 : World} {B : Nat} {A : Option Addr} {l : List R} {h : R} (hp : Prs w0 B A (cvR l)) (hB : B ≤ w0.heap.size) (n c : Nat) (hn : l.length = n) (hn1 : n ≤ 1000) (h1 : h.1.length ≤ 140737488355328) (h2 : h.2.length ≤ 140737488355328) :
    Calls Try.prog 10 #[.slice A n c, .agg #[.string (str h.1), .string (str h.2)]] w0 (OutE w0 (placeS l h) (placeE l h)) := by
  have HMY := Lib.hid (fun X => rhold_any h X h1 h2)
  have HEL := Lib.hid (holds_of hp)
  have HBX := Lib.hid (below_b w0 (.cells #[.string (str h.1), .string (str h.2)] 24))
  have HN := BlkIs.new w0 24 #[.string (str h.1), .string (str h.2)]
  have HP1 := Lib.hid (place_1 (l := l) (h := h))
  have HP2 := Lib.hid (place_2 (l := l) (h := h))
  have HP3 := Lib.hid (place_3 (l := l) (h := h))
  have HP4 := Lib.hid (place_4 (l := l) (h := h))
  have HL := Lib.hid hn
  have HPR : Hid (∀ X, Below w0.heap.size w0 X → Prs X B A (cvR l)) := Lib.hid fun X hX => hp.below (hX.mono hB)
  have HONE : Hid (∀ X : World, Prs (X.alloc (.cells #[.string (str h.1), .string (str h.2)] 24)) (X.heap.size + 1) (some ⟨X.heap.size, 0, none⟩) (cvR [h])) := Lib.hid fun X => prs_one X h
  have HBQ := Lib.hid (fun k => beq_st (a := (l.getD k r0).1) (b := h.1))
  clear hp hn h1 h2
  generalize str h.1 = s0 at *
  generalize str h.2 = s1 at *
  have x0 := (HN.cell 0).trans (rfl : _ = some (Value.string s0))
  have x1 := (HN.cell 1).trans (rfl : _ = some (Value.string s1))
  have hNl := HN.lt
  cases c1 : holdS h with
  | false =>
    rw [c1] at HMY
    obtain ⟨e1, e2⟩ := HP1.out c1
    rw [e1, e2]
    clear c1 e1 e2 HP1 HP2 HP3 HP4
    go_enter Try.func10, Try.ntmps10
    go_wp2_with (first | (go_at_call 21; refine (HMY.out _).mono ?_; rintro e w3 ⟨rfl, hb3⟩; have HB3 := Lib.hid (HBX.out.trans (hb3.mono HBX.out.size)); clear hb3) | fail)
    refine bodyPost_ret (results_tmp2 rfl _ _ _) rfl ?_
    exact ⟨_, rfl, OwnH.nil _ _, HB3.out⟩
  | true =>
    rw [c1] at HMY
    go_enter Try.func10, Try.ntmps10
    go_wp2_with fail
    have HQ := Lib.hid HN
    have HBB := HBX.out
    clear HN x0 x1
    generalize w0.alloc (.cells #[.string s0, .string s1] 24) = w1 at *
    refine (HMY.out _).mono ?_
    rintro e w3 ⟨rfl, hb3⟩
    have hb03 := HBB.trans (hb3.mono HBB.size)
    have hq3 : BlkIs w3 w0.heap.size 24 #[.string s0, .string s1] := (hb3.block _ hNl).trans HQ.out
    clear hb3 HBX HBB HQ HMY
    go_wp2_with fail
    go_loopw [7, 13] (fun _ i wr => ∃ k : Nat, k ≤ n ∧ i = .int .i64 k ∧ (∀ j, j < k → ((l.getD j r0).1 == h.1) = false) ∧ Below w0.heap.size w0 wr ∧ BlkIs wr w0.heap.size 24 #[.string s0, .string s1]) (fun _ i _ => n - (intOf i).toNat)
    case atStart => exact ⟨0, Nat.zero_le _, rfl, fun j hj => absurd hj (Nat.not_lt_zero _), hb03, hq3⟩
    case round =>
      obtain ⟨k, hk, rfl, hno, hbel, hblk⟩ := hrel
      clear hb03 hq3
      by_cases hlt : k < n
      · obtain ⟨g, o, rfl, hg, hall⟩ := HEL.out k (by rw [HL.out]; exact hlt)
        obtain ⟨y0, y1⟩ := hall wr (hbel.mono hB)
        have z0 := (hblk.cell 0).trans (rfl : _ = some (Value.string s0))
        have he := HBQ.out k
        have hbl := hblk.lt
        have HB := Lib.hid (And.intro hbel hblk)
        cases hq : ((l.getD k r0).1 == h.1) with
        | true =>
          obtain ⟨e1, e2⟩ := HP2.out (has_hit (by rw [HL.out]; exact hlt) hq)
          have HE := Lib.hid (And.intro e1 e2)
          rw [hq] at he
          clear e1 e2 HP1 HP2 HP3 HP4 hq hno hall hbel hblk HEL HBQ
          generalize str (l.getD k r0).1 = t0 at *
          generalize str (l.getD k r0).2 = t1 at *
          go_wp2_with fail
          refine bodyPost_ret (results_tmp2 rfl _ _ _) rfl ?_
          exact ⟨.slice none 0 0, by rw [HE.out.1]; rfl, by rw [HE.out.2]; exact OwnH.nil _ _, HB.out.1.trans ((below_b wr _).mono HB.out.1.size)⟩
        | false =>
          have HNO : Hid (∀ j, j < k + 1 → ((l.getD j r0).1 == h.1) = false) := Lib.hid fun j hj => by
            rcases Nat.lt_or_ge j k with h | h
            · exact hno j h
            · obtain rfl : j = k := by omega
              exact hq
          rw [hq] at he
          clear hq hno hall hbel hblk HEL HBQ
          generalize str (l.getD k r0).1 = t0 at *
          generalize str (l.getD k r0).2 = t1 at *
          go_wp2_with fail
          go_roundw
          case rel => exact ⟨k + 1, by omega, by go_num, HNO.out, HB.out.1.trans ((below_b wr _).mono HB.out.1.size), HB.out.2.alloc _⟩
          case measure => simp [intOf]; omega
      · have hkn : k = n := by omega
        have hz := has_miss (l := l) (nm := h.1) (fun j hj => hno j (by rw [hkn, ← HL.out]; exact hj))
        have HB4 := Lib.hid hbel
        have HQ4 := Lib.hid hblk
        clear hno hbel hblk HEL HBQ
        by_cases c2 : 100 ≤ l.length
        · obtain ⟨e1, e2⟩ := HP3.out c1 hz c2
          have HE := Lib.hid (And.intro e1 e2)
          rw [HL.out] at c2
          clear c1 e1 e2 HP1 HP2 HP3 HP4 hz
          go_wp2_with fail
          refine bodyPost_ret (results_tmp2 rfl _ _ _) rfl ?_
          exact ⟨.slice none 0 0, by rw [HE.out.1]; rfl, by rw [HE.out.2]; exact OwnH.nil _ _, HB4.out⟩
        · obtain ⟨e1, e2⟩ := HP4.out c1 hz c2
          have HE := Lib.hid (And.intro e1 e2)
          rw [HL.out] at c2
          clear c1 e1 e2 HP1 HP2 HP3 HP4 hz
          go_wp2_with fail
          have hq : BlkIs wr.drew w0.heap.size 24 #[.string s0, .string s1] := HQ4.out
          have hb : Below w0.heap.size w0 wr.drew := HB4.out.drew
          clear HQ4 HB4
          refine wp_region_held_drew (S := (fun Y => BlkIs Y w0.heap.size 24 #[.string s0, .string s1] ∧ Below w0.heap.size w0 Y)) (by kernel_rfl) (⟨hq, hb⟩) (fun hHeld => ?_)
          generalize wr.drew = w5 at *
          have hlt5 : w0.heap.size < w5.heap.size := hq.lt
          have HPW := Lib.hid (HPR.out _ hb)
          refine wpAnyH_take (i := 0) (v := .slice A n c) rfl (by kernel_rfl) (by kernel_rfl) (by kernel_rfl) (fun _ _ _ h => h) (Or.inl ⟨by rfl, fun w hS => by first | (go_simp; done) | (go_simp; with_reducible rfl)⟩) hHeld ?_
          try simp only [Act.put, List.getElem_toArray, List.getElem_cons_zero, List.setIfInBounds_toArray, List.set_cons_zero, List.set_cons_succ]
          refine wpAnyH_take (i := 2) (v := .agg #[.string s0, .string s1]) rfl (by kernel_rfl) (by kernel_rfl) (by kernel_rfl) (fun _ _ _ h => h) (Or.inl ⟨by rfl, fun w hS => by (have x0 := (BlkIs.cell hS.1 0).trans (rfl : _ = some (Value.string s0)); have x1 := (BlkIs.cell hS.1 1).trans (rfl : _ = some (Value.string s1)); first | (go_simp; done) | (go_simp; with_reducible rfl))⟩) hHeld ?_
          try simp only [Act.put, List.getElem_toArray, List.getElem_cons_zero, List.getElem_cons_succ, List.setIfInBounds_toArray, List.set_cons_zero, List.set_cons_succ]
          refine wpAnyH_ready (rs := [1, 3]) (by kernel_rfl) (by simp) ?_
          refine AllReadyH.cons rfl (fun K hK => ?_) (AllReadyH.cons rfl (fun K hK => ?_) AllReadyH.nil)
          refine stepH (.const (.slice none 0 0)) (.tmp 26) rfl rfl (N := w5.heap.size) (v := .slice none 0 0) (l := []) (m := l) rfl (OwnH.nil _ _) (B := B) (n := n) (c := c) rfl HPW.out HL.out (by simp; omega) (Nat.le_refl _) ?_; intro v6 w6 ho6 hg6
          refine hK.out _ _ ?_ (fun hHeld => ?_)
          · exact ⟨hq.grown hg6 (by simp [Value.ownBlock]), hb.grown hg6 hb.size (by intro k hk; simp [Value.ownBlock] at hk)⟩
          clear hK K
          try simp only [Act.put, List.getElem_toArray, List.getElem_cons_zero, List.getElem_cons_succ, List.setIfInBounds_toArray, List.set_cons_zero, List.set_cons_succ]
          have HO6 := Lib.hid ho6
          have hq6 := hq.grown hg6 (by simp [Value.ownBlock])
          have hb6 := hb.grown hg6 hb.size (by intro k hk; simp [Value.ownBlock] at hk)
          have hs6 := hg6.size
          have HB7 := Lib.hid (And.intro (hq6.alloc (.cells #[.string s0, .string s1] 24)) (hb6.alloc hb6.size (.cells #[.string s0, .string s1] 24)))
          clear hHeld ho6 hg6 hq hb
          have hHeld := And.intro hq6 hb6
          refine wpAnyH_ready (rs := [3]) (by kernel_rfl) (by simp) ?_
          refine AllReadyH.cons rfl (fun K hK => ?_) AllReadyH.nil
          go_simp
          refine hK.out _ _ ?_ (fun hHeld => ?_)
          · exact HB7.out
          clear hK K
          try simp only [Act.put, List.getElem_toArray, List.getElem_cons_zero, List.getElem_cons_succ, List.setIfInBounds_toArray, List.set_cons_zero, List.set_cons_succ]
          have HO7 := Lib.hid (HO6.out.below (below_b w6 (.cells #[.string s0, .string s1] 24)))
          have HP7 := HONE.out w6
          have hs7 : w5.heap.size ≤ (w6.alloc (.cells #[.string s0, .string s1] 24)).heap.size := by simp; omega
          have hP7 : w6.heap.size + 1 ≤ (w6.alloc (.cells #[.string s0, .string s1] 24)).heap.size := by simp
          replace HP7 := Lib.hid (HP7.more hP7)
          clear hP7 hq6 hb6 hs6 HO6
          generalize w6.alloc (.cells #[.string s0, .string s1] 24) = X at *
          generalize w6.heap.size = b7 at *
          rotate_left
          have hq6 := hq.alloc (.cells #[.string s0, .string s1] 24)
          have hb6 := hb.alloc hb.size (.cells #[.string s0, .string s1] 24)
          have HP6 := HONE.out w5
          have HPW6 := Lib.hid (HPR.out _ hb6)
          go_simp
          refine hK.out _ _ ?_ (fun hHeld => ?_)
          · exact ⟨hq6, hb6⟩
          clear hK K
          try simp only [Act.put, List.getElem_toArray, List.getElem_cons_zero, List.getElem_cons_succ, List.setIfInBounds_toArray, List.set_cons_zero, List.set_cons_succ]
          have hs6 : w5.heap.size ≤ (w5.alloc (.cells #[.string s0, .string s1] 24)).heap.size := by simp
          have hP6 : w5.heap.size + 1 ≤ (w5.alloc (.cells #[.string s0, .string s1] 24)).heap.size := by simp
          replace HP6 := Lib.hid (HP6.more hP6)
          clear hP6 hq hb
          generalize w5.alloc (.cells #[.string s0, .string s1] 24) = w6 at *
          generalize hb7 : w5.heap.size = b7 at *
          refine wpAnyH_ready (rs := [1]) (by kernel_rfl) (by simp) ?_
          refine AllReadyH.cons rfl (fun K hK => ?_) AllReadyH.nil
          refine stepH (.const (.slice none 0 0)) (.tmp 26) rfl rfl (N := b7) (v := .slice none 0 0) (l := []) (m := l) rfl (OwnH.nil _ _) (B := B) (n := n) (c := c) rfl HPW6.out HL.out (by simp; omega) hs6 ?_; intro v6 X ho6 hg6
          refine hK.out _ _ ?_ (fun hHeld => ?_)
          · exact ⟨hq6.grown hg6 (by simp [Value.ownBlock]), hb6.grown hg6 hb6.size (by intro k hk; simp [Value.ownBlock] at hk)⟩
          clear hK K
          try simp only [Act.put, List.getElem_toArray, List.getElem_cons_zero, List.getElem_cons_succ, List.setIfInBounds_toArray, List.set_cons_zero, List.set_cons_succ]
          have HO7 := Lib.hid ho6
          have HB7 := Lib.hid (And.intro (hq6.grown hg6 (by simp [Value.ownBlock])) (hb6.grown hg6 hb6.size (by intro k hk; simp [Value.ownBlock] at hk)))
          have hbx : Below w6.heap.size w6 X := (Below.refl _ w6).grown hg6 (Nat.le_refl _) (by intro k hk; simp [Value.ownBlock] at hk)
          have HP7 := Lib.hid ((HP6.out.below hbx).more hbx.size)
          have hs7 : b7 ≤ X.heap.size := Nat.le_trans hs6 hg6.size
          clear hbx ho6 hg6 hq6 hb6 HP6 HPW6 hs6 HPW hHeld
          have hHeld := HB7.out
          all_goals
            have hLO := fun k hk => (HO7.out.low k hk).1
            refine wpAnyH_ready (rs := [4]) (by kernel_rfl) (by simp) ?_
            refine AllReadyH.cons rfl (fun K hK => ?_) AllReadyH.nil
            refine stepH (.tmp 27) (.tmp 29) rfl rfl (l := [] ++ l) (m := [h]) rfl HO7.out (B := X.heap.size) (n := 1) (c := 1) rfl HP7.out rfl (by rw [List.nil_append, HL.out]; omega) hs7 ?_; intro v9 w9 ho9 hg9
            refine hK.out _ _ ?_ (fun hHeld => ?_)
            · exact ⟨HB7.out.1.grown hg9 (fun e => by have := hLO _ e; omega), HB7.out.2.grown hg9 HB7.out.2.size (fun k hk => by have := hLO k hk; omega)⟩
            clear hK K
            try simp only [Act.put, List.getElem_toArray, List.getElem_cons_zero, List.getElem_cons_succ, List.setIfInBounds_toArray, List.set_cons_zero, List.set_cons_succ]
            have HF : Hid (OwnH w9 w0.heap.size v9 (l ++ [h]) ∧ Below w0.heap.size w0 w9) := Lib.hid ⟨ho9.more (by omega), HB7.out.2.grown hg9 HB7.out.2.size (fun k hk => by have := hLO k hk; omega)⟩
            refine wpAnyH_take (i := 5) (v := v9) rfl (by kernel_rfl) (by kernel_rfl) (by kernel_rfl) (fun _ _ _ h => h) (Or.inl ⟨by rfl, fun w hS => by first | (go_simp; done) | (go_simp; with_reducible rfl)⟩) hHeld ?_
            try simp only [Act.put, List.getElem_toArray, List.getElem_cons_zero, List.getElem_cons_succ, List.setIfInBounds_toArray, List.set_cons_zero, List.set_cons_succ]
            refine wpAnyH_take (i := 6) (v := .int .i64 0) rfl (by kernel_rfl) (by kernel_rfl) (by kernel_rfl) (fun _ _ _ h => h) (Or.inl ⟨by rfl, fun w hS => by first | (go_simp; done) | (go_simp; with_reducible rfl)⟩) hHeld ?_
            try simp only [Act.put, List.getElem_toArray, List.getElem_cons_zero, List.getElem_cons_succ, List.setIfInBounds_toArray, List.set_cons_zero, List.set_cons_succ]
            refine wpAnyH_done (by kernel_rfl) ?_ _
            go_wp2_with fail
            refine bodyPost_ret (results_tmp2 rfl _ _ _) rfl ?_
            exact ⟨v9, by rw [HE.out.1]; rfl, by rw [HE.out.2]; exact HF.out.1, HF.out.2⟩
end Ho
end Go.Proofs.Ytamjellnmlgbeaa
