/- The document's Lift. Conditions: as stated at each. -/
import Derived.Test.YtamjellnmlgbeaaHoRPlace
namespace Go.Proofs.Ytamjellnmlgbeaa
set_option maxRecDepth 100000
namespace Ho
open Go.RowKit Go Go.Proofs.Ytamjellnmlgbeaa.Pa Go.Proofs.Ytamjellnmlgbeaa.Rt
theorem prs_take {w : World} {B : Nat} {A : Option Addr} {l : List R} (h : Prs w B A (cvR l)) (k : Nat) : Prs w B A (cvR (l.take k)) := by
  rcases h with h | ⟨g, o, rfl, hg, hr⟩
  · exact .inl (by rw [hv_take, h]; simp)
  · refine .inr ⟨g, o, rfl, hg, fun j v hj => hr j v ?_⟩
    rw [hv_take, pc_take, List.getElem?_take] at hj
    split at hj
    · exact hj
    · cases hj
theorem prs_drop {w : World} {B g o : Nat} {l : List R} (h : Prs w B (some ⟨g, o, none⟩) (cvR l)) (k : Nat) : Prs w B (some ⟨g, o + k * 2, none⟩) (cvR (l.drop k)) := by
  rcases h with h | ⟨g', o', e, hg, hr⟩
  · exact .inl (by rw [hv_drop, h]; simp)
  · injection e with e
    injection e with e1 e2
    subst e1; subst e2
    rcases Nat.lt_or_ge k l.length with hk | hk
    · refine .inr ⟨g, o + k * 2, rfl, hg, fun j v hj => ?_⟩
      have e : pc (cvR l) = pc (cvR (l.take k)) ++ pc (cvR (l.drop k)) := by rw [← pc_append, ← hv_append, List.take_append_drop]
      have hlen : (pc (cvR (l.take k))).length = k * 2 := by rw [pc_length, hv_length, List.length_take, Nat.min_eq_left (by omega)]
      have := hr (k * 2 + j) v (by rw [e, List.getElem?_append_right (by omega), hlen, show k * 2 + j - k * 2 = j by omega]; exact hj)
      rwa [← Nat.add_assoc] at this
    · exact .inl (by rw [List.drop_of_length_le hk]; rfl)
set_option maxHeartbeats 3200000 in
theorem rlift_any {w0 : World} {B : Nat} {A : Option Addr} {l : List R} (nm : L) (hp : Prs w0 B A (cvR l)) (hB : B ≤ w0.heap.size) (n c : Nat) (hn : l.length = n) (hn1 : n ≤ 1000) (hnc : n ≤ c) :
    Calls Try.prog 13 #[.slice A n c, .string (str nm)] w0 (OutE w0 (liftS l nm) (liftE l nm)) := by
  have HEL := Lib.hid (holds_of hp)
  have HP1 := Lib.hid (lift_1 (l := l) (nm := nm))
  have HP2 := Lib.hid (lift_2 (l := l) (nm := nm))
  have HL := Lib.hid hn
  have HPR : Hid (∀ X, Below w0.heap.size w0 X → Prs X B A (cvR l)) := Lib.hid fun X hX => hp.below (hX.mono hB)
  have HBQ := Lib.hid (fun k => beq_st (a := (l.getD k r0).1) (b := nm))
  clear hp hn
  generalize str nm = s0 at *
  go_enter Try.func13, Try.ntmps13
  go_wp2_with fail
  go_loopw [6, 7, 10] (fun _ _ i wr => ∃ k : Nat, k ≤ n ∧ i = .int .i64 k ∧ (∀ j, j < k → ((l.getD j r0).1 == nm) = false) ∧ Below w0.heap.size w0 wr) (fun _ _ i _ => n - (intOf i).toNat)
  case atStart => exact ⟨0, Nat.zero_le _, rfl, fun j hj => absurd hj (Nat.not_lt_zero _), Below.refl _ _⟩
  case round =>
    obtain ⟨k, hk, rfl, hno, hbel⟩ := hrel
    by_cases hlt : k < n
    · obtain ⟨g, o, rfl, hg, hall⟩ := HEL.out k (by rw [HL.out]; exact hlt)
      obtain ⟨y0, y1⟩ := hall wr (hbel.mono hB)
      have he := HBQ.out k
      have HB := Lib.hid hbel
      cases hq : ((l.getD k r0).1 == nm) with
      | true =>
        obtain ⟨f1, f2⟩ := lift_at hno (by rw [HL.out]; exact hlt) hq
        obtain ⟨e1, e2⟩ := HP2.out f1
        have HE := Lib.hid (And.intro e1 (e2.trans f2))
        rw [hq] at he
        clear e1 e2 f1 f2 HP1 HP2 hq hno hall hbel HEL HBQ
        generalize str (l.getD k r0).1 = t0 at *
        generalize str (l.getD k r0).2 = t1 at *
        go_wp2_with fail
        have hb : Below w0.heap.size w0 (wr.alloc (.cells #[.string t0, .string t1] 24)).drew := (HB.out.trans ((below_b wr _).mono HB.out.size)).drew
        clear HB
        refine wp_region_held_drew (S := (fun Y => Below w0.heap.size w0 Y)) (by kernel_rfl) (hb) (fun hHeld => ?_)
        generalize (wr.alloc (.cells #[.string t0, .string t1] 24)).drew = w5 at *
        have HPA := Lib.hid (prs_take (HPR.out _ hb) k)
        have hcase : ∃ ad cc, (∀ X, Below w0.heap.size w0 X → Prs X B (some ad) (cvR (l.drop (k + 1)))) ∧ (ad = ⟨g, o + (k + 1) * 2, none⟩ ∧ cc = c - (k + 1) ∧ k + 1 < c ∨ ad = ⟨g, o, none⟩ ∧ cc = 0 ∧ c = k + 1) := by
          by_cases hck : c = k + 1
          · exact ⟨⟨g, o, none⟩, 0, fun X _ => .inl (by rw [List.drop_of_length_le (by rw [HL.out]; omega)]; rfl), .inr ⟨rfl, rfl, hck⟩⟩
          · exact ⟨⟨g, o + (k + 1) * 2, none⟩, c - (k + 1), fun X hX => prs_drop (HPR.out X hX) (k + 1), .inl ⟨rfl, rfl, by omega⟩⟩
        obtain ⟨ad, cc, hdr, hcase⟩ := hcase
        have HDR := Lib.hid hdr
        have HTL : Hid ((l.take k).length = k) := Lib.hid (by rw [List.length_take, HL.out]; omega)
        have HDL : Hid ((l.drop (k + 1)).length = n - (k + 1)) := Lib.hid (by rw [List.length_drop, HL.out])
        clear hdr
        refine wpAnyH_take (i := 0) (v := .slice (some ⟨g, o, none⟩) n c) rfl (by kernel_rfl) (by kernel_rfl) (by kernel_rfl) (fun _ _ _ h => h) (Or.inl ⟨by rfl, fun w hS => by first | (go_simp; done) | (go_simp; with_reducible rfl)⟩) hHeld ?_
        try simp only [Act.put, List.getElem_toArray, List.getElem_cons_zero, List.setIfInBounds_toArray, List.set_cons_zero, List.set_cons_succ]
        refine wpAnyH_take (i := 1) (v := .int .i64 k) rfl (by kernel_rfl) (by kernel_rfl) (by kernel_rfl) (fun _ _ _ h => h) (Or.inl ⟨by rfl, fun w hS => by first | (go_simp; done) | (go_simp; with_reducible rfl)⟩) hHeld ?_
        try simp only [Act.put, List.getElem_toArray, List.getElem_cons_zero, List.getElem_cons_succ, List.setIfInBounds_toArray, List.set_cons_zero, List.set_cons_succ]
        refine wpAnyH_take (i := 2) (v := .slice (some ⟨g, o, none⟩) k c) rfl (by kernel_rfl) (by kernel_rfl) (by kernel_rfl) (fun _ _ _ h => h) (Or.inl ⟨by rfl, fun w hS => by (go_simp; intro hh; omega)⟩) hHeld ?_
        try simp only [Act.put, List.getElem_toArray, List.getElem_cons_zero, List.getElem_cons_succ, List.setIfInBounds_toArray, List.set_cons_zero, List.set_cons_succ]
        refine wpAnyH_take (i := 4) (v := .slice (some ⟨g, o, none⟩) n c) rfl (by kernel_rfl) (by kernel_rfl) (by kernel_rfl) (fun _ _ _ h => h) (Or.inl ⟨by rfl, fun w hS => by first | (go_simp; done) | (go_simp; with_reducible rfl)⟩) hHeld ?_
        try simp only [Act.put, List.getElem_toArray, List.getElem_cons_zero, List.getElem_cons_succ, List.setIfInBounds_toArray, List.set_cons_zero, List.set_cons_succ]
        refine wpAnyH_take (i := 5) (v := .int .i64 k) rfl (by kernel_rfl) (by kernel_rfl) (by kernel_rfl) (fun _ _ _ h => h) (Or.inl ⟨by rfl, fun w hS => by first | (go_simp; done) | (go_simp; with_reducible rfl)⟩) hHeld ?_
        try simp only [Act.put, List.getElem_toArray, List.getElem_cons_zero, List.getElem_cons_succ, List.setIfInBounds_toArray, List.set_cons_zero, List.set_cons_succ]
        have hwk : IntKind.i64.wrap ((k : Int) + 1) = k + 1 := IntWalk.i64_in _ (by omega)
        refine wpAnyH_take (i := 6) (v := .int .i64 (k + 1)) rfl (by kernel_rfl) (by kernel_rfl) (by kernel_rfl) (fun _ _ _ h => h) (Or.inl ⟨by rfl, fun w hS => by first | (go_simp; done) | (go_simp; with_reducible rfl)⟩) hHeld ?_
        try simp only [Act.put, List.getElem_toArray, List.getElem_cons_zero, List.getElem_cons_succ, List.setIfInBounds_toArray, List.set_cons_zero, List.set_cons_succ]
        clear hwk
        refine wpAnyH_take (i := 7) (v := .slice (some ad) (n - (k + 1)) cc) rfl (by kernel_rfl) (by kernel_rfl) (by kernel_rfl) (fun _ _ _ h => h) (Or.inl ⟨by rfl, fun w hS => by (rcases hcase with ⟨rfl, rfl, hlt⟩ | ⟨rfl, rfl, rfl⟩ <;> go_simp <;> (first | (intro hh; omega) | (rw [if_pos (by omega), if_neg (by omega)]; done)))⟩) hHeld ?_
        try simp only [Act.put, List.getElem_toArray, List.getElem_cons_zero, List.getElem_cons_succ, List.setIfInBounds_toArray, List.set_cons_zero, List.set_cons_succ]
        refine wpAnyH_ready (rs := [3]) (by kernel_rfl) (by simp) ?_
        refine AllReadyH.cons rfl (fun K hK => ?_) AllReadyH.nil
        refine stepH (.const (.slice none 0 0)) (.tmp 21) rfl rfl (N := w5.heap.size) (v := .slice none 0 0) (l := []) (m := l.take k) rfl (OwnH.nil _ _) (B := B) (n := k) (c := c) rfl HPA.out HTL.out (by simp; omega) (Nat.le_refl _) ?_; intro v6 w6 ho6 hg6
        refine hK.out _ _ ?_ (fun hHeld => ?_)
        · exact hb.grown hg6 hb.size (by intro k hk; simp [Value.ownBlock] at hk)
        clear hK K
        try simp only [Act.put, List.getElem_toArray, List.getElem_cons_zero, List.getElem_cons_succ, List.setIfInBounds_toArray, List.set_cons_zero, List.set_cons_succ]
        have hb6 := hb.grown hg6 hb.size (by intro k hk; simp [Value.ownBlock] at hk)
        have HO6 := Lib.hid ho6
        have HD6 := Lib.hid (HDR.out _ hb6)
        have hs6 := hg6.size
        have hs5 := hb.size
        have hLO := fun k hk => (HO6.out.low k hk).1
        clear ho6 hg6 hcase hb HPA
        refine wpAnyH_ready (rs := [8]) (by kernel_rfl) (by simp) ?_
        refine AllReadyH.cons rfl (fun K hK => ?_) AllReadyH.nil
        refine stepH (.tmp 22) (.tmp 26) rfl rfl (l := [] ++ l.take k) (m := l.drop (k + 1)) rfl HO6.out (B := B) (n := n - (k + 1)) (c := cc) rfl HD6.out HDL.out (by rw [List.nil_append, HTL.out]; omega) hs6 ?_; intro v9 w9 ho9 hg9
        refine hK.out _ _ ?_ (fun hHeld => ?_)
        · exact hb6.grown hg9 hb6.size (fun k hk => by have := hLO k hk; omega)
        clear hK K
        try simp only [Act.put, List.getElem_toArray, List.getElem_cons_zero, List.getElem_cons_succ, List.setIfInBounds_toArray, List.set_cons_zero, List.set_cons_succ]
        have HF : Hid (OwnH w9 w0.heap.size v9 (l.take k ++ l.drop (k + 1)) ∧ Below w0.heap.size w0 w9) := Lib.hid ⟨ho9.more (by omega), hb6.grown hg9 hb6.size (fun k hk => by have := hLO k hk; omega)⟩
        clear ho9 hg9 hb6 HO6 HD6
        refine wpAnyH_take (i := 9) (v := v9) rfl (by kernel_rfl) (by kernel_rfl) (by kernel_rfl) (fun _ _ _ h => h) (Or.inl ⟨by rfl, fun w hS => by first | (go_simp; done) | (go_simp; with_reducible rfl)⟩) hHeld ?_
        try simp only [Act.put, List.getElem_toArray, List.getElem_cons_zero, List.getElem_cons_succ, List.setIfInBounds_toArray, List.set_cons_zero, List.set_cons_succ]
        refine wpAnyH_take (i := 10) (v := .int .i64 0) rfl (by kernel_rfl) (by kernel_rfl) (by kernel_rfl) (fun _ _ _ h => h) (Or.inl ⟨by rfl, fun w hS => by first | (go_simp; done) | (go_simp; with_reducible rfl)⟩) hHeld ?_
        try simp only [Act.put, List.getElem_toArray, List.getElem_cons_zero, List.getElem_cons_succ, List.setIfInBounds_toArray, List.set_cons_zero, List.set_cons_succ]
        refine wpAnyH_done (by kernel_rfl) ?_ _
        go_wp2_with fail
        refine bodyPost_ret (results_tmp2 rfl _ _ _) rfl ?_
        exact ⟨v9, by rw [HE.out.1]; rfl, by rw [HE.out.2]; exact HF.out.1, HF.out.2⟩
      | false =>
        have HNO : Hid (∀ j, j < k + 1 → ((l.getD j r0).1 == nm) = false) := Lib.hid fun j hj => by
          rcases Nat.lt_or_ge j k with h | h
          · exact hno j h
          · obtain rfl : j = k := by omega
            exact hq
        rw [hq] at he
        clear hq hno hall hbel HEL HBQ
        generalize str (l.getD k r0).1 = t0 at *
        generalize str (l.getD k r0).2 = t1 at *
        go_wp2_with fail
        go_roundw
        case rel => exact ⟨k + 1, by omega, by go_num, HNO.out, HB.out.trans ((below_b wr _).mono HB.out.size)⟩
        case measure => simp [intOf]; omega
    · have hkn : k = n := by omega
      obtain ⟨e1, e2⟩ := HP1.out (has_miss (l := l) (nm := nm) (fun j hj => hno j (by rw [hkn, ← HL.out]; exact hj)))
      have HE := Lib.hid (And.intro e1 e2)
      have HB := Lib.hid hbel
      clear hno hbel e1 e2
      go_wp2_with fail
      refine bodyPost_ret (results_tmp2 rfl _ _ _) rfl ?_
      exact ⟨.slice none 0 0, by rw [HE.out.1]; rfl, by rw [HE.out.2]; exact OwnH.nil _ _, HB.out⟩
end Ho
end Go.Proofs.Ytamjellnmlgbeaa
