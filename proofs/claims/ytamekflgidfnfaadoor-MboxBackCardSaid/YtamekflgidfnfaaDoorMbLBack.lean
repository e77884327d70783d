/- The walk of MboxBack. Conditions: as stated at each. -/
import Derived.Test.YtamekflgidfnfaaDoorMbLaws
import Derived.Test.YtamekflgidfnfaaDoorMbLoop
namespace Go.Proofs.YtamekflgidfnfaaDoor
set_option maxRecDepth 100000
namespace Mb
open Go.RowKit Go Go.Proofs.YtamekflgidfnfaaDoor.Pa
set_option maxHeartbeats 3200000 in
theorem lback_any {w : World} {A A' : Option Addr} {l : L} {ls : List Lt} (h : Bts w w.heap.size A l) (c : Nat) (hc : l.length ≤ c) (hm : c ≤ maxLen) (hA : A = none → c = 0)
    (h' : Ls w w.heap.size A' ls ∧ ∀ x ∈ ls, -9223372036854775808 ≤ x.2.1 ∧ x.2.1 < 9223372036854775808) (c' : Nat) (hG : GlT w ∧ GlE w) :
    Calls Tryd.prog 5 #[.slice A l.length c, .slice A' (List.length (α := Lt) ls) c'] w fun e w' => e = .returned (.bool true) ∧ Below w.heap.size w w' := by
  have HAW := Lib.hid (awake_any w hG.1)
  have HB : Hid (∀ X, Below w.heap.size w X → Bts X X.heap.size A l) := Lib.hid fun X hX => (h.below hX).more hX.size
  have HST := Lib.hid (fun X (hX : Below w.heap.size w X) => conv_str (h.below hX) c)
  have HL : Hid (∀ X, Below w.heap.size w X → Ls X X.heap.size A' ls) := Lib.hid fun X hX => (h'.1.below hX).more hX.size
  have HF : Hid (∀ X, Below w.heap.size w X → Calls Tryd.prog 15 #[.slice A' ls.length c'] X fun e w' => e = .returned (.bool (fewB ls)) ∧ Below X.heap.size X w') := Lib.hid fun X hX => few_any (HL.out X hX) ls.length c' rfl
  have H8 : Hid (∀ X, Below w.heap.size w X → l.length ≤ 2000 → Calls Tryd.prog 11 #[.slice A l.length c] X (OutP X (quoteS l))) := Lib.hid fun X hX hl => quote_any (HB.out X hX) c hc hm hA (by omega)
  have H1 : Hid (∀ X, Below w.heap.size w X → fewB ls = true → Calls Tryd.prog 16 #[.slice A' ls.length c'] X (ExportP X ls)) := Lib.hid fun X hX hf => by
    obtain ⟨h1, h2, h3⟩ := few_of hf h'.2
    exact export_any (HL.out X hX) ls.length c' rfl (by omega) h2 (by omega) (hG.1.below hX hG.1.lt)
  have HP : Hid (∀ X A2 c2, Below w.heap.size w X → fewB ls = true → ls.all okL = true → Own5 X w.heap.size (.slice A2 (fileS ls).length c2) (fileS ls) → Calls Tryd.prog 18 #[.slice A2 (fileS ls).length c2] X fun e w' => Below X.heap.size X w' ∧ ∃ Al cl, e = .returned (.tuple #[.slice Al ls.length cl, .int .i64 0]) ∧ Ls w' w'.heap.size Al ls) := Lib.hid fun X A2 c2 hX hf hk ho => by
    obtain ⟨h1, h2, h3⟩ := few_of hf h'.2
    obtain ⟨A3, c3, e3, hc3, hm3⟩ := own_slice ho
    injection e3 with e31 e32 e33
    subst e31; subst e33
    refine (parse_any (Own5.bts ho) c2 hc3 hm3 (own5_nil ho) (by omega) (hG.1.below hX hG.1.lt) (hG.2.below hX hG.2.lt)).mono ?_
    rintro e w' ⟨hb, ⟨ls', v, hp, rfl, hr⟩ | ⟨hp, rfl⟩⟩
    · rw [exp_parse hk (fun x hx => (h'.2 x hx).2)] at hp
      injection hp with hp
      subst hp
      obtain ⟨Al, cl, rfl, _, _⟩ := hr.slice
      exact ⟨hb, Al, cl, rfl, hr.ls⟩
    · rw [exp_parse hk (fun x hx => (h'.2 x hx).2)] at hp
      cases hp
  have HN20 : Hid (fewB ls = true → ls.length ≤ 20) := Lib.hid fun hf => (few_of hf h'.2).1
  have HSM : Hid (∀ X A2 c2, Below w.heap.size w X → fewB ls = true → Ls X X.heap.size A2 ls → Calls Tryd.prog 19 #[.slice A2 ls.length c2, .slice A' ls.length c'] X fun e w' => e = .returned (.bool true) ∧ Below X.heap.size X w') := Lib.hid fun X A2 c2 hX hf hl2 => same_any hl2 (HL.out X hX) ls.length c2 c' rfl (by have := HN20.out hf; omega)
  have hql := quote_len l
  have HUQ := Lib.hid (unquote_quote l)
  have HQ10 : Hid (∀ X A2 c2, Below w.heap.size w X → l.length ≤ 2000 → Own5 X w.heap.size (.slice A2 (quoteS l).length c2) (quoteS l) → Calls Tryd.prog 13 #[.slice A2 (quoteS l).length c2] X (OutP X l)) := Lib.hid fun X A2 c2 hX hl ho => by
    obtain ⟨A3, c3, e3, hc3, hm3⟩ := own_slice ho
    injection e3 with e31 e32 e33
    subst e31; subst e33
    have := unquote_any (Own5.bts ho) c2 hc3 hm3 (own5_nil ho) (by omega)
    rwa [HUQ.out] at this
  clear h h' hG hm hA hql
  generalize hln : l.length = n at *
  generalize ls.length = m at *
  generalize hsl : str l = sl at *
  go_enter Tryd.func5, Tryd.ntmps5
  go_wp2_with fail
  refine HAW.out.mono ?_
  rintro e w1 ⟨rfl, b1⟩
  have B1 := Lib.hid b1
  clear b1 HAW
  by_cases hl : n ≤ 2000
  · have hl2 : ¬ (2000 : Int) < (n : Int) := by omega
    cases hfw : fewB ls with
    | false =>
      rw [hfw] at HF
      go_wp2_with fail
      have kd : Below w.heap.size w w1.drew := B1.out.drew
      refine wp_region_held_drew (S := (fun Y => Below w.heap.size w Y)) (by kernel_rfl) (kd) (fun hHeld => ?_)
      generalize w1.drew = w2 at *
      refine wpAnyH_take (i := 0) (v := .slice A n c) rfl (by kernel_rfl) (by kernel_rfl) (by kernel_rfl) (fun _ _ _ h => h) (Or.inl ⟨by rfl, fun w hS => by first | (go_simp; done) | (go_simp; with_reducible rfl)⟩) hHeld ?_
      try simp only [Act.put, List.getElem_toArray, List.getElem_cons_zero, List.setIfInBounds_toArray, List.set_cons_zero, List.set_cons_succ]
      refine wpAnyH_take (i := 1) (v := .int .i64 n) rfl (by kernel_rfl) (by kernel_rfl) (by kernel_rfl) (fun _ _ _ h => h) (Or.inl ⟨by rfl, fun w hS => by first | (go_simp; done) | (go_simp; with_reducible rfl)⟩) hHeld ?_
      try simp only [Act.put, List.getElem_toArray, List.getElem_cons_zero, List.getElem_cons_succ, List.setIfInBounds_toArray, List.set_cons_zero, List.set_cons_succ]
      refine wpAnyH_take (i := 2) (v := .bool false) rfl (by kernel_rfl) (by kernel_rfl) (by kernel_rfl) (fun _ _ _ h => h) (Or.inl ⟨by rfl, fun w hS => by first | (go_simp; done) | (go_simp; with_reducible rfl)⟩) hHeld ?_
      try simp only [Act.put, List.getElem_toArray, List.getElem_cons_zero, List.getElem_cons_succ, List.setIfInBounds_toArray, List.set_cons_zero, List.set_cons_succ]
      refine wpAnyH_take (i := 3) (v := .bool false) rfl (by kernel_rfl) (by kernel_rfl) (by kernel_rfl) (fun _ _ _ h => h) (Or.inl ⟨by rfl, fun w hS => by first | (go_simp; done) | (go_simp; with_reducible rfl)⟩) hHeld ?_
      try simp only [Act.put, List.getElem_toArray, List.getElem_cons_zero, List.getElem_cons_succ, List.setIfInBounds_toArray, List.set_cons_zero, List.set_cons_succ]
      refine wpAnyH_take (i := 4) (v := .slice A' m c') rfl (by kernel_rfl) (by kernel_rfl) (by kernel_rfl) (fun _ _ _ h => h) (Or.inl ⟨by rfl, fun w hS => by first | (go_simp; done) | (go_simp; with_reducible rfl)⟩) hHeld ?_
      try simp only [Act.put, List.getElem_toArray, List.getElem_cons_zero, List.getElem_cons_succ, List.setIfInBounds_toArray, List.set_cons_zero, List.set_cons_succ]
      refine wpAnyH_ready (rs := [5]) (by kernel_rfl) (by simp) ?_
      refine AllReadyH.cons rfl (fun K hK => ?_) AllReadyH.nil
      go_simp
      go_wp2_with ((go_at_call 15; refine (HF.out _ kd).mono ?_; rintro e w3 ⟨rfl, hb3⟩; have b3 := kd.trans (hb3.mono kd.size)))
      refine hK.out _ _ ?_ (fun hHeld => ?_)
      · exact b3
      clear hK K
      try simp only [Act.put, List.getElem_toArray, List.getElem_cons_zero, List.getElem_cons_succ, List.setIfInBounds_toArray, List.set_cons_zero, List.set_cons_succ]
      refine wpAnyH_take (i := 6) (v := .bool true) rfl (by kernel_rfl) (by kernel_rfl) (by kernel_rfl) (fun _ _ _ h => h) (Or.inl ⟨by rfl, fun w hS => by first | (go_simp; done) | (go_simp; with_reducible rfl)⟩) hHeld ?_
      try simp only [Act.put, List.getElem_toArray, List.getElem_cons_zero, List.getElem_cons_succ, List.setIfInBounds_toArray, List.set_cons_zero, List.set_cons_succ]
      refine wpAnyH_take (i := 7) (v := .bool true) rfl (by kernel_rfl) (by kernel_rfl) (by kernel_rfl) (fun _ _ _ h => h) (Or.inl ⟨by rfl, fun w hS => by first | (go_simp; done) | (go_simp; with_reducible rfl)⟩) hHeld ?_
      try simp only [Act.put, List.getElem_toArray, List.getElem_cons_zero, List.getElem_cons_succ, List.setIfInBounds_toArray, List.set_cons_zero, List.set_cons_succ]
      refine wpAnyH_take (i := 8) (v := .bool true) rfl (by kernel_rfl) (by kernel_rfl) (by kernel_rfl) (fun _ _ _ h => h) (Or.inl ⟨by rfl, fun w hS => by first | (go_simp; done) | (go_simp; with_reducible rfl)⟩) hHeld ?_
      try simp only [Act.put, List.getElem_toArray, List.getElem_cons_zero, List.getElem_cons_succ, List.setIfInBounds_toArray, List.set_cons_zero, List.set_cons_succ]
      refine wpAnyH_take (i := 9) (v := undef) rfl (by kernel_rfl) (by kernel_rfl) (by kernel_rfl) (fun _ _ _ h => h) (Or.inr ⟨by rfl, rfl⟩) hHeld ?_
      try simp only [Act.put, List.getElem_toArray, List.getElem_cons_zero, List.getElem_cons_succ, List.setIfInBounds_toArray, List.set_cons_zero, List.set_cons_succ]
      refine wpAnyH_take (i := 10) (v := undef) rfl (by kernel_rfl) (by kernel_rfl) (by kernel_rfl) (fun _ _ _ h => h) (Or.inr ⟨by rfl, rfl⟩) hHeld ?_
      try simp only [Act.put, List.getElem_toArray, List.getElem_cons_zero, List.getElem_cons_succ, List.setIfInBounds_toArray, List.set_cons_zero, List.set_cons_succ]
      refine wpAnyH_take (i := 11) (v := undef) rfl (by kernel_rfl) (by kernel_rfl) (by kernel_rfl) (fun _ _ _ h => h) (Or.inr ⟨by rfl, rfl⟩) hHeld ?_
      try simp only [Act.put, List.getElem_toArray, List.getElem_cons_zero, List.getElem_cons_succ, List.setIfInBounds_toArray, List.set_cons_zero, List.set_cons_succ]
      refine wpAnyH_take (i := 12) (v := undef) rfl (by kernel_rfl) (by kernel_rfl) (by kernel_rfl) (fun _ _ _ h => h) (Or.inr ⟨by rfl, rfl⟩) hHeld ?_
      try simp only [Act.put, List.getElem_toArray, List.getElem_cons_zero, List.getElem_cons_succ, List.setIfInBounds_toArray, List.set_cons_zero, List.set_cons_succ]
      refine wpAnyH_take (i := 13) (v := undef) rfl (by kernel_rfl) (by kernel_rfl) (by kernel_rfl) (fun _ _ _ h => h) (Or.inr ⟨by rfl, rfl⟩) hHeld ?_
      try simp only [Act.put, List.getElem_toArray, List.getElem_cons_zero, List.getElem_cons_succ, List.setIfInBounds_toArray, List.set_cons_zero, List.set_cons_succ]
      refine wpAnyH_take (i := 14) (v := undef) rfl (by kernel_rfl) (by kernel_rfl) (by kernel_rfl) (fun _ _ _ h => h) (Or.inr ⟨by rfl, rfl⟩) hHeld ?_
      try simp only [Act.put, List.getElem_toArray, List.getElem_cons_zero, List.getElem_cons_succ, List.setIfInBounds_toArray, List.set_cons_zero, List.set_cons_succ]
      refine wpAnyH_take (i := 15) (v := undef) rfl (by kernel_rfl) (by kernel_rfl) (by kernel_rfl) (fun _ _ _ h => h) (Or.inr ⟨by rfl, rfl⟩) hHeld ?_
      try simp only [Act.put, List.getElem_toArray, List.getElem_cons_zero, List.getElem_cons_succ, List.setIfInBounds_toArray, List.set_cons_zero, List.set_cons_succ]
      refine wpAnyH_take (i := 16) (v := .bool true) rfl (by kernel_rfl) (by kernel_rfl) (by kernel_rfl) (fun _ _ _ h => h) (Or.inl ⟨by rfl, fun w hS => by first | (go_simp; done) | (go_simp; with_reducible rfl)⟩) hHeld ?_
      try simp only [Act.put, List.getElem_toArray, List.getElem_cons_zero, List.getElem_cons_succ, List.setIfInBounds_toArray, List.set_cons_zero, List.set_cons_succ]
      refine wpAnyH_done (by kernel_rfl) ?_ _
      go_wp2_with (first
        | (go_at_call 15; refine (HF.out _ b3).mono ?_; rintro e w4 ⟨rfl, hb4⟩; have b4 := b3.trans (hb4.mono b3.size))
        | fail)
      go_ret
      exact ⟨rfl, b4⟩
    | true =>
      rw [hfw] at HF
      go_wp2_with fail
      have kd : Below w.heap.size w w1.drew := B1.out.drew
      refine wp_region_held_drew (S := (fun Y => Below w.heap.size w Y)) (by kernel_rfl) (kd) (fun hHeld => ?_)
      generalize w1.drew = w2 at *
      refine wpAnyH_take (i := 0) (v := .slice A n c) rfl (by kernel_rfl) (by kernel_rfl) (by kernel_rfl) (fun _ _ _ h => h) (Or.inl ⟨by rfl, fun w hS => by first | (go_simp; done) | (go_simp; with_reducible rfl)⟩) hHeld ?_
      try simp only [Act.put, List.getElem_toArray, List.getElem_cons_zero, List.setIfInBounds_toArray, List.set_cons_zero, List.set_cons_succ]
      refine wpAnyH_take (i := 1) (v := .int .i64 n) rfl (by kernel_rfl) (by kernel_rfl) (by kernel_rfl) (fun _ _ _ h => h) (Or.inl ⟨by rfl, fun w hS => by first | (go_simp; done) | (go_simp; with_reducible rfl)⟩) hHeld ?_
      try simp only [Act.put, List.getElem_toArray, List.getElem_cons_zero, List.getElem_cons_succ, List.setIfInBounds_toArray, List.set_cons_zero, List.set_cons_succ]
      refine wpAnyH_take (i := 2) (v := .bool false) rfl (by kernel_rfl) (by kernel_rfl) (by kernel_rfl) (fun _ _ _ h => h) (Or.inl ⟨by rfl, fun w hS => by first | (go_simp; done) | (go_simp; with_reducible rfl)⟩) hHeld ?_
      try simp only [Act.put, List.getElem_toArray, List.getElem_cons_zero, List.getElem_cons_succ, List.setIfInBounds_toArray, List.set_cons_zero, List.set_cons_succ]
      refine wpAnyH_take (i := 3) (v := .bool false) rfl (by kernel_rfl) (by kernel_rfl) (by kernel_rfl) (fun _ _ _ h => h) (Or.inl ⟨by rfl, fun w hS => by first | (go_simp; done) | (go_simp; with_reducible rfl)⟩) hHeld ?_
      try simp only [Act.put, List.getElem_toArray, List.getElem_cons_zero, List.getElem_cons_succ, List.setIfInBounds_toArray, List.set_cons_zero, List.set_cons_succ]
      refine wpAnyH_take (i := 4) (v := .slice A' m c') rfl (by kernel_rfl) (by kernel_rfl) (by kernel_rfl) (fun _ _ _ h => h) (Or.inl ⟨by rfl, fun w hS => by first | (go_simp; done) | (go_simp; with_reducible rfl)⟩) hHeld ?_
      try simp only [Act.put, List.getElem_toArray, List.getElem_cons_zero, List.getElem_cons_succ, List.setIfInBounds_toArray, List.set_cons_zero, List.set_cons_succ]
      refine wpAnyH_ready (rs := [5]) (by kernel_rfl) (by simp) ?_
      refine AllReadyH.cons rfl (fun K hK => ?_) AllReadyH.nil
      go_simp
      go_wp2_with ((go_at_call 15; refine (HF.out _ kd).mono ?_; rintro e w3 ⟨rfl, hb3⟩; have b3 := kd.trans (hb3.mono kd.size)))
      refine hK.out _ _ ?_ (fun hHeld => ?_)
      · exact b3
      clear hK K
      try simp only [Act.put, List.getElem_toArray, List.getElem_cons_zero, List.getElem_cons_succ, List.setIfInBounds_toArray, List.set_cons_zero, List.set_cons_succ]
      refine wpAnyH_take (i := 6) (v := .bool false) rfl (by kernel_rfl) (by kernel_rfl) (by kernel_rfl) (fun _ _ _ h => h) (Or.inl ⟨by rfl, fun w hS => by first | (go_simp; done) | (go_simp; with_reducible rfl)⟩) hHeld ?_
      try simp only [Act.put, List.getElem_toArray, List.getElem_cons_zero, List.getElem_cons_succ, List.setIfInBounds_toArray, List.set_cons_zero, List.set_cons_succ]
      refine wpAnyH_take (i := 7) (v := .bool false) rfl (by kernel_rfl) (by kernel_rfl) (by kernel_rfl) (fun _ _ _ h => h) (Or.inl ⟨by rfl, fun w hS => by first | (go_simp; done) | (go_simp; with_reducible rfl)⟩) hHeld ?_
      try simp only [Act.put, List.getElem_toArray, List.getElem_cons_zero, List.getElem_cons_succ, List.setIfInBounds_toArray, List.set_cons_zero, List.set_cons_succ]
      refine wpAnyH_take (i := 8) (v := .bool false) rfl (by kernel_rfl) (by kernel_rfl) (by kernel_rfl) (fun _ _ _ h => h) (Or.inl ⟨by rfl, fun w hS => by first | (go_simp; done) | (go_simp; with_reducible rfl)⟩) hHeld ?_
      try simp only [Act.put, List.getElem_toArray, List.getElem_cons_zero, List.getElem_cons_succ, List.setIfInBounds_toArray, List.set_cons_zero, List.set_cons_succ]
      refine wpAnyH_take (i := 9) (v := .slice A n c) rfl (by kernel_rfl) (by kernel_rfl) (by kernel_rfl) (fun _ _ _ h => h) (Or.inl ⟨by rfl, fun w hS => by first | (go_simp; done) | (go_simp; with_reducible rfl)⟩) hHeld ?_
      try simp only [Act.put, List.getElem_toArray, List.getElem_cons_zero, List.getElem_cons_succ, List.setIfInBounds_toArray, List.set_cons_zero, List.set_cons_succ]
      refine wpAnyH_take (i := 13) (v := .slice A n c) rfl (by kernel_rfl) (by kernel_rfl) (by kernel_rfl) (fun _ _ _ h => h) (Or.inl ⟨by rfl, fun w hS => by first | (go_simp; done) | (go_simp; with_reducible rfl)⟩) hHeld ?_
      try simp only [Act.put, List.getElem_toArray, List.getElem_cons_zero, List.getElem_cons_succ, List.setIfInBounds_toArray, List.set_cons_zero, List.set_cons_succ]
      refine wpAnyH_take (i := 14) (v := .string sl) rfl (by kernel_rfl) (by kernel_rfl) (by kernel_rfl) (fun _ _ _ h => h) (Or.inl ⟨by rfl, fun w hS => by (have hc1 := HST.out w hS; first | (go_simp; done) | (go_simp; with_reducible rfl))⟩) hHeld ?_
      try simp only [Act.put, List.getElem_toArray, List.getElem_cons_zero, List.getElem_cons_succ, List.setIfInBounds_toArray, List.set_cons_zero, List.set_cons_succ]
      refine wpAnyH_ready (rs := [10]) (by kernel_rfl) (by simp) ?_
      refine AllReadyH.cons rfl (fun K hK => ?_) AllReadyH.nil
      go_simp
      go_wp2_with ((go_at_call 11; refine (H8.out _ b3 hl).mono ?_; rintro e w5 ⟨v5, rfl, ho5, hb5⟩; obtain ⟨A5, c5, rfl, _, _⟩ := own_slice ho5; have b5 := b3.trans (hb5.mono b3.size)))
      refine hK.out _ _ ?_ (fun hHeld => ?_)
      · exact b5
      clear hK K
      try simp only [Act.put, List.getElem_toArray, List.getElem_cons_zero, List.getElem_cons_succ, List.setIfInBounds_toArray, List.set_cons_zero, List.set_cons_succ]
      have o5 : Own5 w5 w.heap.size (.slice A5 (quoteS l).length c5) (quoteS l) := own_more ho5 b3.size
      have HQ11 := Lib.hid (HQ10.out w5 A5 c5 b5 hl o5)
      generalize (quoteS l).length = q5 at *
      refine wpAnyH_ready (rs := [11]) (by kernel_rfl) (by simp) ?_
      refine AllReadyH.cons rfl (fun K hK => ?_) AllReadyH.nil
      go_simp
      go_wp2_with ((go_at_call 13; refine HQ11.out.mono ?_; rintro e w6 ⟨v6, rfl, ho6, hb6⟩; obtain ⟨A6, k6, c6, rfl⟩ := own5_letters ho6; have b6 := b5.trans (hb6.mono b5.size)))
      refine hK.out _ _ ?_ (fun hHeld => ?_)
      · exact b6
      clear hK K
      try simp only [Act.put, List.getElem_toArray, List.getElem_cons_zero, List.getElem_cons_succ, List.setIfInBounds_toArray, List.set_cons_zero, List.set_cons_succ]
      have hs6 := str_run ho6
      rw [hsl] at hs6
      clear ho6 ho5 hb6 hb5 o5 HQ11 hb3
      refine wpAnyH_ready (rs := [12]) (by kernel_rfl) (by simp) ?_
      refine AllReadyH.cons rfl (fun K hK => ?_) AllReadyH.nil
      go_simp
      refine hK.out _ _ ?_ (fun hHeld => ?_)
      · exact b6
      clear hK K
      try simp only [Act.put, List.getElem_toArray, List.getElem_cons_zero, List.getElem_cons_succ, List.setIfInBounds_toArray, List.set_cons_zero, List.set_cons_succ]
      refine wpAnyH_take (i := 15) (v := .bool false) rfl (by kernel_rfl) (by kernel_rfl) (by kernel_rfl) (fun _ _ _ h => h) (Or.inl ⟨by rfl, fun w hS => by first | (go_simp; done) | (go_simp; with_reducible rfl)⟩) hHeld ?_
      try simp only [Act.put, List.getElem_toArray, List.getElem_cons_zero, List.getElem_cons_succ, List.setIfInBounds_toArray, List.set_cons_zero, List.set_cons_succ]
      refine wpAnyH_take (i := 16) (v := .bool false) rfl (by kernel_rfl) (by kernel_rfl) (by kernel_rfl) (fun _ _ _ h => h) (Or.inl ⟨by rfl, fun w hS => by first | (go_simp; done) | (go_simp; with_reducible rfl)⟩) hHeld ?_
      try simp only [Act.put, List.getElem_toArray, List.getElem_cons_zero, List.getElem_cons_succ, List.setIfInBounds_toArray, List.set_cons_zero, List.set_cons_succ]
      refine wpAnyH_done (by kernel_rfl) ?_ _
      have HX := Lib.hid (H1.out w6 b6 hfw)
      go_wp2_with fail
      refine HX.out.mono ?_
      rintro e w7 ⟨hb7, ⟨hk, v7, rfl, ho7⟩ | ⟨hk, rfl⟩⟩
      · have b7 := b6.trans (hb7.mono b6.size)
        obtain ⟨A7, c7, rfl, _, _⟩ := own_slice ho7
        have HPP := Lib.hid (HP.out w7 A7 c7 b7 hfw hk (own_more ho7 b6.size))
        clear hb7 ho7 hk HX
        generalize (fileS ls).length = f7 at *
        go_wp2_with fail
        refine HPP.out.mono ?_
        rintro e w8 ⟨hb8, A8, c8, rfl, hl8⟩
        have b8 := b7.trans (hb8.mono b7.size)
        have HS := Lib.hid (HSM.out w8 A8 c8 b8 hfw hl8)
        clear hb8 hl8 HPP
        go_wp2_with fail
        refine HS.out.mono ?_
        rintro e w9 ⟨rfl, hb9⟩
        have b9 := b8.trans (hb9.mono b8.size)
        clear hb9
        go_wp2_with fail
        go_ret
        exact ⟨rfl, b9⟩
      · have b7 := b6.trans (hb7.mono b6.size)
        clear hb7 hk HX
        go_wp2_with fail
        go_ret
        exact ⟨rfl, b7⟩
  · have hl2 : (2000 : Int) < (n : Int) := by omega
    go_wp2_with fail
    go_quiet (fail)
    go_wp2_with fail
    go_ret
    exact ⟨rfl, B1.out.trans (drewN_below _ _ _)⟩
end Mb
end Go.Proofs.YtamekflgidfnfaaDoor
