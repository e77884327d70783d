/- The walks of MboxQuotes, MboxExports, MboxLines. Conditions: as stated at each. -/
import Derived.Test.YtamekflgidfnfaaDoorMbAwake
import Derived.Test.YtamekflgidfnfaaDoorMbRLet
import Derived.Deep.RegionHeld3
namespace Go.Proofs.YtamekflgidfnfaaDoor
set_option maxRecDepth 100000
namespace Mb
open Go.RowKit Go Go.Proofs.YtamekflgidfnfaaDoor.Pa
theorem own5_nil {w : World} {N n c : Nat} {A : Option Addr} {l : L} (h : Own5 w N (.slice A n c) l) : A = none → c = 0 := by
  intro e
  subst e
  rcases h.2 with ⟨h0, _⟩ | ⟨g, cap, cur, h0, _⟩
  · injection h0
  · injection h0 with h1 _ _
    cases h1
theorem str_run {Y : World} {N k c : Nat} {A : Option Addr} {l : L} (h : Own5 Y N (.slice A k c) l) : (convert 22 9 (.slice A k c)).run Tryd.prog Y = .ok (.string (str l)) Y := by
  obtain ⟨A', c', e, _⟩ := own_slice h
  injection e with e1 e2 e3
  subst e1; subst e2; subst e3
  exact conv_str (Own5.bts h) _
theorem exp_len {x : Lt} (h1 : x.1.length ≤ 300) (h2 : x.2.2.length ≤ 500) (h3 : -9223372036854775808 ≤ x.2.1) (h4 : x.2.1 < 9223372036854775808) : (expS x).length ≤ 1400 := by
  have hi := Lib.itoa_length_le x.2.1 h3 (Int.le_of_lt_add_one h4)
  have hq := quote_len x.2.2
  have hw : (who x.1).length ≤ 300 := by
    unfold who
    split
    · simp
    · exact h1
  unfold expS mkL
  simp only [List.length_append, List.length_cons, List.length_nil]
  omega
theorem few_size : ∀ {ls : List Lt}, (∀ x ∈ ls, x.1.length ≤ 300 ∧ x.2.2.length ≤ 500) → (∀ x ∈ ls, -9223372036854775808 ≤ x.2.1 ∧ x.2.1 < 9223372036854775808) → (fileS ls).length ≤ 1400 * ls.length
  | [], _, _ => by simp [fileS]
  | x :: ls, h1, h2 => by
    have e : fileS (x :: ls) = expS x ++ fileS ls := List.flatMap_cons
    have := few_size (ls := ls) (fun y hy => h1 y (List.mem_cons_of_mem _ hy)) (fun y hy => h2 y (List.mem_cons_of_mem _ hy))
    have hx := exp_len (h1 x (by simp)).1 (h1 x (by simp)).2 (h2 x (by simp)).1 (h2 x (by simp)).2
    rw [e, List.length_append, List.length_cons]
    omega
theorem few_of {ls : List Lt} (h : fewB ls = true) (hw : ∀ x ∈ ls, -9223372036854775808 ≤ x.2.1 ∧ x.2.1 < 9223372036854775808) : ls.length ≤ 20 ∧ (∀ x ∈ ls, small x) ∧ (fileS ls).length ≤ 28000 := by
  unfold fewB at h
  rw [Bool.and_eq_true, decide_eq_true_eq] at h
  have hx : ∀ x ∈ ls, x.1.length ≤ 300 ∧ x.2.2.length ≤ 500 := fun x hx => by
    have := List.all_eq_true.1 h.2 x hx
    rw [Bool.and_eq_true, decide_eq_true_eq, decide_eq_true_eq] at this
    exact this
  have hs := few_size hx hw
  exact ⟨h.1, fun x hm => ⟨by have := (hx x hm).1; omega, by have := (hx x hm).2; omega, hw x hm⟩, by omega⟩
set_option maxHeartbeats 3200000 in
theorem lquotes_any {w : World} {A : Option Addr} {l : L} (h : Bts w w.heap.size A l) (c : Nat) (hc : l.length ≤ c) (hm : c ≤ maxLen) (hA : A = none → c = 0) (hT : GlT w) :
    Calls Tryd.prog 3 #[.slice A l.length c] w fun e w' => e = .returned (.bool true) ∧ Below w.heap.size w w' := by
  have HAW := Lib.hid (awake_any w hT)
  have HB : Hid (∀ X, Below w.heap.size w X → Bts X X.heap.size A l) := Lib.hid fun X hX => (h.below hX).more hX.size
  have H8 : Hid (∀ X, Below w.heap.size w X → l.length ≤ 2000 → Calls Tryd.prog 11 #[.slice A l.length c] X (OutP X (quoteS l))) := Lib.hid fun X hX hl => quote_any (HB.out X hX) c hc hm hA (by omega)
  have H9 : Hid (∀ X, Below w.heap.size w X → l.length ≤ 2000 → Calls Tryd.prog 12 #[.slice A l.length c] X (OutP X (quoteS l))) := Lib.hid fun X hX hl => rquote_any (HB.out X hX) c hc hm (by omega)
  have H10 : Hid (∀ X, Below w.heap.size w X → l.length ≤ 2000 → Calls Tryd.prog 13 #[.slice A l.length c] X (OutP X (unquoteS l))) := Lib.hid fun X hX hl => unquote_any (HB.out X hX) c hc hm hA (by omega)
  have H11 : Hid (∀ X, Below w.heap.size w X → l.length ≤ 2000 → Calls Tryd.prog 14 #[.slice A l.length c] X (OutP X (unquoteS l))) := Lib.hid fun X hX hl => runquote_any (HB.out X hX) c hc hm (by omega)
  clear h hT hm hA
  generalize l.length = n at *
  go_enter Tryd.func3, Tryd.ntmps3
  go_wp2_with fail
  refine HAW.out.mono ?_
  rintro e w1 ⟨rfl, b1⟩
  have B1 := Lib.hid b1
  clear b1 HAW
  by_cases hl : n ≤ 2000
  · have hl2 : ¬ (2000 : Int) < (n : Int) := by omega
    go_wp2_with fail
    have kd : Below w.heap.size w w1.drew := B1.out.drew
    refine wp_region_held_drew (S := (fun Y => Below w.heap.size w Y)) (by kernel_rfl) (kd) (fun hHeld => ?_)
    generalize w1.drew = w2 at *
    refine wpAnyH_take (i := 0) (v := .slice A n c) rfl (by kernel_rfl) (by kernel_rfl) (by kernel_rfl) (fun _ _ _ h => h) (Or.inl ⟨by rfl, fun w hS => by first | (go_simp; done) | (go_simp; with_reducible rfl)⟩) hHeld ?_
    try simp only [Act.put, List.getElem_toArray, List.getElem_cons_zero, List.setIfInBounds_toArray, List.set_cons_zero, List.set_cons_succ]
    refine wpAnyH_take (i := 3) (v := .slice A n c) rfl (by kernel_rfl) (by kernel_rfl) (by kernel_rfl) (fun _ _ _ h => h) (Or.inl ⟨by rfl, fun w hS => by first | (go_simp; done) | (go_simp; with_reducible rfl)⟩) hHeld ?_
    try simp only [Act.put, List.getElem_toArray, List.getElem_cons_zero, List.getElem_cons_succ, List.setIfInBounds_toArray, List.set_cons_zero, List.set_cons_succ]
    refine wpAnyH_ready (rs := [1]) (by kernel_rfl) (by simp) ?_
    refine AllReadyH.cons rfl (fun K hK => ?_) AllReadyH.nil
    go_simp
    go_wp2_with ((go_at_call 11; refine (H8.out _ kd hl).mono ?_; rintro e w5 ⟨v5, rfl, ho5, hb5⟩; obtain ⟨A5, k5, c5, rfl⟩ := own5_letters ho5; have b5 := kd.trans (hb5.mono kd.size)))
    refine hK.out _ _ ?_ (fun hHeld => ?_)
    · exact b5
    clear hK K
    try simp only [Act.put, List.getElem_toArray, List.getElem_cons_zero, List.getElem_cons_succ, List.setIfInBounds_toArray, List.set_cons_zero, List.set_cons_succ]
    have o5 : Own5 w5 w.heap.size (.slice A5 k5 c5) (quoteS l) := own_more ho5 kd.size
    refine wpAnyH_more (S' := (fun Y => Below w.heap.size w Y ∧ Own5 Y w.heap.size (.slice A5 k5 c5) (quoteS l))) (fun _ h => h.1) ?_
    replace hHeld : ((fun Y => Below w.heap.size w Y ∧ Own5 Y w.heap.size (.slice A5 k5 c5) (quoteS l))) _ := ⟨b5, o5⟩
    have HS := Lib.hid (fun Y (h : Own5 Y w.heap.size (.slice A5 k5 c5) (quoteS l)) => str_run h)
    generalize hsx : str (quoteS l) = sx at *
    refine wpAnyH_take (i := 2) (v := .string sx) rfl (by kernel_rfl) (by kernel_rfl) (by kernel_rfl) (fun _ _ _ h => h) (Or.inl ⟨by rfl, fun w hS => by (have hc1 := HS.out w hS.2; first | (go_simp; done) | (go_simp; with_reducible rfl))⟩) hHeld ?_
    try simp only [Act.put, List.getElem_toArray, List.getElem_cons_zero, List.getElem_cons_succ, List.setIfInBounds_toArray, List.set_cons_zero, List.set_cons_succ]
    refine wpAnyH_ready (rs := [4]) (by kernel_rfl) (by simp) ?_
    refine AllReadyH.cons rfl (fun K hK => ?_) AllReadyH.nil
    go_simp
    go_wp2_with ((go_at_call 12; refine (H9.out _ b5 hl).mono ?_; rintro e w6 ⟨v6, rfl, ho6, hb6⟩; obtain ⟨A6, k6, c6, rfl⟩ := own5_letters ho6; have b6 := b5.trans (hb6.mono b5.size)))
    refine hK.out _ _ ?_ (fun hHeld => ?_)
    · exact ⟨b6, own_kept o5 hb6 (Nat.le_refl _)⟩
    clear hK K
    try simp only [Act.put, List.getElem_toArray, List.getElem_cons_zero, List.getElem_cons_succ, List.setIfInBounds_toArray, List.set_cons_zero, List.set_cons_succ]
    have o6 : Own5 w6 w.heap.size (.slice A6 k6 c6) (quoteS l) := own_more ho6 b5.size
    have hs6 := str_run o6
    rw [hsx] at hs6
    have o56 := own_kept o5 hb6 (Nat.le_refl _)
    clear ho6 ho5 hb6 hb5
    refine wpAnyH_ready (rs := [5]) (by kernel_rfl) (by simp) ?_
    refine AllReadyH.cons rfl (fun K hK => ?_) AllReadyH.nil
    go_simp
    refine hK.out _ _ ?_ (fun hHeld => ?_)
    · exact ⟨b6, o56⟩
    clear hK K
    try simp only [Act.put, List.getElem_toArray, List.getElem_cons_zero, List.getElem_cons_succ, List.setIfInBounds_toArray, List.set_cons_zero, List.set_cons_succ]
    refine wpAnyH_take (i := 6) (v := .bool true) rfl (by kernel_rfl) (by kernel_rfl) (by kernel_rfl) (fun _ _ _ h => h) (Or.inl ⟨by rfl, fun w hS => by first | (go_simp; done) | (go_simp; with_reducible rfl)⟩) hHeld ?_
    try simp only [Act.put, List.getElem_toArray, List.getElem_cons_zero, List.getElem_cons_succ, List.setIfInBounds_toArray, List.set_cons_zero, List.set_cons_succ]
    refine wpAnyH_take (i := 7) (v := .bool true) rfl (by kernel_rfl) (by kernel_rfl) (by kernel_rfl) (fun _ _ _ h => h) (Or.inl ⟨by rfl, fun w hS => by first | (go_simp; done) | (go_simp; with_reducible rfl)⟩) hHeld ?_
    try simp only [Act.put, List.getElem_toArray, List.getElem_cons_zero, List.getElem_cons_succ, List.setIfInBounds_toArray, List.set_cons_zero, List.set_cons_succ]
    refine wpAnyH_take (i := 8) (v := .slice A n c) rfl (by kernel_rfl) (by kernel_rfl) (by kernel_rfl) (fun _ _ _ h => h) (Or.inl ⟨by rfl, fun w hS => by first | (go_simp; done) | (go_simp; with_reducible rfl)⟩) hHeld ?_
    try simp only [Act.put, List.getElem_toArray, List.getElem_cons_zero, List.getElem_cons_succ, List.setIfInBounds_toArray, List.set_cons_zero, List.set_cons_succ]
    refine wpAnyH_take (i := 11) (v := .slice A n c) rfl (by kernel_rfl) (by kernel_rfl) (by kernel_rfl) (fun _ _ _ h => h) (Or.inl ⟨by rfl, fun w hS => by first | (go_simp; done) | (go_simp; with_reducible rfl)⟩) hHeld ?_
    try simp only [Act.put, List.getElem_toArray, List.getElem_cons_zero, List.getElem_cons_succ, List.setIfInBounds_toArray, List.set_cons_zero, List.set_cons_succ]
    refine wpAnyH_ready (rs := [9]) (by kernel_rfl) (by simp) ?_
    refine AllReadyH.cons rfl (fun K hK => ?_) AllReadyH.nil
    go_simp
    go_wp2_with ((go_at_call 13; refine (H10.out _ b6 hl).mono ?_; rintro e w7 ⟨v7, rfl, ho7, hb7⟩; obtain ⟨A7, k7, c7, rfl⟩ := own5_letters ho7; have b7 := b6.trans (hb7.mono b6.size)))
    refine hK.out _ _ ?_ (fun hHeld => ?_)
    · exact ⟨b7, own_kept o56 hb7 (Nat.le_refl _)⟩
    clear hK K
    try simp only [Act.put, List.getElem_toArray, List.getElem_cons_zero, List.getElem_cons_succ, List.setIfInBounds_toArray, List.set_cons_zero, List.set_cons_succ]
    have o7 : Own5 w7 w.heap.size (.slice A7 k7 c7) (unquoteS l) := own_more ho7 b6.size
    refine wpAnyH_more (S' := (fun Y => Below w.heap.size w Y ∧ Own5 Y w.heap.size (.slice A5 k5 c5) (quoteS l) ∧ Own5 Y w.heap.size (.slice A7 k7 c7) (unquoteS l))) (fun _ h => ⟨h.1, h.2.1⟩) ?_
    replace hHeld : ((fun Y => Below w.heap.size w Y ∧ Own5 Y w.heap.size (.slice A5 k5 c5) (quoteS l) ∧ Own5 Y w.heap.size (.slice A7 k7 c7) (unquoteS l))) _ := ⟨b7, own_kept o56 hb7 (Nat.le_refl _), o7⟩
    have HS2 := Lib.hid (fun Y (h : Own5 Y w.heap.size (.slice A7 k7 c7) (unquoteS l)) => str_run h)
    generalize hsu : str (unquoteS l) = su at *
    refine wpAnyH_take (i := 10) (v := .string su) rfl (by kernel_rfl) (by kernel_rfl) (by kernel_rfl) (fun _ _ _ h => h) (Or.inl ⟨by rfl, fun w hS => by (have hc1 := HS2.out w hS.2.2; first | (go_simp; done) | (go_simp; with_reducible rfl))⟩) hHeld ?_
    try simp only [Act.put, List.getElem_toArray, List.getElem_cons_zero, List.getElem_cons_succ, List.setIfInBounds_toArray, List.set_cons_zero, List.set_cons_succ]
    refine wpAnyH_ready (rs := [12]) (by kernel_rfl) (by simp) ?_
    refine AllReadyH.cons rfl (fun K hK => ?_) AllReadyH.nil
    go_simp
    go_wp2_with ((go_at_call 14; refine (H11.out _ b7 hl).mono ?_; rintro e w8 ⟨v8, rfl, ho8, hb8⟩; obtain ⟨A8, k8, c8, rfl⟩ := own5_letters ho8; have b8 := b7.trans (hb8.mono b7.size)))
    refine hK.out _ _ ?_ (fun hHeld => ?_)
    · exact ⟨b8, own_kept (own_kept o56 hb7 (Nat.le_refl _)) hb8 (Nat.le_refl _), own_kept o7 hb8 (Nat.le_refl _)⟩
    clear hK K
    try simp only [Act.put, List.getElem_toArray, List.getElem_cons_zero, List.getElem_cons_succ, List.setIfInBounds_toArray, List.set_cons_zero, List.set_cons_succ]
    have o8 : Own5 w8 w.heap.size (.slice A8 k8 c8) (unquoteS l) := own_more ho8 b7.size
    have hs8 := str_run o8
    rw [hsu] at hs8
    have o78 := own_kept o7 hb8 (Nat.le_refl _)
    refine wpAnyH_ready (rs := [13]) (by kernel_rfl) (by simp) ?_
    refine AllReadyH.cons rfl (fun K hK => ?_) AllReadyH.nil
    go_simp
    refine hK.out _ _ ?_ (fun hHeld => ?_)
    · exact ⟨b8, own_kept (own_kept o56 hb7 (Nat.le_refl _)) hb8 (Nat.le_refl _), o78⟩
    clear hK K
    try simp only [Act.put, List.getElem_toArray, List.getElem_cons_zero, List.getElem_cons_succ, List.setIfInBounds_toArray, List.set_cons_zero, List.set_cons_succ]
    refine wpAnyH_take (i := 14) (v := .bool true) rfl (by kernel_rfl) (by kernel_rfl) (by kernel_rfl) (fun _ _ _ h => h) (Or.inl ⟨by rfl, fun w hS => by first | (go_simp; done) | (go_simp; with_reducible rfl)⟩) hHeld ?_
    try simp only [Act.put, List.getElem_toArray, List.getElem_cons_zero, List.getElem_cons_succ, List.setIfInBounds_toArray, List.set_cons_zero, List.set_cons_succ]
    refine wpAnyH_take (i := 15) (v := .bool true) rfl (by kernel_rfl) (by kernel_rfl) (by kernel_rfl) (fun _ _ _ h => h) (Or.inl ⟨by rfl, fun w hS => by first | (go_simp; done) | (go_simp; with_reducible rfl)⟩) hHeld ?_
    try simp only [Act.put, List.getElem_toArray, List.getElem_cons_zero, List.getElem_cons_succ, List.setIfInBounds_toArray, List.set_cons_zero, List.set_cons_succ]
    refine wpAnyH_take (i := 16) (v := .bool true) rfl (by kernel_rfl) (by kernel_rfl) (by kernel_rfl) (fun _ _ _ h => h) (Or.inl ⟨by rfl, fun w hS => by first | (go_simp; done) | (go_simp; with_reducible rfl)⟩) hHeld ?_
    try simp only [Act.put, List.getElem_toArray, List.getElem_cons_zero, List.getElem_cons_succ, List.setIfInBounds_toArray, List.set_cons_zero, List.set_cons_succ]
    refine wpAnyH_done (by kernel_rfl) ?_ _
    go_wp2_with fail
    go_ret
    exact ⟨rfl, b8⟩
  · have hl2 : (2000 : Int) < (n : Int) := by omega
    go_wp2_with fail
    go_ret
    exact ⟨rfl, B1.out⟩
set_option maxHeartbeats 1600000 in
theorem lexports_any {w : World} {A : Option Addr} {ls : List Lt} (h : Ls w w.heap.size A ls ∧ ∀ x ∈ ls, -9223372036854775808 ≤ x.2.1 ∧ x.2.1 < 9223372036854775808) (c : Nat) (hT : GlT w) :
    Calls Tryd.prog 4 #[.slice A (List.length (α := Lt) ls) c] w fun e w' => e = .returned (.bool true) ∧ Below w.heap.size w w' := by
  have HAW := Lib.hid (awake_any w hT)
  have HB : Hid (∀ X, Below w.heap.size w X → Ls X X.heap.size A ls) := Lib.hid fun X hX => (h.1.below hX).more hX.size
  have HF : Hid (∀ X, Below w.heap.size w X → Calls Tryd.prog 15 #[.slice A ls.length c] X fun e w' => e = .returned (.bool (fewB ls)) ∧ Below X.heap.size X w') := Lib.hid fun X hX => few_any (HB.out X hX) ls.length c rfl
  have H1 : Hid (∀ X, Below w.heap.size w X → fewB ls = true → Calls Tryd.prog 16 #[.slice A ls.length c] X (ExportP X ls)) := Lib.hid fun X hX hf => by
    obtain ⟨h1, h2, h3⟩ := few_of hf h.2
    exact export_any (HB.out X hX) ls.length c rfl (by omega) h2 (by omega) (hT.below hX hT.lt)
  have H2 : Hid (∀ X, Below w.heap.size w X → fewB ls = true → Calls Tryd.prog 17 #[.slice A ls.length c] X (ExportP X ls)) := Lib.hid fun X hX hf => by
    obtain ⟨h1, h2, h3⟩ := few_of hf h.2
    exact rexport_any (HB.out X hX) ls.length c rfl (by omega) h2 (by omega) (hT.below hX hT.lt)
  clear h hT
  generalize ls.length = n at *
  go_enter Tryd.func4, Tryd.ntmps4
  go_wp2_with fail
  refine HAW.out.mono ?_
  rintro e w1 ⟨rfl, b1⟩
  go_wp2_with fail
  refine (HF.out w1 b1).mono ?_
  rintro e w2 ⟨rfl, hb2⟩
  have B2 := Lib.hid (b1.trans (hb2.mono b1.size))
  clear b1 hb2 HAW HF
  cases hfw : fewB ls with
  | false =>
    go_wp2_with fail
    go_ret
    exact ⟨rfl, B2.out⟩
  | true =>
    have HX1 := Lib.hid (H1.out w2 B2.out hfw)
    go_wp2_with fail
    refine HX1.out.mono ?_
    rintro e w3 ⟨hb3, ⟨hk, v3, rfl, ho3⟩ | ⟨hk, rfl⟩⟩
    · obtain ⟨A3, c3, rfl, _, _⟩ := own_slice ho3
      have B3 := Lib.hid (B2.out.trans (hb3.mono B2.out.size))
      have HO3 := Lib.hid ho3
      have HK := Lib.hid hk
      have HX2 := Lib.hid (H2.out w3 B3.out hfw)
      clear hb3 ho3 hk
      generalize hfl : (fileS ls).length = fl at *
      go_wp2_with fail
      refine HX2.out.mono ?_
      rintro e w4 ⟨hb4, ⟨hk, v4, rfl, ho4⟩ | ⟨hk, rfl⟩⟩
      · obtain ⟨A4, c4, rfl, _, _⟩ := own_slice ho4
        have B4 := Lib.hid (B3.out.trans (hb4.mono B3.out.size))
        have hs3 := str_run (own_kept HO3.out hb4 (Nat.le_refl _))
        have hs4 := str_run ho4
        rw [hfl] at hs4
        rw [hfl]
        clear hb4 ho4 hk hfl
        generalize str (fileS ls) = sx at *
        go_wp2_with fail
        go_ret
        exact ⟨rfl, B4.out⟩
      · rw [HK.out] at hk; cases hk
    · have B3 := Lib.hid (B2.out.trans (hb3.mono B2.out.size))
      have HK := Lib.hid hk
      have HX2 := Lib.hid (H2.out w3 B3.out hfw)
      clear hb3 hk
      go_wp2_with fail
      refine HX2.out.mono ?_
      rintro e w4 ⟨hb4, ⟨hk, v4, rfl, ho4⟩ | ⟨hk, rfl⟩⟩
      · rw [HK.out] at hk; cases hk
      · have B4 := Lib.hid (B3.out.trans (hb4.mono B3.out.size))
        have hs3 := str_run (Own5.nil w4 0)
        clear hb4 hk
        generalize str [] = sx at *
        go_wp2_with fail
        go_ret
        exact ⟨rfl, B4.out⟩
end Mb
end Go.Proofs.YtamekflgidfnfaaDoor
