/- The walks of DotsScans, DotsBack, DotsCut. Conditions: as stated at each. -/
import Derived.Test.YtdbmcbnohldolaaDtLaws
namespace Go.Proofs.Ytdbmcbnohldolaa
set_option maxRecDepth 100000
namespace Dt
open Go.RowKit Go Go.Proofs.Ytdbmcbnohldolaa.Hd
theorem str_bts {Y : World} {N c : Nat} {A : Option Addr} {l : L} (h : Bts Y N A l) : (convert 22 9 (.slice A l.length c)).run Try.prog Y = .ok (.string (str l)) Y :=
  run_str Try.prog Try.underlying22 Try.underlying5 Try.underlying9 _ h
set_option maxHeartbeats 1600000 in
theorem lscan_any {w : World} {A : Option Addr} {l : L} (h : Bts w w.heap.size A l) (c : Nat) (hc : l.length ≤ c) (hm : c ≤ maxLen) (hA : A = none → c = 0) (hG : Gl w) :
    Calls Try.prog 5 #[.slice A l.length c] w fun e w' => e = .returned (.bool true) ∧ Below w.heap.size w w' := by
  have HAW := Lib.hid (awake9 w hG)
  have HB : Hid (∀ X, Below w.heap.size w X → Bts X X.heap.size A l) := Lib.hid fun X hX => (h.below hX).more hX.size
  have hGl := hG.lt
  have H15 : Hid (∀ X, Below w.heap.size w X → l.length ≤ 2000 → Calls Try.prog 15 #[.slice A l.length c] X (ScanP X l)) := Lib.hid fun X hX hl => scan_any (HB.out X hX) c hc hm hA (by omega) (hG.below hX hGl)
  have H16 : Hid (∀ X, Below w.heap.size w X → l.length ≤ 2000 → Calls Try.prog 16 #[.slice A l.length c] X (ScanP X l)) := Lib.hid fun X hX hl => rscan_any (HB.out X hX) c hc hm (by omega)
  clear h hG hm hA
  generalize l.length = n at *
  go_enter Try.func5, Try.ntmps5
  go_wp2_with fail
  refine HAW.out.mono ?_
  rintro e w1 ⟨rfl, b1⟩
  have B1 := Lib.hid b1
  clear b1 HAW
  by_cases hl : n ≤ 2000
  · have hl2 : ¬ (2000 : Int) < (n : Int) := by omega
    have hl3 : (n : Int) ≤ 2000 := by omega
    go_wp2_with fail
    refine (H15.out w1 B1.out hl).mono ?_
    rintro e w2 ⟨v2, y2, r2, rfl, ho2, hr2, ⟨A2, c2, rfl, hb2, _, _⟩, hbw2⟩
    have b2 := B1.out.trans (hbw2.mono B1.out.size)
    have B2 := Lib.hid b2
    obtain ⟨T2, k2, d2, rfl⟩ := own5_letters ho2
    have HO2 := Lib.hid ho2
    have HB2 := Lib.hid hb2
    have HR2 := Lib.hid hr2
    clear ho2 hb2 hbw2 b2 hr2
    go_wp2_with fail
    refine (H16.out w2 B2.out hl).mono ?_
    rintro e w3 ⟨v3, y3, r3, rfl, ho3, hr3, ⟨A3, c3, rfl, hb3, _, _⟩, hbw3⟩
    obtain ⟨T3, k3, d3, rfl⟩ := own5_letters ho3
    have B3 := Lib.hid (B2.out.trans (hbw3.mono B2.out.size))
    have s1 := str_run (own_kept HO2.out hbw3 (Nat.le_refl _))
    have s2 := str_run ho3
    have s3 := str_bts (c := c2) (HB2.out.below hbw3)
    have s4 := str_bts (c := c3) hb3
    have e32 : r3 = r2 := by rw [hr3, HR2.out]
    subst e32
    clear hr3 ho3 hb3 hbw3 HO2 HB2 HR2
    generalize (scanL (lines l)).isSome = q at *
    generalize str (match scanL (lines l) with | some p => p.1 | none => []) = sx at *
    generalize str r3 = sy at *
    generalize r3.length = rn at *
    have hqq : (q == q) = true := by simp
    go_wp2_with fail
    go_ret
    exact ⟨rfl, B3.out⟩
  · have hl2 : (2000 : Int) < (n : Int) := by omega
    go_wp2_with fail
    go_ret
    exact ⟨rfl, B1.out⟩
theorem own5_k {w : World} {N k c : Nat} {A : Option Addr} {l : L} (h : Own5 w N (.slice A k c) l) : k = l.length ∧ k ≤ c ∧ c ≤ maxLen := by
  obtain ⟨A', c', e, h1, h2⟩ := own_slice h
  injection e with e1 e2 e3
  subst e1; subst e2; subst e3
  exact ⟨rfl, h1, h2⟩
theorem scan_own {w : World} {N k c : Nat} {A : Option Addr} {l : L} (h : Own5 w N (.slice A k c) l) (hl : l.length ≤ 20000) (hG : Gl w) : Calls Try.prog 15 #[.slice A k c] w (ScanP w l) := by
  obtain ⟨e, h1, h2⟩ := own5_k h
  subst e
  exact scan_any (Own5.bts h) c h1 h2 (own5_nil h) hl hG
set_option maxHeartbeats 1600000 in
theorem lback_any {w : World} {A B : Option Addr} {l more : L} (h : Bts w w.heap.size A l) (c : Nat) (hc : l.length ≤ c) (hm : c ≤ maxLen) (h' : Bts w w.heap.size B more) (d : Nat) (hG : Gl w) :
    Calls Try.prog 6 #[.slice A l.length c, .slice B more.length d] w fun e w' => e = .returned (.bool true) ∧ Below w.heap.size w w' := by
  have HAW := Lib.hid (awake9 w hG)
  have hGl := hG.lt
  have HG : Hid (∀ X, Below w.heap.size w X → Gl X) := Lib.hid fun X hX => hG.below hX hGl
  have HB : Hid (∀ X, Below w.heap.size w X → Bts X X.heap.size A l) := Lib.hid fun X hX => (h.below hX).more hX.size
  have HM : Hid (∀ X, Below w.heap.size w X → Bts X X.heap.size B more) := Lib.hid fun X hX => (h'.below hX).more hX.size
  have H13 : Hid (∀ X, Below w.heap.size w X → l.length ≤ 2000 → Calls Try.prog 13 #[.slice A l.length c] X (StuffP X l)) := Lib.hid fun X hX hl => stuff_any (HB.out X hX) c hc hm (by omega) (HG.out X hX)
  have H11 : Hid (∀ X, Below w.heap.size w X → l.length ≤ 2000 → Calls Try.prog 11 #[.slice A l.length c] X fun e w' => ∃ v, e = .returned v ∧ Own5 w' X.heap.size v (close l) ∧ Below X.heap.size X w') := Lib.hid fun X hX hl => close_any (HB.out X hX) c hc hm (by omega)
  have HSL := Lib.hid (stuff_len l)
  have HSB := Lib.hid (scan_back l more)
  clear h hG hm h'
  generalize l.length = n at *
  generalize hml : more.length = ml at *
  have HML := Lib.hid hml
  clear hml
  go_enter Try.func6, Try.ntmps6
  go_wp2_with fail
  refine HAW.out.mono ?_
  rintro e w1 ⟨rfl, b1⟩
  have B1 := Lib.hid b1
  clear b1 HAW
  by_cases hl : n ≤ 2000
  · have hl2 : ¬ (2000 : Int) < (n : Int) := by omega
    have hl3 : (n : Int) ≤ 2000 := by omega
    by_cases hmo : ml ≤ 500
    · have hmo2 : ¬ (500 : Int) < (ml : Int) := by omega
      have hmo3 : (ml : Int) ≤ 500 := by omega
      go_wp2_with fail
      refine (H13.out w1 B1.out hl).mono ?_
      rintro e w2 ⟨v2, rfl, ho2, hb2⟩
      have B2 := Lib.hid (B1.out.trans (hb2.mono B1.out.size))
      have HO2 := Lib.hid ho2
      have hz2 := hb2.size
      clear ho2 hb2
      go_wp2_with (first
        | (refine app5 (.tmp 20) (.tmp 21) rfl rfl w1.heap.size _ (stuff l) more rfl HO2.out w2.heap.size B d (by rw [HML.out]; rfl) (HM.out w2 B2.out) (by rw [HML.out]; have := HSL.out; omega) hz2 ?_; intro v3 w3 ho3 hg3; have hb3 : Below w1.heap.size w2 w3 := (Below.refl _ w2).grown hg3 hz2 (fun b hb => (HO2.out.lt b hb).1); have B3 := Lib.hid (B2.out.trans (hb3.mono B1.out.size)); obtain ⟨A3, k3, c3, rfl⟩ := own5_letters ho3; have HO3 := Lib.hid (show Own5 w3 w1.heap.size _ (stuff l ++ more) from ho3); clear ho3 hg3 hb3)
        | fail)
      have H15 := Lib.hid (scan_own HO3.out (by rw [List.length_append, HML.out]; have := HSL.out; omega) (HG.out _ B3.out))
      refine H15.out.mono ?_
      rintro e w4 ⟨v4, y4, r4, rfl, ho4, hr4, ⟨A4, c4, rfl, hb4, _, _⟩, hbw4⟩
      rw [HSB.out] at ho4 hr4
      have hr4' : r4 = more := by rw [hr4]; exact List.drop_left
      subst hr4'
      have B4 := Lib.hid (B3.out.trans (hbw4.mono B3.out.size))
      obtain ⟨T4, k4, d4, rfl⟩ := own5_letters ho4
      have o4 : Own5 w4 w.heap.size (.slice T4 k4 d4) (close l) := own_more ho4 B3.out.size
      have HO4 := Lib.hid o4
      have HB4 := Lib.hid hb4
      rw [show (scanL (lines (stuff l ++ r4))).isSome = true by rw [HSB.out]; rfl]
      rw [HML.out]
      clear hr4 ho4 o4 hb4 hbw4 H15 HO3 HO2
      go_wp2_with fail
      have kd : Below w.heap.size w w4.drew := B4.out.drew
      have od : Own5 w4.drew w.heap.size (.slice T4 k4 d4) (close l) := own_kept HO4.out (drewN_below w4 w4.heap.size 1) (Nat.le_refl _)
      have bd : Bts w4.drew w4.heap.size A4 r4 := HB4.out
      have HS1 := Lib.hid (fun Y (h : Own5 Y w.heap.size (.slice T4 k4 d4) (close l)) => str_run h)
      have HS2 := Lib.hid (fun Y (h : Bts Y w4.heap.size A4 r4) => str_bts (c := c4) h)
      have HS3 := Lib.hid (fun Y (h : Below w.heap.size w Y) => str_bts (c := d) (HM.out Y h))
      rw [HML.out] at HS2 HS3
      generalize hsx : str (close l) = sx at *
      have HSX := Lib.hid hsx
      generalize str r4 = sy at *
      clear HB HM H13 HSB HSL HG HO4 HB4 hsx
      refine wp_region_held_drew (S := (fun Y => Below w.heap.size w Y ∧ Own5 Y w.heap.size (.slice T4 k4 d4) (close l) ∧ Bts Y w4.heap.size A4 r4)) (by kernel_rfl) (⟨kd, od, bd⟩) (fun hHeld => ?_)
      have hz4 : w4.heap.size ≤ w4.drew.heap.size := Nat.le_refl _
      generalize w4.drew = w5 at *
      refine wpAnyH_take (i := 0) (v := .bool true) rfl (by kernel_rfl) (by kernel_rfl) (by kernel_rfl) (fun _ _ _ h => h) (Or.inl ⟨by rfl, fun w hS => by first | (go_simp; done) | (go_simp; with_reducible rfl)⟩) hHeld ?_
      try simp only [Act.put, List.getElem_toArray, List.getElem_cons_zero, List.setIfInBounds_toArray, List.set_cons_zero, List.set_cons_succ]
      refine wpAnyH_take (i := 1) (v := .bool true) rfl (by kernel_rfl) (by kernel_rfl) (by kernel_rfl) (fun _ _ _ h => h) (Or.inl ⟨by rfl, fun w hS => by first | (go_simp; done) | (go_simp; with_reducible rfl)⟩) hHeld ?_
      try simp only [Act.put, List.getElem_toArray, List.getElem_cons_zero, List.getElem_cons_succ, List.setIfInBounds_toArray, List.set_cons_zero, List.set_cons_succ]
      refine wpAnyH_take (i := 2) (v := .slice T4 k4 d4) rfl (by kernel_rfl) (by kernel_rfl) (by kernel_rfl) (fun _ _ _ h => h) (Or.inl ⟨by rfl, fun w hS => by first | (go_simp; done) | (go_simp; with_reducible rfl)⟩) hHeld ?_
      try simp only [Act.put, List.getElem_toArray, List.getElem_cons_zero, List.getElem_cons_succ, List.setIfInBounds_toArray, List.set_cons_zero, List.set_cons_succ]
      refine wpAnyH_take (i := 3) (v := .string sx) rfl (by kernel_rfl) (by kernel_rfl) (by kernel_rfl) (fun _ _ _ h => h) (Or.inl ⟨by rfl, fun w hS => by (have hc1 := HS1.out w hS.2.1; first | (go_simp; done) | (go_simp; with_reducible rfl))⟩) hHeld ?_
      try simp only [Act.put, List.getElem_toArray, List.getElem_cons_zero, List.getElem_cons_succ, List.setIfInBounds_toArray, List.set_cons_zero, List.set_cons_succ]
      refine wpAnyH_take (i := 4) (v := .slice A n c) rfl (by kernel_rfl) (by kernel_rfl) (by kernel_rfl) (fun _ _ _ h => h) (Or.inl ⟨by rfl, fun w hS => by first | (go_simp; done) | (go_simp; with_reducible rfl)⟩) hHeld ?_
      try simp only [Act.put, List.getElem_toArray, List.getElem_cons_zero, List.getElem_cons_succ, List.setIfInBounds_toArray, List.set_cons_zero, List.set_cons_succ]
      refine wpAnyH_ready (rs := [5]) (by kernel_rfl) (by simp) ?_
      refine AllReadyH.cons rfl (fun K hK => ?_) AllReadyH.nil
      go_simp
      go_wp2_with ((go_at_call 11; refine (H11.out _ kd hl).mono ?_; rintro e w6 ⟨v6, rfl, ho6, hb6⟩; obtain ⟨A6, k6, c6, rfl⟩ := own5_letters ho6; have b6 := kd.trans (hb6.mono kd.size)))
      refine hK.out _ _ ?_ (fun hHeld => ?_)
      · exact ⟨b6, own_kept od hb6 (Nat.le_refl _), bd.below (hb6.mono hz4)⟩
      clear hK K
      try simp only [Act.put, List.getElem_toArray, List.getElem_cons_zero, List.getElem_cons_succ, List.setIfInBounds_toArray, List.set_cons_zero, List.set_cons_succ]
      have hs6 := str_run ho6
      rw [HSX.out] at hs6
      have HELD : Hid (Below w.heap.size w w6 ∧ Own5 w6 w.heap.size (.slice T4 k4 d4) (close l) ∧ Bts w6 w4.heap.size A4 r4) := Lib.hid ⟨b6, own_kept od hb6 (Nat.le_refl _), bd.below (hb6.mono hz4)⟩
      clear ho6 hb6 od bd
      refine wpAnyH_ready (rs := [6]) (by kernel_rfl) (by simp) ?_
      refine AllReadyH.cons rfl (fun K hK => ?_) AllReadyH.nil
      go_simp
      refine hK.out _ _ ?_ (fun hHeld => ?_)
      · exact HELD.out
      clear hK K
      try simp only [Act.put, List.getElem_toArray, List.getElem_cons_zero, List.getElem_cons_succ, List.setIfInBounds_toArray, List.set_cons_zero, List.set_cons_succ]
      refine wpAnyH_take (i := 7) (v := .bool true) rfl (by kernel_rfl) (by kernel_rfl) (by kernel_rfl) (fun _ _ _ h => h) (Or.inl ⟨by rfl, fun w hS => by first | (go_simp; done) | (go_simp; with_reducible rfl)⟩) hHeld ?_
      try simp only [Act.put, List.getElem_toArray, List.getElem_cons_zero, List.getElem_cons_succ, List.setIfInBounds_toArray, List.set_cons_zero, List.set_cons_succ]
      refine wpAnyH_take (i := 8) (v := .bool true) rfl (by kernel_rfl) (by kernel_rfl) (by kernel_rfl) (fun _ _ _ h => h) (Or.inl ⟨by rfl, fun w hS => by first | (go_simp; done) | (go_simp; with_reducible rfl)⟩) hHeld ?_
      try simp only [Act.put, List.getElem_toArray, List.getElem_cons_zero, List.getElem_cons_succ, List.setIfInBounds_toArray, List.set_cons_zero, List.set_cons_succ]
      refine wpAnyH_take (i := 9) (v := .bool true) rfl (by kernel_rfl) (by kernel_rfl) (by kernel_rfl) (fun _ _ _ h => h) (Or.inl ⟨by rfl, fun w hS => by first | (go_simp; done) | (go_simp; with_reducible rfl)⟩) hHeld ?_
      try simp only [Act.put, List.getElem_toArray, List.getElem_cons_zero, List.getElem_cons_succ, List.setIfInBounds_toArray, List.set_cons_zero, List.set_cons_succ]
      refine wpAnyH_take (i := 10) (v := .slice A4 ml c4) rfl (by kernel_rfl) (by kernel_rfl) (by kernel_rfl) (fun _ _ _ h => h) (Or.inl ⟨by rfl, fun w hS => by first | (go_simp; done) | (go_simp; with_reducible rfl)⟩) hHeld ?_
      try simp only [Act.put, List.getElem_toArray, List.getElem_cons_zero, List.getElem_cons_succ, List.setIfInBounds_toArray, List.set_cons_zero, List.set_cons_succ]
      refine wpAnyH_take (i := 11) (v := .string sy) rfl (by kernel_rfl) (by kernel_rfl) (by kernel_rfl) (fun _ _ _ h => h) (Or.inl ⟨by rfl, fun w hS => by (have hc1 := HS2.out w hS.2.2; first | (go_simp; done) | (go_simp; with_reducible rfl))⟩) hHeld ?_
      try simp only [Act.put, List.getElem_toArray, List.getElem_cons_zero, List.getElem_cons_succ, List.setIfInBounds_toArray, List.set_cons_zero, List.set_cons_succ]
      refine wpAnyH_take (i := 12) (v := .slice B ml d) rfl (by kernel_rfl) (by kernel_rfl) (by kernel_rfl) (fun _ _ _ h => h) (Or.inl ⟨by rfl, fun w hS => by first | (go_simp; done) | (go_simp; with_reducible rfl)⟩) hHeld ?_
      try simp only [Act.put, List.getElem_toArray, List.getElem_cons_zero, List.getElem_cons_succ, List.setIfInBounds_toArray, List.set_cons_zero, List.set_cons_succ]
      refine wpAnyH_take (i := 13) (v := .string sy) rfl (by kernel_rfl) (by kernel_rfl) (by kernel_rfl) (fun _ _ _ h => h) (Or.inl ⟨by rfl, fun w hS => by (have hc1 := HS3.out w hS.1; first | (go_simp; done) | (go_simp; with_reducible rfl))⟩) hHeld ?_
      try simp only [Act.put, List.getElem_toArray, List.getElem_cons_zero, List.getElem_cons_succ, List.setIfInBounds_toArray, List.set_cons_zero, List.set_cons_succ]
      refine wpAnyH_take (i := 14) (v := .bool true) rfl (by kernel_rfl) (by kernel_rfl) (by kernel_rfl) (fun _ _ _ h => h) (Or.inl ⟨by rfl, fun w hS => by first | (go_simp; done) | (go_simp; with_reducible rfl)⟩) hHeld ?_
      try simp only [Act.put, List.getElem_toArray, List.getElem_cons_zero, List.getElem_cons_succ, List.setIfInBounds_toArray, List.set_cons_zero, List.set_cons_succ]
      refine wpAnyH_take (i := 15) (v := .bool true) rfl (by kernel_rfl) (by kernel_rfl) (by kernel_rfl) (fun _ _ _ h => h) (Or.inl ⟨by rfl, fun w hS => by first | (go_simp; done) | (go_simp; with_reducible rfl)⟩) hHeld ?_
      try simp only [Act.put, List.getElem_toArray, List.getElem_cons_zero, List.getElem_cons_succ, List.setIfInBounds_toArray, List.set_cons_zero, List.set_cons_succ]
      refine wpAnyH_take (i := 16) (v := .bool true) rfl (by kernel_rfl) (by kernel_rfl) (by kernel_rfl) (fun _ _ _ h => h) (Or.inl ⟨by rfl, fun w hS => by first | (go_simp; done) | (go_simp; with_reducible rfl)⟩) hHeld ?_
      try simp only [Act.put, List.getElem_toArray, List.getElem_cons_zero, List.getElem_cons_succ, List.setIfInBounds_toArray, List.set_cons_zero, List.set_cons_succ]
      refine wpAnyH_done (by kernel_rfl) ?_ _
      go_wp2_with fail
      go_ret
      exact ⟨rfl, b6⟩
    · have hmo2 : (500 : Int) < (ml : Int) := by omega
      go_wp2_with fail
      go_ret
      exact ⟨rfl, B1.out⟩
  · have hl2 : (2000 : Int) < (n : Int) := by omega
    go_wp2_with fail
    go_ret
    exact ⟨rfl, B1.out⟩
set_option maxHeartbeats 1600000 in
theorem lcut_any {w : World} {A : Option Addr} {l : L} (h : Bts w w.heap.size A l) (c : Nat) (hc : l.length ≤ c) (hm : c ≤ maxLen) (z : Int) (hG : Gl w) :
    Calls Try.prog 7 #[.slice A l.length c, .int .i64 z] w fun e w' => e = .returned (.bool true) ∧ Below w.heap.size w w' := by
  have HAW := Lib.hid (awake9 w hG)
  have hGl := hG.lt
  have HG : Hid (∀ X, Below w.heap.size w X → Gl X) := Lib.hid fun X hX => hG.below hX hGl
  have H13 : Hid (∀ X, Below w.heap.size w X → l.length ≤ 2000 → Calls Try.prog 13 #[.slice A l.length c] X (StuffP X l)) := Lib.hid fun X hX hl => stuff_any ((h.below hX).more hX.size) c hc hm (by omega) (HG.out X hX)
  have HSL := Lib.hid (stuff_len l)
  have HSC := Lib.hid (scan_cut l)
  clear h hG hm
  generalize l.length = n at *
  go_enter Try.func7, Try.ntmps7
  go_wp2_with fail
  refine HAW.out.mono ?_
  rintro e w1 ⟨rfl, b1⟩
  have B1 := Lib.hid b1
  clear b1 HAW
  by_cases hl : n ≤ 2000
  · have hl2 : ¬ (2000 : Int) < (n : Int) := by omega
    have hl3 : (n : Int) ≤ 2000 := by omega
    go_wp2_with fail
    refine (H13.out w1 B1.out hl).mono ?_
    rintro e w2 ⟨v2, rfl, ho2, hb2⟩
    have B2 := Lib.hid (B1.out.trans (hb2.mono B1.out.size))
    obtain ⟨A2, k2, c2, rfl⟩ := own5_letters ho2
    obtain ⟨e2, h1, h2⟩ := own5_k ho2
    have HO2 := Lib.hid ho2
    have E2 := Lib.hid e2
    have hk4 : k2 ≤ 4010 := by have := HSL.out; omega
    unfold maxLen at h2
    clear ho2 hb2 e2
    by_cases hz : z < 0
    · go_wp2_with fail
      go_ret
      exact ⟨rfl, B2.out⟩
    · obtain ⟨k, rfl⟩ : ∃ k : Nat, z = k := ⟨z.toNat, by omega⟩
      by_cases hk : k < k2
      · have hk2 : ¬ (k2 : Int) ≤ (k : Int) := by omega
        have hk3 : (k : Int) ≤ (c2 : Int) := by omega
        have hkl : ((stuff l).take k).length = k := by rw [List.length_take, ← E2.out]; omega
        have H15 : Hid (Calls Try.prog 15 #[.slice A2 k c2] w2 (ScanP w2 ((stuff l).take k))) := Lib.hid (by
          have hbt : Bts w2 w2.heap.size A2 (stuff l) := by have := HO2.out; exact Own5.bts this
          have := scan_any (hbt.take k) c2 (by rw [hkl]; omega) (by unfold maxLen; omega) (own5_nil HO2.out) (by rw [hkl]; omega) (HG.out _ B2.out)
          rwa [hkl] at this)
        have HKL := Lib.hid hkl
        have HS0 := Lib.hid (HSC.out k (by rw [← E2.out]; exact hk))
        clear hkl
        go_wp2_with fail
        refine H15.out.mono ?_
        rintro e w4 ⟨v4, y4, r4, rfl, ho4, hr4, ⟨A4, c4, rfl, hb4, _, _⟩, hbw4⟩
        rw [HS0.out] at hr4
        subst hr4
        rw [HKL.out, show (scanL (lines ((stuff l).take k))).isSome = false by rw [HS0.out]; rfl]
        have B4 := Lib.hid (B2.out.trans (hbw4.mono B2.out.size))
        clear ho4 hb4 hbw4
        go_wp2_with fail
        go_ret
        exact ⟨rfl, B4.out⟩
      · have hk2 : (k2 : Int) ≤ (k : Int) := by omega
        go_wp2_with fail
        go_ret
        exact ⟨rfl, B2.out⟩
  · have hl2 : (2000 : Int) < (n : Int) := by omega
    go_wp2_with fail
    go_ret
    exact ⟨rfl, B1.out⟩
end Dt
end Go.Proofs.Ytdbmcbnohldolaa
