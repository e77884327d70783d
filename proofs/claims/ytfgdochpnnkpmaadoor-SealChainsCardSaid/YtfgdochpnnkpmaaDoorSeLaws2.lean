/- The walks of SealOf, SealHolds, SealChains. Conditions: as stated. -/
import Derived.Test.YtfgdochpnnkpmaaDoorSeAwake
import Derived.Test.YtfgdochpnnkpmaaDoorMkMore
namespace Go.Proofs.YtfgdochpnnkpmaaDoor
set_option maxRecDepth 100000
open Go.RowKit Go
set_option maxHeartbeats 1600000 in
theorem lof_core (seg : Int) (A : Option Addr) (n c : Nat) (prev : List UInt8) (x : Sl) (er : Int) (w : World) (hp : prev.length = 32) (hx : x.ok) (h20 : n ≤ 20) (hg : Glob w)
    (HO : Hid (∀ W, Below w.heap.size w W → Calls Tryd.prog 25 #[.int .i64 seg, .slice A n c, .agg (bv prev).toArray] W fun e w' => e = .returned (.tuple #[.agg (sc x).toArray, .int .i64 er]) ∧ Below W.heap.size W w'))
    (HR : Hid (∀ W, Below w.heap.size w W → Calls Tryd.prog 26 #[.int .i64 seg, .slice A n c, .agg (bv prev).toArray] W fun e w' => e = .returned (.tuple #[.agg (sc x).toArray, .int .i64 er]) ∧ Below W.heap.size W w')) :
    Calls Tryd.prog 6 #[.int .i64 seg, .slice A n c, .agg (bv prev).toArray] w fun e w' => e = .returned (.bool true) ∧ Below w.heap.size w w' := by
  have GS := Lib.hid hg.size
  have HG : Hid (∀ W, Below w.heap.size w W → Glob W) := Lib.hid fun W hb => hg.below hb GS.out
  have HAW : Hid (∀ W, Below w.heap.size w W → Calls Tryd.prog 23 #[] W fun e w' => e = .returned (.bool true) ∧ Below W.heap.size W w') := Lib.hid fun W hb => awake6 W (HG.out W hb)
  have HP := Lib.hid hp
  have HX := Lib.hid hx
  have h0 : BlkIs (w.alloc (.cells (bv prev).toArray 22)) w.heap.size 22 (bv prev).toArray := BlkIs.new w _ _
  have hb := below1 w (.cells (bv prev).toArray 22)
  have heq := fun w => run_eq39 x x hx hx w
  rw [eqS_self] at heq
  clear hp hx hg
  go_enter Tryd.func6, Tryd.ntmps6
  go_wp2_with fail
  refine (HAW.out _ hb).mono ?_
  rintro e w2 ⟨rfl, hb2⟩
  have K2 := Lib.hid (hb.trans (hb2.mono (by simp)))
  have P2 : BlkIs w2 w.heap.size 22 (bv prev).toArray := (hb2.block _ h0.lt).trans h0
  have r2 := BlkIs.sum P2
  clear h0 hb hb2 HAW
  go_wp2_with (first
    | (go_at_call 24; refine (few6_yes _ _ _ _ h20).mono ?_; rintro e w3 ⟨rfl, rfl⟩)
    | (refine load_wt (by rfl) 22 (.tmp 5) rfl w.heap.size 0 rfl (bv prev) _ r2 Tryd.underlying22 rfl (isz26s HP.out) ?_)
    | fail)
  refine (HO.out _ K2.out).mono ?_
  rintro e w4 ⟨rfl, hb4⟩
  have P4 : BlkIs w4 w.heap.size 22 (bv prev).toArray := (hb4.block _ P2.lt).trans P2
  have K4 := Lib.hid (K2.out.trans (hb4.mono K2.out.size))
  clear hb4 P2 r2 HO
  go_wp2_with (first
    | (refine store_bl (.tmp 7) (.tmp 21) 39 w4.heap.size 39 _ (sc x).toArray (BlkIs.new w4 _ _) rfl rfl rfl rfl rfl (isz39a HX.out) (sc_size zeroS_ok HX.out) (sc_all _) ?_; intro w5 hb5 ht5; have k5 : Below w4.heap.size w4 w5 := (below1 w4 _).trans (ht5.below (by simp) (fun i hi h => by omega)); have r5 : w5.rangeAt w.heap.size 0 (bv prev) := BlkIs.sum ((k5.block _ P4.lt).trans P4); have K5 := Lib.hid (K4.out.trans (k5.mono K4.out.size)); clear ht5 k5)
    | (refine load_wt (by rfl) 22 (.tmp 5) rfl w.heap.size 0 rfl (bv prev) _ r5 Tryd.underlying22 rfl (isz26s HP.out) ?_)
    | fail)
  refine (HR.out _ K5.out).mono ?_
  rintro e w6 ⟨rfl, hb6⟩
  have X6 : BlkIs w6 w4.heap.size 39 (sc x).toArray := (hb6.block _ hb5.lt).trans hb5
  have K6 := Lib.hid (K5.out.trans (hb6.mono K5.out.size))
  clear hb6 hb5 P4 r5 HR
  go_wp2_with (first
    | (refine store_bl (.tmp 9) (.tmp 28) 39 w6.heap.size 39 _ (sc x).toArray (BlkIs.new w6 _ _) rfl rfl rfl rfl rfl (isz39a HX.out) (sc_size zeroS_ok HX.out) (sc_all _) ?_; intro w7 hb7 ht7; have k7 : Below w6.heap.size w6 w7 := (below1 w6 _).trans (ht7.below (by simp) (fun i hi h => by omega)); have r7 : w7.rangeAt w4.heap.size 0 (sc x) := blk_rng ((k7.block _ X6.lt).trans X6); have r8 : w7.rangeAt w6.heap.size 0 (sc x) := blk_rng hb7; clear ht7)
    | (refine load_wt (by rfl) 39 (.tmp 7) rfl w4.heap.size 0 rfl (sc x) _ r7 Tryd.underlying39 rfl (isz39s HX.out) ?_)
    | (refine load_wt (by rfl) 39 (.tmp 9) rfl w6.heap.size 0 rfl (sc x) _ r8 Tryd.underlying39 rfl (isz39s HX.out) ?_)
    | fail)
  go_ret
  exact ⟨rfl, K6.out.trans (k7.mono K6.out.size)⟩
set_option maxHeartbeats 800000 in
theorem lof_any (seg : Int) (A : Option Addr) (n c : Nat) (L : List (List UInt8)) (prev : List UInt8) (w : World) (hp : prev.length = 32) (hn : L.length = n) (hc : n ≤ c) (hm : c ≤ maxLen) (h : Hs w w.heap.size A L) (hg : Glob w) :
    Calls Tryd.prog 6 #[.int .i64 seg, .slice A n c, .agg (bv prev).toArray] w fun e w' => e = .returned (.bool true) ∧ Below w.heap.size w w' := by
  by_cases h20 : n ≤ 20
  · have GS := Lib.hid hg.size
    by_cases hseg : 1 ≤ seg ∧ seg ≤ 999999
    · exact lof_core seg A n c prev ⟨seg, n, rootS L, prev⟩ 0 w hp ⟨rootS_length h.1, hp⟩ h20 hg
        (Lib.hid fun W hb => of_any seg A n c L prev W hp hn h20 hc hm ((h.below hb).more hb.size) hseg.1 hseg.2 (hg.below hb GS.out))
        (Lib.hid fun W hb => rof_any seg A n c L prev W hp hn h20 hc hm ((h.below hb).more hb.size) hseg.1 hseg.2 (hg.below hb GS.out))
    · have hno : seg < 1 ∨ 999999 < seg := by omega
      exact lof_core seg A n c prev zeroS 1 w hp zeroS_ok h20 hg (Lib.hid fun W _ => of_no seg A n c prev W hno) (Lib.hid fun W _ => rof_no seg A n c prev W hno)
  · skip
    have GS := Lib.hid hg.size
    have HG : Hid (∀ W, Below w.heap.size w W → Glob W) := Lib.hid fun W hb => hg.below hb GS.out
    have HAW : Hid (∀ W, Below w.heap.size w W → Calls Tryd.prog 23 #[] W fun e w' => e = .returned (.bool true) ∧ Below W.heap.size W w') := Lib.hid fun W hb => awake6 W (HG.out W hb)
    have hb := below1 w (.cells (bv prev).toArray 22)
    clear h hn hc hm hp hg
    go_enter Tryd.func6, Tryd.ntmps6
    go_wp2_with fail
    refine (HAW.out _ hb).mono ?_
    rintro e w2 ⟨rfl, hb2⟩
    go_wp2_with (first
      | (go_at_call 24; refine (few6_no _ _ _ _ h20).mono ?_; rintro e w3 ⟨rfl, rfl⟩)
      | fail)
    go_ret
    exact ⟨rfl, hb.trans (hb2.mono (by simp))⟩
set_option maxHeartbeats 1600000 in
theorem lholds_any (s : Sl) (A : Option Addr) (n c : Nat) (L : List (List UInt8)) (w : World) (hs : s.ok) (hn : L.length = n) (hc : n ≤ c) (hm : c ≤ maxLen) (h : Hs w w.heap.size A L) (hg : Glob w) :
    Calls Tryd.prog 10 #[.agg (sc s).toArray, .slice A n c] w fun e w' => e = .returned (.bool true) ∧ Below w.heap.size w w' := by
  have GS := Lib.hid hg.size
  have HG : Hid (∀ W, Below w.heap.size w W → Glob W) := Lib.hid fun W hb => hg.below hb GS.out
  have HAW : Hid (∀ W, Below w.heap.size w W → Calls Tryd.prog 23 #[] W fun e w' => e = .returned (.bool true) ∧ Below W.heap.size W w') := Lib.hid fun W hb => awake6 W (HG.out W hb)
  have HS := Lib.hid hs
  have h0 : BlkIs (w.alloc (.cells (sc s).toArray 39)) w.heap.size 39 (sc s).toArray := BlkIs.new w _ _
  have hb := below1 w (.cells (sc s).toArray 39)
  have HV : Hid (∀ W, Below w.heap.size w W → n ≤ 20 → Calls Tryd.prog 35 #[.agg (sc s).toArray, .slice A n c] W fun e w' => e = .returned (.bool (holdsS s L)) ∧ Below W.heap.size W w') := Lib.hid fun W hb h20 =>
    holds_any s A n c L W hs hn h20 hc hm ((h.below hb).more hb.size) (hg.below hb GS.out)
  have HR : Hid (∀ W, Below w.heap.size w W → n ≤ 20 → Calls Tryd.prog 36 #[.agg (sc s).toArray, .slice A n c] W fun e w' => e = .returned (.bool (holdsS s L)) ∧ Below W.heap.size W w') := Lib.hid fun W hb h20 =>
    rholds_any s A n c L W hs hn h20 hc hm ((h.below hb).more hb.size) (hg.below hb GS.out)
  generalize holdsS s L = b at *
  clear hs hg h hn hc hm
  go_enter Tryd.func10, Tryd.ntmps10
  go_wp2_with fail
  refine (HAW.out _ hb).mono ?_
  rintro e w2 ⟨rfl, hb2⟩
  have KEEP : Hid (∀ W, Below w2.heap.size w2 W → Below w.heap.size w W ∧ W.rangeAt w.heap.size 0 (sc s)) := Lib.hid fun W h =>
    ⟨(hb.trans (hb2.mono (by simp))).trans (h.mono ((hb.trans (hb2.mono (by simp))).size)), blk_rng ((h.block _ (by have := hb2.size; have := h0.lt; omega)).trans ((hb2.block _ h0.lt).trans h0))⟩
  clear h0 hb hb2 HAW
  go_wp2_with fail
  have kd : Below w2.heap.size w2 w2.drew := (Below.refl _ w2).drew
  by_cases h20 : n ≤ 20
  · skip
    refine wp_region_held_drew (S := (fun W => Below w2.heap.size w2 W)) (by kernel_rfl) (kd) (fun hHeld => ?_)
    refine wpAnyH_take (i := 0) (v := .slice A n c) rfl (by kernel_rfl) (by kernel_rfl) (by kernel_rfl) (fun _ _ _ h => h) (Or.inl ⟨by rfl, fun w hS => by first | (go_simp; done) | (go_simp; with_reducible rfl)⟩) hHeld ?_
    try simp only [Act.put, List.getElem_toArray, List.getElem_cons_zero, List.setIfInBounds_toArray, List.set_cons_zero, List.set_cons_succ]
    refine wpAnyH_ready (rs := [1]) (by kernel_rfl) (by simp) ?_
    refine AllReadyH.cons rfl (fun K hK => ?_) AllReadyH.nil
    go_simp
    go_wp2_with (go_at_call 24; refine (few6_yes _ _ _ _ h20).mono ?_; rintro e w3 ⟨rfl, rfl⟩)
    refine hK.out _ _ ?_ (fun hHeld => ?_)
    · exact kd
    clear hK K
    try simp only [Act.put, List.getElem_toArray, List.getElem_cons_zero, List.getElem_cons_succ, List.setIfInBounds_toArray, List.set_cons_zero, List.set_cons_succ]
    refine wpAnyH_take (i := 2) (v := .bool false) rfl (by kernel_rfl) (by kernel_rfl) (by kernel_rfl) (fun _ _ _ h => h) (Or.inl ⟨by rfl, fun w hS => by first | (go_simp; done) | (go_simp; with_reducible rfl)⟩) hHeld ?_
    try simp only [Act.put, List.getElem_toArray, List.getElem_cons_zero, List.getElem_cons_succ, List.setIfInBounds_toArray, List.set_cons_zero, List.set_cons_succ]
    refine wpAnyH_take (i := 3) (v := .bool false) rfl (by kernel_rfl) (by kernel_rfl) (by kernel_rfl) (fun _ _ _ h => h) (Or.inl ⟨by rfl, fun w hS => by first | (go_simp; done) | (go_simp; with_reducible rfl)⟩) hHeld ?_
    try simp only [Act.put, List.getElem_toArray, List.getElem_cons_zero, List.getElem_cons_succ, List.setIfInBounds_toArray, List.set_cons_zero, List.set_cons_succ]
    refine wpAnyH_take (i := 4) (v := _) rfl (by kernel_rfl) (by kernel_rfl) (by kernel_rfl) (fun _ _ _ h => h) (yieldsIf_load_mid (by rfl) 39 (.tmp 2) rfl w.heap.size 0 rfl (sc s) _ (fun w h => (KEEP.out w h).2) Tryd.underlying39 rfl (isz39s HS.out)) hHeld ?_
    try simp only [Act.put, List.getElem_toArray, List.getElem_cons_zero, List.getElem_cons_succ, List.setIfInBounds_toArray, List.set_cons_zero, List.set_cons_succ]
    refine wpAnyH_take (i := 5) (v := .slice A n c) rfl (by kernel_rfl) (by kernel_rfl) (by kernel_rfl) (fun _ _ _ h => h) (Or.inl ⟨by rfl, fun w hS => by first | (go_simp; done) | (go_simp; with_reducible rfl)⟩) hHeld ?_
    try simp only [Act.put, List.getElem_toArray, List.getElem_cons_zero, List.getElem_cons_succ, List.setIfInBounds_toArray, List.set_cons_zero, List.set_cons_succ]
    refine wpAnyH_take (i := 7) (v := _) rfl (by kernel_rfl) (by kernel_rfl) (by kernel_rfl) (fun _ _ _ h => h) (yieldsIf_load_mid (by rfl) 39 (.tmp 2) rfl w.heap.size 0 rfl (sc s) _ (fun w h => (KEEP.out w h).2) Tryd.underlying39 rfl (isz39s HS.out)) hHeld ?_
    try simp only [Act.put, List.getElem_toArray, List.getElem_cons_zero, List.getElem_cons_succ, List.setIfInBounds_toArray, List.set_cons_zero, List.set_cons_succ]
    refine wpAnyH_take (i := 8) (v := .slice A n c) rfl (by kernel_rfl) (by kernel_rfl) (by kernel_rfl) (fun _ _ _ h => h) (Or.inl ⟨by rfl, fun w hS => by first | (go_simp; done) | (go_simp; with_reducible rfl)⟩) hHeld ?_
    try simp only [Act.put, List.getElem_toArray, List.getElem_cons_zero, List.getElem_cons_succ, List.setIfInBounds_toArray, List.set_cons_zero, List.set_cons_succ]
    refine wpAnyH_ready (rs := [6]) (by kernel_rfl) (by simp) ?_
    refine AllReadyH.cons rfl (fun K hK => ?_) AllReadyH.nil
    go_simp
    go_wp2_with (go_at_call 35; refine (HV.out _ (KEEP.out _ kd).1 h20).mono ?_; rintro e w5 ⟨rfl, hb5⟩; have k5 := kd.trans (hb5.mono kd.size))
    refine hK.out _ _ ?_ (fun hHeld => ?_)
    · exact k5
    clear hK K
    try simp only [Act.put, List.getElem_toArray, List.getElem_cons_zero, List.getElem_cons_succ, List.setIfInBounds_toArray, List.set_cons_zero, List.set_cons_succ]
    refine wpAnyH_ready (rs := [9]) (by kernel_rfl) (by simp) ?_
    refine AllReadyH.cons rfl (fun K hK => ?_) AllReadyH.nil
    go_simp
    go_wp2_with (go_at_call 36; refine (HR.out _ (KEEP.out _ k5).1 h20).mono ?_; rintro e w6 ⟨rfl, hb6⟩; have k6 := k5.trans (hb6.mono k5.size))
    refine hK.out _ _ ?_ (fun hHeld => ?_)
    · exact k6
    clear hK K
    try simp only [Act.put, List.getElem_toArray, List.getElem_cons_zero, List.getElem_cons_succ, List.setIfInBounds_toArray, List.set_cons_zero, List.set_cons_succ]
    refine wpAnyH_take (i := 10) (v := .bool true) rfl (by kernel_rfl) (by kernel_rfl) (by kernel_rfl) (fun _ _ _ h => h) (Or.inl ⟨by rfl, fun w hS => by first | (go_simp; done) | (go_simp; with_reducible rfl)⟩) hHeld ?_
    try simp only [Act.put, List.getElem_toArray, List.getElem_cons_zero, List.getElem_cons_succ, List.setIfInBounds_toArray, List.set_cons_zero, List.set_cons_succ]
    refine wpAnyH_take (i := 11) (v := .bool true) rfl (by kernel_rfl) (by kernel_rfl) (by kernel_rfl) (fun _ _ _ h => h) (Or.inl ⟨by rfl, fun w hS => by first | (go_simp; done) | (go_simp; with_reducible rfl)⟩) hHeld ?_
    try simp only [Act.put, List.getElem_toArray, List.getElem_cons_zero, List.getElem_cons_succ, List.setIfInBounds_toArray, List.set_cons_zero, List.set_cons_succ]
    refine wpAnyH_take (i := 12) (v := .bool true) rfl (by kernel_rfl) (by kernel_rfl) (by kernel_rfl) (fun _ _ _ h => h) (Or.inl ⟨by rfl, fun w hS => by first | (go_simp; done) | (go_simp; with_reducible rfl)⟩) hHeld ?_
    try simp only [Act.put, List.getElem_toArray, List.getElem_cons_zero, List.getElem_cons_succ, List.setIfInBounds_toArray, List.set_cons_zero, List.set_cons_succ]
    refine wpAnyH_done (by kernel_rfl) ?_ _
    go_wp2_with fail
    go_ret
    exact ⟨rfl, (KEEP.out _ k6).1⟩
  · skip
    refine wp_region_held_drew (S := (fun W => Below w2.heap.size w2 W)) (by kernel_rfl) (kd) (fun hHeld => ?_)
    refine wpAnyH_take (i := 0) (v := .slice A n c) rfl (by kernel_rfl) (by kernel_rfl) (by kernel_rfl) (fun _ _ _ h => h) (Or.inl ⟨by rfl, fun w hS => by first | (go_simp; done) | (go_simp; with_reducible rfl)⟩) hHeld ?_
    try simp only [Act.put, List.getElem_toArray, List.getElem_cons_zero, List.setIfInBounds_toArray, List.set_cons_zero, List.set_cons_succ]
    refine wpAnyH_ready (rs := [1]) (by kernel_rfl) (by simp) ?_
    refine AllReadyH.cons rfl (fun K hK => ?_) AllReadyH.nil
    go_simp
    go_wp2_with (go_at_call 24; refine (few6_no _ _ _ _ h20).mono ?_; rintro e w3 ⟨rfl, rfl⟩)
    refine hK.out _ _ ?_ (fun hHeld => ?_)
    · exact kd
    clear hK K
    try simp only [Act.put, List.getElem_toArray, List.getElem_cons_zero, List.getElem_cons_succ, List.setIfInBounds_toArray, List.set_cons_zero, List.set_cons_succ]
    refine wpAnyH_take (i := 2) (v := .bool true) rfl (by kernel_rfl) (by kernel_rfl) (by kernel_rfl) (fun _ _ _ h => h) (Or.inl ⟨by rfl, fun w hS => by first | (go_simp; done) | (go_simp; with_reducible rfl)⟩) hHeld ?_
    try simp only [Act.put, List.getElem_toArray, List.getElem_cons_zero, List.getElem_cons_succ, List.setIfInBounds_toArray, List.set_cons_zero, List.set_cons_succ]
    refine wpAnyH_take (i := 3) (v := .bool true) rfl (by kernel_rfl) (by kernel_rfl) (by kernel_rfl) (fun _ _ _ h => h) (Or.inl ⟨by rfl, fun w hS => by first | (go_simp; done) | (go_simp; with_reducible rfl)⟩) hHeld ?_
    try simp only [Act.put, List.getElem_toArray, List.getElem_cons_zero, List.getElem_cons_succ, List.setIfInBounds_toArray, List.set_cons_zero, List.set_cons_succ]
    refine wpAnyH_take (i := 4) (v := undef) rfl (by kernel_rfl) (by kernel_rfl) (by kernel_rfl) (fun _ _ _ h => h) (Or.inr ⟨by rfl, rfl⟩) hHeld ?_
    try simp only [Act.put, List.getElem_toArray, List.getElem_cons_zero, List.getElem_cons_succ, List.setIfInBounds_toArray, List.set_cons_zero, List.set_cons_succ]
    refine wpAnyH_take (i := 5) (v := undef) rfl (by kernel_rfl) (by kernel_rfl) (by kernel_rfl) (fun _ _ _ h => h) (Or.inr ⟨by rfl, rfl⟩) hHeld ?_
    try simp only [Act.put, List.getElem_toArray, List.getElem_cons_zero, List.getElem_cons_succ, List.setIfInBounds_toArray, List.set_cons_zero, List.set_cons_succ]
    refine wpAnyH_take (i := 7) (v := undef) rfl (by kernel_rfl) (by kernel_rfl) (by kernel_rfl) (fun _ _ _ h => h) (Or.inr ⟨by rfl, rfl⟩) hHeld ?_
    try simp only [Act.put, List.getElem_toArray, List.getElem_cons_zero, List.getElem_cons_succ, List.setIfInBounds_toArray, List.set_cons_zero, List.set_cons_succ]
    refine wpAnyH_take (i := 8) (v := undef) rfl (by kernel_rfl) (by kernel_rfl) (by kernel_rfl) (fun _ _ _ h => h) (Or.inr ⟨by rfl, rfl⟩) hHeld ?_
    try simp only [Act.put, List.getElem_toArray, List.getElem_cons_zero, List.getElem_cons_succ, List.setIfInBounds_toArray, List.set_cons_zero, List.set_cons_succ]
    refine wpAnyH_take (i := 6) (v := undef) rfl (by kernel_rfl) (by kernel_rfl) (by kernel_rfl) (fun _ _ _ h => h) (Or.inr ⟨by rfl, rfl⟩) hHeld ?_
    try simp only [Act.put, List.getElem_toArray, List.getElem_cons_zero, List.getElem_cons_succ, List.setIfInBounds_toArray, List.set_cons_zero, List.set_cons_succ]
    refine wpAnyH_take (i := 9) (v := undef) rfl (by kernel_rfl) (by kernel_rfl) (by kernel_rfl) (fun _ _ _ h => h) (Or.inr ⟨by rfl, rfl⟩) hHeld ?_
    try simp only [Act.put, List.getElem_toArray, List.getElem_cons_zero, List.getElem_cons_succ, List.setIfInBounds_toArray, List.set_cons_zero, List.set_cons_succ]
    refine wpAnyH_take (i := 10) (v := undef) rfl (by kernel_rfl) (by kernel_rfl) (by kernel_rfl) (fun _ _ _ h => h) (Or.inr ⟨by rfl, rfl⟩) hHeld ?_
    try simp only [Act.put, List.getElem_toArray, List.getElem_cons_zero, List.getElem_cons_succ, List.setIfInBounds_toArray, List.set_cons_zero, List.set_cons_succ]
    refine wpAnyH_take (i := 11) (v := .bool true) rfl (by kernel_rfl) (by kernel_rfl) (by kernel_rfl) (fun _ _ _ h => h) (Or.inl ⟨by rfl, fun w hS => by first | (go_simp; done) | (go_simp; with_reducible rfl)⟩) hHeld ?_
    try simp only [Act.put, List.getElem_toArray, List.getElem_cons_zero, List.getElem_cons_succ, List.setIfInBounds_toArray, List.set_cons_zero, List.set_cons_succ]
    refine wpAnyH_take (i := 12) (v := .bool true) rfl (by kernel_rfl) (by kernel_rfl) (by kernel_rfl) (fun _ _ _ h => h) (Or.inl ⟨by rfl, fun w hS => by first | (go_simp; done) | (go_simp; with_reducible rfl)⟩) hHeld ?_
    try simp only [Act.put, List.getElem_toArray, List.getElem_cons_zero, List.getElem_cons_succ, List.setIfInBounds_toArray, List.set_cons_zero, List.set_cons_succ]
    refine wpAnyH_done (by kernel_rfl) ?_ _
    go_wp2_with fail
    go_ret
    exact ⟨rfl, (KEEP.out _ kd).1⟩
set_option maxHeartbeats 1600000 in
theorem lchains_any (A : Option Addr) (n c : Nat) (l : List Sl) (w : World) (hn : l.length = n) (h : Ss w w.heap.size A l) (hg : Glob w) :
    Calls Tryd.prog 9 #[.slice A n c] w fun e w' => e = .returned (.bool true) ∧ Below w.heap.size w w' := by
  have GS := Lib.hid hg.size
  have HG : Hid (∀ W, Below w.heap.size w W → Glob W) := Lib.hid fun W hb => hg.below hb GS.out
  have HAW : Hid (∀ W, Below w.heap.size w W → Calls Tryd.prog 23 #[] W fun e w' => e = .returned (.bool true) ∧ Below W.heap.size W w') := Lib.hid fun W hb => awake6 W (HG.out W hb)
  have hbw : Below w.heap.size w w := Below.refl _ _
  have HV : Hid (∀ W, Below w.heap.size w W → n ≤ 20 → Calls Tryd.prog 33 #[.slice A n c] W fun e w' => e = .returned (.int .i64 (chainS sumS 0 (List.replicate 32 0) 0 l : Nat)) ∧ Below W.heap.size W w') := Lib.hid fun W hb h20 =>
    chain_any A n c l W hn (by omega) ((h.below hb).more hb.size) (hg.below hb GS.out)
  have HR : Hid (∀ W, Below w.heap.size w W → n ≤ 20 → Calls Tryd.prog 34 #[.slice A n c] W fun e w' => e = .returned (.int .i64 (chainS sumS 0 (List.replicate 32 0) 0 l : Nat)) ∧ Below W.heap.size W w') := Lib.hid fun W hb h20 =>
    rchain_any A n c l W hn (by omega) ((h.below hb).more hb.size) (hg.below hb GS.out)
  generalize chainS sumS 0 (List.replicate 32 0) 0 l = r at *
  clear hg h hn
  by_cases h20 : n ≤ 20
  · have n20 : ¬ (20 : Int) < (n : Int) := by omega
    go_enter Tryd.func9, Tryd.ntmps9
    go_wp2_with fail
    refine (HAW.out _ hbw).mono ?_
    rintro e w2 ⟨rfl, hb2⟩
    clear HAW
    go_wp2_with (first
      | (go_at_call 33; refine (HV.out _ hb2 h20).mono ?_; rintro e w3 ⟨rfl, hb3⟩; have k3 := hb2.trans (hb3.mono hb2.size))
      | (go_at_call 34; refine (HR.out _ k3 h20).mono ?_; rintro e w4 ⟨rfl, hb4⟩; have k4 := k3.trans (hb4.mono k3.size))
      | fail)
    go_ret
    exact ⟨rfl, k4⟩
  · have n20 : (20 : Int) < (n : Int) := by omega
    go_enter Tryd.func9, Tryd.ntmps9
    go_wp2_with fail
    refine (HAW.out _ hbw).mono ?_
    rintro e w2 ⟨rfl, hb2⟩
    clear HAW
    go_wp2_with fail
    go_ret
    exact ⟨rfl, hb2⟩
end Go.Proofs.YtfgdochpnnkpmaaDoor
