/- Grown where it says no; the document's, out of a contract of its way; the law's walk out of two contracts. Conditions: as stated at each. -/
import Derived.Test.YtfgdochpnnkpmaaDoorMkIn
import Derived.Test.YtfgdochpnnkpmaaDoorMkVerifies
import Derived.Test.YtfgdochpnnkpmaaDoorMkBothE
namespace Go.Proofs.YtfgdochpnnkpmaaDoor
set_option maxRecDepth 100000
open Go.RowKit Go
set_option maxHeartbeats 800000 in
theorem grown_no (old root : List UInt8) (A : Option Addr) (p c : Nat) (m n : Int) (w : World) (hi : m < 1 ∨ n < m) :
    Calls Tryd.prog 15 #[.agg (bv old).toArray, .int .i64 m, .agg (bv root).toArray, .int .i64 n, .slice A p c] w fun e w' => e = .returned (.bool false) ∧ Below w.heap.size w w' := by
  by_cases i1 : m < 1
  · clear hi
    go_enter Tryd.func15, Tryd.ntmps15
    go_wp2_with fail
    go_ret
    exact ⟨rfl, below2 w _ _⟩
  · have i2 : n < m := by omega
    clear hi
    go_enter Tryd.func15, Tryd.ntmps15
    go_wp2_with fail
    go_ret
    exact ⟨rfl, below2 w _ _⟩
set_option maxHeartbeats 800000 in
theorem rgrown_no (old root : List UInt8) (A : Option Addr) (p c : Nat) (m n : Int) (w : World) (hi : m < 1 ∨ n < m) :
    Calls Tryd.prog 16 #[.agg (bv old).toArray, .int .i64 m, .agg (bv root).toArray, .int .i64 n, .slice A p c] w fun e w' => e = .returned (.bool false) ∧ Below w.heap.size w w' := by
  by_cases i1 : m < 1
  · clear hi
    go_enter Tryd.func16, Tryd.ntmps16
    go_wp2_with fail
    go_ret
    exact ⟨rfl, below2 w _ _⟩
  · have i2 : n < m := by omega
    clear hi
    go_enter Tryd.func16, Tryd.ntmps16
    go_wp2_with fail
    go_ret
    exact ⟨rfl, below2 w _ _⟩
set_option maxRecDepth 100000 in
set_option maxHeartbeats 1600000 in
theorem rgrown_of (old root a b : List UInt8) (is : Bool) (A : Option Addr) (p c m n : Nat) (w : World) (ho : old.length = 32) (hr : root.length = 32) (ha : a.length = 32) (hb : b.length = 32) (h1 : 1 ≤ m) (hmn : m ≤ n) (h70 : p ≤ 70)
    (HB : Hid (∀ W, Below w.heap.size w W → Calls Tryd.prog 46 #[.int .i64 m, .int .i64 n, .bool true, .agg (bv old).toArray, .slice A p c] W
      fun e w' => e = .returned (.tuple #[.agg (bv a).toArray, .agg (bv b).toArray, .bool is]) ∧ Below W.heap.size W w')) :
    Calls Tryd.prog 16 #[.agg (bv old).toArray, .int .i64 m, .agg (bv root).toArray, .int .i64 n, .slice A p c] w fun e w' => e = .returned (.bool (is && (a == old) && (b == root))) ∧ Below w.heap.size w w' := by
  have i1 : ¬ (m : Int) < 1 := by omega
  have i2 : ¬ (n : Int) < (m : Int) := by omega
  have p7 : ¬ (70 : Int) < (p : Int) := by omega
  have HOO := Lib.hid ho
  have HRR := Lib.hid hr
  have HAA := Lib.hid ha
  have HBB := Lib.hid hb
  have HZA : Hid ((bv (List.replicate 32 0)).toArray.size = (bv a).toArray.size) := Lib.hid (by rw [List.size_toArray, List.size_toArray, bv_length, bv_length, ha]; rfl)
  have HZB : Hid ((bv (List.replicate 32 0)).toArray.size = (bv b).toArray.size) := Lib.hid (by rw [List.size_toArray, List.size_toArray, bv_length, bv_length, hb]; rfl)
  have heA := fun w => run_eq24 a old HAA.out HOO.out w
  have heB := fun w => run_eq24 b root HBB.out HRR.out w
  clear ho hr ha hb
  cases is
  · skip
    go_enter Tryd.func16, Tryd.ntmps16
    go_wp2_with (first
      | (refine load_blk (.tmp 5) 22 w.heap.size 22 (bv old).toArray (two_blocks w _ _).1 rfl rfl rfl _ Tryd.underlying22 rfl (isz26a HOO.out) ?_)
      | fail)
    refine (HB.out _ (below2 w _ _)).mono ?_
    rintro e w2 ⟨rfl, hb2⟩
    have hbw : Below w.heap.size w w2 := (below2 w _ _).trans (hb2.mono (by simp; omega))
    have HB0 : Hid (BlkIs w2 w.heap.size 22 (bv old).toArray) := Lib.hid ((hb2.block _ (by simp; omega)).trans (two_blocks w _ _).1)
    have HB1 : Hid (BlkIs w2 (w.heap.size + 1) 22 (bv root).toArray) := Lib.hid ((hb2.block _ (by simp)).trans (two_blocks w _ _).2)
    have HBW := Lib.hid hbw
    clear hb2 hbw
    go_wp2_with (first
      | (refine store_bl (.tmp 11) (.tmp 32) 22 w2.heap.size 22 _ (bv a).toArray (two_blocks w2 _ _).1 rfl rfl rfl rfl rfl (isz26a HAA.out) HZA.out (bv_all _) ?_; intro w3 hb3 ht3; have k3 : Below w2.heap.size w2 w3 := (below2 w2 _ _).trans (ht3.below (by simp; omega) (fun i hi h => by omega)); have hc3 := BlkIs.tn (two_blocks w2 _ _).2 ht3 (by omega); clear ht3)
      | (refine store_bl (.tmp 12) (.tmp 33) 22 (w2.heap.size + 1) 22 _ (bv b).toArray hc3 rfl rfl rfl rfl rfl (isz26a HBB.out) HZB.out (bv_all _) ?_; intro w4 hb4 ht4; have k4 : Below w2.heap.size w2 w4 := k3.trans (ht4.below k3.size (fun i hi h => by omega)); have ha4 := BlkIs.tn hb3 ht4 (by omega); have HC0 : Hid (BlkIs w4 w.heap.size 22 (bv old).toArray) := Lib.hid ((k4.block _ HB0.out.lt).trans HB0.out); have HC1 : Hid (BlkIs w4 (w.heap.size + 1) 22 (bv root).toArray) := Lib.hid ((k4.block _ HB1.out.lt).trans HB1.out); clear ht4)
      | (refine load_want (by rfl) 22 (.tmp 11) rfl w2.heap.size 0 rfl (bv a) _ (BlkIs.sum ha4) Tryd.underlying22 rfl (isz26s HAA.out) ?_)
      | (refine load_want (by rfl) 22 (.tmp 5) rfl w.heap.size 0 rfl (bv old) _ (BlkIs.sum HC0.out) Tryd.underlying22 rfl (isz26s HOO.out) ?_)
      | (refine load_want (by rfl) 22 (.tmp 12) rfl (w2.heap.size + 1) 0 rfl (bv b) _ (BlkIs.sum hb4) Tryd.underlying22 rfl (isz26s HBB.out) ?_)
      | (refine load_want (by rfl) 22 (.tmp 7) rfl (w.heap.size + 1) 0 rfl (bv root) _ (BlkIs.sum HC1.out) Tryd.underlying22 rfl (isz26s HRR.out) ?_)
      | fail)
    go_ret
    exact ⟨rfl, HBW.out.trans (k4.mono HBW.out.size)⟩
  · cases hax : (a == old)
    · simp only [hax] at heA
      go_enter Tryd.func16, Tryd.ntmps16
      go_wp2_with (first
        | (refine load_blk (.tmp 5) 22 w.heap.size 22 (bv old).toArray (two_blocks w _ _).1 rfl rfl rfl _ Tryd.underlying22 rfl (isz26a HOO.out) ?_)
        | fail)
      refine (HB.out _ (below2 w _ _)).mono ?_
      rintro e w2 ⟨rfl, hb2⟩
      have hbw : Below w.heap.size w w2 := (below2 w _ _).trans (hb2.mono (by simp; omega))
      have HB0 : Hid (BlkIs w2 w.heap.size 22 (bv old).toArray) := Lib.hid ((hb2.block _ (by simp; omega)).trans (two_blocks w _ _).1)
      have HB1 : Hid (BlkIs w2 (w.heap.size + 1) 22 (bv root).toArray) := Lib.hid ((hb2.block _ (by simp)).trans (two_blocks w _ _).2)
      have HBW := Lib.hid hbw
      clear hb2 hbw
      go_wp2_with (first
        | (refine store_bl (.tmp 11) (.tmp 32) 22 w2.heap.size 22 _ (bv a).toArray (two_blocks w2 _ _).1 rfl rfl rfl rfl rfl (isz26a HAA.out) HZA.out (bv_all _) ?_; intro w3 hb3 ht3; have k3 : Below w2.heap.size w2 w3 := (below2 w2 _ _).trans (ht3.below (by simp; omega) (fun i hi h => by omega)); have hc3 := BlkIs.tn (two_blocks w2 _ _).2 ht3 (by omega); clear ht3)
        | (refine store_bl (.tmp 12) (.tmp 33) 22 (w2.heap.size + 1) 22 _ (bv b).toArray hc3 rfl rfl rfl rfl rfl (isz26a HBB.out) HZB.out (bv_all _) ?_; intro w4 hb4 ht4; have k4 : Below w2.heap.size w2 w4 := k3.trans (ht4.below k3.size (fun i hi h => by omega)); have ha4 := BlkIs.tn hb3 ht4 (by omega); have HC0 : Hid (BlkIs w4 w.heap.size 22 (bv old).toArray) := Lib.hid ((k4.block _ HB0.out.lt).trans HB0.out); have HC1 : Hid (BlkIs w4 (w.heap.size + 1) 22 (bv root).toArray) := Lib.hid ((k4.block _ HB1.out.lt).trans HB1.out); clear ht4)
        | (refine load_want (by rfl) 22 (.tmp 11) rfl w2.heap.size 0 rfl (bv a) _ (BlkIs.sum ha4) Tryd.underlying22 rfl (isz26s HAA.out) ?_)
        | (refine load_want (by rfl) 22 (.tmp 5) rfl w.heap.size 0 rfl (bv old) _ (BlkIs.sum HC0.out) Tryd.underlying22 rfl (isz26s HOO.out) ?_)
        | (refine load_want (by rfl) 22 (.tmp 12) rfl (w2.heap.size + 1) 0 rfl (bv b) _ (BlkIs.sum hb4) Tryd.underlying22 rfl (isz26s HBB.out) ?_)
        | (refine load_want (by rfl) 22 (.tmp 7) rfl (w.heap.size + 1) 0 rfl (bv root) _ (BlkIs.sum HC1.out) Tryd.underlying22 rfl (isz26s HRR.out) ?_)
        | fail)
      go_ret
      exact ⟨rfl, HBW.out.trans (k4.mono HBW.out.size)⟩
    · simp only [hax] at heA
      go_enter Tryd.func16, Tryd.ntmps16
      go_wp2_with (first
        | (refine load_blk (.tmp 5) 22 w.heap.size 22 (bv old).toArray (two_blocks w _ _).1 rfl rfl rfl _ Tryd.underlying22 rfl (isz26a HOO.out) ?_)
        | fail)
      refine (HB.out _ (below2 w _ _)).mono ?_
      rintro e w2 ⟨rfl, hb2⟩
      have hbw : Below w.heap.size w w2 := (below2 w _ _).trans (hb2.mono (by simp; omega))
      have HB0 : Hid (BlkIs w2 w.heap.size 22 (bv old).toArray) := Lib.hid ((hb2.block _ (by simp; omega)).trans (two_blocks w _ _).1)
      have HB1 : Hid (BlkIs w2 (w.heap.size + 1) 22 (bv root).toArray) := Lib.hid ((hb2.block _ (by simp)).trans (two_blocks w _ _).2)
      have HBW := Lib.hid hbw
      clear hb2 hbw
      go_wp2_with (first
        | (refine store_bl (.tmp 11) (.tmp 32) 22 w2.heap.size 22 _ (bv a).toArray (two_blocks w2 _ _).1 rfl rfl rfl rfl rfl (isz26a HAA.out) HZA.out (bv_all _) ?_; intro w3 hb3 ht3; have k3 : Below w2.heap.size w2 w3 := (below2 w2 _ _).trans (ht3.below (by simp; omega) (fun i hi h => by omega)); have hc3 := BlkIs.tn (two_blocks w2 _ _).2 ht3 (by omega); clear ht3)
        | (refine store_bl (.tmp 12) (.tmp 33) 22 (w2.heap.size + 1) 22 _ (bv b).toArray hc3 rfl rfl rfl rfl rfl (isz26a HBB.out) HZB.out (bv_all _) ?_; intro w4 hb4 ht4; have k4 : Below w2.heap.size w2 w4 := k3.trans (ht4.below k3.size (fun i hi h => by omega)); have ha4 := BlkIs.tn hb3 ht4 (by omega); have HC0 : Hid (BlkIs w4 w.heap.size 22 (bv old).toArray) := Lib.hid ((k4.block _ HB0.out.lt).trans HB0.out); have HC1 : Hid (BlkIs w4 (w.heap.size + 1) 22 (bv root).toArray) := Lib.hid ((k4.block _ HB1.out.lt).trans HB1.out); clear ht4)
        | (refine load_want (by rfl) 22 (.tmp 11) rfl w2.heap.size 0 rfl (bv a) _ (BlkIs.sum ha4) Tryd.underlying22 rfl (isz26s HAA.out) ?_)
        | (refine load_want (by rfl) 22 (.tmp 5) rfl w.heap.size 0 rfl (bv old) _ (BlkIs.sum HC0.out) Tryd.underlying22 rfl (isz26s HOO.out) ?_)
        | (refine load_want (by rfl) 22 (.tmp 12) rfl (w2.heap.size + 1) 0 rfl (bv b) _ (BlkIs.sum hb4) Tryd.underlying22 rfl (isz26s HBB.out) ?_)
        | (refine load_want (by rfl) 22 (.tmp 7) rfl (w.heap.size + 1) 0 rfl (bv root) _ (BlkIs.sum HC1.out) Tryd.underlying22 rfl (isz26s HRR.out) ?_)
        | fail)
      go_ret
      exact ⟨rfl, HBW.out.trans (k4.mono HBW.out.size)⟩
set_option maxRecDepth 100000 in
set_option maxHeartbeats 1600000 in
theorem grown_core (old root : List UInt8) (A : Option Addr) (p c : Nat) (m n : Int) (X : Bool) (w : World) (ho : old.length = 32) (hr : root.length = 32) (hg : Glob w) (h20 : p ≤ 20)
    (HV : Hid (∀ W, Below w.heap.size w W → Calls Tryd.prog 15 #[.agg (bv old).toArray, .int .i64 m, .agg (bv root).toArray, .int .i64 n, .slice A p c] W fun e w' => e = .returned (.bool X) ∧ Below W.heap.size W w'))
    (HR : Hid (∀ W, Below w.heap.size w W → Calls Tryd.prog 16 #[.agg (bv old).toArray, .int .i64 m, .agg (bv root).toArray, .int .i64 n, .slice A p c] W fun e w' => e = .returned (.bool X) ∧ Below W.heap.size W w')) :
    Calls Tryd.prog 3 #[.agg (bv old).toArray, .int .i64 m, .agg (bv root).toArray, .int .i64 n, .slice A p c] w fun e w' => e = .returned (.bool true) ∧ Below w.heap.size w w' := by
  have GS := Lib.hid hg.size
  have HAW : Hid (∀ W, Below w.heap.size w W → Calls Tryd.prog 13 #[] W fun e w' => e = .returned (.bool true) ∧ Below W.heap.size W w') := Lib.hid fun W hb => awake_any W (hg.below hb GS.out)
  have HOO := Lib.hid ho
  have HRR := Lib.hid hr
  clear ho hr hg
  go_enter Tryd.func3, Tryd.ntmps3
  go_wp2_with (first
    | (go_at_call 13; refine (HAW.out _ (below2 w _ _)).mono ?_; rintro e w2 ⟨rfl, hb2⟩; have HBW : Hid (Below w.heap.size w w2) := Lib.hid ((below2 w _ _).trans (hb2.mono (by simp; omega))); have HB0 : Hid (BlkIs w2 w.heap.size 22 (bv old).toArray) := Lib.hid ((hb2.block _ (by simp; omega)).trans (two_blocks w _ _).1); have HB1 : Hid (BlkIs w2 (w.heap.size + 1) 22 (bv root).toArray) := Lib.hid ((hb2.block _ (by simp)).trans (two_blocks w _ _).2); clear hb2)
    | (go_at_call 14; refine (few_yes _ _ _ _ h20).mono ?_; rintro e w3 ⟨rfl, rfl⟩)
    | fail)
  have KEEP : Hid (∀ W, Below w2.heap.size w2 W → Below w.heap.size w W ∧ W.rangeAt w.heap.size 0 (bv old) ∧ W.rangeAt (w.heap.size + 1) 0 (bv root)) := Lib.hid fun W hb =>
    ⟨HBW.out.trans (hb.mono HBW.out.size), BlkIs.sum ((hb.block _ HB0.out.lt).trans HB0.out), BlkIs.sum ((hb.block _ HB1.out.lt).trans HB1.out)⟩
  have k0 : Below w2.heap.size w2 w2.drew := (Below.refl _ w2).drew
  refine wp_region_held_drew (S := (fun W => Below w2.heap.size w2 W)) (by kernel_rfl) (k0) (fun hHeld => ?_)
  refine wpAnyH_take (i := 0) (v := _) rfl (by kernel_rfl) (by kernel_rfl) (by kernel_rfl) (fun _ _ _ h => h) (yieldsIf_load_mid (by rfl) 22 (.tmp 5) rfl w.heap.size 0 rfl (bv old) _ (fun w h => (KEEP.out w h).2.1) Tryd.underlying22 rfl (isz26s HOO.out)) hHeld ?_
  try simp only [Act.put, List.getElem_toArray, List.getElem_cons_zero, List.setIfInBounds_toArray, List.set_cons_zero, List.set_cons_succ]
  refine wpAnyH_take (i := 1) (v := .int .i64 m) rfl (by kernel_rfl) (by kernel_rfl) (by kernel_rfl) (fun _ _ _ h => h) (Or.inl ⟨by rfl, fun w hS => by first | (go_simp; done) | (go_simp; with_reducible rfl)⟩) hHeld ?_
  try simp only [Act.put, List.getElem_toArray, List.getElem_cons_zero, List.getElem_cons_succ, List.setIfInBounds_toArray, List.set_cons_zero, List.set_cons_succ]
  refine wpAnyH_take (i := 2) (v := _) rfl (by kernel_rfl) (by kernel_rfl) (by kernel_rfl) (fun _ _ _ h => h) (yieldsIf_load_mid (by rfl) 22 (.tmp 7) rfl (w.heap.size + 1) 0 rfl (bv root) _ (fun w h => (KEEP.out w h).2.2) Tryd.underlying22 rfl (isz26s HRR.out)) hHeld ?_
  try simp only [Act.put, List.getElem_toArray, List.getElem_cons_zero, List.getElem_cons_succ, List.setIfInBounds_toArray, List.set_cons_zero, List.set_cons_succ]
  refine wpAnyH_take (i := 3) (v := .int .i64 n) rfl (by kernel_rfl) (by kernel_rfl) (by kernel_rfl) (fun _ _ _ h => h) (Or.inl ⟨by rfl, fun w hS => by first | (go_simp; done) | (go_simp; with_reducible rfl)⟩) hHeld ?_
  try simp only [Act.put, List.getElem_toArray, List.getElem_cons_zero, List.getElem_cons_succ, List.setIfInBounds_toArray, List.set_cons_zero, List.set_cons_succ]
  refine wpAnyH_take (i := 4) (v := .slice A p c) rfl (by kernel_rfl) (by kernel_rfl) (by kernel_rfl) (fun _ _ _ h => h) (Or.inl ⟨by rfl, fun w hS => by first | (go_simp; done) | (go_simp; with_reducible rfl)⟩) hHeld ?_
  try simp only [Act.put, List.getElem_toArray, List.getElem_cons_zero, List.getElem_cons_succ, List.setIfInBounds_toArray, List.set_cons_zero, List.set_cons_succ]
  refine wpAnyH_take (i := 6) (v := _) rfl (by kernel_rfl) (by kernel_rfl) (by kernel_rfl) (fun _ _ _ h => h) (yieldsIf_load_mid (by rfl) 22 (.tmp 5) rfl w.heap.size 0 rfl (bv old) _ (fun w h => (KEEP.out w h).2.1) Tryd.underlying22 rfl (isz26s HOO.out)) hHeld ?_
  try simp only [Act.put, List.getElem_toArray, List.getElem_cons_zero, List.getElem_cons_succ, List.setIfInBounds_toArray, List.set_cons_zero, List.set_cons_succ]
  refine wpAnyH_take (i := 7) (v := .int .i64 m) rfl (by kernel_rfl) (by kernel_rfl) (by kernel_rfl) (fun _ _ _ h => h) (Or.inl ⟨by rfl, fun w hS => by first | (go_simp; done) | (go_simp; with_reducible rfl)⟩) hHeld ?_
  try simp only [Act.put, List.getElem_toArray, List.getElem_cons_zero, List.getElem_cons_succ, List.setIfInBounds_toArray, List.set_cons_zero, List.set_cons_succ]
  refine wpAnyH_take (i := 8) (v := _) rfl (by kernel_rfl) (by kernel_rfl) (by kernel_rfl) (fun _ _ _ h => h) (yieldsIf_load_mid (by rfl) 22 (.tmp 7) rfl (w.heap.size + 1) 0 rfl (bv root) _ (fun w h => (KEEP.out w h).2.2) Tryd.underlying22 rfl (isz26s HRR.out)) hHeld ?_
  try simp only [Act.put, List.getElem_toArray, List.getElem_cons_zero, List.getElem_cons_succ, List.setIfInBounds_toArray, List.set_cons_zero, List.set_cons_succ]
  refine wpAnyH_take (i := 9) (v := .int .i64 n) rfl (by kernel_rfl) (by kernel_rfl) (by kernel_rfl) (fun _ _ _ h => h) (Or.inl ⟨by rfl, fun w hS => by first | (go_simp; done) | (go_simp; with_reducible rfl)⟩) hHeld ?_
  try simp only [Act.put, List.getElem_toArray, List.getElem_cons_zero, List.getElem_cons_succ, List.setIfInBounds_toArray, List.set_cons_zero, List.set_cons_succ]
  refine wpAnyH_take (i := 10) (v := .slice A p c) rfl (by kernel_rfl) (by kernel_rfl) (by kernel_rfl) (fun _ _ _ h => h) (Or.inl ⟨by rfl, fun w hS => by first | (go_simp; done) | (go_simp; with_reducible rfl)⟩) hHeld ?_
  try simp only [Act.put, List.getElem_toArray, List.getElem_cons_zero, List.getElem_cons_succ, List.setIfInBounds_toArray, List.set_cons_zero, List.set_cons_succ]
  refine wpAnyH_ready (rs := [5]) (by kernel_rfl) (by simp) ?_
  refine AllReadyH.cons rfl (fun K hK => ?_) AllReadyH.nil
  go_simp
  go_wp2_with (go_at_call 15; refine (HV.out _ (KEEP.out _ hHeld).1).mono ?_; clear HV; rintro e w6 ⟨rfl, hb6⟩; have k6 := k0.trans (hb6.mono k0.size))
  refine hK.out _ _ ?_ (fun hHeld => ?_)
  · exact k6
  clear hK K
  try simp only [Act.put, List.getElem_toArray, List.getElem_cons_zero, List.getElem_cons_succ, List.setIfInBounds_toArray, List.set_cons_zero, List.set_cons_succ]
  refine wpAnyH_ready (rs := [11]) (by kernel_rfl) (by simp) ?_
  refine AllReadyH.cons rfl (fun K hK => ?_) AllReadyH.nil
  go_simp
  go_wp2_with (go_at_call 16; refine (HR.out _ (KEEP.out _ hHeld).1).mono ?_; clear HR; rintro e w7 ⟨rfl, hb7⟩; have k7 := k6.trans (hb7.mono k6.size))
  refine hK.out _ _ ?_ (fun hHeld => ?_)
  · exact k7
  clear hK K
  try simp only [Act.put, List.getElem_toArray, List.getElem_cons_zero, List.getElem_cons_succ, List.setIfInBounds_toArray, List.set_cons_zero, List.set_cons_succ]
  refine wpAnyH_take (i := 12) (v := .bool true) rfl (by kernel_rfl) (by kernel_rfl) (by kernel_rfl) (fun _ _ _ h => h) (Or.inl ⟨by rfl, fun w hS => by first | (go_simp; done) | (go_simp; with_reducible rfl)⟩) hHeld ?_
  try simp only [Act.put, List.getElem_toArray, List.getElem_cons_zero, List.getElem_cons_succ, List.setIfInBounds_toArray, List.set_cons_zero, List.set_cons_succ]
  refine wpAnyH_take (i := 13) (v := .bool true) rfl (by kernel_rfl) (by kernel_rfl) (by kernel_rfl) (fun _ _ _ h => h) (Or.inl ⟨by rfl, fun w hS => by first | (go_simp; done) | (go_simp; with_reducible rfl)⟩) hHeld ?_
  try simp only [Act.put, List.getElem_toArray, List.getElem_cons_zero, List.getElem_cons_succ, List.setIfInBounds_toArray, List.set_cons_zero, List.set_cons_succ]
  refine wpAnyH_done (by kernel_rfl) ?_ _
  go_wp2_with fail
  go_ret
  exact ⟨rfl, (KEEP.out _ k7).1⟩
set_option maxHeartbeats 800000 in
theorem grown_many (old root : List UInt8) (A : Option Addr) (p c : Nat) (m n : Int) (w : World) (hg : Glob w) (h20 : ¬ p ≤ 20) : Calls Tryd.prog 3 #[.agg (bv old).toArray, .int .i64 m, .agg (bv root).toArray, .int .i64 n, .slice A p c] w fun e w' => e = .returned (.bool true) ∧ Below w.heap.size w w' := by
  have GS := Lib.hid hg.size
  have HAW : Hid (∀ W, Below w.heap.size w W → Calls Tryd.prog 13 #[] W fun e w' => e = .returned (.bool true) ∧ Below W.heap.size W w') := Lib.hid fun W hb => awake_any W (hg.below hb GS.out)
  clear hg
  go_enter Tryd.func3, Tryd.ntmps3
  go_wp2_with (first
    | (go_at_call 13; refine (HAW.out _ (below2 w _ _)).mono ?_; rintro e w2 ⟨rfl, hb2⟩; have HBW : Hid (Below w.heap.size w w2) := Lib.hid ((below2 w _ _).trans (hb2.mono (by simp; omega))); clear hb2)
    | (go_at_call 14; refine (few_no _ _ _ _ h20).mono ?_; rintro e w3 ⟨rfl, rfl⟩)
    | fail)
  go_ret
  exact ⟨rfl, HBW.out⟩
end Go.Proofs.YtfgdochpnnkpmaaDoor
