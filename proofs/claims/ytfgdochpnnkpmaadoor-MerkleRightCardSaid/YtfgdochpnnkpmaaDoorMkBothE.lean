/- The document's way of a beginning: where it ends. Conditions: as stated. -/
import Derived.Test.YtfgdochpnnkpmaaDoorMkIn
import Derived.Test.YtfgdochpnnkpmaaDoorMkAwake
namespace Go.Proofs.YtfgdochpnnkpmaaDoor
set_option maxRecDepth 100000
open Go.RowKit Go
theorem ret_blk4 {P : Program} {fn : Func} {R : Ending → World → Prop} {a : Act} {w : World} {p p' q : Tmp} {ty : TypeId} (hr : fn.results = #[.cell p ty, .cell p' ty, .tmp q]) (g : Nat) (t : TypeId) (cs : Array Value) (g' : Nat) (t' : TypeId) (cs' : Array Value) (v : Value) (hg : BlkIs w g t cs) (hg' : BlkIs w g' t' cs') (d : TypeDesc)
    (hp : a.tmps.getD p undef = .pointer (some ⟨g, 0, none⟩)) (hp' : a.tmps.getD p' undef = .pointer (some ⟨g', 0, none⟩)) (hq : a.tmps.getD q undef = v) (hu : P.underlying ty = some d) (hd : (match d with | .struct _ | .array _ _ => true | _ => false) = true) (hi : (P.info? ty).map (·.size) = some cs.size) (hi' : (P.info? ty).map (·.size) = some cs'.size)
    (hde : a.defers = []) (hR : R (.returned (.tuple #[.agg cs, .agg cs', v])) w) : bodyPost P fn R .ret a w := by
  refine bodyPost_ret_by ?_ hde hR
  have h1 : a.tmps[p]?.getD undef = .pointer (some ⟨g, 0, none⟩) := by simpa using hp
  have h2 : a.tmps[p']?.getD undef = .pointer (some ⟨g', 0, none⟩) := by simpa using hp'
  have h3 : a.tmps[q]?.getD undef = v := by simpa using hq
  simp [results, hr, h1, h2, h3, asAddr, run_loadVar_row w g t ty cs (0, 0) d hg hu hd hi, run_loadVar_row w g' t' ty cs' (0, 0) d hg' hu hd hi']
theorem two_stores {w W w3 w4 : World} {p q : Nat → Prop} (ht3 : Tn p W w3) (ht4 : Tn q w3 w4) (h0 : Below w.heap.size w W) (hp : ∀ i, i < w.heap.size → p i → False) (hq : ∀ i, i < w.heap.size → q i → False) : Below w.heap.size w w4 :=
  have h1 := h0.trans (ht3.below h0.size fun i hi h => hp i hi h)
  h1.trans (ht4.below h1.size fun i hi h => hq i hi h)
set_option maxRecDepth 100000 in
set_option maxHeartbeats 1600000 in
theorem both_e1 (old : List UInt8) (A : Option Addr) (p c n : Nat) (w : World) (ho : old.length = 32) (h0 : p = 0) :
    Calls Tryd.prog 46 #[.int .i64 n, .int .i64 n, .bool true, .agg (bv old).toArray, .slice A p c] w fun e w' => e = .returned (.tuple #[.agg (bv old).toArray, .agg (bv old).toArray, .bool true]) ∧ Below w.heap.size w w' := by
  subst h0
  have HO := Lib.hid ho
  have HZ : Hid ((bv (List.replicate 32 0)).toArray.size = (bv old).toArray.size) := Lib.hid (by rw [List.size_toArray, List.size_toArray, bv_length, bv_length, HO.out]; rfl)
  go_enter Tryd.func46, Tryd.ntmps46
  go_wp2_with fail
  refine wp_region_held_drew (S := (fun W => W.rangeAt w.heap.size 0 (bv old))) (by kernel_rfl) (BlkIs.sum ((Alk.drew _).blk (three_blocks w _ _ _).1)) (fun hHeld => ?_)
  refine wpAnyH_take (i := 0) (v := _) rfl (by kernel_rfl) (by kernel_rfl) (by kernel_rfl) (fun _ _ _ h => h) (yieldsIf_load_mid (by rfl) 22 (.tmp 8) rfl w.heap.size 0 rfl (bv old) _ (fun w h => h) Tryd.underlying22 rfl (isz26s HO.out)) hHeld ?_
  try simp only [Act.put, List.getElem_toArray, List.getElem_cons_zero, List.setIfInBounds_toArray, List.set_cons_zero, List.set_cons_succ]
  refine wpAnyH_take (i := 1) (v := _) rfl (by kernel_rfl) (by kernel_rfl) (by kernel_rfl) (fun _ _ _ h => h) (yieldsIf_load_mid (by rfl) 22 (.tmp 8) rfl w.heap.size 0 rfl (bv old) _ (fun w h => h) Tryd.underlying22 rfl (isz26s HO.out)) hHeld ?_
  try simp only [Act.put, List.getElem_toArray, List.getElem_cons_zero, List.getElem_cons_succ, List.setIfInBounds_toArray, List.set_cons_zero, List.set_cons_succ]
  refine wpAnyH_take (i := 2) (v := .slice A 0 c) rfl (by kernel_rfl) (by kernel_rfl) (by kernel_rfl) (fun _ _ _ h => h) (Or.inl ⟨by rfl, fun w hS => by first | (go_simp; done) | (go_simp; with_reducible rfl)⟩) hHeld ?_
  try simp only [Act.put, List.getElem_toArray, List.getElem_cons_zero, List.getElem_cons_succ, List.setIfInBounds_toArray, List.set_cons_zero, List.set_cons_succ]
  refine wpAnyH_take (i := 3) (v := .int .i64 0) rfl (by kernel_rfl) (by kernel_rfl) (by kernel_rfl) (fun _ _ _ h => h) (Or.inl ⟨by rfl, fun w hS => by first | (go_simp; done) | (go_simp; with_reducible rfl)⟩) hHeld ?_
  try simp only [Act.put, List.getElem_toArray, List.getElem_cons_zero, List.getElem_cons_succ, List.setIfInBounds_toArray, List.set_cons_zero, List.set_cons_succ]
  refine wpAnyH_take (i := 4) (v := .bool true) rfl (by kernel_rfl) (by kernel_rfl) (by kernel_rfl) (fun _ _ _ h => h) (Or.inl ⟨by rfl, fun w hS => by first | (go_simp; done) | (go_simp; with_reducible rfl)⟩) hHeld ?_
  try simp only [Act.put, List.getElem_toArray, List.getElem_cons_zero, List.getElem_cons_succ, List.setIfInBounds_toArray, List.set_cons_zero, List.set_cons_succ]
  refine wpAnyH_ready (rs := [5]) (by kernel_rfl) (by simp) ?_
  refine AllReadyH.cons rfl (fun K hK => ?_) AllReadyH.nil
  refine step_store (.tmp 10) (.tmp 25) 22 (w.heap.size + 1) 22 _ (bv old).toArray ((Alk.drew _).blk (three_blocks w _ _ _).2.1) rfl rfl rfl rfl rfl (isz26a HO.out) HZ.out (bv_all _) ?_; intro w3 hb3 ht3
  refine hK.out _ _ ?_ (fun hHeld => ?_)
  · exact range_tn hHeld ht3 (by omega)
  clear hK K
  try simp only [Act.put, List.getElem_toArray, List.getElem_cons_zero, List.getElem_cons_succ, List.setIfInBounds_toArray, List.set_cons_zero, List.set_cons_succ]
  refine wpAnyH_ready (rs := [6]) (by kernel_rfl) (by simp) ?_
  refine AllReadyH.cons rfl (fun K hK => ?_) AllReadyH.nil
  refine step_store (.tmp 11) (.tmp 26) 22 (w.heap.size + 1 + 1) 22 _ (bv old).toArray (BlkIs.tn ((Alk.drew _).blk (three_blocks w _ _ _).2.2) ht3 (by omega)) rfl rfl rfl rfl rfl (isz26a HO.out) HZ.out (bv_all _) ?_; intro w4 hb4 ht4
  refine hK.out _ _ ?_ (fun hHeld => ?_)
  · exact range_tn hHeld ht4 (by omega)
  clear hK K
  try simp only [Act.put, List.getElem_toArray, List.getElem_cons_zero, List.getElem_cons_succ, List.setIfInBounds_toArray, List.set_cons_zero, List.set_cons_succ]
  refine wpAnyH_take (i := 7) (v := .bool true) rfl (by kernel_rfl) (by kernel_rfl) (by kernel_rfl) (fun _ _ _ h => h) (Or.inl ⟨by rfl, fun w hS => by first | (go_simp; done) | (go_simp; with_reducible rfl)⟩) hHeld ?_
  try simp only [Act.put, List.getElem_toArray, List.getElem_cons_zero, List.getElem_cons_succ, List.setIfInBounds_toArray, List.set_cons_zero, List.set_cons_succ]
  refine wpAnyH_done (by kernel_rfl) ?_ _
  go_wp2_with fail
  have hz : Below w.heap.size w w4 := two_stores ht3 ht4 ((below3 w _ _ _).drew) (fun i hi h => by omega) (fun i hi h => by omega)
  exact ret_blk4 rfl (w.heap.size + 1) 22 _ (w.heap.size + 1 + 1) 22 _ _ (BlkIs.tn hb3 ht4 (by omega)) hb4 _ rfl rfl rfl Tryd.underlying22 rfl (isz26a HO.out) (isz26a HO.out) rfl ⟨rfl, hz⟩
set_option maxRecDepth 100000 in
set_option maxHeartbeats 1600000 in
theorem both_e1n (old : List UInt8) (A : Option Addr) (p c n : Nat) (w : World) (ho : old.length = 32) (h0 : p ≠ 0) :
    Calls Tryd.prog 46 #[.int .i64 n, .int .i64 n, .bool true, .agg (bv old).toArray, .slice A p c] w fun e w' => e = .returned (.tuple #[.agg (bv old).toArray, .agg (bv old).toArray, .bool false]) ∧ Below w.heap.size w w' := by
  have hp1 : ((p : Int) == 0) = false := by simpa using h0
  have hp2 : ¬ (p : Int) = 0 := by omega
  have HO := Lib.hid ho
  have HZ : Hid ((bv (List.replicate 32 0)).toArray.size = (bv old).toArray.size) := Lib.hid (by rw [List.size_toArray, List.size_toArray, bv_length, bv_length, HO.out]; rfl)
  go_enter Tryd.func46, Tryd.ntmps46
  go_wp2_with fail
  refine wp_region_held_drew (S := (fun W => W.rangeAt w.heap.size 0 (bv old))) (by kernel_rfl) (BlkIs.sum ((Alk.drew _).blk (three_blocks w _ _ _).1)) (fun hHeld => ?_)
  refine wpAnyH_take (i := 0) (v := _) rfl (by kernel_rfl) (by kernel_rfl) (by kernel_rfl) (fun _ _ _ h => h) (yieldsIf_load_mid (by rfl) 22 (.tmp 8) rfl w.heap.size 0 rfl (bv old) _ (fun w h => h) Tryd.underlying22 rfl (isz26s HO.out)) hHeld ?_
  try simp only [Act.put, List.getElem_toArray, List.getElem_cons_zero, List.setIfInBounds_toArray, List.set_cons_zero, List.set_cons_succ]
  refine wpAnyH_take (i := 1) (v := _) rfl (by kernel_rfl) (by kernel_rfl) (by kernel_rfl) (fun _ _ _ h => h) (yieldsIf_load_mid (by rfl) 22 (.tmp 8) rfl w.heap.size 0 rfl (bv old) _ (fun w h => h) Tryd.underlying22 rfl (isz26s HO.out)) hHeld ?_
  try simp only [Act.put, List.getElem_toArray, List.getElem_cons_zero, List.getElem_cons_succ, List.setIfInBounds_toArray, List.set_cons_zero, List.set_cons_succ]
  refine wpAnyH_take (i := 2) (v := .slice A p c) rfl (by kernel_rfl) (by kernel_rfl) (by kernel_rfl) (fun _ _ _ h => h) (Or.inl ⟨by rfl, fun w hS => by first | (go_simp; done) | (go_simp; with_reducible rfl)⟩) hHeld ?_
  try simp only [Act.put, List.getElem_toArray, List.getElem_cons_zero, List.getElem_cons_succ, List.setIfInBounds_toArray, List.set_cons_zero, List.set_cons_succ]
  refine wpAnyH_take (i := 3) (v := .int .i64 p) rfl (by kernel_rfl) (by kernel_rfl) (by kernel_rfl) (fun _ _ _ h => h) (Or.inl ⟨by rfl, fun w hS => by first | (go_simp; done) | (go_simp; with_reducible rfl)⟩) hHeld ?_
  try simp only [Act.put, List.getElem_toArray, List.getElem_cons_zero, List.getElem_cons_succ, List.setIfInBounds_toArray, List.set_cons_zero, List.set_cons_succ]
  refine wpAnyH_take (i := 4) (v := .bool false) rfl (by kernel_rfl) (by kernel_rfl) (by kernel_rfl) (fun _ _ _ h => h) (Or.inl ⟨by rfl, fun w hS => by first | (go_simp; done) | (go_simp; with_reducible rfl)⟩) hHeld ?_
  try simp only [Act.put, List.getElem_toArray, List.getElem_cons_zero, List.getElem_cons_succ, List.setIfInBounds_toArray, List.set_cons_zero, List.set_cons_succ]
  refine wpAnyH_ready (rs := [5]) (by kernel_rfl) (by simp) ?_
  refine AllReadyH.cons rfl (fun K hK => ?_) AllReadyH.nil
  refine step_store (.tmp 10) (.tmp 25) 22 (w.heap.size + 1) 22 _ (bv old).toArray ((Alk.drew _).blk (three_blocks w _ _ _).2.1) rfl rfl rfl rfl rfl (isz26a HO.out) HZ.out (bv_all _) ?_; intro w3 hb3 ht3
  refine hK.out _ _ ?_ (fun hHeld => ?_)
  · exact range_tn hHeld ht3 (by omega)
  clear hK K
  try simp only [Act.put, List.getElem_toArray, List.getElem_cons_zero, List.getElem_cons_succ, List.setIfInBounds_toArray, List.set_cons_zero, List.set_cons_succ]
  refine wpAnyH_ready (rs := [6]) (by kernel_rfl) (by simp) ?_
  refine AllReadyH.cons rfl (fun K hK => ?_) AllReadyH.nil
  refine step_store (.tmp 11) (.tmp 26) 22 (w.heap.size + 1 + 1) 22 _ (bv old).toArray (BlkIs.tn ((Alk.drew _).blk (three_blocks w _ _ _).2.2) ht3 (by omega)) rfl rfl rfl rfl rfl (isz26a HO.out) HZ.out (bv_all _) ?_; intro w4 hb4 ht4
  refine hK.out _ _ ?_ (fun hHeld => ?_)
  · exact range_tn hHeld ht4 (by omega)
  clear hK K
  try simp only [Act.put, List.getElem_toArray, List.getElem_cons_zero, List.getElem_cons_succ, List.setIfInBounds_toArray, List.set_cons_zero, List.set_cons_succ]
  refine wpAnyH_take (i := 7) (v := .bool false) rfl (by kernel_rfl) (by kernel_rfl) (by kernel_rfl) (fun _ _ _ h => h) (Or.inl ⟨by rfl, fun w hS => by first | (go_simp; done) | (go_simp; with_reducible rfl)⟩) hHeld ?_
  try simp only [Act.put, List.getElem_toArray, List.getElem_cons_zero, List.getElem_cons_succ, List.setIfInBounds_toArray, List.set_cons_zero, List.set_cons_succ]
  refine wpAnyH_done (by kernel_rfl) ?_ _
  go_wp2_with fail
  have hz : Below w.heap.size w w4 := two_stores ht3 ht4 ((below3 w _ _ _).drew) (fun i hi h => by omega) (fun i hi h => by omega)
  exact ret_blk4 rfl (w.heap.size + 1) 22 _ (w.heap.size + 1 + 1) 22 _ _ (BlkIs.tn hb3 ht4 (by omega)) hb4 _ rfl rfl rfl Tryd.underlying22 rfl (isz26a HO.out) (isz26a HO.out) rfl ⟨rfl, hz⟩
set_option maxRecDepth 100000 in
set_option maxHeartbeats 1600000 in
theorem both_e2 (old : List UInt8) (A : Option Addr) (p c n : Nat) (w : World) (ho : old.length = 32) (h0 : p ≠ 1) :
    Calls Tryd.prog 46 #[.int .i64 n, .int .i64 n, .bool false, .agg (bv old).toArray, .slice A p c] w fun e w' => e = .returned (.tuple #[.agg (bv old).toArray, .agg (bv old).toArray, .bool false]) ∧ Below w.heap.size w w' := by
  have hp1 : ((p : Int) == 1) = false := by simp; omega
  have hp2 : ¬ (p : Int) = 1 := by omega
  have HO := Lib.hid ho
  have HZ : Hid ((bv (List.replicate 32 0)).toArray.size = (bv old).toArray.size) := Lib.hid (by rw [List.size_toArray, List.size_toArray, bv_length, bv_length, HO.out]; rfl)
  go_enter Tryd.func46, Tryd.ntmps46
  go_wp2_with fail
  refine wp_region_held_drew (S := (fun W => W.rangeAt w.heap.size 0 (bv old))) (by kernel_rfl) (BlkIs.sum ((Alk.drew _).blk (three_blocks w _ _ _).1)) (fun hHeld => ?_)
  refine wpAnyH_take (i := 0) (v := _) rfl (by kernel_rfl) (by kernel_rfl) (by kernel_rfl) (fun _ _ _ h => h) (yieldsIf_load_mid (by rfl) 22 (.tmp 8) rfl w.heap.size 0 rfl (bv old) _ (fun w h => h) Tryd.underlying22 rfl (isz26s HO.out)) hHeld ?_
  try simp only [Act.put, List.getElem_toArray, List.getElem_cons_zero, List.setIfInBounds_toArray, List.set_cons_zero, List.set_cons_succ]
  refine wpAnyH_take (i := 1) (v := _) rfl (by kernel_rfl) (by kernel_rfl) (by kernel_rfl) (fun _ _ _ h => h) (yieldsIf_load_mid (by rfl) 22 (.tmp 8) rfl w.heap.size 0 rfl (bv old) _ (fun w h => h) Tryd.underlying22 rfl (isz26s HO.out)) hHeld ?_
  try simp only [Act.put, List.getElem_toArray, List.getElem_cons_zero, List.getElem_cons_succ, List.setIfInBounds_toArray, List.set_cons_zero, List.set_cons_succ]
  refine wpAnyH_ready (rs := [2]) (by kernel_rfl) (by simp) ?_
  refine AllReadyH.cons rfl (fun K hK => ?_) AllReadyH.nil
  refine step_store (.tmp 10) (.tmp 33) 22 (w.heap.size + 1) 22 _ (bv old).toArray ((Alk.drew _).blk (three_blocks w _ _ _).2.1) rfl rfl rfl rfl rfl (isz26a HO.out) HZ.out (bv_all _) ?_; intro w3 hb3 ht3
  refine hK.out _ _ ?_ (fun hHeld => ?_)
  · exact range_tn hHeld ht3 (by omega)
  clear hK K
  try simp only [Act.put, List.getElem_toArray, List.getElem_cons_zero, List.getElem_cons_succ, List.setIfInBounds_toArray, List.set_cons_zero, List.set_cons_succ]
  refine wpAnyH_ready (rs := [3]) (by kernel_rfl) (by simp) ?_
  refine AllReadyH.cons rfl (fun K hK => ?_) AllReadyH.nil
  refine step_store (.tmp 11) (.tmp 34) 22 (w.heap.size + 1 + 1) 22 _ (bv old).toArray (BlkIs.tn ((Alk.drew _).blk (three_blocks w _ _ _).2.2) ht3 (by omega)) rfl rfl rfl rfl rfl (isz26a HO.out) HZ.out (bv_all _) ?_; intro w4 hb4 ht4
  refine hK.out _ _ ?_ (fun hHeld => ?_)
  · exact range_tn hHeld ht4 (by omega)
  clear hK K
  try simp only [Act.put, List.getElem_toArray, List.getElem_cons_zero, List.getElem_cons_succ, List.setIfInBounds_toArray, List.set_cons_zero, List.set_cons_succ]
  refine wpAnyH_take (i := 4) (v := .bool false) rfl (by kernel_rfl) (by kernel_rfl) (by kernel_rfl) (fun _ _ _ h => h) (Or.inl ⟨by rfl, fun w hS => by first | (go_simp; done) | (go_simp; with_reducible rfl)⟩) hHeld ?_
  try simp only [Act.put, List.getElem_toArray, List.getElem_cons_zero, List.getElem_cons_succ, List.setIfInBounds_toArray, List.set_cons_zero, List.set_cons_succ]
  refine wpAnyH_done (by kernel_rfl) ?_ _
  go_wp2_with fail
  have hz : Below w.heap.size w w4 := two_stores ht3 ht4 ((below3 w _ _ _).drew) (fun i hi h => by omega) (fun i hi h => by omega)
  exact ret_blk4 rfl (w.heap.size + 1) 22 _ (w.heap.size + 1 + 1) 22 _ _ (BlkIs.tn hb3 ht4 (by omega)) hb4 _ rfl rfl rfl Tryd.underlying22 rfl (isz26a HO.out) (isz26a HO.out) rfl ⟨rfl, hz⟩
set_option maxRecDepth 100000 in
set_option maxHeartbeats 1600000 in
theorem both_e4 (old : List UInt8) (A : Option Addr) (p c n m : Nat) (w : World) (ho : old.length = 32) (whole : Bool) (hmn : m ≠ n) (h0 : p = 0) :
    Calls Tryd.prog 46 #[.int .i64 m, .int .i64 n, .bool whole, .agg (bv old).toArray, .slice A p c] w fun e w' => e = .returned (.tuple #[.agg (bv old).toArray, .agg (bv old).toArray, .bool false]) ∧ Below w.heap.size w w' := by
  subst h0
  have hp1 : ((m : Int) == (n : Int)) = false := by simp; omega
  have hp2 : ¬ (m : Int) = (n : Int) := by omega
  have HO := Lib.hid ho
  have HZ : Hid ((bv (List.replicate 32 0)).toArray.size = (bv old).toArray.size) := Lib.hid (by rw [List.size_toArray, List.size_toArray, bv_length, bv_length, HO.out]; rfl)
  go_enter Tryd.func46, Tryd.ntmps46
  go_wp2_with fail
  refine wp_region_held_drew (S := (fun W => W.rangeAt w.heap.size 0 (bv old))) (by kernel_rfl) (BlkIs.sum ((Alk.drew _).blk (three_blocks w _ _ _).1)) (fun hHeld => ?_)
  refine wpAnyH_take (i := 0) (v := _) rfl (by kernel_rfl) (by kernel_rfl) (by kernel_rfl) (fun _ _ _ h => h) (yieldsIf_load_mid (by rfl) 22 (.tmp 8) rfl w.heap.size 0 rfl (bv old) _ (fun w h => h) Tryd.underlying22 rfl (isz26s HO.out)) hHeld ?_
  try simp only [Act.put, List.getElem_toArray, List.getElem_cons_zero, List.setIfInBounds_toArray, List.set_cons_zero, List.set_cons_succ]
  refine wpAnyH_take (i := 1) (v := _) rfl (by kernel_rfl) (by kernel_rfl) (by kernel_rfl) (fun _ _ _ h => h) (yieldsIf_load_mid (by rfl) 22 (.tmp 8) rfl w.heap.size 0 rfl (bv old) _ (fun w h => h) Tryd.underlying22 rfl (isz26s HO.out)) hHeld ?_
  try simp only [Act.put, List.getElem_toArray, List.getElem_cons_zero, List.getElem_cons_succ, List.setIfInBounds_toArray, List.set_cons_zero, List.set_cons_succ]
  refine wpAnyH_ready (rs := [2]) (by kernel_rfl) (by simp) ?_
  refine AllReadyH.cons rfl (fun K hK => ?_) AllReadyH.nil
  refine step_store (.tmp 10) (.tmp 44) 22 (w.heap.size + 1) 22 _ (bv old).toArray ((Alk.drew _).blk (three_blocks w _ _ _).2.1) rfl rfl rfl rfl rfl (isz26a HO.out) HZ.out (bv_all _) ?_; intro w3 hb3 ht3
  refine hK.out _ _ ?_ (fun hHeld => ?_)
  · exact range_tn hHeld ht3 (by omega)
  clear hK K
  try simp only [Act.put, List.getElem_toArray, List.getElem_cons_zero, List.getElem_cons_succ, List.setIfInBounds_toArray, List.set_cons_zero, List.set_cons_succ]
  refine wpAnyH_ready (rs := [3]) (by kernel_rfl) (by simp) ?_
  refine AllReadyH.cons rfl (fun K hK => ?_) AllReadyH.nil
  refine step_store (.tmp 11) (.tmp 45) 22 (w.heap.size + 1 + 1) 22 _ (bv old).toArray (BlkIs.tn ((Alk.drew _).blk (three_blocks w _ _ _).2.2) ht3 (by omega)) rfl rfl rfl rfl rfl (isz26a HO.out) HZ.out (bv_all _) ?_; intro w4 hb4 ht4
  refine hK.out _ _ ?_ (fun hHeld => ?_)
  · exact range_tn hHeld ht4 (by omega)
  clear hK K
  try simp only [Act.put, List.getElem_toArray, List.getElem_cons_zero, List.getElem_cons_succ, List.setIfInBounds_toArray, List.set_cons_zero, List.set_cons_succ]
  refine wpAnyH_take (i := 4) (v := .bool false) rfl (by kernel_rfl) (by kernel_rfl) (by kernel_rfl) (fun _ _ _ h => h) (Or.inl ⟨by rfl, fun w hS => by first | (go_simp; done) | (go_simp; with_reducible rfl)⟩) hHeld ?_
  try simp only [Act.put, List.getElem_toArray, List.getElem_cons_zero, List.getElem_cons_succ, List.setIfInBounds_toArray, List.set_cons_zero, List.set_cons_succ]
  refine wpAnyH_done (by kernel_rfl) ?_ _
  go_wp2_with fail
  have hz : Below w.heap.size w w4 := two_stores ht3 ht4 ((below3 w _ _ _).drew) (fun i hi h => by omega) (fun i hi h => by omega)
  exact ret_blk4 rfl (w.heap.size + 1) 22 _ (w.heap.size + 1 + 1) 22 _ _ (BlkIs.tn hb3 ht4 (by omega)) hb4 _ rfl rfl rfl Tryd.underlying22 rfl (isz26a HO.out) (isz26a HO.out) rfl ⟨rfl, hz⟩
set_option maxRecDepth 100000 in
set_option maxHeartbeats 1600000 in
theorem both_e3 (old s : List UInt8) (gs os c n : Nat) (w : World) (hs : s.length = 32) (hr : w.rangeAt gs os (bv s)) (hgs : gs < w.heap.size) :
    Calls Tryd.prog 46 #[.int .i64 n, .int .i64 n, .bool false, .agg (bv old).toArray, .slice (some ⟨gs, os, none⟩) 1 c] w fun e w' => e = .returned (.tuple #[.agg (bv s).toArray, .agg (bv s).toArray, .bool true]) ∧ Below w.heap.size w w' := by
  have HO := Lib.hid hs
  have HZ : Hid ((bv (List.replicate 32 0)).toArray.size = (bv s).toArray.size) := Lib.hid (by rw [List.size_toArray, List.size_toArray, bv_length, bv_length, HO.out]; rfl)
  go_enter Tryd.func46, Tryd.ntmps46
  go_wp2_with fail
  refine wp_region_held_drew (S := (fun W => W.rangeAt gs os (bv s))) (by kernel_rfl) (range_below hr (below3 w _ _ _).drew hgs) (fun hHeld => ?_)
  refine wpAnyH_take (i := 0) (v := .slice (some ⟨gs, os, none⟩) 1 c) rfl (by kernel_rfl) (by kernel_rfl) (by kernel_rfl) (fun _ _ _ h => h) (Or.inl ⟨by rfl, fun w hS => by first | (go_simp; done) | (go_simp; with_reducible rfl)⟩) hHeld ?_
  try simp only [Act.put, List.getElem_toArray, List.getElem_cons_zero, List.setIfInBounds_toArray, List.set_cons_zero, List.set_cons_succ]
  refine wpAnyH_take (i := 1) (v := .pointer (some ⟨gs, os, none⟩)) rfl (by kernel_rfl) (by kernel_rfl) (by kernel_rfl) (fun _ _ _ h => h) (Or.inl ⟨by rfl, fun w hS => by first | (go_simp; done) | (go_simp; with_reducible rfl)⟩) hHeld ?_
  try simp only [Act.put, List.getElem_toArray, List.getElem_cons_zero, List.getElem_cons_succ, List.setIfInBounds_toArray, List.set_cons_zero, List.set_cons_succ]
  refine wpAnyH_take (i := 2) (v := _) rfl (by kernel_rfl) (by kernel_rfl) (by kernel_rfl) (fun _ _ _ h => h) (yieldsIf_load_mid (by rfl) 22 (.tmp 36) rfl gs os rfl (bv s) _ (fun w h => h) Tryd.underlying22 rfl (isz26s HO.out)) hHeld ?_
  try simp only [Act.put, List.getElem_toArray, List.getElem_cons_zero, List.getElem_cons_succ, List.setIfInBounds_toArray, List.set_cons_zero, List.set_cons_succ]
  refine wpAnyH_take (i := 3) (v := .slice (some ⟨gs, os, none⟩) 1 c) rfl (by kernel_rfl) (by kernel_rfl) (by kernel_rfl) (fun _ _ _ h => h) (Or.inl ⟨by rfl, fun w hS => by first | (go_simp; done) | (go_simp; with_reducible rfl)⟩) hHeld ?_
  try simp only [Act.put, List.getElem_toArray, List.getElem_cons_zero, List.getElem_cons_succ, List.setIfInBounds_toArray, List.set_cons_zero, List.set_cons_succ]
  refine wpAnyH_take (i := 4) (v := .pointer (some ⟨gs, os, none⟩)) rfl (by kernel_rfl) (by kernel_rfl) (by kernel_rfl) (fun _ _ _ h => h) (Or.inl ⟨by rfl, fun w hS => by first | (go_simp; done) | (go_simp; with_reducible rfl)⟩) hHeld ?_
  try simp only [Act.put, List.getElem_toArray, List.getElem_cons_zero, List.getElem_cons_succ, List.setIfInBounds_toArray, List.set_cons_zero, List.set_cons_succ]
  refine wpAnyH_take (i := 5) (v := _) rfl (by kernel_rfl) (by kernel_rfl) (by kernel_rfl) (fun _ _ _ h => h) (yieldsIf_load_mid (by rfl) 22 (.tmp 39) rfl gs os rfl (bv s) _ (fun w h => h) Tryd.underlying22 rfl (isz26s HO.out)) hHeld ?_
  try simp only [Act.put, List.getElem_toArray, List.getElem_cons_zero, List.getElem_cons_succ, List.setIfInBounds_toArray, List.set_cons_zero, List.set_cons_succ]
  refine wpAnyH_ready (rs := [6]) (by kernel_rfl) (by simp) ?_
  refine AllReadyH.cons rfl (fun K hK => ?_) AllReadyH.nil
  refine step_store (.tmp 10) (.tmp 37) 22 (w.heap.size + 1) 22 _ (bv s).toArray ((Alk.drew _).blk (three_blocks w _ _ _).2.1) rfl rfl rfl rfl rfl (isz26a HO.out) HZ.out (bv_all _) ?_; intro w3 hb3 ht3
  refine hK.out _ _ ?_ (fun hHeld => ?_)
  · exact range_tn hHeld ht3 (by omega)
  clear hK K
  try simp only [Act.put, List.getElem_toArray, List.getElem_cons_zero, List.getElem_cons_succ, List.setIfInBounds_toArray, List.set_cons_zero, List.set_cons_succ]
  refine wpAnyH_ready (rs := [7]) (by kernel_rfl) (by simp) ?_
  refine AllReadyH.cons rfl (fun K hK => ?_) AllReadyH.nil
  refine step_store (.tmp 11) (.tmp 40) 22 (w.heap.size + 1 + 1) 22 _ (bv s).toArray (BlkIs.tn ((Alk.drew _).blk (three_blocks w _ _ _).2.2) ht3 (by omega)) rfl rfl rfl rfl rfl (isz26a HO.out) HZ.out (bv_all _) ?_; intro w4 hb4 ht4
  refine hK.out _ _ ?_ (fun hHeld => ?_)
  · exact range_tn hHeld ht4 (by omega)
  clear hK K
  try simp only [Act.put, List.getElem_toArray, List.getElem_cons_zero, List.getElem_cons_succ, List.setIfInBounds_toArray, List.set_cons_zero, List.set_cons_succ]
  refine wpAnyH_take (i := 8) (v := .bool true) rfl (by kernel_rfl) (by kernel_rfl) (by kernel_rfl) (fun _ _ _ h => h) (Or.inl ⟨by rfl, fun w hS => by first | (go_simp; done) | (go_simp; with_reducible rfl)⟩) hHeld ?_
  try simp only [Act.put, List.getElem_toArray, List.getElem_cons_zero, List.getElem_cons_succ, List.setIfInBounds_toArray, List.set_cons_zero, List.set_cons_succ]
  refine wpAnyH_done (by kernel_rfl) ?_ _
  go_wp2_with fail
  have hz : Below w.heap.size w w4 := two_stores ht3 ht4 ((below3 w _ _ _).drew) (fun i hi h => by omega) (fun i hi h => by omega)
  exact ret_blk4 rfl (w.heap.size + 1) 22 _ (w.heap.size + 1 + 1) 22 _ _ (BlkIs.tn hb3 ht4 (by omega)) hb4 _ rfl rfl rfl Tryd.underlying22 rfl (isz26a HO.out) (isz26a HO.out) rfl ⟨rfl, hz⟩
end Go.Proofs.YtfgdochpnnkpmaaDoor
