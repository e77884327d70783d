/- The walk of MerkleVerifies. Conditions: as stated. -/
import Derived.Test.YtgjepkcdacgieaaDoorMkSame
import Derived.Test.YtgjepkcdacgieaaDoorMkVerifies
namespace Go.Proofs.YtgjepkcdacgieaaDoor
open Go.RowKit Go
set_option maxRecDepth 100000 in
set_option maxHeartbeats 1600000 in
theorem verifies_core (root leaf : List UInt8) (A : Option Addr) (p c : Nat) (n i : Int) (X : Bool) (w : World) (hr : root.length = 32) (hl : leaf.length = 32) (hg : Glob w) (h20 : p ≤ 20)
    (HV : Hid (∀ W, Below w.heap.size w W → Calls Tryd.prog 21 #[.agg (bv root).toArray, .int .i64 n, .int .i64 i, .agg (bv leaf).toArray, .slice A p c] W fun e w' => e = .returned (.bool X) ∧ Below W.heap.size W w'))
    (HR : Hid (∀ W, Below w.heap.size w W → Calls Tryd.prog 22 #[.agg (bv root).toArray, .int .i64 n, .int .i64 i, .agg (bv leaf).toArray, .slice A p c] W fun e w' => e = .returned (.bool X) ∧ Below W.heap.size W w')) :
    Calls Tryd.prog 5 #[.agg (bv root).toArray, .int .i64 n, .int .i64 i, .agg (bv leaf).toArray, .slice A p c] w fun e w' => e = .returned (.bool true) ∧ Below w.heap.size w w' := by
  have GS := Lib.hid hg.size
  have HAW : Hid (∀ W, Below w.heap.size w W → Calls Tryd.prog 10 #[] W fun e w' => e = .returned (.bool true) ∧ Below W.heap.size W w') := Lib.hid fun W hb => awake_any W (hg.below hb GS.out)
  have HLL := Lib.hid hl
  have HRR := Lib.hid hr
  clear hl hr hg
  go_enter Tryd.func5, Tryd.ntmps5
  go_wp2_with (first
    | (go_at_call 10; refine (HAW.out _ (below2 w _ _)).mono ?_; rintro e w2 ⟨rfl, hb2⟩; have HBW : Hid (Below w.heap.size w w2) := Lib.hid ((below2 w _ _).trans (hb2.mono (by simp; omega))); have HB0 : Hid (BlkIs w2 w.heap.size 26 (bv root).toArray) := Lib.hid ((hb2.block _ (by simp; omega)).trans (two_blocks w _ _).1); have HB1 : Hid (BlkIs w2 (w.heap.size + 1) 26 (bv leaf).toArray) := Lib.hid ((hb2.block _ (by simp)).trans (two_blocks w _ _).2); clear hb2)
    | (go_at_call 11; refine (few_yes _ _ _ _ h20).mono ?_; rintro e w3 ⟨rfl, rfl⟩)
    | fail)
  have KEEP : Hid (∀ W, Below w2.heap.size w2 W → Below w.heap.size w W ∧ W.rangeAt w.heap.size 0 (bv root) ∧ W.rangeAt (w.heap.size + 1) 0 (bv leaf)) := Lib.hid fun W hb =>
    ⟨HBW.out.trans (hb.mono HBW.out.size), BlkIs.sum ((hb.block _ HB0.out.lt).trans HB0.out), BlkIs.sum ((hb.block _ HB1.out.lt).trans HB1.out)⟩
  have k0 : Below w2.heap.size w2 w2.drew := (Below.refl _ w2).drew
  refine wp_region_held_drew (S := (fun W => Below w2.heap.size w2 W)) (by kernel_rfl) (k0) (fun hHeld => ?_)
  refine wpAnyH_take (i := 0) (v := _) rfl (by kernel_rfl) (by kernel_rfl) (by kernel_rfl) (fun _ _ _ h => h) (yieldsIf_load_mid (by rfl) 26 (.tmp 5) rfl w.heap.size 0 rfl (bv root) _ (fun w h => (KEEP.out w h).2.1) Tryd.underlying26 rfl (isz26s HRR.out)) hHeld ?_
  try simp only [Act.put, List.getElem_toArray, List.getElem_cons_zero, List.setIfInBounds_toArray, List.set_cons_zero, List.set_cons_succ]
  refine wpAnyH_take (i := 1) (v := .int .i64 n) rfl (by kernel_rfl) (by kernel_rfl) (by kernel_rfl) (fun _ _ _ h => h) (Or.inl ⟨by rfl, fun w hS => by first | (go_simp; done) | (go_simp; with_reducible rfl)⟩) hHeld ?_
  try simp only [Act.put, List.getElem_toArray, List.getElem_cons_zero, List.getElem_cons_succ, List.setIfInBounds_toArray, List.set_cons_zero, List.set_cons_succ]
  refine wpAnyH_take (i := 2) (v := .int .i64 i) rfl (by kernel_rfl) (by kernel_rfl) (by kernel_rfl) (fun _ _ _ h => h) (Or.inl ⟨by rfl, fun w hS => by first | (go_simp; done) | (go_simp; with_reducible rfl)⟩) hHeld ?_
  try simp only [Act.put, List.getElem_toArray, List.getElem_cons_zero, List.getElem_cons_succ, List.setIfInBounds_toArray, List.set_cons_zero, List.set_cons_succ]
  refine wpAnyH_take (i := 3) (v := _) rfl (by kernel_rfl) (by kernel_rfl) (by kernel_rfl) (fun _ _ _ h => h) (yieldsIf_load_mid (by rfl) 26 (.tmp 8) rfl (w.heap.size + 1) 0 rfl (bv leaf) _ (fun w h => (KEEP.out w h).2.2) Tryd.underlying26 rfl (isz26s HLL.out)) hHeld ?_
  try simp only [Act.put, List.getElem_toArray, List.getElem_cons_zero, List.getElem_cons_succ, List.setIfInBounds_toArray, List.set_cons_zero, List.set_cons_succ]
  refine wpAnyH_take (i := 4) (v := .slice A p c) rfl (by kernel_rfl) (by kernel_rfl) (by kernel_rfl) (fun _ _ _ h => h) (Or.inl ⟨by rfl, fun w hS => by first | (go_simp; done) | (go_simp; with_reducible rfl)⟩) hHeld ?_
  try simp only [Act.put, List.getElem_toArray, List.getElem_cons_zero, List.getElem_cons_succ, List.setIfInBounds_toArray, List.set_cons_zero, List.set_cons_succ]
  refine wpAnyH_take (i := 6) (v := _) rfl (by kernel_rfl) (by kernel_rfl) (by kernel_rfl) (fun _ _ _ h => h) (yieldsIf_load_mid (by rfl) 26 (.tmp 5) rfl w.heap.size 0 rfl (bv root) _ (fun w h => (KEEP.out w h).2.1) Tryd.underlying26 rfl (isz26s HRR.out)) hHeld ?_
  try simp only [Act.put, List.getElem_toArray, List.getElem_cons_zero, List.getElem_cons_succ, List.setIfInBounds_toArray, List.set_cons_zero, List.set_cons_succ]
  refine wpAnyH_take (i := 7) (v := .int .i64 n) rfl (by kernel_rfl) (by kernel_rfl) (by kernel_rfl) (fun _ _ _ h => h) (Or.inl ⟨by rfl, fun w hS => by first | (go_simp; done) | (go_simp; with_reducible rfl)⟩) hHeld ?_
  try simp only [Act.put, List.getElem_toArray, List.getElem_cons_zero, List.getElem_cons_succ, List.setIfInBounds_toArray, List.set_cons_zero, List.set_cons_succ]
  refine wpAnyH_take (i := 8) (v := .int .i64 i) rfl (by kernel_rfl) (by kernel_rfl) (by kernel_rfl) (fun _ _ _ h => h) (Or.inl ⟨by rfl, fun w hS => by first | (go_simp; done) | (go_simp; with_reducible rfl)⟩) hHeld ?_
  try simp only [Act.put, List.getElem_toArray, List.getElem_cons_zero, List.getElem_cons_succ, List.setIfInBounds_toArray, List.set_cons_zero, List.set_cons_succ]
  refine wpAnyH_take (i := 9) (v := _) rfl (by kernel_rfl) (by kernel_rfl) (by kernel_rfl) (fun _ _ _ h => h) (yieldsIf_load_mid (by rfl) 26 (.tmp 8) rfl (w.heap.size + 1) 0 rfl (bv leaf) _ (fun w h => (KEEP.out w h).2.2) Tryd.underlying26 rfl (isz26s HLL.out)) hHeld ?_
  try simp only [Act.put, List.getElem_toArray, List.getElem_cons_zero, List.getElem_cons_succ, List.setIfInBounds_toArray, List.set_cons_zero, List.set_cons_succ]
  refine wpAnyH_take (i := 10) (v := .slice A p c) rfl (by kernel_rfl) (by kernel_rfl) (by kernel_rfl) (fun _ _ _ h => h) (Or.inl ⟨by rfl, fun w hS => by first | (go_simp; done) | (go_simp; with_reducible rfl)⟩) hHeld ?_
  try simp only [Act.put, List.getElem_toArray, List.getElem_cons_zero, List.getElem_cons_succ, List.setIfInBounds_toArray, List.set_cons_zero, List.set_cons_succ]
  refine wpAnyH_ready (rs := [5]) (by kernel_rfl) (by simp) ?_
  refine AllReadyH.cons rfl (fun K hK => ?_) AllReadyH.nil
  go_simp
  go_wp2_with (go_at_call 21; refine (HV.out _ (KEEP.out _ hHeld).1).mono ?_; clear HV; rintro e w6 ⟨rfl, hb6⟩; have k6 := k0.trans (hb6.mono k0.size))
  refine hK.out _ _ ?_ (fun hHeld => ?_)
  · exact k6
  clear hK K
  try simp only [Act.put, List.getElem_toArray, List.getElem_cons_zero, List.getElem_cons_succ, List.setIfInBounds_toArray, List.set_cons_zero, List.set_cons_succ]
  refine wpAnyH_ready (rs := [11]) (by kernel_rfl) (by simp) ?_
  refine AllReadyH.cons rfl (fun K hK => ?_) AllReadyH.nil
  go_simp
  go_wp2_with (go_at_call 22; refine (HR.out _ (KEEP.out _ hHeld).1).mono ?_; clear HR; rintro e w7 ⟨rfl, hb7⟩; have k7 := k6.trans (hb7.mono k6.size))
  refine hK.out _ _ ?_ (fun hHeld => ?_)
  · exact k7
  clear hK K
  try simp only [Act.put, List.getElem_toArray, List.getElem_cons_zero, List.getElem_cons_succ, List.setIfInBounds_toArray, List.set_cons_zero, List.set_cons_succ]
  refine wpAnyH_take (i := 12) (v := .bool true) rfl (by kernel_rfl) (by kernel_rfl) (by kernel_rfl) (fun _ _ _ h => h) (Or.inl ⟨by rfl, fun w hS => by first | (go_simp; done) | (go_simp; with_reducible rfl)⟩) hHeld ?_
  try simp only [Act.put, List.getElem_toArray, List.getElem_cons_zero, List.getElem_cons_succ, List.setIfInBounds_toArray, List.set_cons_zero, List.set_cons_succ]
  refine wpAnyH_take (i := 13) (v := .bool true) rfl (by kernel_rfl) (by kernel_rfl) (by kernel_rfl) (fun _ _ _ h => h) (Or.inl ⟨by rfl, fun w hS => by first | (go_simp; done) | (go_simp; with_reducible rfl)⟩) hHeld ?_
  try simp only [Act.put, List.getElem_toArray, List.getElem_cons_zero, List.getElem_cons_succ, List.setIfInBounds_toArray, List.set_cons_zero, List.set_cons_succ]
  refine wpAnyH_done (by kernel_rfl) ?_ _
  go_wp2_with fail
  go_ret
  exact ⟨rfl, (KEEP.out _ k7).1⟩
set_option maxRecDepth 100000 in
set_option maxHeartbeats 1600000 in
theorem verifies_any (root leaf : List UInt8) (A : Option Addr) (p c : Nat) (n i : Int) (L : List (List UInt8)) (w : World) (hr : root.length = 32) (hl : leaf.length = 32) (h : Hs w w.heap.size A L) (hp : L.length = p) (hc : p ≤ c) (hm : c ≤ maxLen) (wn : (Lit.int .i64 n).wf = true) (hg : Glob w) :
    Calls Tryd.prog 5 #[.agg (bv root).toArray, .int .i64 n, .int .i64 i, .agg (bv leaf).toArray, .slice A p c] w fun e w' => e = .returned (.bool true) ∧ Below w.heap.size w w' := by
  have GS := Lib.hid hg.size
  by_cases h20 : p ≤ 20
  · by_cases hz : 0 ≤ i ∧ i < n
    · have h63 := wf_i64 wn
      obtain ⟨i, rfl⟩ : ∃ j : Nat, i = (j : Int) := ⟨i.toNat, by omega⟩
      obtain ⟨n, rfl⟩ : ∃ j : Nat, n = (j : Int) := ⟨n.toNat, by omega⟩
      exact verifies_core root leaf A p c n i _ w hr hl hg h20
        (Lib.hid fun W hb => verify_any root leaf A p c n i L W hr hl hp (by omega) hc hm ((h.below hb).more hb.size) (by omega) (by omega) (hg.below hb GS.out))
        (Lib.hid fun W hb => rverify_any root leaf A p c n i L W hr hl hp (by omega) hc hm ((h.below hb).more hb.size) (by omega) (by omega))
    · have hz' : i < 0 ∨ n ≤ i := by omega
      exact verifies_core root leaf A p c n i false w hr hl hg h20 (Lib.hid fun W _ => verify_no root leaf A p c n i W hz') (Lib.hid fun W _ => rverify_no root leaf A p c n i W hz')
  · have HAW : Hid (∀ W, Below w.heap.size w W → Calls Tryd.prog 10 #[] W fun e w' => e = .returned (.bool true) ∧ Below W.heap.size W w') := Lib.hid fun W hb => awake_any W (hg.below hb GS.out)
    clear h hp hc hm hg hr hl wn
    go_enter Tryd.func5, Tryd.ntmps5
    go_wp2_with (first
      | (go_at_call 10; refine (HAW.out _ (below2 w _ _)).mono ?_; rintro e w2 ⟨rfl, hb2⟩; have HBW : Hid (Below w.heap.size w w2) := Lib.hid ((below2 w _ _).trans (hb2.mono (by simp; omega))); clear hb2)
      | (go_at_call 11; refine (few_no _ _ _ _ h20).mono ?_; rintro e w3 ⟨rfl, rfl⟩)
      | fail)
    go_ret
    exact ⟨rfl, HBW.out⟩
end Go.Proofs.YtgjepkcdacgieaaDoor
