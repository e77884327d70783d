/- The document's way of a beginning: to the right. Conditions: as stated. -/
import Derived.Test.YtfgdochpnnkpmaaDoorMkBothE
import Derived.Test.YtfgdochpnnkpmaaDoorMkIn
namespace Go.Proofs.YtfgdochpnnkpmaaDoor
set_option maxRecDepth 100000
open Go.RowKit Go
set_option maxRecDepth 100000 in
set_option maxHeartbeats 6400000 in
theorem both_hi (old s x y : List UInt8) (b whole : Bool) (gs os c q k m n : Nat) (w : World) (ho : old.length = 32) (hs : s.length = 32) (hx : x.length = 32) (hy : y.length = 32) (hmn : m ≠ n) (hmk : k < m) (hm : m ≤ n) (h63 : n ≤ 9223372036854775807) (hc : q + 1 ≤ c) (hq9 : q + 1 ≤ 100000) (hss : w.rangeAt gs (os + q * 32) (bv s)) (hgs : gs < w.heap.size)
    (HC : Hid (∀ w, Calls Tryd.prog 64 #[.int .i64 n] w fun e w' => e = .returned (.int .i64 k) ∧ w = w'))
    (IH : Hid (∀ W, Below w.heap.size w W → Calls Tryd.prog 46 #[.int .i64 ((m : Int) - (k : Int)), .int .i64 ((n : Int) - (k : Int)), .bool false, .agg (bv old).toArray, .slice (some ⟨gs, os, none⟩) q c] W fun e w' => e = .returned (.tuple #[.agg (bv x).toArray, .agg (bv y).toArray, .bool b]) ∧ Below W.heap.size W w')) :
    Calls Tryd.prog 46 #[.int .i64 m, .int .i64 n, .bool whole, .agg (bv old).toArray, .slice (some ⟨gs, os, none⟩) (q + 1) c] w fun e w' => e = .returned (.tuple #[.agg (bv (nodeS s x)).toArray, .agg (bv (nodeS s y)).toArray, .bool b]) ∧ Below w.heap.size w w' := by
  have e1 : ((m : Int) == (n : Int)) = false := by simp; omega
  have e2 : ¬ (m : Int) = (n : Int) := by omega
  have hmk1 : ¬ (m : Int) ≤ (k : Int) := by omega
  have es1 : IntKind.i64.wrap ((n : Int) - (k : Int)) = (n : Int) - (k : Int) := IntWalk.i64_in _ (by omega)
  have es2 : IntKind.i64.wrap ((m : Int) - (k : Int)) = (m : Int) - (k : Int) := IntWalk.i64_in _ (by omega)
  have hlo' : Hid (∀ w', (Instr.slice 23 (.slice (some ⟨gs, os, none⟩) (q + 1) c) none (some (.int .i64 q)) none).run Tryd.prog w' = .ok (.slice (some ⟨gs, os, none⟩) q c) w') := Lib.hid (cutH_lo (some ⟨gs, os, none⟩) (q + 1) c q (by omega) hc)
  have KS : Hid (∀ W, Below w.heap.size w W → W.rangeAt gs (os + q * 32) (bv s)) := Lib.hid fun W hb => range_below hss hb hgs
  have hlq : (q : Int) < (q : Int) + 1 := by omega
  have HS32 := Lib.hid hs
  have HO32 := Lib.hid ho
  have HX32 := Lib.hid hx
  have HY32 := Lib.hid hy
  have HZX : Hid ((bv (List.replicate 32 0)).toArray.size = (bv x).toArray.size) := Lib.hid (by rw [List.size_toArray, List.size_toArray, bv_length, bv_length, hx]; rfl)
  have HZY : Hid ((bv (List.replicate 32 0)).toArray.size = (bv y).toArray.size) := Lib.hid (by rw [List.size_toArray, List.size_toArray, bv_length, bv_length, hy]; rfl)
  have HND1 : Hid (∀ W, Calls Tryd.prog 22 #[.agg (bv s).toArray, .agg (bv x).toArray] W fun e w' => e = .returned (.agg (bv (nodeS s x)).toArray) ∧ Below W.heap.size W w') := Lib.hid fun W => rnode_any s x W HS32.out HX32.out
  have HN1 := Lib.hid (nodeS_length s x)
  have HND2 : Hid (∀ W, Calls Tryd.prog 22 #[.agg (bv s).toArray, .agg (bv y).toArray] W fun e w' => e = .returned (.agg (bv (nodeS s y)).toArray) ∧ Below W.heap.size W w') := Lib.hid fun W => rnode_any s y W HS32.out HY32.out
  have HN2 := Lib.hid (nodeS_length s y)
  generalize nodeS s x = x' at *
  generalize nodeS s y = y' at *
  clear hss hs ho hx hy hmn hmk hm
  go_enter Tryd.func46, Tryd.ntmps46
  go_wp2_with fail
  refine (HC.out _).mono ?_
  rintro e w1 ⟨rfl, e1'⟩
  have hb1 : Below w.heap.size w w1 := e1' ▸ below3 w _ _ _
  have hl1 : BlkIs w1 w.heap.size 22 (bv old).toArray := e1' ▸ (three_blocks w _ _ _).1
  have hr1 : ∃ z, BlkIs w1 (w.heap.size + 1) 22 z ∧ z.size = 32 := e1' ▸ ⟨_, (three_blocks w _ _ _).2.1, rfl⟩
  have hr2 : ∃ z, BlkIs w1 (w.heap.size + 1 + 1) 22 z ∧ z.size = 32 := e1' ▸ ⟨_, (three_blocks w _ _ _).2.2, rfl⟩
  clear e1'
  obtain ⟨z0, hr1, hz0⟩ := hr1
  obtain ⟨z1, hr2, hz1⟩ := hr2
  have hlt1 := hr1.lt
  have hlt2 := hr2.lt
  have HZ0 := Lib.hid hz0
  have HZ1 := Lib.hid hz1
  clear hz0 hz1
  have HLF : Hid (∀ W, Below w1.heap.size w1 W → W.rangeAt w.heap.size 0 (bv old)) := Lib.hid fun W hb => BlkIs.sum ((hb.block _ hl1.lt).trans hl1)
  have k1 : Below w1.heap.size w1 w1.drew := (Below.refl _ w1).drew
  go_wp2_with fail
  refine wp_region_held_drew (S := (fun W => Below w1.heap.size w1 W)) (by kernel_rfl) (k1) (fun hHeld => ?_)
  refine wpAnyH_take (i := 0) (v := .int .i64 m) rfl (by kernel_rfl) (by kernel_rfl) (by kernel_rfl) (fun _ _ _ h => h) (Or.inl ⟨by rfl, fun w hS => by first | (go_simp; done) | (go_simp; with_reducible rfl)⟩) hHeld ?_
  try simp only [Act.put, List.getElem_toArray, List.getElem_cons_zero, List.setIfInBounds_toArray, List.set_cons_zero, List.set_cons_succ]
  refine wpAnyH_take (i := 1) (v := .int .i64 k) rfl (by kernel_rfl) (by kernel_rfl) (by kernel_rfl) (fun _ _ _ h => h) (Or.inl ⟨by rfl, fun w hS => by first | (go_simp; done) | (go_simp; with_reducible rfl)⟩) hHeld ?_
  try simp only [Act.put, List.getElem_toArray, List.getElem_cons_zero, List.getElem_cons_succ, List.setIfInBounds_toArray, List.set_cons_zero, List.set_cons_succ]
  refine wpAnyH_take (i := 2) (v := .int .i64 ((m : Int) - (k : Int))) rfl (by kernel_rfl) (by kernel_rfl) (by kernel_rfl) (fun _ _ _ h => h) (Or.inl ⟨by rfl, fun w hS => by first | (go_simp; done) | (go_simp; with_reducible rfl)⟩) hHeld ?_
  try simp only [Act.put, List.getElem_toArray, List.getElem_cons_zero, List.getElem_cons_succ, List.setIfInBounds_toArray, List.set_cons_zero, List.set_cons_succ]
  refine wpAnyH_take (i := 3) (v := .int .i64 n) rfl (by kernel_rfl) (by kernel_rfl) (by kernel_rfl) (fun _ _ _ h => h) (Or.inl ⟨by rfl, fun w hS => by first | (go_simp; done) | (go_simp; with_reducible rfl)⟩) hHeld ?_
  try simp only [Act.put, List.getElem_toArray, List.getElem_cons_zero, List.getElem_cons_succ, List.setIfInBounds_toArray, List.set_cons_zero, List.set_cons_succ]
  refine wpAnyH_take (i := 4) (v := .int .i64 k) rfl (by kernel_rfl) (by kernel_rfl) (by kernel_rfl) (fun _ _ _ h => h) (Or.inl ⟨by rfl, fun w hS => by first | (go_simp; done) | (go_simp; with_reducible rfl)⟩) hHeld ?_
  try simp only [Act.put, List.getElem_toArray, List.getElem_cons_zero, List.getElem_cons_succ, List.setIfInBounds_toArray, List.set_cons_zero, List.set_cons_succ]
  refine wpAnyH_take (i := 5) (v := .int .i64 ((n : Int) - (k : Int))) rfl (by kernel_rfl) (by kernel_rfl) (by kernel_rfl) (fun _ _ _ h => h) (Or.inl ⟨by rfl, fun w hS => by first | (go_simp; done) | (go_simp; with_reducible rfl)⟩) hHeld ?_
  try simp only [Act.put, List.getElem_toArray, List.getElem_cons_zero, List.getElem_cons_succ, List.setIfInBounds_toArray, List.set_cons_zero, List.set_cons_succ]
  refine wpAnyH_take (i := 6) (v := _) rfl (by kernel_rfl) (by kernel_rfl) (by kernel_rfl) (fun _ _ _ h => h) (yieldsIf_load_mid (by rfl) 22 (.tmp 8) rfl w.heap.size 0 rfl (bv old) _ (fun w h => (HLF.out w h)) Tryd.underlying22 rfl (isz26s HO32.out)) hHeld ?_
  try simp only [Act.put, List.getElem_toArray, List.getElem_cons_zero, List.getElem_cons_succ, List.setIfInBounds_toArray, List.set_cons_zero, List.set_cons_succ]
  refine wpAnyH_take (i := 7) (v := .slice (some ⟨gs, os, none⟩) (q + 1) c) rfl (by kernel_rfl) (by kernel_rfl) (by kernel_rfl) (fun _ _ _ h => h) (Or.inl ⟨by rfl, fun w hS => by first | (go_simp; done) | (go_simp; with_reducible rfl)⟩) hHeld ?_
  try simp only [Act.put, List.getElem_toArray, List.getElem_cons_zero, List.getElem_cons_succ, List.setIfInBounds_toArray, List.set_cons_zero, List.set_cons_succ]
  refine wpAnyH_take (i := 8) (v := .int .i64 q) rfl (by kernel_rfl) (by kernel_rfl) (by kernel_rfl) (fun _ _ _ h => h) (Or.inl ⟨by rfl, fun w hS => by first | (go_simp; done) | (go_simp; with_reducible rfl)⟩) hHeld ?_
  try simp only [Act.put, List.getElem_toArray, List.getElem_cons_zero, List.getElem_cons_succ, List.setIfInBounds_toArray, List.set_cons_zero, List.set_cons_succ]
  refine wpAnyH_take (i := 9) (v := .slice (some ⟨gs, os, none⟩) q c) rfl (by kernel_rfl) (by kernel_rfl) (by kernel_rfl) (fun _ _ _ h => h) (Or.inl ⟨by rfl, fun w hS => by (have hc := hlo'.out; first | (go_simp; done) | (go_simp; with_reducible rfl))⟩) hHeld ?_
  try simp only [Act.put, List.getElem_toArray, List.getElem_cons_zero, List.getElem_cons_succ, List.setIfInBounds_toArray, List.set_cons_zero, List.set_cons_succ]
  refine wpAnyH_ready (rs := [10, 15, 16]) (by kernel_rfl) (by simp) ?_
  refine AllReadyH.cons rfl (fun K hK => ?_) (AllReadyH.cons rfl (fun K hK => ?_) (AllReadyH.cons rfl (fun K hK => ?_) AllReadyH.nil))
  focus
    skip
    go_simp
    go_wp2_with (go_at_call 46; refine (IH.out _ (hb1.trans (k1.mono (by omega)))).mono ?_; rintro e w2 ⟨rfl, hb2⟩; have k2 := k1.trans (hb2.mono k1.size))
    refine hK.out _ _ ?_ (fun hHeld => ?_)
    · exact k2
    clear hK K
    try simp only [Act.put, List.getElem_toArray, List.getElem_cons_zero, List.getElem_cons_succ, List.setIfInBounds_toArray, List.set_cons_zero, List.set_cons_succ]
    refine wpAnyH_take (i := 11) (v := .tuple #[.agg (bv x).toArray, .agg (bv y).toArray, .bool b]) rfl (by kernel_rfl) (by kernel_rfl) (by kernel_rfl) (fun _ _ _ h => h) (Or.inl ⟨by rfl, fun w hS => by first | (go_simp; done) | (go_simp; with_reducible rfl)⟩) hHeld ?_
    try simp only [Act.put, List.getElem_toArray, List.getElem_cons_zero, List.getElem_cons_succ, List.setIfInBounds_toArray, List.set_cons_zero, List.set_cons_succ]
    refine wpAnyH_take (i := 12) (v := .agg (bv x).toArray) rfl (by kernel_rfl) (by kernel_rfl) (by kernel_rfl) (fun _ _ _ h => h) (Or.inl ⟨by rfl, fun w hS => by first | (go_simp; done) | (go_simp; with_reducible rfl)⟩) hHeld ?_
    try simp only [Act.put, List.getElem_toArray, List.getElem_cons_zero, List.getElem_cons_succ, List.setIfInBounds_toArray, List.set_cons_zero, List.set_cons_succ]
    refine wpAnyH_take (i := 13) (v := .agg (bv y).toArray) rfl (by kernel_rfl) (by kernel_rfl) (by kernel_rfl) (fun _ _ _ h => h) (Or.inl ⟨by rfl, fun w hS => by first | (go_simp; done) | (go_simp; with_reducible rfl)⟩) hHeld ?_
    try simp only [Act.put, List.getElem_toArray, List.getElem_cons_zero, List.getElem_cons_succ, List.setIfInBounds_toArray, List.set_cons_zero, List.set_cons_succ]
    refine wpAnyH_take (i := 14) (v := .bool b) rfl (by kernel_rfl) (by kernel_rfl) (by kernel_rfl) (fun _ _ _ h => h) (Or.inl ⟨by rfl, fun w hS => by first | (go_simp; done) | (go_simp; with_reducible rfl)⟩) hHeld ?_
    try simp only [Act.put, List.getElem_toArray, List.getElem_cons_zero, List.getElem_cons_succ, List.setIfInBounds_toArray, List.set_cons_zero, List.set_cons_succ]
    have hsz4 := k2.size
    refine wpAnyH_ready (rs := [15, 16]) (by kernel_rfl) (by simp) ?_
    refine AllReadyH.cons rfl (fun K hK => ?_) (AllReadyH.cons rfl (fun K hK => ?_) AllReadyH.nil)
    focus
      skip
      go_simp
      refine hK.out _ _ ?_ (fun hHeld => ?_)
      · exact k2.alloc k2.size _
      clear hK K
      try simp only [Act.put, List.getElem_toArray, List.getElem_cons_zero, List.getElem_cons_succ, List.setIfInBounds_toArray, List.set_cons_zero, List.set_cons_succ]
      have ka1 := k2.alloc k2.size (.cells (bv (List.replicate 32 0)).toArray 22)
      refine wpAnyH_ready (rs := [16]) (by kernel_rfl) (by simp) ?_
      refine AllReadyH.cons rfl (fun K hK => ?_) AllReadyH.nil
      go_simp
      refine hK.out _ _ ?_ (fun hHeld => ?_)
      · exact ka1.alloc ka1.size _
      clear hK K
      try simp only [Act.put, List.getElem_toArray, List.getElem_cons_zero, List.getElem_cons_succ, List.setIfInBounds_toArray, List.set_cons_zero, List.set_cons_succ]
      have kb2 := ka1.alloc ka1.size (.cells (bv (List.replicate 32 0)).toArray 22)
      have kz := kb2
      refine wpAnyH_ready (rs := [17]) (by kernel_rfl) (by simp) ?_
      refine AllReadyH.cons rfl (fun K hK => ?_) AllReadyH.nil
      refine step_store (.tmp 18) (.tmp 86) 22 (w2.heap.size) 22 _ (bv x).toArray (two_blocks w2 _ _).1 rfl rfl rfl rfl rfl (isz26a HX32.out) HZX.out (bv_all x) ?_; intro w3 hx3 ht3
      refine hK.out _ _ ?_ (fun hHeld => ?_)
      · exact kz.trans (ht3.below kz.size (fun i hi h => by omega))
      clear hK K
      try simp only [Act.put, List.getElem_toArray, List.getElem_cons_zero, List.getElem_cons_succ, List.setIfInBounds_toArray, List.set_cons_zero, List.set_cons_succ]
      have kz3 := kz.trans (ht3.below kz.size (fun i hi h => by omega))
      refine wpAnyH_ready (rs := [18]) (by kernel_rfl) (by simp) ?_
      refine AllReadyH.cons rfl (fun K hK => ?_) AllReadyH.nil
      refine step_store (.tmp 19) (.tmp 87) 22 (w2.heap.size + 1) 22 _ (bv y).toArray (BlkIs.tn (two_blocks w2 _ _).2 ht3 (by omega)) rfl rfl rfl rfl rfl (isz26a HY32.out) HZY.out (bv_all y) ?_; intro w4 hy4 ht4
      refine hK.out _ _ ?_ (fun hHeld => ?_)
      · exact kz3.trans (ht4.below kz3.size (fun i hi h => by omega))
      clear hK K
      try simp only [Act.put, List.getElem_toArray, List.getElem_cons_zero, List.getElem_cons_succ, List.setIfInBounds_toArray, List.set_cons_zero, List.set_cons_succ]
      have kz4 := kz3.trans (ht4.below kz3.size (fun i hi h => by omega))
      have hx4 := BlkIs.tn hx3 ht4 (by omega)
      have hfin : ∃ g15 g16, g15 = w2.heap.size ∧ g16 = w2.heap.size + 1 ∧ w1.heap.size ≤ g15 ∧ w1.heap.size ≤ g16 := ⟨_, _, rfl, rfl, by omega, by omega⟩
      refine wpAnyH_take (i := 19) (v := .bool b) rfl (by kernel_rfl) (by kernel_rfl) (by kernel_rfl) (fun _ _ _ h => h) (Or.inl ⟨by rfl, fun w hS => by first | (go_simp; done) | (go_simp; with_reducible rfl)⟩) hHeld ?_
      try simp only [Act.put, List.getElem_toArray, List.getElem_cons_zero, List.getElem_cons_succ, List.setIfInBounds_toArray, List.set_cons_zero, List.set_cons_succ]
      refine wpAnyH_done (by kernel_rfl) ?_ _
      go_wp2_with fail
      obtain ⟨g15, g16, hg15, hg16, hge15, hge16⟩ := hfin
      rw [← hg16] at hy4 ⊢
      rw [← hg15] at hx4 ⊢
      clear hg15 hg16 ht3 ht4 kz3 kz hx3
    rotate_left 1
    focus
      skip
      go_simp
      refine hK.out _ _ ?_ (fun hHeld => ?_)
      · exact k2.alloc k2.size _
      clear hK K
      try simp only [Act.put, List.getElem_toArray, List.getElem_cons_zero, List.getElem_cons_succ, List.setIfInBounds_toArray, List.set_cons_zero, List.set_cons_succ]
      have kb1 := k2.alloc k2.size (.cells (bv (List.replicate 32 0)).toArray 22)
      refine wpAnyH_ready (rs := [15]) (by kernel_rfl) (by simp) ?_
      refine AllReadyH.cons rfl (fun K hK => ?_) AllReadyH.nil
      go_simp
      refine hK.out _ _ ?_ (fun hHeld => ?_)
      · exact kb1.alloc kb1.size _
      clear hK K
      try simp only [Act.put, List.getElem_toArray, List.getElem_cons_zero, List.getElem_cons_succ, List.setIfInBounds_toArray, List.set_cons_zero, List.set_cons_succ]
      have ka2 := kb1.alloc kb1.size (.cells (bv (List.replicate 32 0)).toArray 22)
      have kz := ka2
      refine wpAnyH_ready (rs := [17]) (by kernel_rfl) (by simp) ?_
      refine AllReadyH.cons rfl (fun K hK => ?_) AllReadyH.nil
      refine step_store (.tmp 18) (.tmp 86) 22 (w2.heap.size + 1) 22 _ (bv x).toArray (two_blocks w2 _ _).2 rfl rfl rfl rfl rfl (isz26a HX32.out) HZX.out (bv_all x) ?_; intro w3 hx3 ht3
      refine hK.out _ _ ?_ (fun hHeld => ?_)
      · exact kz.trans (ht3.below kz.size (fun i hi h => by omega))
      clear hK K
      try simp only [Act.put, List.getElem_toArray, List.getElem_cons_zero, List.getElem_cons_succ, List.setIfInBounds_toArray, List.set_cons_zero, List.set_cons_succ]
      have kz3 := kz.trans (ht3.below kz.size (fun i hi h => by omega))
      refine wpAnyH_ready (rs := [18]) (by kernel_rfl) (by simp) ?_
      refine AllReadyH.cons rfl (fun K hK => ?_) AllReadyH.nil
      refine step_store (.tmp 19) (.tmp 87) 22 (w2.heap.size) 22 _ (bv y).toArray (BlkIs.tn (two_blocks w2 _ _).1 ht3 (by omega)) rfl rfl rfl rfl rfl (isz26a HY32.out) HZY.out (bv_all y) ?_; intro w4 hy4 ht4
      refine hK.out _ _ ?_ (fun hHeld => ?_)
      · exact kz3.trans (ht4.below kz3.size (fun i hi h => by omega))
      clear hK K
      try simp only [Act.put, List.getElem_toArray, List.getElem_cons_zero, List.getElem_cons_succ, List.setIfInBounds_toArray, List.set_cons_zero, List.set_cons_succ]
      have kz4 := kz3.trans (ht4.below kz3.size (fun i hi h => by omega))
      have hx4 := BlkIs.tn hx3 ht4 (by omega)
      have hfin : ∃ g15 g16, g15 = w2.heap.size + 1 ∧ g16 = w2.heap.size ∧ w1.heap.size ≤ g15 ∧ w1.heap.size ≤ g16 := ⟨_, _, rfl, rfl, by omega, by omega⟩
      refine wpAnyH_take (i := 19) (v := .bool b) rfl (by kernel_rfl) (by kernel_rfl) (by kernel_rfl) (fun _ _ _ h => h) (Or.inl ⟨by rfl, fun w hS => by first | (go_simp; done) | (go_simp; with_reducible rfl)⟩) hHeld ?_
      try simp only [Act.put, List.getElem_toArray, List.getElem_cons_zero, List.getElem_cons_succ, List.setIfInBounds_toArray, List.set_cons_zero, List.set_cons_succ]
      refine wpAnyH_done (by kernel_rfl) ?_ _
      go_wp2_with fail
      obtain ⟨g15, g16, hg15, hg16, hge15, hge16⟩ := hfin
      rw [← hg15] at hx4 ⊢
      rw [← hg16] at hy4 ⊢
      clear hg15 hg16 ht3 ht4 kz3 kz hx3
    rotate_left 1
  rotate_left 2
  focus
    skip
    go_simp
    refine hK.out _ _ ?_ (fun hHeld => ?_)
    · exact k1.alloc k1.size _
    clear hK K
    try simp only [Act.put, List.getElem_toArray, List.getElem_cons_zero, List.getElem_cons_succ, List.setIfInBounds_toArray, List.set_cons_zero, List.set_cons_succ]
    have ka0 := k1.alloc k1.size (.cells (bv (List.replicate 32 0)).toArray 22)
    refine wpAnyH_ready (rs := [10, 16]) (by kernel_rfl) (by simp) ?_
    refine AllReadyH.cons rfl (fun K hK => ?_) (AllReadyH.cons rfl (fun K hK => ?_) AllReadyH.nil)
    focus
      skip
      go_simp
      go_wp2_with (go_at_call 46; refine (IH.out _ (hb1.trans (ka0.mono (by omega)))).mono ?_; rintro e w2 ⟨rfl, hb2⟩; have k2 := ka0.trans (hb2.mono ka0.size))
      refine hK.out _ _ ?_ (fun hHeld => ?_)
      · exact k2
      clear hK K
      try simp only [Act.put, List.getElem_toArray, List.getElem_cons_zero, List.getElem_cons_succ, List.setIfInBounds_toArray, List.set_cons_zero, List.set_cons_succ]
      refine wpAnyH_take (i := 11) (v := .tuple #[.agg (bv x).toArray, .agg (bv y).toArray, .bool b]) rfl (by kernel_rfl) (by kernel_rfl) (by kernel_rfl) (fun _ _ _ h => h) (Or.inl ⟨by rfl, fun w hS => by first | (go_simp; done) | (go_simp; with_reducible rfl)⟩) hHeld ?_
      try simp only [Act.put, List.getElem_toArray, List.getElem_cons_zero, List.getElem_cons_succ, List.setIfInBounds_toArray, List.set_cons_zero, List.set_cons_succ]
      refine wpAnyH_take (i := 12) (v := .agg (bv x).toArray) rfl (by kernel_rfl) (by kernel_rfl) (by kernel_rfl) (fun _ _ _ h => h) (Or.inl ⟨by rfl, fun w hS => by first | (go_simp; done) | (go_simp; with_reducible rfl)⟩) hHeld ?_
      try simp only [Act.put, List.getElem_toArray, List.getElem_cons_zero, List.getElem_cons_succ, List.setIfInBounds_toArray, List.set_cons_zero, List.set_cons_succ]
      refine wpAnyH_take (i := 13) (v := .agg (bv y).toArray) rfl (by kernel_rfl) (by kernel_rfl) (by kernel_rfl) (fun _ _ _ h => h) (Or.inl ⟨by rfl, fun w hS => by first | (go_simp; done) | (go_simp; with_reducible rfl)⟩) hHeld ?_
      try simp only [Act.put, List.getElem_toArray, List.getElem_cons_zero, List.getElem_cons_succ, List.setIfInBounds_toArray, List.set_cons_zero, List.set_cons_succ]
      refine wpAnyH_take (i := 14) (v := .bool b) rfl (by kernel_rfl) (by kernel_rfl) (by kernel_rfl) (fun _ _ _ h => h) (Or.inl ⟨by rfl, fun w hS => by first | (go_simp; done) | (go_simp; with_reducible rfl)⟩) hHeld ?_
      try simp only [Act.put, List.getElem_toArray, List.getElem_cons_zero, List.getElem_cons_succ, List.setIfInBounds_toArray, List.set_cons_zero, List.set_cons_succ]
      have za : BlkIs w2 (w1.heap.size) 22 (bv (List.replicate 32 0)).toArray := (hb2.block _ (by simp)).trans (BlkIs.new w1.drew _ _)
      have hsz2 := hb2.size
      have hsz3 : w1.heap.size + 1 ≤ w2.heap.size := by simpa using hsz2
      have hsz4 := k2.size
      refine wpAnyH_ready (rs := [16]) (by kernel_rfl) (by simp) ?_
      refine AllReadyH.cons rfl (fun K hK => ?_) AllReadyH.nil
      go_simp
      refine hK.out _ _ ?_ (fun hHeld => ?_)
      · exact k2.alloc k2.size _
      clear hK K
      try simp only [Act.put, List.getElem_toArray, List.getElem_cons_zero, List.getElem_cons_succ, List.setIfInBounds_toArray, List.set_cons_zero, List.set_cons_succ]
      have kb2 := k2.alloc k2.size (.cells (bv (List.replicate 32 0)).toArray 22)
      have kz := kb2
      refine wpAnyH_ready (rs := [17]) (by kernel_rfl) (by simp) ?_
      refine AllReadyH.cons rfl (fun K hK => ?_) AllReadyH.nil
      refine step_store (.tmp 18) (.tmp 86) 22 (w1.heap.size) 22 _ (bv x).toArray (((below1 w2 _).block _ za.lt).trans za) rfl rfl rfl rfl rfl (isz26a HX32.out) HZX.out (bv_all x) ?_; intro w3 hx3 ht3
      refine hK.out _ _ ?_ (fun hHeld => ?_)
      · exact kz.trans (ht3.below kz.size (fun i hi h => by omega))
      clear hK K
      try simp only [Act.put, List.getElem_toArray, List.getElem_cons_zero, List.getElem_cons_succ, List.setIfInBounds_toArray, List.set_cons_zero, List.set_cons_succ]
      have kz3 := kz.trans (ht3.below kz.size (fun i hi h => by omega))
      refine wpAnyH_ready (rs := [18]) (by kernel_rfl) (by simp) ?_
      refine AllReadyH.cons rfl (fun K hK => ?_) AllReadyH.nil
      refine step_store (.tmp 19) (.tmp 87) 22 (w2.heap.size) 22 _ (bv y).toArray (BlkIs.tn (BlkIs.new w2 _ _) ht3 (by omega)) rfl rfl rfl rfl rfl (isz26a HY32.out) HZY.out (bv_all y) ?_; intro w4 hy4 ht4
      refine hK.out _ _ ?_ (fun hHeld => ?_)
      · exact kz3.trans (ht4.below kz3.size (fun i hi h => by omega))
      clear hK K
      try simp only [Act.put, List.getElem_toArray, List.getElem_cons_zero, List.getElem_cons_succ, List.setIfInBounds_toArray, List.set_cons_zero, List.set_cons_succ]
      have kz4 := kz3.trans (ht4.below kz3.size (fun i hi h => by omega))
      have hx4 := BlkIs.tn hx3 ht4 (by omega)
      have hfin : ∃ g15 g16, g15 = w1.heap.size ∧ g16 = w2.heap.size ∧ w1.heap.size ≤ g15 ∧ w1.heap.size ≤ g16 := ⟨_, _, rfl, rfl, by omega, by omega⟩
      refine wpAnyH_take (i := 19) (v := .bool b) rfl (by kernel_rfl) (by kernel_rfl) (by kernel_rfl) (fun _ _ _ h => h) (Or.inl ⟨by rfl, fun w hS => by first | (go_simp; done) | (go_simp; with_reducible rfl)⟩) hHeld ?_
      try simp only [Act.put, List.getElem_toArray, List.getElem_cons_zero, List.getElem_cons_succ, List.setIfInBounds_toArray, List.set_cons_zero, List.set_cons_succ]
      refine wpAnyH_done (by kernel_rfl) ?_ _
      go_wp2_with fail
      obtain ⟨g15, g16, hg15, hg16, hge15, hge16⟩ := hfin
      rw [← hg15] at hx4 ⊢
      rw [← hg16] at hy4 ⊢
      clear hg15 hg16 ht3 ht4 kz3 kz hx3
    rotate_left 1
    focus
      skip
      go_simp
      refine hK.out _ _ ?_ (fun hHeld => ?_)
      · exact ka0.alloc ka0.size _
      clear hK K
      try simp only [Act.put, List.getElem_toArray, List.getElem_cons_zero, List.getElem_cons_succ, List.setIfInBounds_toArray, List.set_cons_zero, List.set_cons_succ]
      have kb1 := ka0.alloc ka0.size (.cells (bv (List.replicate 32 0)).toArray 22)
      refine wpAnyH_ready (rs := [10]) (by kernel_rfl) (by simp) ?_
      refine AllReadyH.cons rfl (fun K hK => ?_) AllReadyH.nil
      go_simp
      go_wp2_with (go_at_call 46; refine (IH.out _ (hb1.trans (kb1.mono (by omega)))).mono ?_; rintro e w2 ⟨rfl, hb2⟩; have k2 := kb1.trans (hb2.mono kb1.size))
      refine hK.out _ _ ?_ (fun hHeld => ?_)
      · exact k2
      clear hK K
      try simp only [Act.put, List.getElem_toArray, List.getElem_cons_zero, List.getElem_cons_succ, List.setIfInBounds_toArray, List.set_cons_zero, List.set_cons_succ]
      refine wpAnyH_take (i := 11) (v := .tuple #[.agg (bv x).toArray, .agg (bv y).toArray, .bool b]) rfl (by kernel_rfl) (by kernel_rfl) (by kernel_rfl) (fun _ _ _ h => h) (Or.inl ⟨by rfl, fun w hS => by first | (go_simp; done) | (go_simp; with_reducible rfl)⟩) hHeld ?_
      try simp only [Act.put, List.getElem_toArray, List.getElem_cons_zero, List.getElem_cons_succ, List.setIfInBounds_toArray, List.set_cons_zero, List.set_cons_succ]
      refine wpAnyH_take (i := 12) (v := .agg (bv x).toArray) rfl (by kernel_rfl) (by kernel_rfl) (by kernel_rfl) (fun _ _ _ h => h) (Or.inl ⟨by rfl, fun w hS => by first | (go_simp; done) | (go_simp; with_reducible rfl)⟩) hHeld ?_
      try simp only [Act.put, List.getElem_toArray, List.getElem_cons_zero, List.getElem_cons_succ, List.setIfInBounds_toArray, List.set_cons_zero, List.set_cons_succ]
      refine wpAnyH_take (i := 13) (v := .agg (bv y).toArray) rfl (by kernel_rfl) (by kernel_rfl) (by kernel_rfl) (fun _ _ _ h => h) (Or.inl ⟨by rfl, fun w hS => by first | (go_simp; done) | (go_simp; with_reducible rfl)⟩) hHeld ?_
      try simp only [Act.put, List.getElem_toArray, List.getElem_cons_zero, List.getElem_cons_succ, List.setIfInBounds_toArray, List.set_cons_zero, List.set_cons_succ]
      refine wpAnyH_take (i := 14) (v := .bool b) rfl (by kernel_rfl) (by kernel_rfl) (by kernel_rfl) (fun _ _ _ h => h) (Or.inl ⟨by rfl, fun w hS => by first | (go_simp; done) | (go_simp; with_reducible rfl)⟩) hHeld ?_
      try simp only [Act.put, List.getElem_toArray, List.getElem_cons_zero, List.getElem_cons_succ, List.setIfInBounds_toArray, List.set_cons_zero, List.set_cons_succ]
      have za : BlkIs w2 (w1.heap.size) 22 (bv (List.replicate 32 0)).toArray := (hb2.block _ (by simp; omega)).trans (two_blocks w1.drew _ _).1
      have zb : BlkIs w2 (w1.heap.size + 1) 22 (bv (List.replicate 32 0)).toArray := (hb2.block _ (by simp)).trans (two_blocks w1.drew _ _).2
      have hsz2 := hb2.size
      have hsz3 : w1.heap.size + 2 ≤ w2.heap.size := by simpa using hsz2
      have hsz4 := k2.size
      have kz := k2
      refine wpAnyH_ready (rs := [17]) (by kernel_rfl) (by simp) ?_
      refine AllReadyH.cons rfl (fun K hK => ?_) AllReadyH.nil
      refine step_store (.tmp 18) (.tmp 86) 22 (w1.heap.size) 22 _ (bv x).toArray za rfl rfl rfl rfl rfl (isz26a HX32.out) HZX.out (bv_all x) ?_; intro w3 hx3 ht3
      refine hK.out _ _ ?_ (fun hHeld => ?_)
      · exact kz.trans (ht3.below kz.size (fun i hi h => by omega))
      clear hK K
      try simp only [Act.put, List.getElem_toArray, List.getElem_cons_zero, List.getElem_cons_succ, List.setIfInBounds_toArray, List.set_cons_zero, List.set_cons_succ]
      have kz3 := kz.trans (ht3.below kz.size (fun i hi h => by omega))
      refine wpAnyH_ready (rs := [18]) (by kernel_rfl) (by simp) ?_
      refine AllReadyH.cons rfl (fun K hK => ?_) AllReadyH.nil
      refine step_store (.tmp 19) (.tmp 87) 22 (w1.heap.size + 1) 22 _ (bv y).toArray (BlkIs.tn zb ht3 (by omega)) rfl rfl rfl rfl rfl (isz26a HY32.out) HZY.out (bv_all y) ?_; intro w4 hy4 ht4
      refine hK.out _ _ ?_ (fun hHeld => ?_)
      · exact kz3.trans (ht4.below kz3.size (fun i hi h => by omega))
      clear hK K
      try simp only [Act.put, List.getElem_toArray, List.getElem_cons_zero, List.getElem_cons_succ, List.setIfInBounds_toArray, List.set_cons_zero, List.set_cons_succ]
      have kz4 := kz3.trans (ht4.below kz3.size (fun i hi h => by omega))
      have hx4 := BlkIs.tn hx3 ht4 (by omega)
      have hfin : ∃ g15 g16, g15 = w1.heap.size ∧ g16 = w1.heap.size + 1 ∧ w1.heap.size ≤ g15 ∧ w1.heap.size ≤ g16 := ⟨_, _, rfl, rfl, by omega, by omega⟩
      refine wpAnyH_take (i := 19) (v := .bool b) rfl (by kernel_rfl) (by kernel_rfl) (by kernel_rfl) (fun _ _ _ h => h) (Or.inl ⟨by rfl, fun w hS => by first | (go_simp; done) | (go_simp; with_reducible rfl)⟩) hHeld ?_
      try simp only [Act.put, List.getElem_toArray, List.getElem_cons_zero, List.getElem_cons_succ, List.setIfInBounds_toArray, List.set_cons_zero, List.set_cons_succ]
      refine wpAnyH_done (by kernel_rfl) ?_ _
      go_wp2_with fail
      obtain ⟨g15, g16, hg15, hg16, hge15, hge16⟩ := hfin
      rw [← hg16] at hy4 ⊢
      rw [← hg15] at hx4 ⊢
      clear hg15 hg16 ht3 ht4 kz3 kz hx3
    rotate_left 1
  rotate_left 2
  focus
    skip
    go_simp
    refine hK.out _ _ ?_ (fun hHeld => ?_)
    · exact k1.alloc k1.size _
    clear hK K
    try simp only [Act.put, List.getElem_toArray, List.getElem_cons_zero, List.getElem_cons_succ, List.setIfInBounds_toArray, List.set_cons_zero, List.set_cons_succ]
    have kb0 := k1.alloc k1.size (.cells (bv (List.replicate 32 0)).toArray 22)
    refine wpAnyH_ready (rs := [10, 15]) (by kernel_rfl) (by simp) ?_
    refine AllReadyH.cons rfl (fun K hK => ?_) (AllReadyH.cons rfl (fun K hK => ?_) AllReadyH.nil)
    focus
      skip
      go_simp
      go_wp2_with (go_at_call 46; refine (IH.out _ (hb1.trans (kb0.mono (by omega)))).mono ?_; rintro e w2 ⟨rfl, hb2⟩; have k2 := kb0.trans (hb2.mono kb0.size))
      refine hK.out _ _ ?_ (fun hHeld => ?_)
      · exact k2
      clear hK K
      try simp only [Act.put, List.getElem_toArray, List.getElem_cons_zero, List.getElem_cons_succ, List.setIfInBounds_toArray, List.set_cons_zero, List.set_cons_succ]
      refine wpAnyH_take (i := 11) (v := .tuple #[.agg (bv x).toArray, .agg (bv y).toArray, .bool b]) rfl (by kernel_rfl) (by kernel_rfl) (by kernel_rfl) (fun _ _ _ h => h) (Or.inl ⟨by rfl, fun w hS => by first | (go_simp; done) | (go_simp; with_reducible rfl)⟩) hHeld ?_
      try simp only [Act.put, List.getElem_toArray, List.getElem_cons_zero, List.getElem_cons_succ, List.setIfInBounds_toArray, List.set_cons_zero, List.set_cons_succ]
      refine wpAnyH_take (i := 12) (v := .agg (bv x).toArray) rfl (by kernel_rfl) (by kernel_rfl) (by kernel_rfl) (fun _ _ _ h => h) (Or.inl ⟨by rfl, fun w hS => by first | (go_simp; done) | (go_simp; with_reducible rfl)⟩) hHeld ?_
      try simp only [Act.put, List.getElem_toArray, List.getElem_cons_zero, List.getElem_cons_succ, List.setIfInBounds_toArray, List.set_cons_zero, List.set_cons_succ]
      refine wpAnyH_take (i := 13) (v := .agg (bv y).toArray) rfl (by kernel_rfl) (by kernel_rfl) (by kernel_rfl) (fun _ _ _ h => h) (Or.inl ⟨by rfl, fun w hS => by first | (go_simp; done) | (go_simp; with_reducible rfl)⟩) hHeld ?_
      try simp only [Act.put, List.getElem_toArray, List.getElem_cons_zero, List.getElem_cons_succ, List.setIfInBounds_toArray, List.set_cons_zero, List.set_cons_succ]
      refine wpAnyH_take (i := 14) (v := .bool b) rfl (by kernel_rfl) (by kernel_rfl) (by kernel_rfl) (fun _ _ _ h => h) (Or.inl ⟨by rfl, fun w hS => by first | (go_simp; done) | (go_simp; with_reducible rfl)⟩) hHeld ?_
      try simp only [Act.put, List.getElem_toArray, List.getElem_cons_zero, List.getElem_cons_succ, List.setIfInBounds_toArray, List.set_cons_zero, List.set_cons_succ]
      have zb : BlkIs w2 (w1.heap.size) 22 (bv (List.replicate 32 0)).toArray := (hb2.block _ (by simp)).trans (BlkIs.new w1.drew _ _)
      have hsz2 := hb2.size
      have hsz3 : w1.heap.size + 1 ≤ w2.heap.size := by simpa using hsz2
      have hsz4 := k2.size
      refine wpAnyH_ready (rs := [15]) (by kernel_rfl) (by simp) ?_
      refine AllReadyH.cons rfl (fun K hK => ?_) AllReadyH.nil
      go_simp
      refine hK.out _ _ ?_ (fun hHeld => ?_)
      · exact k2.alloc k2.size _
      clear hK K
      try simp only [Act.put, List.getElem_toArray, List.getElem_cons_zero, List.getElem_cons_succ, List.setIfInBounds_toArray, List.set_cons_zero, List.set_cons_succ]
      have ka2 := k2.alloc k2.size (.cells (bv (List.replicate 32 0)).toArray 22)
      have kz := ka2
      refine wpAnyH_ready (rs := [17]) (by kernel_rfl) (by simp) ?_
      refine AllReadyH.cons rfl (fun K hK => ?_) AllReadyH.nil
      refine step_store (.tmp 18) (.tmp 86) 22 (w2.heap.size) 22 _ (bv x).toArray (BlkIs.new w2 _ _) rfl rfl rfl rfl rfl (isz26a HX32.out) HZX.out (bv_all x) ?_; intro w3 hx3 ht3
      refine hK.out _ _ ?_ (fun hHeld => ?_)
      · exact kz.trans (ht3.below kz.size (fun i hi h => by omega))
      clear hK K
      try simp only [Act.put, List.getElem_toArray, List.getElem_cons_zero, List.getElem_cons_succ, List.setIfInBounds_toArray, List.set_cons_zero, List.set_cons_succ]
      have kz3 := kz.trans (ht3.below kz.size (fun i hi h => by omega))
      refine wpAnyH_ready (rs := [18]) (by kernel_rfl) (by simp) ?_
      refine AllReadyH.cons rfl (fun K hK => ?_) AllReadyH.nil
      refine step_store (.tmp 19) (.tmp 87) 22 (w1.heap.size) 22 _ (bv y).toArray (BlkIs.tn (((below1 w2 _).block _ zb.lt).trans zb) ht3 (by omega)) rfl rfl rfl rfl rfl (isz26a HY32.out) HZY.out (bv_all y) ?_; intro w4 hy4 ht4
      refine hK.out _ _ ?_ (fun hHeld => ?_)
      · exact kz3.trans (ht4.below kz3.size (fun i hi h => by omega))
      clear hK K
      try simp only [Act.put, List.getElem_toArray, List.getElem_cons_zero, List.getElem_cons_succ, List.setIfInBounds_toArray, List.set_cons_zero, List.set_cons_succ]
      have kz4 := kz3.trans (ht4.below kz3.size (fun i hi h => by omega))
      have hx4 := BlkIs.tn hx3 ht4 (by omega)
      have hfin : ∃ g15 g16, g15 = w2.heap.size ∧ g16 = w1.heap.size ∧ w1.heap.size ≤ g15 ∧ w1.heap.size ≤ g16 := ⟨_, _, rfl, rfl, by omega, by omega⟩
      refine wpAnyH_take (i := 19) (v := .bool b) rfl (by kernel_rfl) (by kernel_rfl) (by kernel_rfl) (fun _ _ _ h => h) (Or.inl ⟨by rfl, fun w hS => by first | (go_simp; done) | (go_simp; with_reducible rfl)⟩) hHeld ?_
      try simp only [Act.put, List.getElem_toArray, List.getElem_cons_zero, List.getElem_cons_succ, List.setIfInBounds_toArray, List.set_cons_zero, List.set_cons_succ]
      refine wpAnyH_done (by kernel_rfl) ?_ _
      go_wp2_with fail
      obtain ⟨g15, g16, hg15, hg16, hge15, hge16⟩ := hfin
      rw [← hg15] at hx4 ⊢
      rw [← hg16] at hy4 ⊢
      clear hg15 hg16 ht3 ht4 kz3 kz hx3
    rotate_left 1
    focus
      skip
      go_simp
      refine hK.out _ _ ?_ (fun hHeld => ?_)
      · exact kb0.alloc kb0.size _
      clear hK K
      try simp only [Act.put, List.getElem_toArray, List.getElem_cons_zero, List.getElem_cons_succ, List.setIfInBounds_toArray, List.set_cons_zero, List.set_cons_succ]
      have ka1 := kb0.alloc kb0.size (.cells (bv (List.replicate 32 0)).toArray 22)
      refine wpAnyH_ready (rs := [10]) (by kernel_rfl) (by simp) ?_
      refine AllReadyH.cons rfl (fun K hK => ?_) AllReadyH.nil
      go_simp
      go_wp2_with (go_at_call 46; refine (IH.out _ (hb1.trans (ka1.mono (by omega)))).mono ?_; rintro e w2 ⟨rfl, hb2⟩; have k2 := ka1.trans (hb2.mono ka1.size))
      refine hK.out _ _ ?_ (fun hHeld => ?_)
      · exact k2
      clear hK K
      try simp only [Act.put, List.getElem_toArray, List.getElem_cons_zero, List.getElem_cons_succ, List.setIfInBounds_toArray, List.set_cons_zero, List.set_cons_succ]
      refine wpAnyH_take (i := 11) (v := .tuple #[.agg (bv x).toArray, .agg (bv y).toArray, .bool b]) rfl (by kernel_rfl) (by kernel_rfl) (by kernel_rfl) (fun _ _ _ h => h) (Or.inl ⟨by rfl, fun w hS => by first | (go_simp; done) | (go_simp; with_reducible rfl)⟩) hHeld ?_
      try simp only [Act.put, List.getElem_toArray, List.getElem_cons_zero, List.getElem_cons_succ, List.setIfInBounds_toArray, List.set_cons_zero, List.set_cons_succ]
      refine wpAnyH_take (i := 12) (v := .agg (bv x).toArray) rfl (by kernel_rfl) (by kernel_rfl) (by kernel_rfl) (fun _ _ _ h => h) (Or.inl ⟨by rfl, fun w hS => by first | (go_simp; done) | (go_simp; with_reducible rfl)⟩) hHeld ?_
      try simp only [Act.put, List.getElem_toArray, List.getElem_cons_zero, List.getElem_cons_succ, List.setIfInBounds_toArray, List.set_cons_zero, List.set_cons_succ]
      refine wpAnyH_take (i := 13) (v := .agg (bv y).toArray) rfl (by kernel_rfl) (by kernel_rfl) (by kernel_rfl) (fun _ _ _ h => h) (Or.inl ⟨by rfl, fun w hS => by first | (go_simp; done) | (go_simp; with_reducible rfl)⟩) hHeld ?_
      try simp only [Act.put, List.getElem_toArray, List.getElem_cons_zero, List.getElem_cons_succ, List.setIfInBounds_toArray, List.set_cons_zero, List.set_cons_succ]
      refine wpAnyH_take (i := 14) (v := .bool b) rfl (by kernel_rfl) (by kernel_rfl) (by kernel_rfl) (fun _ _ _ h => h) (Or.inl ⟨by rfl, fun w hS => by first | (go_simp; done) | (go_simp; with_reducible rfl)⟩) hHeld ?_
      try simp only [Act.put, List.getElem_toArray, List.getElem_cons_zero, List.getElem_cons_succ, List.setIfInBounds_toArray, List.set_cons_zero, List.set_cons_succ]
      have zb : BlkIs w2 (w1.heap.size) 22 (bv (List.replicate 32 0)).toArray := (hb2.block _ (by simp; omega)).trans (two_blocks w1.drew _ _).1
      have za : BlkIs w2 (w1.heap.size + 1) 22 (bv (List.replicate 32 0)).toArray := (hb2.block _ (by simp)).trans (two_blocks w1.drew _ _).2
      have hsz2 := hb2.size
      have hsz3 : w1.heap.size + 2 ≤ w2.heap.size := by simpa using hsz2
      have hsz4 := k2.size
      have kz := k2
      refine wpAnyH_ready (rs := [17]) (by kernel_rfl) (by simp) ?_
      refine AllReadyH.cons rfl (fun K hK => ?_) AllReadyH.nil
      refine step_store (.tmp 18) (.tmp 86) 22 (w1.heap.size + 1) 22 _ (bv x).toArray za rfl rfl rfl rfl rfl (isz26a HX32.out) HZX.out (bv_all x) ?_; intro w3 hx3 ht3
      refine hK.out _ _ ?_ (fun hHeld => ?_)
      · exact kz.trans (ht3.below kz.size (fun i hi h => by omega))
      clear hK K
      try simp only [Act.put, List.getElem_toArray, List.getElem_cons_zero, List.getElem_cons_succ, List.setIfInBounds_toArray, List.set_cons_zero, List.set_cons_succ]
      have kz3 := kz.trans (ht3.below kz.size (fun i hi h => by omega))
      refine wpAnyH_ready (rs := [18]) (by kernel_rfl) (by simp) ?_
      refine AllReadyH.cons rfl (fun K hK => ?_) AllReadyH.nil
      refine step_store (.tmp 19) (.tmp 87) 22 (w1.heap.size) 22 _ (bv y).toArray (BlkIs.tn zb ht3 (by omega)) rfl rfl rfl rfl rfl (isz26a HY32.out) HZY.out (bv_all y) ?_; intro w4 hy4 ht4
      refine hK.out _ _ ?_ (fun hHeld => ?_)
      · exact kz3.trans (ht4.below kz3.size (fun i hi h => by omega))
      clear hK K
      try simp only [Act.put, List.getElem_toArray, List.getElem_cons_zero, List.getElem_cons_succ, List.setIfInBounds_toArray, List.set_cons_zero, List.set_cons_succ]
      have kz4 := kz3.trans (ht4.below kz3.size (fun i hi h => by omega))
      have hx4 := BlkIs.tn hx3 ht4 (by omega)
      have hfin : ∃ g15 g16, g15 = w1.heap.size + 1 ∧ g16 = w1.heap.size ∧ w1.heap.size ≤ g15 ∧ w1.heap.size ≤ g16 := ⟨_, _, rfl, rfl, by omega, by omega⟩
      refine wpAnyH_take (i := 19) (v := .bool b) rfl (by kernel_rfl) (by kernel_rfl) (by kernel_rfl) (fun _ _ _ h => h) (Or.inl ⟨by rfl, fun w hS => by first | (go_simp; done) | (go_simp; with_reducible rfl)⟩) hHeld ?_
      try simp only [Act.put, List.getElem_toArray, List.getElem_cons_zero, List.getElem_cons_succ, List.setIfInBounds_toArray, List.set_cons_zero, List.set_cons_succ]
      refine wpAnyH_done (by kernel_rfl) ?_ _
      go_wp2_with fail
      obtain ⟨g15, g16, hg15, hg16, hge15, hge16⟩ := hfin
      rw [← hg15] at hx4 ⊢
      rw [← hg16] at hy4 ⊢
      clear hg15 hg16 ht3 ht4 kz3 kz hx3
    rotate_left 1
  rotate_left 2
  all_goals
    have hxs : w4.drew.rangeAt g15 0 (bv x) := BlkIs.sum ((Alk.drew w4).blk hx4)
    have hys : w4.drew.rangeAt g16 0 (bv y) := BlkIs.sum ((Alk.drew w4).blk hy4)
    have hb4 : Below w.heap.size w w4.drew := (hb1.trans (kz4.mono (by omega))).drew
    have hss := KS.out _ hb4
    have hr3 : BlkIs w4.drew (w.heap.size + 1) 22 z0 := (Alk.drew w4).blk ((kz4.block _ hlt1).trans hr1)
    have hr4 : BlkIs w4.drew (w.heap.size + 1 + 1) 22 z1 := (Alk.drew w4).blk ((kz4.block _ hlt2).trans hr2)
    refine wp_region_held_drew (S := (fun W => W.rangeAt g15 0 (bv x) ∧ W.rangeAt g16 0 (bv y) ∧ W.rangeAt gs (os + q * 32) (bv s))) (by kernel_rfl) (⟨hxs, hys, hss⟩) (fun hHeld => ?_)
    refine wpAnyH_take (i := 0) (v := .slice (some ⟨gs, os, none⟩) (q + 1) c) rfl (by kernel_rfl) (by kernel_rfl) (by kernel_rfl) (fun _ _ _ h => h) (Or.inl ⟨by rfl, fun w hS => by first | (go_simp; done) | (go_simp; with_reducible rfl)⟩) hHeld ?_
    try simp only [Act.put, List.getElem_toArray, List.getElem_cons_zero, List.setIfInBounds_toArray, List.set_cons_zero, List.set_cons_succ]
    refine wpAnyH_take (i := 1) (v := .int .i64 q) rfl (by kernel_rfl) (by kernel_rfl) (by kernel_rfl) (fun _ _ _ h => h) (Or.inl ⟨by rfl, fun w hS => by first | (go_simp; done) | (go_simp; with_reducible rfl)⟩) hHeld ?_
    try simp only [Act.put, List.getElem_toArray, List.getElem_cons_zero, List.getElem_cons_succ, List.setIfInBounds_toArray, List.set_cons_zero, List.set_cons_succ]
    refine wpAnyH_take (i := 2) (v := .pointer (some ⟨gs, os + q * 32, none⟩)) rfl (by kernel_rfl) (by kernel_rfl) (by kernel_rfl) (fun _ _ _ h => h) (Or.inl ⟨by rfl, fun w hS => by first | (go_simp; done) | (go_simp; with_reducible rfl)⟩) hHeld ?_
    try simp only [Act.put, List.getElem_toArray, List.getElem_cons_zero, List.getElem_cons_succ, List.setIfInBounds_toArray, List.set_cons_zero, List.set_cons_succ]
    refine wpAnyH_take (i := 3) (v := _) rfl (by kernel_rfl) (by kernel_rfl) (by kernel_rfl) (fun _ _ _ h => h) (yieldsIf_load_mid (by rfl) 22 (.tmp 91) rfl gs (os + q * 32) rfl (bv s) _ (fun w h => h.2.2) Tryd.underlying22 rfl (isz26s HS32.out)) hHeld ?_
    try simp only [Act.put, List.getElem_toArray, List.getElem_cons_zero, List.getElem_cons_succ, List.setIfInBounds_toArray, List.set_cons_zero, List.set_cons_succ]
    refine wpAnyH_take (i := 4) (v := _) rfl (by kernel_rfl) (by kernel_rfl) (by kernel_rfl) (fun _ _ _ h => h) (yieldsIf_load_mid (by rfl) 22 (.tmp 18) rfl g15 0 rfl (bv x) _ (fun w h => h.1) Tryd.underlying22 rfl (isz26s HX32.out)) hHeld ?_
    try simp only [Act.put, List.getElem_toArray, List.getElem_cons_zero, List.getElem_cons_succ, List.setIfInBounds_toArray, List.set_cons_zero, List.set_cons_succ]
    refine wpAnyH_take (i := 6) (v := .slice (some ⟨gs, os, none⟩) (q + 1) c) rfl (by kernel_rfl) (by kernel_rfl) (by kernel_rfl) (fun _ _ _ h => h) (Or.inl ⟨by rfl, fun w hS => by first | (go_simp; done) | (go_simp; with_reducible rfl)⟩) hHeld ?_
    try simp only [Act.put, List.getElem_toArray, List.getElem_cons_zero, List.getElem_cons_succ, List.setIfInBounds_toArray, List.set_cons_zero, List.set_cons_succ]
    refine wpAnyH_take (i := 7) (v := .int .i64 q) rfl (by kernel_rfl) (by kernel_rfl) (by kernel_rfl) (fun _ _ _ h => h) (Or.inl ⟨by rfl, fun w hS => by first | (go_simp; done) | (go_simp; with_reducible rfl)⟩) hHeld ?_
    try simp only [Act.put, List.getElem_toArray, List.getElem_cons_zero, List.getElem_cons_succ, List.setIfInBounds_toArray, List.set_cons_zero, List.set_cons_succ]
    refine wpAnyH_take (i := 8) (v := .pointer (some ⟨gs, os + q * 32, none⟩)) rfl (by kernel_rfl) (by kernel_rfl) (by kernel_rfl) (fun _ _ _ h => h) (Or.inl ⟨by rfl, fun w hS => by first | (go_simp; done) | (go_simp; with_reducible rfl)⟩) hHeld ?_
    try simp only [Act.put, List.getElem_toArray, List.getElem_cons_zero, List.getElem_cons_succ, List.setIfInBounds_toArray, List.set_cons_zero, List.set_cons_succ]
    refine wpAnyH_take (i := 9) (v := _) rfl (by kernel_rfl) (by kernel_rfl) (by kernel_rfl) (fun _ _ _ h => h) (yieldsIf_load_mid (by rfl) 22 (.tmp 97) rfl gs (os + q * 32) rfl (bv s) _ (fun w h => h.2.2) Tryd.underlying22 rfl (isz26s HS32.out)) hHeld ?_
    try simp only [Act.put, List.getElem_toArray, List.getElem_cons_zero, List.getElem_cons_succ, List.setIfInBounds_toArray, List.set_cons_zero, List.set_cons_succ]
    refine wpAnyH_take (i := 10) (v := _) rfl (by kernel_rfl) (by kernel_rfl) (by kernel_rfl) (fun _ _ _ h => h) (yieldsIf_load_mid (by rfl) 22 (.tmp 19) rfl g16 0 rfl (bv y) _ (fun w h => h.2.1) Tryd.underlying22 rfl (isz26s HY32.out)) hHeld ?_
    try simp only [Act.put, List.getElem_toArray, List.getElem_cons_zero, List.getElem_cons_succ, List.setIfInBounds_toArray, List.set_cons_zero, List.set_cons_succ]
    refine wpAnyH_take (i := 12) (v := .bool b) rfl (by kernel_rfl) (by kernel_rfl) (by kernel_rfl) (fun _ _ _ h => h) (Or.inl ⟨by rfl, fun w hS => by first | (go_simp; done) | (go_simp; with_reducible rfl)⟩) hHeld ?_
    try simp only [Act.put, List.getElem_toArray, List.getElem_cons_zero, List.getElem_cons_succ, List.setIfInBounds_toArray, List.set_cons_zero, List.set_cons_succ]
    refine wpAnyH_ready (rs := [5]) (by kernel_rfl) (by simp) ?_
    refine AllReadyH.cons rfl (fun K hK => ?_) AllReadyH.nil
    go_simp
    go_wp2_with (go_at_call 22; refine (HND1.out _).mono ?_; rintro e w5 ⟨rfl, hb5⟩)
    refine hK.out _ _ ?_ (fun hHeld => ?_)
    · exact ⟨range_below hHeld.1 hb5 (range_lt hHeld.1 (by rw [HX32.out]; omega)), range_below hHeld.2.1 hb5 (range_lt hHeld.2.1 (by rw [HY32.out]; omega)), range_below hHeld.2.2 hb5 (range_lt hHeld.2.2 (by rw [HS32.out]; omega))⟩
    clear hK K
    try simp only [Act.put, List.getElem_toArray, List.getElem_cons_zero, List.getElem_cons_succ, List.setIfInBounds_toArray, List.set_cons_zero, List.set_cons_succ]
    refine wpAnyH_ready (rs := [11]) (by kernel_rfl) (by simp) ?_
    refine AllReadyH.cons rfl (fun K hK => ?_) AllReadyH.nil
    go_simp
    go_wp2_with (go_at_call 22; refine (HND2.out _).mono ?_; rintro e w6 ⟨rfl, hb6⟩)
    refine hK.out _ _ ?_ (fun hHeld => ?_)
    · exact ⟨range_below hHeld.1 hb6 (range_lt hHeld.1 (by rw [HX32.out]; omega)), range_below hHeld.2.1 hb6 (range_lt hHeld.2.1 (by rw [HY32.out]; omega)), range_below hHeld.2.2 hb6 (range_lt hHeld.2.2 (by rw [HS32.out]; omega))⟩
    clear hK K
    try simp only [Act.put, List.getElem_toArray, List.getElem_cons_zero, List.getElem_cons_succ, List.setIfInBounds_toArray, List.set_cons_zero, List.set_cons_succ]
    have hb56 := hb5.trans (hb6.mono hb5.size)
    have r10 : BlkIs w6 (w.heap.size + 1) 22 z0 := (hb56.block _ hr3.lt).trans hr3
    have r11 : BlkIs w6 (w.heap.size + 1 + 1) 22 z1 := (hb56.block _ hr4.lt).trans hr4
    have hbe : Below w.heap.size w w6 := hb4.trans (hb56.mono hb4.size)
    refine wpAnyH_ready (rs := [13]) (by kernel_rfl) (by simp) ?_
    refine AllReadyH.cons rfl (fun K hK => ?_) AllReadyH.nil
    refine step_store (.tmp 10) (.tmp 94) 22 (w.heap.size + 1) 22 _ (bv x').toArray r10 rfl rfl rfl rfl rfl (isz26a HN1.out) (by rw [HZ0.out, List.size_toArray, bv_length, HN1.out]) (bv_all _) ?_; intro w7 hb7 ht7
    refine hK.out _ _ ?_ (fun hHeld => ?_)
    · exact ⟨range_tn hHeld.1 ht7 (by omega), range_tn hHeld.2.1 ht7 (by omega), range_tn hHeld.2.2 ht7 (by omega)⟩
    clear hK K
    try simp only [Act.put, List.getElem_toArray, List.getElem_cons_zero, List.getElem_cons_succ, List.setIfInBounds_toArray, List.set_cons_zero, List.set_cons_succ]
    refine wpAnyH_ready (rs := [14]) (by kernel_rfl) (by simp) ?_
    refine AllReadyH.cons rfl (fun K hK => ?_) AllReadyH.nil
    refine step_store (.tmp 11) (.tmp 100) 22 (w.heap.size + 1 + 1) 22 _ (bv y').toArray (BlkIs.tn r11 ht7 (by omega)) rfl rfl rfl rfl rfl (isz26a HN2.out) (by rw [HZ1.out, List.size_toArray, bv_length, HN2.out]) (bv_all _) ?_; intro w8 hb8 ht8
    refine hK.out _ _ ?_ (fun hHeld => ?_)
    · exact ⟨range_tn hHeld.1 ht8 (by omega), range_tn hHeld.2.1 ht8 (by omega), range_tn hHeld.2.2 ht8 (by omega)⟩
    clear hK K
    try simp only [Act.put, List.getElem_toArray, List.getElem_cons_zero, List.getElem_cons_succ, List.setIfInBounds_toArray, List.set_cons_zero, List.set_cons_succ]
    refine wpAnyH_take (i := 15) (v := .bool b) rfl (by kernel_rfl) (by kernel_rfl) (by kernel_rfl) (fun _ _ _ h => h) (Or.inl ⟨by rfl, fun w hS => by first | (go_simp; done) | (go_simp; with_reducible rfl)⟩) hHeld ?_
    try simp only [Act.put, List.getElem_toArray, List.getElem_cons_zero, List.getElem_cons_succ, List.setIfInBounds_toArray, List.set_cons_zero, List.set_cons_succ]
    refine wpAnyH_done (by kernel_rfl) ?_ _
    go_wp2_with fail
    have hz := two_stores ht7 ht8 hbe (fun i hi h => by omega) (fun i hi h => by omega)
    exact ret_blk4 rfl (w.heap.size + 1) 22 _ (w.heap.size + 1 + 1) 22 _ _ (BlkIs.tn hb7 ht8 (by omega)) hb8 _ rfl rfl rfl Tryd.underlying22 rfl (isz26a HN1.out) (isz26a HN2.out) rfl ⟨rfl, hz⟩
end Go.Proofs.YtfgdochpnnkpmaaDoor
