/- Contracts of leaves and nodes: the document's. Conditions: as stated at each. -/
import Derived.Test.YtlbmieeimnjncaaDoorMkNode
import Derived.Test.YtlbmieeimnjncaaDoorDgRSum
namespace Go.Proofs.YtlbmieeimnjncaaDoor
set_option maxRecDepth 100000
open Go.RowKit Go
theorem own_lit {W : World} {N g : Nat} {b : UInt8} (h : BlkIs W g 5 #[.int .u8 (b.toNat : Int)]) (hN : N ≤ g) : W.ownsRow N 5 1 (.slice (some ⟨g, 0, none⟩) 1 1) [b].length (bv [b]) :=
  ⟨rfl, .inr ⟨g, 1, _, rfl, hN, h, Nat.le_refl _, by unfold maxLen; omega, rfl, rfl⟩⟩
theorem own5_bts {w : World} {N : Nat} {v : Value} {l : List UInt8} (h : w.ownsRow N 5 1 v l.length (bv l)) : ∃ A c, v = .slice A l.length c ∧ l.length ≤ c ∧ c ≤ maxLen ∧ Bts w w.heap.size A l := by
  obtain ⟨A, c, rfl, h1, h2⟩ := own_slice h
  exact ⟨A, c, rfl, h1, h2, Bts.of_own h⟩
theorem low_lit {N g n c k : Nat} (hN : N ≤ g) (hk : (Value.slice (some ⟨g, 0, none⟩) n c).ownBlock = some k) : N ≤ k := by
  simp only [Value.ownBlock, Option.some.injEq] at hk
  omega
set_option maxRecDepth 100000 in
set_option maxHeartbeats 1600000 in
theorem rnode_any (l r : List UInt8) (w : World) (hl : l.length = 32) (hr : r.length = 32) :
    Calls Tryd.prog 8 #[.agg (bv l).toArray, .agg (bv r).toArray] w fun e w' => e = .returned (.agg (bv (nodeS l r)).toArray) ∧ Below w.heap.size w w' := by
  have HN := Lib.hid (nodeS_length l r)
  have HL := Lib.hid hl
  have HR := Lib.hid hr
  have hsl := isl26
  have h0 : ∀ z : Array Value, Below (w.heap.size + 1 + 1 + 1) (((w.alloc (.cells (bv l).toArray 22)).alloc (.cells (bv r).toArray 22)).alloc (.cells z 22)) (((w.alloc (.cells (bv l).toArray 22)).alloc (.cells (bv r).toArray 22)).alloc (.cells z 22)).drew := fun z => (Below.refl _ _).drew
  have HBA : Hid (∀ z : Array Value, ∀ W, Below (w.heap.size + 1 + 1 + 1) (((w.alloc (.cells (bv l).toArray 22)).alloc (.cells (bv r).toArray 22)).alloc (.cells z 22)) W →
      BlkIs W w.heap.size 22 (bv l).toArray ∧ BlkIs W (w.heap.size + 1) 22 (bv r).toArray ∧ BlkIs W (w.heap.size + 1 + 1) 22 z ∧ Below w.heap.size w W) := Lib.hid fun z W h =>
    ⟨(h.block _ (by omega)).trans (((BlkIs.new w _ _).alloc _).alloc _), (h.block _ (by omega)).trans ((BlkIs.new_at (w.alloc _) _ _ _ (by simp)).alloc _), (h.block _ (by omega)).trans (BlkIs.new_at ((w.alloc _).alloc _) _ _ _ (by simp)), (below3 w _ _ _).trans (h.mono (by omega))⟩
  have H0 := Lib.hid h0
  clear h0
  generalize hLv : (bv l).toArray = Lv at *
  generalize hRv : (bv r).toArray = Rv at *
  have HLV := Lib.hid hLv
  have HRV := Lib.hid hRv
  clear hLv hRv hl hr
  go_enter Tryd.func8, Tryd.ntmps8
  go_wp2_with fail
  refine wp_region_held_drew (S := (fun _ => True)) (by kernel_rfl) (trivial) (fun hHeld => ?_)
  refine wpAnyH_take (i := 1) (v := .slice (some ⟨w.heap.size, 0, none⟩) 32 32) rfl (by kernel_rfl) (by kernel_rfl) (by kernel_rfl) (fun _ _ _ h => h) (Or.inl ⟨by rfl, fun w hS => by first | (go_simp; done) | (go_simp; with_reducible rfl)⟩) hHeld ?_
  try simp only [Act.put, List.getElem_toArray, List.getElem_cons_zero, List.getElem_cons_succ, List.setIfInBounds_toArray, List.set_cons_zero, List.set_cons_succ]
  refine wpAnyH_take (i := 3) (v := .slice (some ⟨w.heap.size + 1, 0, none⟩) 32 32) rfl (by kernel_rfl) (by kernel_rfl) (by kernel_rfl) (fun _ _ _ h => h) (Or.inl ⟨by rfl, fun w hS => by first | (go_simp; done) | (go_simp; with_reducible rfl)⟩) hHeld ?_
  try simp only [Act.put, List.getElem_toArray, List.getElem_cons_zero, List.getElem_cons_succ, List.setIfInBounds_toArray, List.set_cons_zero, List.set_cons_succ]
  refine wpAnyH_ready (rs := [0]) (by kernel_rfl) (by simp) ?_
  refine AllReadyH.cons rfl (fun K hK => ?_) AllReadyH.nil
  go_simp
  refine hK.out _ _ ?_ (fun hHeld => ?_)
  · trivial
  clear hK K
  try simp only [Act.put, List.getElem_toArray, List.getElem_cons_zero, List.setIfInBounds_toArray, List.set_cons_zero, List.set_cons_succ]
  have hz := H0.out (bv (List.replicate 32 0)).toArray
  have hz1 := hz.alloc (by simp) (.cells #[.int .u8 1] 5)
  have ho1 := own_lit (b := 1) (N := w.heap.size + 1 + 1 + 1) (BlkIs.new_at _ 5 #[.int .u8 1] (w.heap.size + 1 + 1 + 1) (by simp : (((w.alloc (.cells Lv 22)).alloc (.cells Rv 22)).alloc (.cells (bv (List.replicate 32 0)).toArray 22)).drew.heap.size = _)) (Nat.le_refl _)
  have hb1 : Bts _ _ (some ⟨w.heap.size, 0, none⟩) l := BlkIs.bts (t := 22) (by rw [HLV.out]; exact (HBA.out _ _ hz1).1) (B := w.heap.size + 1) (by omega)
  refine wpAnyH_ready (rs := [2]) (by kernel_rfl) (by simp) ?_
  refine AllReadyH.cons rfl (fun K hK => ?_) AllReadyH.nil
  rw [if_pos (by rfl)]; obtain ⟨i, hi, hzz, hi0, hi1⟩ := info_parts info5; refine wp_app (.tmp 5) (.tmp 6) rfl (N := w.heap.size + 1 + 1 + 1) Tryd.underlying33 hi hzz hi0 hi1 rfl rfl ho1 (A := some ⟨w.heap.size, 0, none⟩) (m := 32) (c := 32) (news := bv l) rfl hb1 (by rw [bv_length, HL.out]) (bv_one l) (by simp) (by decide) (by simp) ?_; intro v1 w1 hv1 hg1
  refine hK.out _ _ ?_ (fun hHeld => ?_)
  · trivial
  clear hK K
  try simp only [Act.put, List.getElem_toArray, List.getElem_cons_zero, List.getElem_cons_succ, List.setIfInBounds_toArray, List.set_cons_zero, List.set_cons_succ]
  have hz2 := hz1.grown hg1 (by simp) (fun k hk => low_lit (by omega) hk)
  obtain ⟨A1, c1, rfl, _, _, _⟩ := own5_bts (l := [1] ++ l) (by rw [← bv_append] at hv1; rw [List.length_append, HL.out]; exact hv1)
  have hb2 : Bts w1 (w.heap.size + 1 + 1) (some ⟨w.heap.size + 1, 0, none⟩) r := BlkIs.bts (t := 22) (by rw [HRV.out]; exact (HBA.out _ _ hz2).2.1) (by omega)
  have hn1 := hz2.size
  refine wpAnyH_ready (rs := [4]) (by kernel_rfl) (by simp) ?_
  refine AllReadyH.cons rfl (fun K hK => ?_) AllReadyH.nil
  rw [if_pos (by rfl)]; obtain ⟨i, hi, hzz, hi0, hi1⟩ := info_parts info5; refine wp_app (.tmp 7) (.tmp 8) rfl (N := w.heap.size + 1 + 1 + 1) Tryd.underlying33 hi hzz hi0 hi1 rfl rfl hv1 (A := some ⟨w.heap.size + 1, 0, none⟩) (m := 32) (c := 32) (news := bv r) rfl hb2 (by rw [bv_length, HR.out]) (bv_one r) (by simp) (by decide) (by simpa using hn1) ?_; intro v2 w2 hv2 hg2
  refine hK.out _ _ ?_ (fun hHeld => ?_)
  · trivial
  clear hK K
  try simp only [Act.put, List.getElem_toArray, List.getElem_cons_zero, List.getElem_cons_succ, List.setIfInBounds_toArray, List.set_cons_zero, List.set_cons_succ]
  have hz3 := hz2.grown hg2 (by simpa using hn1) (fun k hk => (World.ownsRow.lt hv1 k hk).1)
  obtain ⟨A2, c2, rfl, _, _, hbt⟩ := own5_bts (l := [1] ++ l ++ r) (by rw [← bv_append, ← bv_append] at hv2; rw [List.length_append, List.length_append, HL.out, HR.out]; exact hv2)
  have hs := rsum_any A2 w2.heap.size c2 ([1] ++ l ++ r) w2 hbt (Nat.le_refl _) (by rw [List.length_append, List.length_append, HL.out, HR.out]; simp)
  have h65 : ([1] ++ l ++ r).length = 65 := by rw [List.length_append, List.length_append, HL.out, HR.out]; rfl
  rw [h65] at hs
  have hs' : Hid (Calls Tryd.prog 16 #[.slice A2 65 c2] w2 fun e w' => e = .returned (.agg (bv (nodeS l r)).toArray) ∧ Below w2.heap.size w2 w') := Lib.hid hs
  clear hs hbt
  rw [h65]
  clear h65
  have HI := Lib.hid (isz26a HN.out)
  have HA := Lib.hid (bv_all (nodeS l r))
  have HX32 : Hid ((bv (nodeS l r)).toArray.size = 32) := Lib.hid (by rw [List.size_toArray, bv_length, HN.out])
  have hn2 := hz3.size
  generalize hX : (bv (nodeS l r)).toArray = X at *
  have HX := Lib.hid hX
  clear hX
  refine wpAnyH_ready (rs := [5]) (by kernel_rfl) (by simp) ?_
  refine AllReadyH.cons rfl (fun K hK => ?_) AllReadyH.nil
  go_simp
  go_wp2_with (go_at_call 16; refine hs'.out.mono ?_; rintro e w3 ⟨rfl, hb3⟩)
  refine hK.out _ _ ?_ (fun hHeld => ?_)
  · trivial
  clear hK K
  try simp only [Act.put, List.getElem_toArray, List.getElem_cons_zero, List.getElem_cons_succ, List.setIfInBounds_toArray, List.set_cons_zero, List.set_cons_succ]
  have hz4 := hz3.trans (hb3.mono (by simpa using hn2))
  have HB := Lib.hid (HBA.out _ _ hz4)
  have HZ0 : Hid ((bv (List.replicate 32 0)).toArray.size = X.size) := Lib.hid (by rw [HX32.out]; rfl)
  have hr := HB.out.2.2.1
  refine wpAnyH_ready (rs := [6]) (by kernel_rfl) (by simp) ?_
  refine AllReadyH.cons rfl (fun K hK => ?_) AllReadyH.nil
  (with_reducible refine step_store (.tmp 4) (.tmp 10) 22 (w.heap.size + 1 + 1) 22 _ X hr rfl rfl rfl rfl rfl HI.out HZ0.out HA.out ?_); intro w4 hb4 ht4
  refine hK.out _ _ ?_ (fun hHeld => ?_)
  · trivial
  clear hK K
  try simp only [Act.put, List.getElem_toArray, List.getElem_cons_zero, List.getElem_cons_succ, List.setIfInBounds_toArray, List.set_cons_zero, List.set_cons_succ]
  refine wpAnyH_done (by kernel_rfl) ?_ _
  go_wp2_with fail
  have hlt := hr.lt
  refine ret_blk rfl (w.heap.size + 1 + 1) 22 X hb4 _ rfl Tryd.underlying22 rfl HI.out rfl ⟨by rw [HX.out], ?_⟩
  exact HB.out.2.2.2.trans (ht4.below (by omega) (fun i hi h => by omega))
end Go.Proofs.YtlbmieeimnjncaaDoor
