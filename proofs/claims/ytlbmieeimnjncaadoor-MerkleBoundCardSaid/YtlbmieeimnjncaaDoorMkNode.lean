/- Contracts of leaves and nodes: the program's. Conditions: as stated at each. -/
import Derived.Test.YtlbmieeimnjncaaDoorMkCut
import Derived.Test.YtlbmieeimnjncaaDoorDgSum
import Derived.Test.YtlbmieeimnjncaaDoorShelf
namespace Go.Proofs.YtlbmieeimnjncaaDoor
set_option maxRecDepth 100000
open Go.RowKit Go
set_option maxHeartbeats 800000 in
theorem cut_any (n : Nat) (w : World) (h2 : 2 ≤ n) (h63 : n ≤ 9223372036854775807) :
    Calls Tryd.prog 19 #[.int .i64 n] w fun e w' => e = .returned (.int .i64 (spl n : Nat)) ∧ w = w' := by
  obtain ⟨x, rfl⟩ : ∃ x, n = x + 1 := ⟨n - 1, by omega⟩
  have hl := bitLen_is (x := x) (by omega) (by omega)
  have h62 := log2_63 h2 h63
  have hs : spl (x + 1) = 2 ^ x.log2 := by unfold spl; rw [Nat.add_sub_cancel]
  rw [Nat.add_sub_cancel] at h62
  generalize x.log2 = d at *
  have HW : Hid (wrap64 ((2 : Int) ^ d) = ((spl (x + 1) : Nat) : Int)) := Lib.hid (by
    have h1 : 2 ^ d ≤ 2 ^ 62 := Nat.pow_le_pow_right (by omega) h62
    rw [hs, show (2 : Int) ^ d = ((2 ^ d : Nat) : Int) from by simp]
    exact IntWalk.wrap64_in _ (by omega))
  have hx : ((x + 1 : Nat) : Int) - 1 = (x : Int) := by omega
  have hb : Hid (∀ w, Calls Tryd.prog 28 #[.int .u64 (x : Int)] w fun e w' => e = .returned (.int .i64 ((d : Int) + 1)) ∧ w' = w) := Lib.hid fun w => by
    have := Tryd.bits_Len (x : Int) w (by omega) (by omega)
    rw [Int.toNat_natCast, hl] at this
    exact this
  clear hl hs
  go_enter Tryd.func19, Tryd.ntmps19
  go_wp2_with (first
    | (go_at_call 28; refine (hb.out _).mono ?_; rintro e w' ⟨rfl, rfl⟩)
    | fail)
  go_ret
  exact ⟨congrArg (fun z : Int => Ending.returned (.int .i64 z)) HW.out, rfl⟩
theorem Rws.two {W : World} {g B : Nat} {A1 A2 : Option Addr} {l1 l2 : List UInt8} {c1 c2 n1 n2 : Nat} (h : BlkIs W g 33 #[.slice A1 n1 c1, .slice A2 n2 c2]) (hg : g < B) (h1 : Bts W B A1 l1) (h2 : Bts W B A2 l2)
    (e1 : l1.length = n1) (e2 : l2.length = n2) (hl1 : n1 ≤ c1) (hc1 : c1 ≤ maxLen) (hl2 : n2 ≤ c2) (hc2 : c2 ≤ maxLen) : Rws W B (some ⟨g, 0, none⟩) [l1, l2] := fun k r hk => by
  subst e1
  subst e2
  rcases k with _ | _ | k
  · obtain rfl : l1 = r := by simpa using hk
    exact ⟨_, A1, c1, rfl, hg, h.cell 0, hl1, hc1, h1⟩
  · obtain rfl : l2 = r := by simpa using hk
    exact ⟨_, A2, c2, rfl, hg, h.cell 1, hl2, hc2, h2⟩
  · simp at hk
theorem Rws.three_ {W : World} {g B : Nat} {A1 A2 A3 : Option Addr} {l1 l2 l3 : List UInt8} {c1 c2 c3 n1 n2 n3 : Nat} (h : BlkIs W g 33 #[.slice A1 n1 c1, .slice A2 n2 c2, .slice A3 n3 c3]) (hg : g < B) (h1 : Bts W B A1 l1) (h2 : Bts W B A2 l2) (h3 : Bts W B A3 l3)
    (e1 : l1.length = n1) (e2 : l2.length = n2) (e3 : l3.length = n3) (hl1 : n1 ≤ c1) (hc1 : c1 ≤ maxLen) (hl2 : n2 ≤ c2) (hc2 : c2 ≤ maxLen) (hl3 : n3 ≤ c3) (hc3 : c3 ≤ maxLen) : Rws W B (some ⟨g, 0, none⟩) [l1, l2, l3] := fun k r hk => by
  subst e1
  subst e2
  subst e3
  rcases k with _ | _ | _ | k
  · obtain rfl : l1 = r := by simpa using hk
    exact ⟨_, A1, c1, rfl, hg, h.cell 0, hl1, hc1, h1⟩
  · obtain rfl : l2 = r := by simpa using hk
    exact ⟨_, A2, c2, rfl, hg, h.cell 1, hl2, hc2, h2⟩
  · obtain rfl : l3 = r := by simpa using hk
    exact ⟨_, A3, c3, rfl, hg, h.cell 2, hl3, hc3, h3⟩
  · simp at hk
theorem BlkIs.bts {W : World} {g B : Nat} {t : TypeId} {l : List UInt8} (h : BlkIs W g t (bv l).toArray) (hg : g < B) : Bts W B (some ⟨g, 0, none⟩) l := fun j u hj =>
  ⟨_, rfl, hg, by rw [add_at, Nat.zero_add]; exact h.get hj⟩
/-- Join of a byte 0 and some bytes. -/
theorem join_leaf (W : World) (g g1 B c n : Nat) (A : Option Addr) (l : List UInt8) (h : BlkIs W g 33 #[.slice (some ⟨g1, 0, none⟩) 1 1, .slice A n c]) (h1 : BlkIs W g1 5 #[.int .u8 0])
    (hb : Bts W B A l) (hB : B ≤ W.heap.size) (hn : l.length = n) (hc : n ≤ c) (hm : c ≤ maxLen) (h9 : n ≤ 800000000) (hg : Glob W) :
    Calls Tryd.prog 17 #[.slice (some ⟨g, 0, none⟩) 2 2] W fun e w' => e = .returned (.agg (bv (leafS l)).toArray) ∧ Below W.heap.size W w' := by
  have hb1 : Bts W W.heap.size (some ⟨g1, 0, none⟩) [0] := BlkIs.bts (t := 5) (l := [0]) h1 h1.lt
  have := join_any (some ⟨g, 0, none⟩) W.heap.size 2 [[0], l] W (Rws.two h h.lt hb1 (hb.more hB) rfl hn (by omega) (by unfold maxLen; omega) hc hm) (Nat.le_refl _) (by simp) (by simp; omega) hg
  rw [show [[0], l].flatten = 0 :: l by simp] at this
  exact this
/-- Join of a byte 1 and two sums. -/
theorem join_node (W : World) (g g1 g2 g3 : Nat) (l r : List UInt8) (h : BlkIs W g 33 #[.slice (some ⟨g1, 0, none⟩) 1 1, .slice (some ⟨g2, 0, none⟩) 32 32, .slice (some ⟨g3, 0, none⟩) 32 32]) (h1 : BlkIs W g1 5 #[.int .u8 1])
    (h2 : BlkIs W g2 22 (bv l).toArray) (h3 : BlkIs W g3 22 (bv r).toArray) (hl : l.length = 32) (hr : r.length = 32) (hg : Glob W) :
    Calls Tryd.prog 17 #[.slice (some ⟨g, 0, none⟩) 3 3] W fun e w' => e = .returned (.agg (bv (nodeS l r)).toArray) ∧ Below W.heap.size W w' := by
  have hb1 : Bts W W.heap.size (some ⟨g1, 0, none⟩) [1] := BlkIs.bts (t := 5) (l := [1]) h1 h1.lt
  have := join_any (some ⟨g, 0, none⟩) W.heap.size 3 [[1], l, r] W (Rws.three_ h h.lt hb1 (h2.bts h2.lt) (h3.bts h3.lt) rfl hl hr (by omega) (by unfold maxLen; omega) (by omega) (by unfold maxLen; omega) (by omega) (by unfold maxLen; omega))
    (Nat.le_refl _) (by simp) (by simp; omega) hg
  rw [show [[1], l, r].flatten = 1 :: (l ++ r) by simp] at this
  exact this
theorem below1 (w : World) (o1 : Obj) : Below w.heap.size w (w.alloc o1) := (Below.refl w.heap.size w).alloc (Nat.le_refl _) _
theorem below2 (w : World) (o1 o2 : Obj) : Below w.heap.size w ((w.alloc o1).alloc o2) := (below1 w o1).alloc (by simp) _
theorem below3 (w : World) (o1 o2 o3 : Obj) : Below w.heap.size w (((w.alloc o1).alloc o2).alloc o3) := (below2 w o1 o2).alloc (by simp; omega) _
set_option maxHeartbeats 800000 in
theorem leaf_any (A : Option Addr) (B c n : Nat) (l : List UInt8) (w : World) (h : Bts w B A l) (hB : B ≤ w.heap.size) (hn : l.length = n) (hc : n ≤ c) (hm : c ≤ maxLen) (h9 : n ≤ 800000000) (hg : Glob w) :
    Calls Tryd.prog 9 #[.slice A n c] w fun e w' => e = .returned (.agg (bv (leafS l)).toArray) ∧ Below w.heap.size w w' := by
  have GS := Lib.hid hg.size
  have HN := Lib.hid hn
  have HL := Lib.hid (leafS_length l)
  clear hn
  go_enter Tryd.func9, Tryd.ntmps9
  go_wp2_with fail
  refine (join_leaf _ (w.heap.size + 1 + 1) (w.heap.size + 1) w.heap.size c n A l (BlkIs.new_at _ _ _ _ (by simp)) ((BlkIs.new_at _ _ _ _ (by simp)).alloc _) ((h.below ((below3 w _ _ _).mono hB)).more hB) (by simp; omega) HN.out hc hm h9 (hg.below (below3 w _ _ _) GS.out)).mono ?_
  rintro e w2 ⟨rfl, hb2⟩
  have hr3 : ∃ z, BlkIs w2 w.heap.size 22 z ∧ z.size = 32 := ⟨_, (hb2.block _ (by simp; omega)).trans (((BlkIs.new w _ _).alloc _).alloc _), rfl⟩
  have hbl : Below w.heap.size w w2 := (below3 w _ _ _).trans (hb2.mono (by simp; omega))
  obtain ⟨z0, hr, hz0⟩ := hr3
  have hsz := hr.lt
  have HB := Lib.hid hbl
  have HI := Lib.hid (isz26a HL.out)
  have HA := Lib.hid (bv_all (leafS l))
  have HZ0 : Hid (z0.size = (bv (leafS l)).toArray.size) := Lib.hid (by rw [hz0, List.size_toArray, bv_length, HL.out])
  generalize hX : (bv (leafS l)).toArray = X at *
  have HX := Lib.hid hX
  clear hX hbl hb2 hz0
  go_wp2_with (first
    | (with_reducible refine store_bl (.tmp 2) (.tmp 6) 22 w.heap.size 22 z0 X hr rfl rfl rfl rfl rfl HI.out HZ0.out HA.out ?_; intro w4 hb4 ht4)
    | fail)
  refine ret_blk rfl w.heap.size 22 X hb4 _ rfl Tryd.underlying22 rfl HI.out rfl ⟨by rw [HX.out], ?_⟩
  exact HB.out.trans (ht4.below HB.out.size (fun i hi h => by omega))
theorem isl26 (g : Nat) (w : World) : (Instr.sliceAt 22 (.pointer (some ⟨g, 0, none⟩)) none none none).run Tryd.prog w = .ok (.slice (some ⟨g, 0, none⟩) 32 32) w := by
  obtain ⟨i, hi, _, h0, _⟩ := info_parts info5
  simp [Instr.sliceAt, run_underlying Tryd.underlying22, Instr.sliceBounds, Sem.run_bind, sizeOf, typeInfo, hi, Instr.sureAddr, add_0]
theorem five_blocks (w : World) (oA oB oC oD oE : Obj) : (((((w.alloc oA).alloc oB).alloc oC).drew.alloc oD).alloc oE).heap[w.heap.size]? = some oA ∧ (((((w.alloc oA).alloc oB).alloc oC).drew.alloc oD).alloc oE).heap[w.heap.size + 1]? = some oB ∧
    (((((w.alloc oA).alloc oB).alloc oC).drew.alloc oD).alloc oE).heap[w.heap.size + 1 + 1]? = some oC ∧ (((((w.alloc oA).alloc oB).alloc oC).drew.alloc oD).alloc oE).heap[w.heap.size + 1 + 1 + 1]? = some oD ∧ (((((w.alloc oA).alloc oB).alloc oC).drew.alloc oD).alloc oE).heap[w.heap.size + 1 + 1 + 1 + 1]? = some oE := by
  have e : ∀ (w : World) (o : Obj), (w.alloc o).heap = w.heap.push o := fun _ _ => rfl
  have d : ∀ w : World, w.drew.heap = w.heap := fun _ => rfl
  refine ⟨?_, ?_, ?_, ?_, ?_⟩ <;> simp only [e, d, Array.getElem?_push, Array.size_push] <;> repeat (first | rw [if_pos trivial] | rw [if_pos (by omega)] | rw [if_neg (by omega)])
theorem below5 (w : World) (oA oB oC oD oE : Obj) : Below w.heap.size w (((((w.alloc oA).alloc oB).alloc oC).drew.alloc oD).alloc oE) :=
  ((below3 w oA oB oC).drew.alloc (by simp; omega) _).alloc (by simp; omega) _
set_option maxRecDepth 100000 in
set_option maxHeartbeats 1600000 in
theorem node_any (l r : List UInt8) (w : World) (hl : l.length = 32) (hr : r.length = 32) (hg : Glob w) :
    Calls Tryd.prog 12 #[.agg (bv l).toArray, .agg (bv r).toArray] w fun e w' => e = .returned (.agg (bv (nodeS l r)).toArray) ∧ Below w.heap.size w w' := by
  have GS := Lib.hid hg.size
  have HN := Lib.hid (nodeS_length l r)
  have HL := Lib.hid hl
  have HR := Lib.hid hr
  have hsl := isl26
  have HIL := Lib.hid (isz26a hl)
  have HIR := Lib.hid (isz26a hr)
  have hj := fun (oC : Obj) => join_node (((((w.alloc (.cells (bv l).toArray 22)).alloc (.cells (bv r).toArray 22)).alloc oC).drew.alloc (.cells #[.int .u8 1] 5)).alloc (.cells #[.slice (some ⟨w.heap.size + 1 + 1 + 1, 0, none⟩) 1 1, .slice (some ⟨w.heap.size, 0, none⟩) 32 32, .slice (some ⟨w.heap.size + 1, 0, none⟩) 32 32] 33))
    (w.heap.size + 1 + 1 + 1 + 1) (w.heap.size + 1 + 1 + 1) w.heap.size (w.heap.size + 1) l r (five_blocks w _ _ _ _ _).2.2.2.2 (five_blocks w _ _ _ _ _).2.2.2.1 (five_blocks w _ _ _ _ _).1 (five_blocks w _ _ _ _ _).2.1 hl hr (hg.below (below5 w _ _ _ _ _) GS.out)
  have hsz : ∀ oC : Obj, w.heap.size + 1 + 1 + 1 + 1 + 1 = (((((w.alloc (.cells (bv l).toArray 22)).alloc (.cells (bv r).toArray 22)).alloc oC).drew.alloc (.cells #[.int .u8 1] 5)).alloc (.cells #[.slice (some ⟨w.heap.size + 1 + 1 + 1, 0, none⟩) 1 1, .slice (some ⟨w.heap.size, 0, none⟩) 32 32, .slice (some ⟨w.heap.size + 1, 0, none⟩) 32 32] 33)).heap.size := fun oC => by simp
  have HJ : Hid (∀ oC : Obj, Calls Tryd.prog 17 #[.slice (some ⟨w.heap.size + 1 + 1 + 1 + 1, 0, none⟩) 3 3] (((((w.alloc (.cells (bv l).toArray 22)).alloc (.cells (bv r).toArray 22)).alloc oC).drew.alloc (.cells #[.int .u8 1] 5)).alloc (.cells #[.slice (some ⟨w.heap.size + 1 + 1 + 1, 0, none⟩) 1 1, .slice (some ⟨w.heap.size, 0, none⟩) 32 32, .slice (some ⟨w.heap.size + 1, 0, none⟩) 32 32] 33))
      fun e w' => e = .returned (.agg (bv (nodeS l r)).toArray) ∧ Below w.heap.size w w' ∧ w.heap.size + 1 + 1 + 1 < w'.heap.size ∧ w'.heap[w.heap.size + 1 + 1]? = some oC) := Lib.hid fun oC => (hj oC).mono fun e w' ⟨he, hb⟩ => ⟨he, (below5 w _ _ _ _ _).trans (hb.mono (by rw [← hsz oC]; omega)), by have := hb.size; rw [← hsz oC] at this; omega,
      (hb.block _ (by rw [← hsz oC]; omega)).trans (five_blocks w _ _ _ _ _).2.2.1⟩
  clear hj hl hr hsz
  have HI := Lib.hid (isz26a HN.out)
  have HA := Lib.hid (bv_all (nodeS l r))
  have HZ : Hid ((bv (nodeS l r)).toArray.size = 32) := Lib.hid (by rw [List.size_toArray, bv_length, HN.out])
  generalize hX : (bv (nodeS l r)).toArray = X at *
  have HX := Lib.hid hX
  clear hX
  generalize (bv l).toArray = Lv at *
  generalize (bv r).toArray = Rv at *
  go_enter Tryd.func12, Tryd.ntmps12
  go_wp2_with fail
  refine wp_region_held_drew (S := (fun _ => True)) (by kernel_rfl) (trivial) (fun hHeld => ?_)
  refine wpAnyH_take (i := 1) (v := .slice (some ⟨w.heap.size, 0, none⟩) 32 32) rfl (by kernel_rfl) (by kernel_rfl) (by kernel_rfl) (fun _ _ _ h => h) (Or.inl ⟨by rfl, fun w hS => by first | (go_simp; done) | (go_simp; with_reducible rfl)⟩) hHeld ?_
  try simp only [Act.put, List.getElem_toArray, List.getElem_cons_zero, List.getElem_cons_succ, List.setIfInBounds_toArray, List.set_cons_zero, List.set_cons_succ]
  refine wpAnyH_take (i := 2) (v := .slice (some ⟨w.heap.size + 1, 0, none⟩) 32 32) rfl (by kernel_rfl) (by kernel_rfl) (by kernel_rfl) (fun _ _ _ h => h) (Or.inl ⟨by rfl, fun w hS => by first | (go_simp; done) | (go_simp; with_reducible rfl)⟩) hHeld ?_
  try simp only [Act.put, List.getElem_toArray, List.getElem_cons_zero, List.getElem_cons_succ, List.setIfInBounds_toArray, List.set_cons_zero, List.set_cons_succ]
  refine wpAnyH_ready (rs := [0]) (by kernel_rfl) (by simp) ?_
  refine AllReadyH.cons rfl (fun K hK => ?_) AllReadyH.nil
  go_simp
  refine hK.out _ _ ?_ (fun hHeld => ?_)
  · trivial
  clear hK K
  try simp only [Act.put, List.getElem_toArray, List.getElem_cons_zero, List.setIfInBounds_toArray, List.set_cons_zero, List.set_cons_succ]
  refine wpAnyH_ready (rs := [3]) (by kernel_rfl) (by simp) ?_
  refine AllReadyH.cons rfl (fun K hK => ?_) AllReadyH.nil
  go_simp
  refine hK.out _ _ ?_ (fun hHeld => ?_)
  · trivial
  clear hK K
  try simp only [Act.put, List.getElem_toArray, List.getElem_cons_zero, List.getElem_cons_succ, List.setIfInBounds_toArray, List.set_cons_zero, List.set_cons_succ]
  refine wpAnyH_ready (rs := [4]) (by kernel_rfl) (by simp) ?_
  refine AllReadyH.cons rfl (fun K hK => ?_) AllReadyH.nil
  go_simp
  go_wp2_with (go_at_call 17; refine (HJ.out _).mono ?_; rintro e w2 ⟨rfl, hb2, hlt2, hr2⟩)
  refine hK.out _ _ ?_ (fun hHeld => ?_)
  · trivial
  clear hK K
  try simp only [Act.put, List.getElem_toArray, List.getElem_cons_zero, List.getElem_cons_succ, List.setIfInBounds_toArray, List.set_cons_zero, List.set_cons_succ]
  have hr3 : ∃ z, BlkIs w2 (w.heap.size + 1 + 1) 22 z ∧ z.size = 32 := ⟨_, hr2, rfl⟩
  clear hr2
  obtain ⟨z0, hr, hz0⟩ := hr3
  have HZ0 : Hid (z0.size = X.size) := Lib.hid (by rw [hz0, HZ.out])
  clear hz0
  refine wpAnyH_ready (rs := [5]) (by kernel_rfl) (by simp) ?_
  refine AllReadyH.cons rfl (fun K hK => ?_) AllReadyH.nil
  (with_reducible refine step_store (.tmp 4) (.tmp 9) 22 (w.heap.size + 1 + 1) 22 z0 X hr rfl rfl rfl rfl rfl HI.out HZ0.out HA.out ?_); intro w4 hb4 ht4
  refine hK.out _ _ ?_ (fun hHeld => ?_)
  · trivial
  clear hK K
  try simp only [Act.put, List.getElem_toArray, List.getElem_cons_zero, List.getElem_cons_succ, List.setIfInBounds_toArray, List.set_cons_zero, List.set_cons_succ]
  refine wpAnyH_done (by kernel_rfl) ?_ _
  go_wp2_with fail
  refine ret_blk rfl (w.heap.size + 1 + 1) 22 X hb4 _ rfl Tryd.underlying22 rfl HI.out rfl ⟨rfl, ?_⟩
  exact hb2.trans (ht4.below (by omega) (fun i hi h => by omega))
end Go.Proofs.YtlbmieeimnjncaaDoor
