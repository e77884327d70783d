/- The laws' example: awake answers true; few; same. Conditions: as stated. -/
import Derived.Test.YtlbmieeimnjncaaDoorMkGrowth
import Derived.Lib.SlBytesConst
import Derived.Test.YtlbmieeimnjncaaDoorDgEq24
namespace Go.Proofs.YtlbmieeimnjncaaDoor
set_option maxRecDepth 100000
open Go.RowKit Go
theorem few_yes (A : Option Addr) (n c : Nat) (w : World) (h : n ≤ 20) : Calls Tryd.prog 5 #[.slice A n c] w fun e w' => e = .returned (.bool true) ∧ w = w' := by
  have h1 : (n : Int) ≤ 20 := by omega
  go_enter Tryd.func5, Tryd.ntmps5
  go_wp2_with fail
  go_ret
  exact ⟨rfl, rfl⟩
theorem few_no (A : Option Addr) (n c : Nat) (w : World) (h : ¬ n ≤ 20) : Calls Tryd.prog 5 #[.slice A n c] w fun e w' => e = .returned (.bool false) ∧ w = w' := by
  have h1 : ¬ (n : Int) ≤ 20 := by omega
  go_enter Tryd.func5, Tryd.ntmps5
  go_wp2_with fail
  go_ret
  exact ⟨rfl, rfl⟩
theorem way_three (a b c : List UInt8) : wayS [a, b, c] 0 = [b, c] := by
  have e3 : spl [a, b, c].length = 2 := by show spl 3 = 2; decide
  have e2 : spl [a, b].length = 1 := by show spl 2 = 1; decide
  rw [wayS_lo (by simp) (by rw [e3]; omega), e3, show [a, b, c].take 2 = [a, b] from rfl, show [a, b, c].drop 2 = [c] from rfl, wayS_lo (by simp) (by rw [e2]; omega), e2, wayS_one (by simp), rootS_one, show [a, b].drop 1 = [b] from rfl, rootS_one]
  rfl
theorem root_two (a b : List UInt8) : rootS [a, b] = nodeS a b := by
  have e2 : spl [a, b].length = 1 := by show spl 2 = 1; decide
  rw [rootS_two (by simp), e2, show [a, b].take 1 = [a] from rfl, show [a, b].drop 1 = [b] from rfl, rootS_one, rootS_one]
theorem run_build2 {a b : List UInt8} (ha : a.length = 32) (hb : b.length = 32) (w : World) : (Instr.buildSlice 23 2 #[(0, .agg (bv a).toArray), (1, .agg (bv b).toArray)]).run Tryd.prog w = .ok (.slice (some ⟨w.heap.size, 0, none⟩) 2 2) (w.alloc (.cells (bv (a ++ b)).toArray 22)) := by
  have := run_buildH [a, b] 2 #[(0, .agg (bv a).toArray), (1, .agg (bv b).toArray)] ((Sms.one ha).append (Sms.one hb)) rfl (by omega) (by omega) rfl w
  rwa [show [a, b].flatten = a ++ b by simp] at this
theorem step_buildw {P : Program} {ops : Array Oper} {o : Oper} {a : Act} {w w' : World} {K : Act → World → Prop} {Q : Exit → Act → World → Prop} {E : Prop} (t : TypeId) (n : Nat) (parts : Array (Nat × Operand)) (vs : Array (Nat × Value)) (v : Value)
    (hrun : (Instr.buildSlice t n vs).run P w = .ok v w') (ho : o.op = .buildSlice t n parts) (hx : (parts.map fun (i, x) => (i, a.eval x)) = vs) (hw : Region.wanted o (yielded ops a.tmps) = true)
    (h : K (a.put o.dst v) w') : if Region.wanted o (yielded ops a.tmps) = true then Oper.wp P o a w K Q else E := by
  rw [if_pos hw]
  unfold Oper.wp execOp
  simp only [ho, hx, Sem.run_bind, hrun, Result.andThen, Sem.run_pure]
  exact h
theorem Hs.blk {W : World} {g B : Nat} {L : List (List UInt8)} (h : BlkIs W g 22 (bv L.flatten).toArray) (hL : Sms L) (hg : g < B) : Hs W B (some ⟨g, 0, none⟩) L :=
  ⟨hL, .inr ⟨g, 0, rfl, hg, fun j v hj => by rw [Nat.zero_add]; exact h.get hj⟩⟩
theorem lit_leaf (w : World) (u : UInt8) (z : Int) (hz : z = (u.toNat : Int)) (hg : Glob w) : Calls Tryd.prog 9 #[.slice (some ⟨w.heap.size, 0, none⟩) 1 1] (w.alloc (.cells #[.int .u8 z] 5 (1, 2)))
    fun e w' => e = .returned (.agg (bv (leafS [u])).toArray) ∧ Below w.heap.size w w' := by
  have := leaf_any (some ⟨w.heap.size, 0, none⟩) (w.heap.size + 1) 1 1 [u] (w.alloc (.cells #[.int .u8 z] 5 (1, 2))) (Bts.newm w [u] _ _ (by subst hz; rfl)) (by simp) rfl (by omega) (by unfold maxLen; omega) (by omega) (hg.alloc _)
  exact this.mono fun e w' h => ⟨h.1, (below1 w _).trans (h.2.mono (by simp))⟩
theorem three_blocks (w : World) (oA oB oC : Obj) : (((w.alloc oA).alloc oB).alloc oC).heap[w.heap.size]? = some oA ∧ (((w.alloc oA).alloc oB).alloc oC).heap[w.heap.size + 1]? = some oB ∧ (((w.alloc oA).alloc oB).alloc oC).heap[w.heap.size + 1 + 1]? = some oC := by
  have e : ∀ (w : World) (o : Obj), (w.alloc o).heap = w.heap.push o := fun _ _ => rfl
  refine ⟨?_, ?_, ?_⟩ <;> simp only [e, Array.getElem?_push, Array.size_push] <;> repeat (first | rw [if_pos trivial] | rw [if_pos (by omega)] | rw [if_neg (by omega)])
set_option maxRecDepth 100000 in
set_option maxHeartbeats 1600000 in
theorem awake_any (w : World) (hg : Glob w) : Calls Tryd.prog 4 #[] w fun e w' => e = .returned (.bool true) ∧ Below w.heap.size w w' := by
  have GS := Lib.hid hg.size
  have hcv := fun (w : World) (C : Array Value) (n c : Nat) => Lib.run_convert_bytes_const (P := Tryd.prog) w 33 5 C n c Tryd.underlying33 Tryd.underlying5
  go_enter Tryd.func4, Tryd.ntmps4
  go_wp2_with fail
  refine (lit_leaf w 97 _ rfl hg).mono ?_
  rintro e w1 ⟨rfl, hb1⟩
  have hg1 := hg.below hb1 GS.out
  go_wp2_with fail
  refine (lit_leaf w1 98 _ rfl hg1).mono ?_
  rintro e w2 ⟨rfl, hb2⟩
  have hg2 := hg1.below hb2 hg1.size
  go_wp2_with fail
  refine (lit_leaf w2 99 _ rfl hg2).mono ?_
  rintro e w3 ⟨rfl, hb3⟩
  have hg3 := Lib.hid (hg2.below hb3 hg2.size)
  have hW3 : Below w.heap.size w w3 := (hb1.trans (hb2.mono hb1.size)).trans (hb3.mono (Nat.le_trans hb1.size hb2.size))
  have HW3 := Lib.hid hW3
  have ha := leafS_length [97]
  have hb := leafS_length [98]
  have hc := leafS_length [99]
  generalize leafS [97] = a at *
  generalize leafS [98] = b at *
  generalize leafS [99] = c at *
  have HA := Lib.hid ha
  have HB := Lib.hid hb
  have HC := Lib.hid hc
  clear hg hg1 hg2 hb1 hb2 hb3 hW3 ha hb hc
  have HZ : Hid (∀ x : List UInt8, x.length = 32 → (bv (List.replicate 32 0)).toArray.size = (bv x).toArray.size) := Lib.hid fun x hx => by rw [List.size_toArray, List.size_toArray, bv_length, bv_length, hx]; rfl
  go_wp2_with (first
    | (refine store_bl (.tmp 1) (.tmp 8) 22 w3.heap.size 22 (bv (List.replicate 32 0)).toArray (bv a).toArray (three_blocks w3 _ _ _).1 rfl rfl rfl rfl rfl (isz26a HA.out) (HZ.out a HA.out) (bv_all a) ?_; intro w4 hb4 ht4; have hx4 : BlkIs w4 (w3.heap.size + 1) 22 (bv (List.replicate 32 0)).toArray := BlkIs.tn (three_blocks w3 _ _ _).2.1 ht4 (by omega); have hy4 : BlkIs w4 (w3.heap.size + 1 + 1) 22 (bv (List.replicate 32 0)).toArray := BlkIs.tn (three_blocks w3 _ _ _).2.2 ht4 (by omega); have hW4 : Below w3.heap.size w3 w4 := (below3 w3 _ _ _).trans (ht4.below (by simp; omega) (fun i hi h => by omega)))
    | (refine store_bl (.tmp 2) (.tmp 11) 22 (w3.heap.size + 1) 22 (bv (List.replicate 32 0)).toArray (bv b).toArray hx4 rfl rfl rfl rfl rfl (isz26a HB.out) (HZ.out b HB.out) (bv_all b) ?_; intro w5 hb5 ht5; have ha5 := hb4.tn ht5 (by omega); have hy5 := hy4.tn ht5 (by omega); have hW5 : Below w3.heap.size w3 w5 := hW4.trans (ht5.below hW4.size (fun i hi h => by omega)))
    | (refine store_bl (.tmp 3) (.tmp 14) 22 (w3.heap.size + 1 + 1) 22 (bv (List.replicate 32 0)).toArray (bv c).toArray hy5 rfl rfl rfl rfl rfl (isz26a HC.out) (HZ.out c HC.out) (bv_all c) ?_; intro w6 hc6 ht6; have ha6 := ha5.tn ht6 (by omega); have hb6 := hb5.tn ht6 (by omega); have hW6 : Below w3.heap.size w3 w6 := hW5.trans (ht6.below hW5.size (fun i hi h => by omega)); clear hb4 hx4 hy4 hW4 ht4 ha5 hb5 hy5 hW5 ht5 ht6)
    | (refine load_blk (.tmp 1) 22 w3.heap.size 22 _ ha6 rfl rfl rfl _ Tryd.underlying22 rfl (isz26a HA.out) ?_)
    | (refine load_blk (.tmp 2) 22 (w3.heap.size + 1) 22 _ hb6 rfl rfl rfl _ Tryd.underlying22 rfl (isz26a HB.out) ?_)
    | (refine load_blk (.tmp 3) 22 (w3.heap.size + 1 + 1) 22 _ hc6 rfl rfl rfl _ Tryd.underlying22 rfl (isz26a HC.out) ?_)
    | (refine list_build 23 3 #[(0, .tmp 16), (1, .tmp 17), (2, .tmp 18)] #[(0, .agg (bv a).toArray), (1, .agg (bv b).toArray), (2, .agg (bv c).toArray)] _ (run_buildH [a, b, c] 3 _ (((Sms.one HA.out).append (Sms.one HB.out)).append (Sms.one HC.out)) rfl (by omega) (by omega) rfl _) rfl (by simp only [List.map_toArray, List.map_cons, List.map_nil]; rfl) rfl ?_)
    | fail)
  have HW6 := Lib.hid (HW3.out.trans (hW6.mono HW3.out.size))
  have hgl6 : Glob w6 := hg3.out.below hW6 hg3.out.size
  have hp := proof_yes (some ⟨w6.heap.size, 0, none⟩) 3 3 0 [a, b, c] (w6.alloc (.cells (bv (a ++ (b ++ c))).toArray 22)) rfl (by omega) (by omega) (by omega) (by unfold maxLen; omega)
    (Hs.blk (L := [a, b, c]) (by have := BlkIs.new w6 22 (bv (a ++ (b ++ c))).toArray; simpa using this) (((Sms.one HA.out).append (Sms.one HB.out)).append (Sms.one HC.out)) (by simp)) (hgl6.alloc _)
  refine hp.mono ?_
  rintro e w7 ⟨v, rfl, ho, hb7⟩
  rw [way_three] at ho
  have ha7 : BlkIs w7 w3.heap.size 22 (bv a).toArray := (hb7.block _ (ha6.alloc _).lt).trans (ha6.alloc _)
  have hb8 : BlkIs w7 (w3.heap.size + 1) 22 (bv b).toArray := (hb7.block _ (hb6.alloc _).lt).trans (hb6.alloc _)
  have hc7 : BlkIs w7 (w3.heap.size + 1 + 1) 22 (bv c).toArray := (hb7.block _ (hc6.alloc _).lt).trans (hc6.alloc _)
  have hW7 : Below w6.heap.size w6 w7 := (below1 w6 _).trans (hb7.mono (by simp))
  have HGL : Hid (∀ W, Below w7.heap.size w7 W → Glob W) := Lib.hid fun W hb => (hgl6.below hW7 hgl6.size).below hb (Nat.le_trans hgl6.size hW7.size)
  obtain ⟨A7, c7, rfl, _, _⟩ := ho.slice
  have hs7 := ho.hs
  obtain ⟨g, o, e7, hgB, hr0⟩ := hs7.at_ (k := 0) (by simp)
  obtain ⟨g', o', e7', _, hr1⟩ := hs7.at_ (k := 1) (by simp)
  subst e7
  injection e7' with e7'
  injection e7' with e8 e9
  subst e8
  subst e9
  have KEEP : Hid (∀ W, Below w7.heap.size w7 W → W.rangeAt w3.heap.size 0 (bv a) ∧ W.rangeAt (w3.heap.size + 1) 0 (bv b) ∧ W.rangeAt (w3.heap.size + 1 + 1) 0 (bv c) ∧ W.rangeAt g o (bv b) ∧ W.rangeAt g (o + 32) (bv c)) := Lib.hid fun W hb =>
    ⟨BlkIs.sum ((hb.block _ ha7.lt).trans ha7), BlkIs.sum ((hb.block _ hb8.lt).trans hb8), BlkIs.sum ((hb.block _ hc7.lt).trans hc7), by simpa using range_below hr0 hb hgB, by simpa using range_below hr1 hb hgB⟩
  have HW7 := Lib.hid (HW6.out.trans (hW7.mono HW6.out.size))
  have heb := fun w => run_eq24 b b HB.out HB.out w
  rw [show (b == b) = true by simp] at heb
  have hec := fun w => run_eq24 c c HC.out HC.out w
  rw [show (c == c) = true by simp] at hec
  have hn := nodeS_length a b
  have hen := fun w => run_eq24 (nodeS a b) (nodeS a b) hn hn w
  rw [show (nodeS a b == nodeS a b) = true by simp] at hen
  have HRT : Hid (∀ W, Below w7.heap.size w7 W → Calls Tryd.prog 11 #[.slice (some ⟨W.heap.size, 0, none⟩) 2 2] (W.alloc (.cells (bv (a ++ b)).toArray 22)) fun e w' => e = .returned (.agg (bv (nodeS a b)).toArray) ∧ Below W.heap.size W w') := Lib.hid fun W hb => by
    rw [← root_two]
    have := root_any (some ⟨W.heap.size, 0, none⟩) 2 2 [a, b] (W.alloc (.cells (bv (a ++ b)).toArray 22)) rfl (by omega) (by omega) (by unfold maxLen; omega)
      (Hs.blk (L := [a, b]) (by have := BlkIs.new W 22 (bv (a ++ b)).toArray; simpa using this) ((Sms.one HA.out).append (Sms.one HB.out)) (by simp)) ((HGL.out W hb).alloc _)
    exact this.mono fun e w' h => ⟨h.1, (below1 W _).trans (h.2.mono (by simp))⟩
  have HND : Hid (∀ W, Below w7.heap.size w7 W → Calls Tryd.prog 12 #[.agg (bv a).toArray, .agg (bv b).toArray] W fun e w' => e = .returned (.agg (bv (nodeS a b)).toArray) ∧ Below W.heap.size W w') := Lib.hid fun W hb =>
    node_any a b W HA.out HB.out (HGL.out W hb)
  generalize nodeS a b = ab at *
  clear hr0 hr1 hs7 ho hb7 ha7 hb8 hc7 hW7 hgl6 hp hW6 ha6 hb6 hc6 hn
  go_wp2_with fail
  have k0 : Below w7.heap.size w7 w7.drew := (Below.refl _ w7).drew
  refine wp_region_held_drew (S := (fun W => Below w7.heap.size w7 W)) (by kernel_rfl) (k0) (fun hHeld => ?_)
  generalize w7.drew = w8 at *
  refine wpAnyH_take (i := 0) (v := .int .i64 0) rfl (by kernel_rfl) (by kernel_rfl) (by kernel_rfl) (fun _ _ _ h => h) (Or.inl ⟨by rfl, fun w hS => by first | (go_simp; done) | (go_simp; with_reducible rfl)⟩) hHeld ?_
  try simp only [Act.put, List.getElem_toArray, List.getElem_cons_zero, List.setIfInBounds_toArray, List.set_cons_zero, List.set_cons_succ]
  refine wpAnyH_take (i := 1) (v := .bool true) rfl (by kernel_rfl) (by kernel_rfl) (by kernel_rfl) (fun _ _ _ h => h) (Or.inl ⟨by rfl, fun w hS => by first | (go_simp; done) | (go_simp; with_reducible rfl)⟩) hHeld ?_
  try simp only [Act.put, List.getElem_toArray, List.getElem_cons_zero, List.getElem_cons_succ, List.setIfInBounds_toArray, List.set_cons_zero, List.set_cons_succ]
  refine wpAnyH_take (i := 2) (v := .bool true) rfl (by kernel_rfl) (by kernel_rfl) (by kernel_rfl) (fun _ _ _ h => h) (Or.inl ⟨by rfl, fun w hS => by first | (go_simp; done) | (go_simp; with_reducible rfl)⟩) hHeld ?_
  try simp only [Act.put, List.getElem_toArray, List.getElem_cons_zero, List.getElem_cons_succ, List.setIfInBounds_toArray, List.set_cons_zero, List.set_cons_succ]
  refine wpAnyH_take (i := 3) (v := .slice (some ⟨g, o, none⟩) 2 c7) rfl (by kernel_rfl) (by kernel_rfl) (by kernel_rfl) (fun _ _ _ h => h) (Or.inl ⟨by rfl, fun w hS => by first | (go_simp; done) | (go_simp; with_reducible rfl)⟩) hHeld ?_
  try simp only [Act.put, List.getElem_toArray, List.getElem_cons_zero, List.getElem_cons_succ, List.setIfInBounds_toArray, List.set_cons_zero, List.set_cons_succ]
  refine wpAnyH_take (i := 4) (v := .int .i64 2) rfl (by kernel_rfl) (by kernel_rfl) (by kernel_rfl) (fun _ _ _ h => h) (Or.inl ⟨by rfl, fun w hS => by first | (go_simp; done) | (go_simp; with_reducible rfl)⟩) hHeld ?_
  try simp only [Act.put, List.getElem_toArray, List.getElem_cons_zero, List.getElem_cons_succ, List.setIfInBounds_toArray, List.set_cons_zero, List.set_cons_succ]
  refine wpAnyH_take (i := 5) (v := .bool true) rfl (by kernel_rfl) (by kernel_rfl) (by kernel_rfl) (fun _ _ _ h => h) (Or.inl ⟨by rfl, fun w hS => by first | (go_simp; done) | (go_simp; with_reducible rfl)⟩) hHeld ?_
  try simp only [Act.put, List.getElem_toArray, List.getElem_cons_zero, List.getElem_cons_succ, List.setIfInBounds_toArray, List.set_cons_zero, List.set_cons_succ]
  refine wpAnyH_take (i := 6) (v := .bool true) rfl (by kernel_rfl) (by kernel_rfl) (by kernel_rfl) (fun _ _ _ h => h) (Or.inl ⟨by rfl, fun w hS => by first | (go_simp; done) | (go_simp; with_reducible rfl)⟩) hHeld ?_
  try simp only [Act.put, List.getElem_toArray, List.getElem_cons_zero, List.getElem_cons_succ, List.setIfInBounds_toArray, List.set_cons_zero, List.set_cons_succ]
  refine wpAnyH_take (i := 7) (v := .bool true) rfl (by kernel_rfl) (by kernel_rfl) (by kernel_rfl) (fun _ _ _ h => h) (Or.inl ⟨by rfl, fun w hS => by first | (go_simp; done) | (go_simp; with_reducible rfl)⟩) hHeld ?_
  try simp only [Act.put, List.getElem_toArray, List.getElem_cons_zero, List.getElem_cons_succ, List.setIfInBounds_toArray, List.set_cons_zero, List.set_cons_succ]
  refine wpAnyH_take (i := 8) (v := .slice (some ⟨g, o, none⟩) 2 c7) rfl (by kernel_rfl) (by kernel_rfl) (by kernel_rfl) (fun _ _ _ h => h) (Or.inl ⟨by rfl, fun w hS => by first | (go_simp; done) | (go_simp; with_reducible rfl)⟩) hHeld ?_
  try simp only [Act.put, List.getElem_toArray, List.getElem_cons_zero, List.getElem_cons_succ, List.setIfInBounds_toArray, List.set_cons_zero, List.set_cons_succ]
  refine wpAnyH_take (i := 9) (v := .pointer (some ⟨g, o, none⟩)) rfl (by kernel_rfl) (by kernel_rfl) (by kernel_rfl) (fun _ _ _ h => h) (Or.inl ⟨by rfl, fun w hS => by first | (go_simp; done) | (go_simp; with_reducible rfl)⟩) hHeld ?_
  try simp only [Act.put, List.getElem_toArray, List.getElem_cons_zero, List.getElem_cons_succ, List.setIfInBounds_toArray, List.set_cons_zero, List.set_cons_succ]
  refine wpAnyH_take (i := 10) (v := _) rfl (by kernel_rfl) (by kernel_rfl) (by kernel_rfl) (fun _ _ _ h => h) (yieldsIf_load_mid (by rfl) 22 (.tmp 32) rfl g o rfl (bv b) _ (fun w h => (KEEP.out w h).2.2.2.1) Tryd.underlying22 rfl (isz26s HB.out)) hHeld ?_
  try simp only [Act.put, List.getElem_toArray, List.getElem_cons_zero, List.getElem_cons_succ, List.setIfInBounds_toArray, List.set_cons_zero, List.set_cons_succ]
  refine wpAnyH_take (i := 11) (v := _) rfl (by kernel_rfl) (by kernel_rfl) (by kernel_rfl) (fun _ _ _ h => h) (yieldsIf_load_mid (by rfl) 22 (.tmp 2) rfl (w3.heap.size + 1) 0 rfl (bv b) _ (fun w h => (KEEP.out w h).2.1) Tryd.underlying22 rfl (isz26s HB.out)) hHeld ?_
  try simp only [Act.put, List.getElem_toArray, List.getElem_cons_zero, List.getElem_cons_succ, List.setIfInBounds_toArray, List.set_cons_zero, List.set_cons_succ]
  refine wpAnyH_take (i := 12) (v := .bool true) rfl (by kernel_rfl) (by kernel_rfl) (by kernel_rfl) (fun _ _ _ h => h) (Or.inl ⟨by rfl, fun w hS => by first | (go_simp; done) | (go_simp; with_reducible rfl)⟩) hHeld ?_
  try simp only [Act.put, List.getElem_toArray, List.getElem_cons_zero, List.getElem_cons_succ, List.setIfInBounds_toArray, List.set_cons_zero, List.set_cons_succ]
  refine wpAnyH_take (i := 13) (v := .bool true) rfl (by kernel_rfl) (by kernel_rfl) (by kernel_rfl) (fun _ _ _ h => h) (Or.inl ⟨by rfl, fun w hS => by first | (go_simp; done) | (go_simp; with_reducible rfl)⟩) hHeld ?_
  try simp only [Act.put, List.getElem_toArray, List.getElem_cons_zero, List.getElem_cons_succ, List.setIfInBounds_toArray, List.set_cons_zero, List.set_cons_succ]
  refine wpAnyH_take (i := 14) (v := .bool true) rfl (by kernel_rfl) (by kernel_rfl) (by kernel_rfl) (fun _ _ _ h => h) (Or.inl ⟨by rfl, fun w hS => by first | (go_simp; done) | (go_simp; with_reducible rfl)⟩) hHeld ?_
  try simp only [Act.put, List.getElem_toArray, List.getElem_cons_zero, List.getElem_cons_succ, List.setIfInBounds_toArray, List.set_cons_zero, List.set_cons_succ]
  refine wpAnyH_take (i := 15) (v := .slice (some ⟨g, o, none⟩) 2 c7) rfl (by kernel_rfl) (by kernel_rfl) (by kernel_rfl) (fun _ _ _ h => h) (Or.inl ⟨by rfl, fun w hS => by first | (go_simp; done) | (go_simp; with_reducible rfl)⟩) hHeld ?_
  try simp only [Act.put, List.getElem_toArray, List.getElem_cons_zero, List.getElem_cons_succ, List.setIfInBounds_toArray, List.set_cons_zero, List.set_cons_succ]
  refine wpAnyH_take (i := 16) (v := .pointer (some ⟨g, o + 32, none⟩)) rfl (by kernel_rfl) (by kernel_rfl) (by kernel_rfl) (fun _ _ _ h => h) (Or.inl ⟨by rfl, fun w hS => by first | (go_simp; done) | (go_simp; with_reducible rfl)⟩) hHeld ?_
  try simp only [Act.put, List.getElem_toArray, List.getElem_cons_zero, List.getElem_cons_succ, List.setIfInBounds_toArray, List.set_cons_zero, List.set_cons_succ]
  refine wpAnyH_take (i := 17) (v := _) rfl (by kernel_rfl) (by kernel_rfl) (by kernel_rfl) (fun _ _ _ h => h) (yieldsIf_load_mid (by rfl) 22 (.tmp 39) rfl g (o + 32) rfl (bv c) _ (fun w h => (KEEP.out w h).2.2.2.2) Tryd.underlying22 rfl (isz26s HC.out)) hHeld ?_
  try simp only [Act.put, List.getElem_toArray, List.getElem_cons_zero, List.getElem_cons_succ, List.setIfInBounds_toArray, List.set_cons_zero, List.set_cons_succ]
  refine wpAnyH_take (i := 18) (v := _) rfl (by kernel_rfl) (by kernel_rfl) (by kernel_rfl) (fun _ _ _ h => h) (yieldsIf_load_mid (by rfl) 22 (.tmp 3) rfl (w3.heap.size + 1 + 1) 0 rfl (bv c) _ (fun w h => (KEEP.out w h).2.2.1) Tryd.underlying22 rfl (isz26s HC.out)) hHeld ?_
  try simp only [Act.put, List.getElem_toArray, List.getElem_cons_zero, List.getElem_cons_succ, List.setIfInBounds_toArray, List.set_cons_zero, List.set_cons_succ]
  refine wpAnyH_take (i := 19) (v := .bool true) rfl (by kernel_rfl) (by kernel_rfl) (by kernel_rfl) (fun _ _ _ h => h) (Or.inl ⟨by rfl, fun w hS => by first | (go_simp; done) | (go_simp; with_reducible rfl)⟩) hHeld ?_
  try simp only [Act.put, List.getElem_toArray, List.getElem_cons_zero, List.getElem_cons_succ, List.setIfInBounds_toArray, List.set_cons_zero, List.set_cons_succ]
  refine wpAnyH_take (i := 20) (v := .bool true) rfl (by kernel_rfl) (by kernel_rfl) (by kernel_rfl) (fun _ _ _ h => h) (Or.inl ⟨by rfl, fun w hS => by first | (go_simp; done) | (go_simp; with_reducible rfl)⟩) hHeld ?_
  try simp only [Act.put, List.getElem_toArray, List.getElem_cons_zero, List.getElem_cons_succ, List.setIfInBounds_toArray, List.set_cons_zero, List.set_cons_succ]
  refine wpAnyH_take (i := 21) (v := .bool true) rfl (by kernel_rfl) (by kernel_rfl) (by kernel_rfl) (fun _ _ _ h => h) (Or.inl ⟨by rfl, fun w hS => by first | (go_simp; done) | (go_simp; with_reducible rfl)⟩) hHeld ?_
  try simp only [Act.put, List.getElem_toArray, List.getElem_cons_zero, List.getElem_cons_succ, List.setIfInBounds_toArray, List.set_cons_zero, List.set_cons_succ]
  refine wpAnyH_take (i := 22) (v := _) rfl (by kernel_rfl) (by kernel_rfl) (by kernel_rfl) (fun _ _ _ h => h) (yieldsIf_load_mid (by rfl) 22 (.tmp 1) rfl w3.heap.size 0 rfl (bv a) _ (fun w h => (KEEP.out w h).1) Tryd.underlying22 rfl (isz26s HA.out)) hHeld ?_
  try simp only [Act.put, List.getElem_toArray, List.getElem_cons_zero, List.getElem_cons_succ, List.setIfInBounds_toArray, List.set_cons_zero, List.set_cons_succ]
  refine wpAnyH_take (i := 23) (v := _) rfl (by kernel_rfl) (by kernel_rfl) (by kernel_rfl) (fun _ _ _ h => h) (yieldsIf_load_mid (by rfl) 22 (.tmp 2) rfl (w3.heap.size + 1) 0 rfl (bv b) _ (fun w h => (KEEP.out w h).2.1) Tryd.underlying22 rfl (isz26s HB.out)) hHeld ?_
  try simp only [Act.put, List.getElem_toArray, List.getElem_cons_zero, List.getElem_cons_succ, List.setIfInBounds_toArray, List.set_cons_zero, List.set_cons_succ]
  refine wpAnyH_take (i := 26) (v := _) rfl (by kernel_rfl) (by kernel_rfl) (by kernel_rfl) (fun _ _ _ h => h) (yieldsIf_load_mid (by rfl) 22 (.tmp 1) rfl w3.heap.size 0 rfl (bv a) _ (fun w h => (KEEP.out w h).1) Tryd.underlying22 rfl (isz26s HA.out)) hHeld ?_
  try simp only [Act.put, List.getElem_toArray, List.getElem_cons_zero, List.getElem_cons_succ, List.setIfInBounds_toArray, List.set_cons_zero, List.set_cons_succ]
  refine wpAnyH_take (i := 27) (v := _) rfl (by kernel_rfl) (by kernel_rfl) (by kernel_rfl) (fun _ _ _ h => h) (yieldsIf_load_mid (by rfl) 22 (.tmp 2) rfl (w3.heap.size + 1) 0 rfl (bv b) _ (fun w h => (KEEP.out w h).2.1) Tryd.underlying22 rfl (isz26s HB.out)) hHeld ?_
  try simp only [Act.put, List.getElem_toArray, List.getElem_cons_zero, List.getElem_cons_succ, List.setIfInBounds_toArray, List.set_cons_zero, List.set_cons_succ]
  refine wpAnyH_ready (rs := [24]) (by kernel_rfl) (by simp) ?_
  refine AllReadyH.cons rfl (fun K hK => ?_) AllReadyH.nil
  refine step_buildw 23 2 #[(0, .tmp 45), (1, .tmp 46)] _ _ (run_build2 HA.out HB.out _) rfl (by simp only [List.map_toArray, List.map_cons, List.map_nil]; rfl) (by rfl) ?_
  refine hK.out _ _ ?_ (fun hHeld => ?_)
  · exact k0.alloc k0.size _
  clear hK K
  try simp only [Act.put, List.getElem_toArray, List.getElem_cons_zero, List.getElem_cons_succ, List.setIfInBounds_toArray, List.set_cons_zero, List.set_cons_succ]
  refine wpAnyH_ready (rs := [25]) (by kernel_rfl) (by simp) ?_
  refine AllReadyH.cons rfl (fun K hK => ?_) AllReadyH.nil
  go_simp
  go_wp2_with (go_at_call 11; refine (HRT.out _ k0).mono ?_; clear HRT; rintro e w9 ⟨rfl, hb9⟩; have k9 := k0.trans (hb9.mono k0.size))
  refine hK.out _ _ ?_ (fun hHeld => ?_)
  · exact k9
  clear hK K
  try simp only [Act.put, List.getElem_toArray, List.getElem_cons_zero, List.getElem_cons_succ, List.setIfInBounds_toArray, List.set_cons_zero, List.set_cons_succ]
  refine wpAnyH_ready (rs := [28]) (by kernel_rfl) (by simp) ?_
  refine AllReadyH.cons rfl (fun K hK => ?_) AllReadyH.nil
  go_simp
  go_wp2_with (go_at_call 12; refine (HND.out _ k9).mono ?_; clear HND; rintro e w10 ⟨rfl, hb10⟩; have k10 := k9.trans (hb10.mono k9.size))
  refine hK.out _ _ ?_ (fun hHeld => ?_)
  · exact k10
  clear hK K
  try simp only [Act.put, List.getElem_toArray, List.getElem_cons_zero, List.getElem_cons_succ, List.setIfInBounds_toArray, List.set_cons_zero, List.set_cons_succ]
  refine wpAnyH_take (i := 29) (v := .bool true) rfl (by kernel_rfl) (by kernel_rfl) (by kernel_rfl) (fun _ _ _ h => h) (Or.inl ⟨by rfl, fun w hS => by first | (go_simp; done) | (go_simp; with_reducible rfl)⟩) hHeld ?_
  try simp only [Act.put, List.getElem_toArray, List.getElem_cons_zero, List.getElem_cons_succ, List.setIfInBounds_toArray, List.set_cons_zero, List.set_cons_succ]
  refine wpAnyH_take (i := 30) (v := .bool true) rfl (by kernel_rfl) (by kernel_rfl) (by kernel_rfl) (fun _ _ _ h => h) (Or.inl ⟨by rfl, fun w hS => by first | (go_simp; done) | (go_simp; with_reducible rfl)⟩) hHeld ?_
  try simp only [Act.put, List.getElem_toArray, List.getElem_cons_zero, List.getElem_cons_succ, List.setIfInBounds_toArray, List.set_cons_zero, List.set_cons_succ]
  refine wpAnyH_take (i := 31) (v := .bool true) rfl (by kernel_rfl) (by kernel_rfl) (by kernel_rfl) (fun _ _ _ h => h) (Or.inl ⟨by rfl, fun w hS => by first | (go_simp; done) | (go_simp; with_reducible rfl)⟩) hHeld ?_
  try simp only [Act.put, List.getElem_toArray, List.getElem_cons_zero, List.getElem_cons_succ, List.setIfInBounds_toArray, List.set_cons_zero]
  refine wpAnyH_done (by kernel_rfl) ?_ _
  go_wp2_with fail
  go_ret
  exact ⟨rfl, HW7.out.trans (k10.mono HW7.out.size)⟩
end Go.Proofs.YtlbmieeimnjncaaDoor
