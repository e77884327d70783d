/- Contracts of Verify: the program's, the document's. Conditions: as stated at each. -/
import Derived.Test.YtgjepkcdacgieaaDoorMkVerify
import Derived.Test.YtgjepkcdacgieaaDoorMkUp
namespace Go.Proofs.YtgjepkcdacgieaaDoor
open Go.RowKit Go
theorem load_want {ops : Array Oper} {rest : List Oper} {op : Oper} {a : Act} {w : World} {Q : Exit → Act → World → Prop} (hw : Region.wanted op (yielded ops a.tmps) = true) (ty : TypeId) (x : Operand) (ho : op.op = .load ty x)
    (b o : Nat) (hx : a.eval x = .pointer (some ⟨b, o, none⟩)) (cs : List Value) (d : TypeDesc) (hc : w.rangeAt b o cs)
    (hu : Tryd.prog.underlying ty = some d) (hd : d.isRow = true) (hi : (Tryd.prog.info? ty).map (·.size) = some cs.length)
    (h : wpList Tryd.prog ops Q rest (a.put op.dst (.agg cs.toArray)) w) : wpList Tryd.prog ops Q (op :: rest) a w :=
  BigFrame.wpList_want hw fun _ hK => wp_load_mid ty x ho b o hx cs d hc hu hd hi (hK _ _ h)
/-- an int's bounds, of its written form. -/
theorem wf_i64 {n : Int} (h : (Lit.int .i64 n).wf = true) : -9223372036854775808 ≤ n ∧ n ≤ 9223372036854775807 := by
  simp only [Lit.wf, Bool.and_eq_true, decide_eq_true_eq] at h
  exact h
theorem verify_any (root leaf : List UInt8) (A : Option Addr) (p c n i : Nat) (L : List (List UInt8)) (w : World) (hr : root.length = 32) (hl : leaf.length = 32) (hp : L.length = p) (h9 : p ≤ 100000) (hc : p ≤ c) (hm : c ≤ maxLen) (h : Hs w w.heap.size A L) (hi : i < n) (h63 : n ≤ 9223372036854775807) (hg : Glob w) :
    Calls Tryd.prog 21 #[.agg (bv root).toArray, .int .i64 n, .int .i64 i, .agg (bv leaf).toArray, .slice A p c] w fun e w' => e = .returned (.bool ((upR n i leaf L.reverse).2 && ((upR n i leaf L.reverse).1 == root))) ∧ Below w.heap.size w w' :=
  callsIn_wide.1 (verify_in root leaf A p c n i L w hr hl hp h9 hc hm h hi h63 hg)
set_option maxHeartbeats 800000 in
theorem verify_no (root leaf : List UInt8) (A : Option Addr) (p c : Nat) (n i : Int) (w : World) (hi : i < 0 ∨ n ≤ i) :
    Calls Tryd.prog 21 #[.agg (bv root).toArray, .int .i64 n, .int .i64 i, .agg (bv leaf).toArray, .slice A p c] w fun e w' => e = .returned (.bool false) ∧ Below w.heap.size w w' := by
  by_cases i1 : i < 0
  · clear hi
    go_enter Tryd.func21, Tryd.ntmps21
    go_wp2_with fail
    go_ret
    exact ⟨rfl, below2 w _ _⟩
  · have i2 : n ≤ i := by omega
    clear hi
    go_enter Tryd.func21, Tryd.ntmps21
    go_wp2_with fail
    go_ret
    exact ⟨rfl, below2 w _ _⟩
set_option maxHeartbeats 800000 in
theorem rverify_no (root leaf : List UInt8) (A : Option Addr) (p c : Nat) (n i : Int) (w : World) (hi : i < 0 ∨ n ≤ i) :
    Calls Tryd.prog 22 #[.agg (bv root).toArray, .int .i64 n, .int .i64 i, .agg (bv leaf).toArray, .slice A p c] w fun e w' => e = .returned (.bool false) ∧ Below w.heap.size w w' := by
  by_cases i1 : i < 0
  · clear hi
    go_enter Tryd.func22, Tryd.ntmps22
    go_wp2_with fail
    go_ret
    exact ⟨rfl, below2 w _ _⟩
  · have i2 : n ≤ i := by omega
    clear hi
    go_enter Tryd.func22, Tryd.ntmps22
    go_wp2_with fail
    go_ret
    exact ⟨rfl, below2 w _ _⟩
set_option maxRecDepth 100000 in
set_option maxHeartbeats 1600000 in
theorem rverify_any (root leaf : List UInt8) (A : Option Addr) (p c n i : Nat) (L : List (List UInt8)) (w : World) (hr : root.length = 32) (hl : leaf.length = 32) (hp : L.length = p) (h64 : p ≤ 64) (hc : p ≤ c) (hm : c ≤ maxLen) (h : Hs w w.heap.size A L) (hi : i < n) (h63 : n ≤ 9223372036854775807) :
    Calls Tryd.prog 22 #[.agg (bv root).toArray, .int .i64 n, .int .i64 i, .agg (bv leaf).toArray, .slice A p c] w fun e w' => e = .returned (.bool ((upR n i leaf L.reverse).2 && ((upR n i leaf L.reverse).1 == root))) ∧ Below w.heap.size w w' := by
  have i1 : ¬ (i : Int) < 0 := by omega
  have i2 : ¬ (n : Int) ≤ (i : Int) := by omega
  have p6 : ¬ (64 : Int) < (p : Int) := by omega
  have HUP : Hid (∀ W, Below w.heap.size w W → Calls Tryd.prog 39 #[.int .i64 n, .int .i64 i, .agg (bv leaf).toArray, .slice A p c] W
      fun e w' => e = .returned (.tuple #[.agg (bv (upR n i leaf L.reverse).1).toArray, .bool (upR n i leaf L.reverse).2]) ∧ Below W.heap.size W w') := Lib.hid fun W hb =>
    up_any p A p c n i leaf L W (Nat.le_refl _) hp hi h63 (by omega) hc hm hl ((h.below hb).more hb.size)
  have HUX := Lib.hid (upR_length hl L.reverse n i)
  generalize upR n i leaf L.reverse = up at *
  obtain ⟨ux, ub⟩ := up
  dsimp only at HUP HUX ⊢
  have HLL := Lib.hid hl
  have HRR := Lib.hid hr
  have HZX : Hid ((bv (List.replicate 32 0)).toArray.size = (bv ux).toArray.size) := Lib.hid (by rw [List.size_toArray, List.size_toArray, bv_length, bv_length, HUX.out]; rfl)
  have heq := fun w => run_eq24 ux root HUX.out HRR.out w
  clear hl hr hp h hi
  cases ub
  · go_enter Tryd.func22, Tryd.ntmps22
    go_wp2_with (first
      | (refine load_blk (.tmp 8) 26 (w.heap.size + 1) 26 (bv leaf).toArray (two_blocks w _ _).2 rfl rfl rfl _ Tryd.underlying26 rfl (isz26a HLL.out) ?_)
      | fail)
    refine (HUP.out _ (below2 w _ _)).mono ?_
    rintro e w2 ⟨rfl, hb2⟩
    have hbw : Below w.heap.size w w2 := (below2 w _ _).trans (hb2.mono (by simp; omega))
    have HBW := Lib.hid hbw
    clear hb2 hbw
    go_wp2_with (first
      | (refine store_bl (.tmp 11) (.tmp 31) 26 w2.heap.size 26 _ (bv ux).toArray (BlkIs.new w2 _ _) rfl rfl rfl rfl rfl (isz26a HUX.out) HZX.out (bv_all _) ?_; intro w3 hb3 ht3)
      | fail)
    go_ret
    exact ⟨rfl, HBW.out.trans (((below1 w2 _).trans (ht3.below (by simp) (fun i hi h => by omega))).mono HBW.out.size)⟩
  · go_enter Tryd.func22, Tryd.ntmps22
    go_wp2_with (first
      | (refine load_blk (.tmp 8) 26 (w.heap.size + 1) 26 (bv leaf).toArray (two_blocks w _ _).2 rfl rfl rfl _ Tryd.underlying26 rfl (isz26a HLL.out) ?_)
      | fail)
    refine (HUP.out _ (below2 w _ _)).mono ?_
    rintro e w2 ⟨rfl, hb2⟩
    have hbw : Below w.heap.size w w2 := (below2 w _ _).trans (hb2.mono (by simp; omega))
    have HB0 : Hid (BlkIs w2 w.heap.size 26 (bv root).toArray) := Lib.hid ((hb2.block _ (by simp; omega)).trans (two_blocks w _ _).1)
    have HBW := Lib.hid hbw
    clear hb2 hbw
    go_wp2_with (first
      | (refine store_bl (.tmp 11) (.tmp 31) 26 w2.heap.size 26 _ (bv ux).toArray (BlkIs.new w2 _ _) rfl rfl rfl rfl rfl (isz26a HUX.out) HZX.out (bv_all _) ?_; intro w3 hb3 ht3; have k3 : Below w2.heap.size w2 w3 := (below1 w2 _).trans (ht3.below (by simp) (fun i hi h => by omega)); have HB3 : Hid (BlkIs w3 w.heap.size 26 (bv root).toArray) := Lib.hid ((k3.block _ HB0.out.lt).trans HB0.out); clear ht3)
      | (refine load_want (by rfl) 26 (.tmp 11) rfl w2.heap.size 0 rfl (bv ux) _ (BlkIs.sum hb3) Tryd.underlying26 rfl (isz26s HUX.out) ?_)
      | (refine load_want (by rfl) 26 (.tmp 5) rfl w.heap.size 0 rfl (bv root) _ (BlkIs.sum HB3.out) Tryd.underlying26 rfl (isz26s HRR.out) ?_)
      | fail)
    go_ret
    exact ⟨rfl, HBW.out.trans (k3.mono HBW.out.size)⟩
end Go.Proofs.YtgjepkcdacgieaaDoor
