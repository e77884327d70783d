/- Contracts of segment, Of: the program's, the document's. Conditions: as stated at each. -/
import Derived.Test.YtfgdochpnnkpmaaDoorSeMem
import Derived.Test.YtfgdochpnnkpmaaDoorMkIn
import Derived.Test.YtfgdochpnnkpmaaDoorMkKey
namespace Go.Proofs.YtfgdochpnnkpmaaDoor
set_option maxRecDepth 100000
open Go.RowKit Go
theorem segment_yes (n : Int) (w : World) (h1 : 1 ≤ n) (h2 : n ≤ 999999) : Calls Tryd.prog 54 #[.int .i64 n] w fun e w' => e = .returned (.bool true) ∧ w = w' := by
  go_enter Tryd.func54, Tryd.ntmps54
  go_wp2_with fail
  go_ret
  exact ⟨rfl, rfl⟩
theorem segment_no (n : Int) (w : World) (h : n < 1 ∨ 999999 < n) : Calls Tryd.prog 54 #[.int .i64 n] w fun e w' => e = .returned (.bool false) ∧ w = w' := by
  by_cases h1 : n < 1
  · have h1' : ¬ 1 ≤ n := by omega
    clear h
    go_enter Tryd.func54, Tryd.ntmps54
    go_wp2_with fail
    go_ret
    exact ⟨rfl, rfl⟩
  · have h1' : 1 ≤ n := by omega
    have h2 : ¬ n ≤ 999999 := by omega
    clear h h1
    go_enter Tryd.func54, Tryd.ntmps54
    go_wp2_with fail
    go_ret
    exact ⟨rfl, rfl⟩
theorem blk_rng {w : World} {g : Nat} {t : TypeId} {l : List Value} (h : BlkIs w g t l.toArray) : w.rangeAt g 0 l := fun j v hj => by
  rw [Nat.zero_add]
  exact h.get hj
/-- a seal built of its parts. -/
theorem run_build39_ (seg count : Int) (a0 a1 a2 a3 a4 a5 a6 a7 a8 a9 a10 a11 a12 a13 a14 a15 a16 a17 a18 a19 a20 a21 a22 a23 a24 a25 a26 a27 a28 a29 a30 a31 : UInt8) (b0 b1 b2 b3 b4 b5 b6 b7 b8 b9 b10 b11 b12 b13 b14 b15 b16 b17 b18 b19 b20 b21 b22 b23 b24 b25 b26 b27 b28 b29 b30 b31 : UInt8) (w : World) :
    (Instr.build 39 #[(0, .int .i64 seg), (1, .int .i64 count), (2, .agg (bv [a0, a1, a2, a3, a4, a5, a6, a7, a8, a9, a10, a11, a12, a13, a14, a15, a16, a17, a18, a19, a20, a21, a22, a23, a24, a25, a26, a27, a28, a29, a30, a31]).toArray), (3, .agg (bv [b0, b1, b2, b3, b4, b5, b6, b7, b8, b9, b10, b11, b12, b13, b14, b15, b16, b17, b18, b19, b20, b21, b22, b23, b24, b25, b26, b27, b28, b29, b30, b31]).toArray)]).run Tryd.prog w =
      .ok (.agg (sc ⟨seg, count, [a0, a1, a2, a3, a4, a5, a6, a7, a8, a9, a10, a11, a12, a13, a14, a15, a16, a17, a18, a19, a20, a21, a22, a23, a24, a25, a26, a27, a28, a29, a30, a31], [b0, b1, b2, b3, b4, b5, b6, b7, b8, b9, b10, b11, b12, b13, b14, b15, b16, b17, b18, b19, b20, b21, b22, b23, b24, b25, b26, b27, b28, b29, b30, b31]⟩).toArray) w := by kernel_rfl
theorem run_build39 (s : Sl) (h : s.ok) (w : World) : (Instr.build 39 #[(0, .int .i64 s.seg), (1, .int .i64 s.count), (2, .agg (bv s.root).toArray), (3, .agg (bv s.prev).toArray)]).run Tryd.prog w = .ok (.agg (sc s).toArray) w := by
  obtain ⟨seg, count, root, prev⟩ := s
  obtain ⟨h1, h2⟩ := h
  match root, h1, prev, h2 with
  | [a0, a1, a2, a3, a4, a5, a6, a7, a8, a9, a10, a11, a12, a13, a14, a15, a16, a17, a18, a19, a20, a21, a22, a23, a24, a25, a26, a27, a28, a29, a30, a31], _, [b0, b1, b2, b3, b4, b5, b6, b7, b8, b9, b10, b11, b12, b13, b14, b15, b16, b17, b18, b19, b20, b21, b22, b23, b24, b25, b26, b27, b28, b29, b30, b31], _ => exact run_build39_ seg count a0 a1 a2 a3 a4 a5 a6 a7 a8 a9 a10 a11 a12 a13 a14 a15 a16 a17 a18 a19 a20 a21 a22 a23 a24 a25 a26 a27 a28 a29 a30 a31 b0 b1 b2 b3 b4 b5 b6 b7 b8 b9 b10 b11 b12 b13 b14 b15 b16 b17 b18 b19 b20 b21 b22 b23 b24 b25 b26 b27 b28 b29 b30 b31 w
theorem build_ops {P : Program} {ops : Array Oper} {rest : List Oper} {o : Oper} {a : Act} {w : World} {Q : Exit → Act → World → Prop} (t : TypeId) (parts : Array (Nat × Operand)) (vs : Array (Nat × Value)) (v : Value)
    (hrun : (Instr.build t vs).run P w = .ok v w) (ho : o.op = .build t parts) (hx : (parts.map fun (i, x) => (i, a.eval x)) = vs) (hw : Region.wanted o (yielded ops a.tmps) = true)
    (h : wpList P ops Q rest (a.put o.dst v) w) : wpList P ops Q (o :: rest) a w := by
  refine BigFrame.wpList_want hw fun K hK => ?_
  unfold Oper.wp execOp
  simp only [ho, hx, Sem.run_bind, hrun, Result.andThen, Sem.run_pure]
  exact hK _ _ h
theorem yields_build {P : Program} {ops : Array Oper} {S : World → Prop} {o : Oper} {a : Act} (t : TypeId) (parts : Array (Nat × Operand)) (vs : Array (Nat × Value)) (v : Value)
    (hrun : ∀ w, (Instr.build t vs).run P w = .ok v w) (ho : o.op = .build t parts) (hx : (parts.map fun (i, x) => (i, a.eval x)) = vs) (hw : Region.wanted o (yielded ops a.tmps) = true) : YieldsIf P ops S o v a :=
  Or.inl ⟨hw, fun w _ => by
    unfold execOp
    simp only [ho, hx, Sem.run_bind, hrun, Result.andThen, Sem.run_pure]⟩
theorem run_build39z (w : World) : (Instr.build 39 #[]).run Tryd.prog w = .ok (.agg (sc zeroS).toArray) w := by kernel_rfl
theorem sc_zero : (sc zeroS).toArray.size = 66 := by kernel_rfl
/-- a seal in a block, beside an error's number. -/
theorem ret_sl {P : Program} {fn : Func} {R : Ending → World → Prop} {a : Act} {w : World} {p q : Tmp} {ty : TypeId} (hr : fn.results = #[.cell p ty, .tmp q]) (g : Nat) (t : TypeId) (cs : Array Value) (v : Value) (hg : BlkIs w g t cs) (d : TypeDesc)
    (hp : a.tmps.getD p undef = .pointer (some ⟨g, 0, none⟩)) (hq : a.tmps.getD q undef = v) (hu : P.underlying ty = some d) (hd : (match d with | .struct _ | .array _ _ => true | _ => false) = true) (hi : (P.info? ty).map (·.size) = some cs.size)
    (hde : a.defers = []) (hR : R (.returned (.tuple #[.agg cs, v])) w) : bodyPost P fn R .ret a w := ret_blk3 hr g t cs v hg d hp hq hu hd hi hde hR
set_option maxHeartbeats 1600000 in
theorem of_no (seg : Int) (A : Option Addr) (n c : Nat) (prev : List UInt8) (w : World) (hseg : seg < 1 ∨ 999999 < seg) :
    Calls Tryd.prog 25 #[.int .i64 seg, .slice A n c, .agg (bv prev).toArray] w fun e w' => e = .returned (.tuple #[.agg (sc zeroS).toArray, .int .i64 1]) ∧ Below w.heap.size w w' := by
  have HS := Lib.hid hseg
  clear hseg
  go_enter Tryd.func25, Tryd.ntmps25
  go_wp2_with (first
    | (refine (segment_no seg _ HS.out).mono ?_; rintro e w2 ⟨rfl, e2⟩; have h6 : BlkIs w2 (w.heap.size + 1) 39 (sc zeroS).toArray := e2 ▸ (two_blocks w _ _).2; have hb2 : Below w.heap.size w w2 := e2 ▸ below2 w _ _; clear e2)
    | (refine build_ops 39 #[] #[] _ (run_build39z _) rfl rfl rfl ?_)
    | (refine store_bl (.tmp 6) (.tmp 11) 39 (w.heap.size + 1) 39 _ (sc zeroS).toArray h6 rfl rfl rfl rfl rfl (isz39a zeroS_ok) (sc_size zeroS_ok zeroS_ok) (sc_all _) ?_; intro w3 hb3 ht3)
    | fail)
  exact ret_sl rfl (w.heap.size + 1) 39 _ _ hb3 _ rfl rfl Tryd.underlying39 rfl (isz39a zeroS_ok) rfl ⟨rfl, hb2.trans (ht3.below hb2.size (fun i hi h => by omega))⟩
set_option maxHeartbeats 1600000 in
theorem rof_no (seg : Int) (A : Option Addr) (n c : Nat) (prev : List UInt8) (w : World) (hseg : seg < 1 ∨ 999999 < seg) :
    Calls Tryd.prog 26 #[.int .i64 seg, .slice A n c, .agg (bv prev).toArray] w fun e w' => e = .returned (.tuple #[.agg (sc zeroS).toArray, .int .i64 1]) ∧ Below w.heap.size w w' := by
  have hb2 := below2 w (.cells (bv prev).toArray 22) (.cells (sc zeroS).toArray 39)
  have h6 := (two_blocks w (.cells (bv prev).toArray 22) (.cells (sc zeroS).toArray 39)).2
  by_cases h1 : seg < 1
  · clear hseg
    go_enter Tryd.func26, Tryd.ntmps26
    go_wp2_with (first
      | (refine build_ops 39 #[] #[] _ (run_build39z _) rfl rfl rfl ?_)
      | (refine store_bl (.tmp 6) (.tmp 14) 39 (w.heap.size + 1) 39 _ (sc zeroS).toArray h6 rfl rfl rfl rfl rfl (isz39a zeroS_ok) (sc_size zeroS_ok zeroS_ok) (sc_all _) ?_; intro w3 hb3 ht3)
      | fail)
    exact ret_sl rfl (w.heap.size + 1) 39 _ _ hb3 _ rfl rfl Tryd.underlying39 rfl (isz39a zeroS_ok) rfl ⟨rfl, hb2.trans (ht3.below hb2.size (fun i hi h => by omega))⟩
  · have h2 : 999999 < seg := by omega
    clear hseg
    go_enter Tryd.func26, Tryd.ntmps26
    go_wp2_with (first
      | (refine build_ops 39 #[] #[] _ (run_build39z _) rfl rfl rfl ?_)
      | (refine store_bl (.tmp 6) (.tmp 14) 39 (w.heap.size + 1) 39 _ (sc zeroS).toArray h6 rfl rfl rfl rfl rfl (isz39a zeroS_ok) (sc_size zeroS_ok zeroS_ok) (sc_all _) ?_; intro w3 hb3 ht3)
      | fail)
    exact ret_sl rfl (w.heap.size + 1) 39 _ _ hb3 _ rfl rfl Tryd.underlying39 rfl (isz39a zeroS_ok) rfl ⟨rfl, hb2.trans (ht3.below hb2.size (fun i hi h => by omega))⟩
set_option maxHeartbeats 1600000 in
theorem of_any (seg : Int) (A : Option Addr) (n c : Nat) (L : List (List UInt8)) (prev : List UInt8) (w : World) (hp : prev.length = 32) (hn : L.length = n) (h20 : n ≤ 20) (hc : n ≤ c) (hm : c ≤ maxLen) (h : Hs w w.heap.size A L) (h1 : 1 ≤ seg) (h2 : seg ≤ 999999) (hg : Glob w) :
    Calls Tryd.prog 25 #[.int .i64 seg, .slice A n c, .agg (bv prev).toArray] w fun e w' => e = .returned (.tuple #[.agg (sc ⟨seg, n, rootS L, prev⟩).toArray, .int .i64 0]) ∧ Below w.heap.size w w' := by
  have GS := Lib.hid hg.size
  have HRT : Hid (∀ W, Below w.heap.size w W → Calls Tryd.prog 19 #[.slice A n c] W fun e w' => e = .returned (.agg (bv (rootS L)).toArray) ∧ Below W.heap.size W w') := Lib.hid fun W hb =>
    root_any A n c L W hn (by omega) hc hm ((h.below hb).more hb.size) (hg.below hb GS.out)
  have hrl := rootS_length h.1
  generalize rootS L = rt at *
  have HP := Lib.hid hp
  have HOK : Hid (Sl.ok ⟨seg, n, rt, prev⟩) := Lib.hid ⟨hrl, hp⟩
  clear hrl hp h hn hg
  go_enter Tryd.func25, Tryd.ntmps25
  go_wp2_with (first
    | (refine (segment_yes seg _ h1 h2).mono ?_; rintro e W0 ⟨rfl, e2⟩; have h6 : BlkIs W0 (w.heap.size + 1) 39 (sc zeroS).toArray := e2 ▸ (two_blocks w _ _).2; have h5 : BlkIs W0 w.heap.size 22 (bv prev).toArray := e2 ▸ (two_blocks w _ _).1; have hb2 : Below w.heap.size w W0 := e2 ▸ below2 w _ _; clear e2)
    | fail)
  have k0 : Below w.heap.size w W0.drew := hb2.drew
  have KEEP : Hid (∀ W, Below W0.heap.size W0 W → W.rangeAt w.heap.size 0 (bv prev) ∧ BlkIs W (w.heap.size + 1) 39 (sc zeroS).toArray ∧ Below w.heap.size w W) := Lib.hid fun W hb => ⟨BlkIs.sum ((hb.block _ h5.lt).trans h5), (hb.block _ h6.lt).trans h6, hb2.trans (hb.mono hb2.size)⟩
  have kd : Below W0.heap.size W0 W0.drew := (Below.refl _ W0).drew
  refine wp_region_key ((fun W => Below W0.heap.size W0 W)) 7 (by kernel_rfl) (kd) (fun hHeld => ?_)
  refine wpAnyK_take (i := 0) (v := .int .i64 seg) rfl (by kernel_rfl) (by kernel_rfl) (by kernel_rfl) (by kernel_rfl) (fun _ _ _ h => h) (Or.inl ⟨by rfl, fun w hS => by first | (go_simp; done) | (go_simp; with_reducible rfl)⟩) hHeld ?_
  try simp only [Act.put, List.getElem_toArray, List.getElem_cons_zero, List.setIfInBounds_toArray, List.set_cons_zero, List.set_cons_succ]
  refine wpAnyK_take (i := 1) (v := .slice A n c) rfl (by kernel_rfl) (by kernel_rfl) (by kernel_rfl) (by kernel_rfl) (fun _ _ _ h => h) (Or.inl ⟨by rfl, fun w hS => by first | (go_simp; done) | (go_simp; with_reducible rfl)⟩) hHeld ?_
  try simp only [Act.put, List.getElem_toArray, List.getElem_cons_zero, List.getElem_cons_succ, List.setIfInBounds_toArray, List.set_cons_zero, List.set_cons_succ]
  refine wpAnyK_take (i := 2) (v := .int .i64 n) rfl (by kernel_rfl) (by kernel_rfl) (by kernel_rfl) (by kernel_rfl) (fun _ _ _ h => h) (Or.inl ⟨by rfl, fun w hS => by first | (go_simp; done) | (go_simp; with_reducible rfl)⟩) hHeld ?_
  try simp only [Act.put, List.getElem_toArray, List.getElem_cons_zero, List.getElem_cons_succ, List.setIfInBounds_toArray, List.set_cons_zero, List.set_cons_succ]
  refine wpAnyK_take (i := 3) (v := .slice A n c) rfl (by kernel_rfl) (by kernel_rfl) (by kernel_rfl) (by kernel_rfl) (fun _ _ _ h => h) (Or.inl ⟨by rfl, fun w hS => by first | (go_simp; done) | (go_simp; with_reducible rfl)⟩) hHeld ?_
  try simp only [Act.put, List.getElem_toArray, List.getElem_cons_zero, List.getElem_cons_succ, List.setIfInBounds_toArray, List.set_cons_zero, List.set_cons_succ]
  refine wpAnyK_take (i := 5) (v := _) rfl (by kernel_rfl) (by kernel_rfl) (by kernel_rfl) (by kernel_rfl) (fun _ _ _ h => h) (yieldsIf_load_mid (by rfl) 22 (.tmp 5) rfl w.heap.size 0 rfl (bv prev) _ (fun w h => (KEEP.out w h).1) Tryd.underlying22 rfl (isz26s HP.out)) hHeld ?_
  try simp only [Act.put, List.getElem_toArray, List.getElem_cons_zero, List.getElem_cons_succ, List.setIfInBounds_toArray, List.set_cons_zero, List.set_cons_succ]
  refine wpAnyK_ready (rs := [4]) (by kernel_rfl) (by simp) ?_
  refine AllReadyK.cons rfl (fun K hK => ?_) AllReadyK.nil
  go_simp
  go_wp2_with (go_at_call 19; refine (HRT.out _ (KEEP.out _ hHeld).2.2).mono ?_; clear HRT; rintro e w4 ⟨rfl, hb4⟩; have k4 := kd.trans (hb4.mono kd.size))
  refine hK.out _ _ ?_ (fun hHeld => ?_)
  · exact k4
  clear hK K
  try simp only [Act.put, List.getElem_toArray, List.getElem_cons_zero, List.getElem_cons_succ, List.setIfInBounds_toArray, List.set_cons_zero, List.set_cons_succ]
  refine wpAnyK_take (i := 6) (v := _) rfl (by kernel_rfl) (by kernel_rfl) (by kernel_rfl) (by kernel_rfl) (fun _ _ _ h => h) (yields_build 39 #[(0, .tmp 12), (1, .tmp 14), (2, .tmp 16), (3, .tmp 17)] #[(0, .int .i64 seg), (1, .int .i64 (n : Int)), (2, .agg (bv rt).toArray), (3, .agg (bv prev).toArray)] _ (fun w => run_build39 ⟨seg, n, rt, prev⟩ HOK.out w) rfl (by simp only [List.map_toArray, List.map_cons, List.map_nil]; rfl) rfl) hHeld ?_
  try simp only [Act.put, List.getElem_toArray, List.getElem_cons_zero, List.getElem_cons_succ, List.setIfInBounds_toArray, List.set_cons_zero, List.set_cons_succ]
  refine wpAnyK_ready (rs := [7]) (by kernel_rfl) (by simp) ?_
  refine AllReadyK.late rfl (by kernel_rfl) (fun K hK => ?_) AllReadyK.nil
  refine step_store (.tmp 6) (.tmp 18) 39 (w.heap.size + 1) 39 _ (sc ⟨seg, n, rt, prev⟩).toArray (KEEP.out _ k4).2.1 rfl rfl rfl rfl rfl (isz39a HOK.out) (sc_size zeroS_ok HOK.out) (sc_all _) ?_; intro w5 hb5 ht5
  refine hK.out _ _ ?_ (fun _ => ?_)
  · trivial
  clear hK K
  try simp only [Act.put, List.getElem_toArray, List.getElem_cons_zero, List.getElem_cons_succ, List.setIfInBounds_toArray, List.set_cons_zero, List.set_cons_succ]
  refine wpAnyK_ready (rs := [8]) (by kernel_rfl) (by simp) ?_
  refine AllReadyK.late rfl (by kernel_rfl) (fun K hK => ?_) AllReadyK.nil
  go_simp
  refine hK.out _ _ ?_ (fun _ => ?_)
  · trivial
  clear hK K
  try simp only [Act.put, List.getElem_toArray, List.getElem_cons_zero, List.getElem_cons_succ, List.setIfInBounds_toArray, List.set_cons_zero, List.set_cons_succ]
  refine wpAnyK_done (by kernel_rfl) ?_ _
  go_wp2_with fail
  exact ret_sl rfl (w.heap.size + 1) 39 _ _ hb5 _ rfl rfl Tryd.underlying39 rfl (isz39a HOK.out) rfl ⟨rfl, (KEEP.out _ k4).2.2.trans (ht5.below ((KEEP.out _ k4).2.2).size (fun i hi h => by omega))⟩
set_option maxHeartbeats 1600000 in
theorem rof_any (seg : Int) (A : Option Addr) (n c : Nat) (L : List (List UInt8)) (prev : List UInt8) (w : World) (hp : prev.length = 32) (hn : L.length = n) (h20 : n ≤ 20) (hc : n ≤ c) (hm : c ≤ maxLen) (h : Hs w w.heap.size A L) (h1 : 1 ≤ seg) (h2 : seg ≤ 999999) (hg : Glob w) :
    Calls Tryd.prog 26 #[.int .i64 seg, .slice A n c, .agg (bv prev).toArray] w fun e w' => e = .returned (.tuple #[.agg (sc ⟨seg, n, rootS L, prev⟩).toArray, .int .i64 0]) ∧ Below w.heap.size w w' := by
  have GS := Lib.hid hg.size
  have HRT : Hid (∀ W, Below w.heap.size w W → Calls Tryd.prog 55 #[.slice A n c] W fun e w' => e = .returned (.agg (bv (rootS L)).toArray) ∧ Below W.heap.size W w') := Lib.hid fun W hb =>
    rroot_any n A n c L W (Nat.le_refl _) hn (by omega) hc hm ((h.below hb).more hb.size)
  have hrl := rootS_length h.1
  generalize rootS L = rt at *
  have HP := Lib.hid hp
  have HOK : Hid (Sl.ok ⟨seg, n, rt, prev⟩) := Lib.hid ⟨hrl, hp⟩
  clear hrl hp h hn hg
  go_enter Tryd.func26, Tryd.ntmps26
  have q1 : ¬ seg < 1 := by omega
  have q2 : ¬ 999999 < seg := by omega
  go_wp2_with fail
  have h6 := (two_blocks w (.cells (bv prev).toArray 22) (.cells (sc zeroS).toArray 39)).2
  have h5 := (two_blocks w (.cells (bv prev).toArray 22) (.cells (sc zeroS).toArray 39)).1
  have hb2 := below2 w (.cells (bv prev).toArray 22) (.cells (sc zeroS).toArray 39)
  obtain ⟨W0, hW0⟩ : ∃ W0, W0 = (w.alloc (.cells (bv prev).toArray 22)).alloc (.cells (sc zeroS).toArray 39) := ⟨_, rfl⟩
  rw [← hW0] at h5 h6 hb2
  first | rw [← hW0] | (change Code.wp _ _ _ _ ((w.alloc (.cells (bv prev).toArray 22)).alloc (.cells (sc zeroS).toArray 39)); rw [← hW0])
  clear hW0
  have h6 : BlkIs W0 (w.heap.size + 1) 39 (sc zeroS).toArray := h6
  have h5 : BlkIs W0 w.heap.size 22 (bv prev).toArray := h5
  have k0 : Below w.heap.size w W0.drew := hb2.drew
  have KEEP : Hid (∀ W, Below W0.heap.size W0 W → W.rangeAt w.heap.size 0 (bv prev) ∧ BlkIs W (w.heap.size + 1) 39 (sc zeroS).toArray ∧ Below w.heap.size w W) := Lib.hid fun W hb => ⟨BlkIs.sum ((hb.block _ h5.lt).trans h5), (hb.block _ h6.lt).trans h6, hb2.trans (hb.mono hb2.size)⟩
  have kd : Below W0.heap.size W0 W0.drew := (Below.refl _ W0).drew
  refine wp_region_key ((fun W => Below W0.heap.size W0 W)) 7 (by kernel_rfl) (kd) (fun hHeld => ?_)
  refine wpAnyK_take (i := 0) (v := .int .i64 seg) rfl (by kernel_rfl) (by kernel_rfl) (by kernel_rfl) (by kernel_rfl) (fun _ _ _ h => h) (Or.inl ⟨by rfl, fun w hS => by first | (go_simp; done) | (go_simp; with_reducible rfl)⟩) hHeld ?_
  try simp only [Act.put, List.getElem_toArray, List.getElem_cons_zero, List.setIfInBounds_toArray, List.set_cons_zero, List.set_cons_succ]
  refine wpAnyK_take (i := 1) (v := .slice A n c) rfl (by kernel_rfl) (by kernel_rfl) (by kernel_rfl) (by kernel_rfl) (fun _ _ _ h => h) (Or.inl ⟨by rfl, fun w hS => by first | (go_simp; done) | (go_simp; with_reducible rfl)⟩) hHeld ?_
  try simp only [Act.put, List.getElem_toArray, List.getElem_cons_zero, List.getElem_cons_succ, List.setIfInBounds_toArray, List.set_cons_zero, List.set_cons_succ]
  refine wpAnyK_take (i := 2) (v := .int .i64 n) rfl (by kernel_rfl) (by kernel_rfl) (by kernel_rfl) (by kernel_rfl) (fun _ _ _ h => h) (Or.inl ⟨by rfl, fun w hS => by first | (go_simp; done) | (go_simp; with_reducible rfl)⟩) hHeld ?_
  try simp only [Act.put, List.getElem_toArray, List.getElem_cons_zero, List.getElem_cons_succ, List.setIfInBounds_toArray, List.set_cons_zero, List.set_cons_succ]
  refine wpAnyK_take (i := 3) (v := .slice A n c) rfl (by kernel_rfl) (by kernel_rfl) (by kernel_rfl) (by kernel_rfl) (fun _ _ _ h => h) (Or.inl ⟨by rfl, fun w hS => by first | (go_simp; done) | (go_simp; with_reducible rfl)⟩) hHeld ?_
  try simp only [Act.put, List.getElem_toArray, List.getElem_cons_zero, List.getElem_cons_succ, List.setIfInBounds_toArray, List.set_cons_zero, List.set_cons_succ]
  refine wpAnyK_take (i := 5) (v := _) rfl (by kernel_rfl) (by kernel_rfl) (by kernel_rfl) (by kernel_rfl) (fun _ _ _ h => h) (yieldsIf_load_mid (by rfl) 22 (.tmp 5) rfl w.heap.size 0 rfl (bv prev) _ (fun w h => (KEEP.out w h).1) Tryd.underlying22 rfl (isz26s HP.out)) hHeld ?_
  try simp only [Act.put, List.getElem_toArray, List.getElem_cons_zero, List.getElem_cons_succ, List.setIfInBounds_toArray, List.set_cons_zero, List.set_cons_succ]
  refine wpAnyK_ready (rs := [4]) (by kernel_rfl) (by simp) ?_
  refine AllReadyK.cons rfl (fun K hK => ?_) AllReadyK.nil
  go_simp
  go_wp2_with (go_at_call 55; refine (HRT.out _ (KEEP.out _ hHeld).2.2).mono ?_; clear HRT; rintro e w4 ⟨rfl, hb4⟩; have k4 := kd.trans (hb4.mono kd.size))
  refine hK.out _ _ ?_ (fun hHeld => ?_)
  · exact k4
  clear hK K
  try simp only [Act.put, List.getElem_toArray, List.getElem_cons_zero, List.getElem_cons_succ, List.setIfInBounds_toArray, List.set_cons_zero, List.set_cons_succ]
  refine wpAnyK_take (i := 6) (v := _) rfl (by kernel_rfl) (by kernel_rfl) (by kernel_rfl) (by kernel_rfl) (fun _ _ _ h => h) (yields_build 39 #[(0, .tmp 15), (1, .tmp 17), (2, .tmp 19), (3, .tmp 20)] #[(0, .int .i64 seg), (1, .int .i64 (n : Int)), (2, .agg (bv rt).toArray), (3, .agg (bv prev).toArray)] _ (fun w => run_build39 ⟨seg, n, rt, prev⟩ HOK.out w) rfl (by simp only [List.map_toArray, List.map_cons, List.map_nil]; rfl) rfl) hHeld ?_
  try simp only [Act.put, List.getElem_toArray, List.getElem_cons_zero, List.getElem_cons_succ, List.setIfInBounds_toArray, List.set_cons_zero, List.set_cons_succ]
  refine wpAnyK_ready (rs := [7]) (by kernel_rfl) (by simp) ?_
  refine AllReadyK.late rfl (by kernel_rfl) (fun K hK => ?_) AllReadyK.nil
  refine step_store (.tmp 6) (.tmp 21) 39 (w.heap.size + 1) 39 _ (sc ⟨seg, n, rt, prev⟩).toArray (KEEP.out _ k4).2.1 rfl rfl rfl rfl rfl (isz39a HOK.out) (sc_size zeroS_ok HOK.out) (sc_all _) ?_; intro w5 hb5 ht5
  refine hK.out _ _ ?_ (fun _ => ?_)
  · trivial
  clear hK K
  try simp only [Act.put, List.getElem_toArray, List.getElem_cons_zero, List.getElem_cons_succ, List.setIfInBounds_toArray, List.set_cons_zero, List.set_cons_succ]
  refine wpAnyK_ready (rs := [8]) (by kernel_rfl) (by simp) ?_
  refine AllReadyK.late rfl (by kernel_rfl) (fun K hK => ?_) AllReadyK.nil
  go_simp
  refine hK.out _ _ ?_ (fun _ => ?_)
  · trivial
  clear hK K
  try simp only [Act.put, List.getElem_toArray, List.getElem_cons_zero, List.getElem_cons_succ, List.setIfInBounds_toArray, List.set_cons_zero, List.set_cons_succ]
  refine wpAnyK_done (by kernel_rfl) ?_ _
  go_wp2_with fail
  exact ret_sl rfl (w.heap.size + 1) 39 _ _ hb5 _ rfl rfl Tryd.underlying39 rfl (isz39a HOK.out) rfl ⟨rfl, (KEEP.out _ k4).2.2.trans (ht5.below ((KEEP.out _ k4).2.2).size (fun i hi h => by omega))⟩
end Go.Proofs.YtfgdochpnnkpmaaDoor
