/- MkIn MkKey SeOf RcMem SeBytes EnRow. Conditions: as stated at each. -/
import Derived.Test.YteapnkedpmcokaaGreatDoorRm24
import Derived.Test.YteapnkedpmcokaaGreatDoorRm18
import Derived.Deep.Slices
import Derived.LoopIn
import Derived.LoopNIn
import Derived.OrdersIn
import Derived.OwnWalkIn
import Derived.RangeFuncBound
import Derived.RangeFuncBox
import Derived.RangeFuncCalls
import Derived.RangeFuncLeaves
import Derived.RangeFuncNested
import Derived.TacticsInMore
import Derived.Test.YteapnkedpmcokaaGreatDoorRm25
import Derived.Test.YteapnkedpmcokaaGreatDoorRm15
import Derived.Test.YteapnkedpmcokaaGreatDoorRm22
import Derived.Test.YteapnkedpmcokaaGreatDoorRm13
import Derived.Test.YteapnkedpmcokaaGreatDoorRm20
/- Lists of sums compared; a list of sums as a parameter. Conditions: as stated. -/
namespace Go.Proofs.YteapnkedpmcokaaGreatDoor
set_option maxRecDepth 100000
open Go.RowKit Go
theorem range_append {w : World} {g o : Nat} {a b : List Value} (ha : w.rangeAt g o a) (hb : w.rangeAt g (o + a.length) b) : w.rangeAt g o (a ++ b) := fun j v hj => by
  rcases Nat.lt_or_ge j a.length with h | h
  · rw [List.getElem?_append_left h] at hj
    exact ha j v hj
  · rw [List.getElem?_append_right h] at hj
    have := hb (j - a.length) v hj
    rwa [show o + a.length + (j - a.length) = o + j from by omega] at this
theorem range_flat {w : World} {g : Nat} : ∀ (L : List (List UInt8)) (o : Nat), Sms L → (∀ k, k < L.length → w.rangeAt g (o + k * 32) (bv (L.getD k []))) → w.rangeAt g o (bv L.flatten)
  | [], _, _, _ => fun j v hj => by simp [bv] at hj
  | x :: L, o, hL, h => by
    rw [List.flatten_cons, bv_append]
    refine range_append (by simpa using h 0 (by simp)) ?_
    rw [bv_length, hL x (by simp)]
    refine range_flat L (o + 32) (fun y hy => hL y (by simp [hy])) fun k hk => ?_
    have := h (k + 1) (by simp; omega)
    rw [show o + (k + 1) * 32 = o + 32 + k * 32 from by omega] at this
    simpa using this
section
open Go.ChangeShapes Go.WideShapes Go.ChangeAt
variable {H : Type} {enc : TypeId × Value → H}
/-- a parameter of sums. -/
def IsHs (W : World) (v : Value) : Prop := ∃ A c L, v = .slice A L.length c ∧ Hs W W.heap.size A L ∧ L.length ≤ c ∧ c ≤ maxLen
end
end Go.Proofs.YteapnkedpmcokaaGreatDoor
/- The contract of the document's way up. Conditions: as stated. -/
namespace Go.Proofs.YteapnkedpmcokaaGreatDoor
set_option maxRecDepth 100000
open Go.RowKit Go
theorem ret_blk3 {P : Program} {fn : Func} {R : Ending → World → Prop} {a : Act} {w : World} {p q : Tmp} {ty : TypeId} (hr : fn.results = #[.cell p ty, .tmp q]) (g : Nat) (t : TypeId) (cs : Array Value) (v : Value) (hg : BlkIs w g t cs) (d : TypeDesc)
    (hp : a.tmps.getD p undef = .pointer (some ⟨g, 0, none⟩)) (hq : a.tmps.getD q undef = v) (hu : P.underlying ty = some d) (hd : (match d with | .struct _ | .array _ _ => true | _ => false) = true) (hi : (P.info? ty).map (·.size) = some cs.size)
    (hde : a.defers = []) (hR : R (.returned (.tuple #[.agg cs, v])) w) : bodyPost P fn R .ret a w := by
  refine bodyPost_ret_by ?_ hde hR
  have hp' : a.tmps[p]?.getD undef = .pointer (some ⟨g, 0, none⟩) := by simpa using hp
  have hq' : a.tmps[q]?.getD undef = v := by simpa using hq
  simp [results, hr, hp', hq', asAddr, run_loadVar_row w g t ty cs (0, 0) d hg hu hd hi]
theorem two_blocks (w : World) (oA oB : Obj) : ((w.alloc oA).alloc oB).heap[w.heap.size]? = some oA ∧ ((w.alloc oA).alloc oB).heap[w.heap.size + 1]? = some oB := by
  have e : ∀ (w : World) (o : Obj), (w.alloc o).heap = w.heap.push o := fun _ _ => rfl
  refine ⟨?_, ?_⟩ <;> simp only [e, Array.getElem?_push, Array.size_push] <;> repeat (first | rw [if_pos trivial] | rw [if_pos (by omega)] | rw [if_neg (by omega)])
theorem range_tn {p : Nat → Prop} {w w' : World} {g o : Nat} {cs : List Value} (h : w.rangeAt g o cs) (k : Tn p w w') (hp : ¬ p g) : w'.rangeAt g o cs := fun j v hj => by
  have h1 := h j v hj
  have h2 := k.block g (World.block_lt_of_cell? w _ h1) hp
  rw [← h1]
  unfold World.cell?
  dsimp only
  rw [h2]
theorem range_lt {w : World} {g o : Nat} {x : List UInt8} (h : w.rangeAt g o (bv x)) (hx : 1 ≤ x.length) : g < w.heap.size := World.block_lt_of_cell? w _ (h 0 _ (bv_get x 0 (by omega)))
theorem upR_one (i : Nat) (leaf : List UInt8) (r : List (List UInt8)) : upR 1 i leaf r = (leaf, decide (r = [])) := by
  rcases r with _ | ⟨s, r⟩
  · rfl
  · rw [upR_end rfl]; rfl
end Go.Proofs.YteapnkedpmcokaaGreatDoor
/- What RgKey holds. Conditions: none. -/
namespace Go.Proofs.YteapnkedpmcokaaGreatDoor
end Go.Proofs.YteapnkedpmcokaaGreatDoor
/- Contracts of segment, Of: the program's, the document's. Conditions: as stated at each. -/
namespace Go.Proofs.YteapnkedpmcokaaGreatDoor
set_option maxRecDepth 100000
open Go.RowKit Go
theorem segment_yes (n : Int) (w : World) (h1 : 1 ≤ n) (h2 : n ≤ 999999) : Calls Tryz.prog 119 #[.int .i64 n] w fun e w' => e = .returned (.bool true) ∧ w = w' := by
  go_enter Tryz.func119, Tryz.ntmps119
  go_wp2_with fail
  go_ret
  exact ⟨rfl, rfl⟩
theorem segment_no (n : Int) (w : World) (h : n < 1 ∨ 999999 < n) : Calls Tryz.prog 119 #[.int .i64 n] w fun e w' => e = .returned (.bool false) ∧ w = w' := by
  by_cases h1 : n < 1
  · have h1' : ¬ 1 ≤ n := by omega
    clear h
    go_enter Tryz.func119, Tryz.ntmps119
    go_wp2_with fail
    go_ret
    exact ⟨rfl, rfl⟩
  · have h1' : 1 ≤ n := by omega
    have h2 : ¬ n ≤ 999999 := by omega
    clear h h1
    go_enter Tryz.func119, Tryz.ntmps119
    go_wp2_with fail
    go_ret
    exact ⟨rfl, rfl⟩
theorem blk_rng {w : World} {g : Nat} {t : TypeId} {l : List Value} (h : BlkIs w g t l.toArray) : w.rangeAt g 0 l := fun j v hj => by
  rw [Nat.zero_add]
  exact h.get hj
/-- a seal built of its parts. -/
theorem run_build39_ (seg count : Int) (a0 a1 a2 a3 a4 a5 a6 a7 a8 a9 a10 a11 a12 a13 a14 a15 a16 a17 a18 a19 a20 a21 a22 a23 a24 a25 a26 a27 a28 a29 a30 a31 : UInt8) (b0 b1 b2 b3 b4 b5 b6 b7 b8 b9 b10 b11 b12 b13 b14 b15 b16 b17 b18 b19 b20 b21 b22 b23 b24 b25 b26 b27 b28 b29 b30 b31 : UInt8) (w : World) :
    (Instr.build 32 #[(0, .int .i64 seg), (1, .int .i64 count), (2, .agg (bv [a0, a1, a2, a3, a4, a5, a6, a7, a8, a9, a10, a11, a12, a13, a14, a15, a16, a17, a18, a19, a20, a21, a22, a23, a24, a25, a26, a27, a28, a29, a30, a31]).toArray), (3, .agg (bv [b0, b1, b2, b3, b4, b5, b6, b7, b8, b9, b10, b11, b12, b13, b14, b15, b16, b17, b18, b19, b20, b21, b22, b23, b24, b25, b26, b27, b28, b29, b30, b31]).toArray)]).run Tryz.prog w =
      .ok (.agg (sc ⟨seg, count, [a0, a1, a2, a3, a4, a5, a6, a7, a8, a9, a10, a11, a12, a13, a14, a15, a16, a17, a18, a19, a20, a21, a22, a23, a24, a25, a26, a27, a28, a29, a30, a31], [b0, b1, b2, b3, b4, b5, b6, b7, b8, b9, b10, b11, b12, b13, b14, b15, b16, b17, b18, b19, b20, b21, b22, b23, b24, b25, b26, b27, b28, b29, b30, b31]⟩).toArray) w := by kernel_rfl
theorem run_build39 (s : Sl) (h : s.ok) (w : World) : (Instr.build 32 #[(0, .int .i64 s.seg), (1, .int .i64 s.count), (2, .agg (bv s.root).toArray), (3, .agg (bv s.prev).toArray)]).run Tryz.prog w = .ok (.agg (sc s).toArray) w := by
  obtain ⟨seg, count, root, prev⟩ := s
  obtain ⟨h1, h2⟩ := h
  match root, h1, prev, h2 with
  | [a0, a1, a2, a3, a4, a5, a6, a7, a8, a9, a10, a11, a12, a13, a14, a15, a16, a17, a18, a19, a20, a21, a22, a23, a24, a25, a26, a27, a28, a29, a30, a31], _, [b0, b1, b2, b3, b4, b5, b6, b7, b8, b9, b10, b11, b12, b13, b14, b15, b16, b17, b18, b19, b20, b21, b22, b23, b24, b25, b26, b27, b28, b29, b30, b31], _ => exact run_build39_ seg count a0 a1 a2 a3 a4 a5 a6 a7 a8 a9 a10 a11 a12 a13 a14 a15 a16 a17 a18 a19 a20 a21 a22 a23 a24 a25 a26 a27 a28 a29 a30 a31 b0 b1 b2 b3 b4 b5 b6 b7 b8 b9 b10 b11 b12 b13 b14 b15 b16 b17 b18 b19 b20 b21 b22 b23 b24 b25 b26 b27 b28 b29 b30 b31 w
theorem build_ops {P : Program} {ops : Array Oper} {rest : List Oper} {o : Oper} {a : Act} {w : World} {Q : Exit → Act → World → Prop} (t : TypeId) (parts : Array (Nat × Operand)) (vs : Array (Nat × Value)) (v : Value)
    (hrun : (Instr.build t vs).run P w = .ok v w) (ho : o.op = .build t parts) (hx : (parts.map fun (i, x) => (i, a.eval x)) = vs) (hw : Region.wanted o (yielded ops a.tmps) = true)
    (h : wpList P ops Q rest (a.put o.dst v) w) : wpList P ops Q (o :: rest) a w := by
  refine BigFrame.wpList_want hw fun K hK => ?_
  unfold Oper.wp execOp
  simp only [ho, hx, Sem.run_bind, hrun, Result.andThen, Sem.run_pure]
  exact hK _ _ h
theorem yields_build {P : Program} {ops : Array Oper} {S : World → Prop} {o : Oper} {a : Act} (t : TypeId) (parts : Array (Nat × Operand)) (vs : Array (Nat × Value)) (v : Value)
    (hrun : ∀ w, (Instr.build t vs).run P w = .ok v w) (ho : o.op = .build t parts) (hx : (parts.map fun (i, x) => (i, a.eval x)) = vs) (hw : Region.wanted o (yielded ops a.tmps) = true) : YieldsIf P ops S o v a :=
  Or.inl ⟨hw, fun w _ => by
    unfold execOp
    simp only [ho, hx, Sem.run_bind, hrun, Result.andThen, Sem.run_pure]⟩
theorem run_build39z (w : World) : (Instr.build 32 #[]).run Tryz.prog w = .ok (.agg (sc zeroS).toArray) w := by kernel_rfl
theorem sc_zero : (sc zeroS).toArray.size = 66 := by kernel_rfl
/-- a seal in a block, beside an error's number. -/
theorem ret_sl {P : Program} {fn : Func} {R : Ending → World → Prop} {a : Act} {w : World} {p q : Tmp} {ty : TypeId} (hr : fn.results = #[.cell p ty, .tmp q]) (g : Nat) (t : TypeId) (cs : Array Value) (v : Value) (hg : BlkIs w g t cs) (d : TypeDesc)
    (hp : a.tmps.getD p undef = .pointer (some ⟨g, 0, none⟩)) (hq : a.tmps.getD q undef = v) (hu : P.underlying ty = some d) (hd : (match d with | .struct _ | .array _ _ => true | _ => false) = true) (hi : (P.info? ty).map (·.size) = some cs.size)
    (hde : a.defers = []) (hR : R (.returned (.tuple #[.agg cs, v])) w) : bodyPost P fn R .ret a w := ret_blk3 hr g t cs v hg d hp hq hu hd hi hde hR
end Go.Proofs.YteapnkedpmcokaaGreatDoor
/- Records in memory: their cells, their parts; the writer under way. Conditions: none. -/
namespace Go.Proofs.YteapnkedpmcokaaGreatDoor
set_option maxRecDepth 100000
namespace Rc
open Go.RowKit Go Go.Proofs.YteapnkedpmcokaaGreatDoor.Pa
def mc (m : En.M) (v1 v2 : Value) : List Value := [.int .i64 m.id, .string (str m.cls), .string (str m.fr), v1, .int .i64 m.at_, v2]
def pc (i t : Int) (leaf : L) : List Value := [.int .i64 i] ++ (bv leaf ++ [.int .i64 t])
def hc (a c : L) : List Value := [.string (str a), .string (str c)]
/-- a record's cells. -/
def rc (r : R) (v1 v2 : Value) : List Value := [.int .i64 r.kind] ++ (mc r.msg v1 v2 ++ (pc r.pid r.pat r.leaf ++ (sc r.sl ++ hc r.nm r.who)))
structure Ok (r : R) : Prop where
  leaf : r.leaf.length = 32
  sl : r.sl.ok
theorem mc_length (m : En.M) (v1 v2 : Value) : (mc m v1 v2).length = 6 := rfl
theorem pc_length {leaf : L} (h : leaf.length = 32) (i t : Int) : (pc i t leaf).length = 34 := by simp [pc, bv_length, h]
theorem rc_length {r : R} (h : Ok r) (v1 v2 : Value) : (rc r v1 v2).length = 109 := by
  simp [rc, mc_length, pc_length h.leaf, sc_length h.sl, hc]
theorem rng_l {w : World} {g o : Nat} {a b : List Value} (h : w.rangeAt g o (a ++ b)) : w.rangeAt g o a := fun j v hj => by
  refine h j v ?_
  rw [List.getElem?_append_left (by
    rcases Nat.lt_or_ge j a.length with h' | h'
    · exact h'
    · rw [List.getElem?_eq_none h'] at hj; cases hj)]
  exact hj
theorem rng_r {w : World} {g o : Nat} {a b : List Value} (h : w.rangeAt g o (a ++ b)) {n : Nat} (hn : a.length = n) : w.rangeAt g (o + n) b := fun j v hj => by
  subst hn
  rw [show o + a.length + j = o + (a.length + j) by omega]
  refine h (a.length + j) v ?_
  rw [List.getElem?_append_right (by omega), show a.length + j - a.length = j by omega]
  exact hj
/-- a record's parts, where they lie. -/
structure Fields (w : World) (g : Nat) (r : R) (v1 v2 : Value) : Prop where
  k : w.cell? ⟨g, 0, none⟩ = some (.int .i64 r.kind)
  m : w.rangeAt g 1 (mc r.msg v1 v2)
  p : w.rangeAt g 7 (pc r.pid r.pat r.leaf)
  s : w.rangeAt g 41 (sc r.sl)
  h : w.rangeAt g 107 (hc r.nm r.who)
theorem fields {w : World} {g : Nat} {r : R} {v1 v2 : Value} (h : w.rangeAt g 0 (rc r v1 v2)) (hr : Ok r) : Fields w g r v1 v2 := by
  unfold rc at h
  have h1 := rng_r h (n := 1) rfl
  have h2 := rng_r h1 (n := 6) rfl
  have h3 := rng_r h2 (n := 34) (pc_length hr.leaf _ _)
  have h4 := rng_r h3 (n := 66) (sc_length hr.sl)
  exact ⟨h 0 _ rfl, rng_l h1, rng_l h2, rng_l h3, h4⟩
theorem isz_m : (Tryz.prog.info? 27).map (·.size) = some 6 := by kernel_rfl
theorem isz_p : (Tryz.prog.info? 30).map (·.size) = some 34 := by kernel_rfl
theorem isz_h : (Tryz.prog.info? 34).map (·.size) = some 2 := by kernel_rfl
theorem isz_r : (Tryz.prog.info? 36).map (·.size) = some 109 := by kernel_rfl
theorem isz_w : (Tryz.prog.info? 58).map (·.size) = some 110 := by kernel_rfl
/-- what may have turned: block g, and bytes from M on. -/
structure Fr (g M : Nat) (w w' : World) : Prop where
  tn : Tn (fun i => i = g ∨ M ≤ i) w w'
  kp : ∀ k t cs, k ≠ g → 5 ≠ t → BlkIs w k t cs → BlkIs w' k t cs
theorem Fr.refl (g M : Nat) (w : World) : Fr g M w w := ⟨Tn.refl _ _, fun _ _ _ _ _ h => h⟩
theorem Fr.size {g M : Nat} {w w' : World} (h : Fr g M w w') : w.heap.size ≤ w'.heap.size := h.tn.size
theorem Fr.trans {g M : Nat} {a b c : World} (h : Fr g M a b) (k : Fr g M b c) : Fr g M a c := ⟨h.tn.trans k.tn, fun i t cs h1 h2 h3 => k.kp i t cs h1 h2 (h.kp i t cs h1 h2 h3)⟩
theorem fr_below {g M : Nat} {w w' : World} (h : Below w.heap.size w w') : Fr g M w w' :=
  ⟨⟨h.os, h.tape, h.output, h.size, fun i hi _ => h.block i hi⟩, fun k _ _ _ _ hb => (h.block k hb.lt).trans hb⟩
theorem Fr.on {g M : Nat} {a b c : World} (h : Fr g M a b) (k : Below b.heap.size b c) : Fr g M a c := h.trans (fr_below k)
theorem Fr.to_below {g M N : Nat} {w w' : World} (h : Fr g M w w') (h1 : N ≤ g) (h2 : N ≤ M) (h3 : N ≤ w.heap.size) : Below N w w' := Tn.below h.tn h3 (fun i hi hp => by omega)
theorem Fr.put {g M : Nat} {w w' : World} (h : Fr g M w w') (k : Nat) (v : Value) : Fr g M w (w'.setCell ⟨g, k, none⟩ v) := ⟨Tn.setCell h.tn (.inl (.inl rfl)) v, fun i t cs h1 h2 h3 => (h.kp i t cs h1 h2 h3).far h1 _⟩
theorem Fr.drew {g M : Nat} {w w' : World} (h : Fr g M w w') : Fr g M w w'.drew := ⟨Tn.alk h.tn (Alk.drew w'), fun i t cs h1 h2 h3 => (Alk.drew w').blk (h.kp i t cs h1 h2 h3)⟩
theorem Fr.alloc {g M : Nat} {w w' : World} (h : Fr g M w w') (o : Obj) : Fr g M w (w'.alloc o) := ⟨Tn.alloc h.tn o, fun i t cs h1 h2 h3 => (h.kp i t cs h1 h2 h3).alloc o⟩
theorem Fr.app {g M : Nat} {w w1 w2 : World} {v : Value} {l : L} (h : Fr g M w w1) (ho : Own5 w1 M v l) (hg : w1.grownBy w2 v.ownBlock) : Fr g M w w2 :=
  ⟨Tn.grown h.tn hg (fun k hk => .inl (.inr (En.own5_low ho k hk))), fun i t cs h1 h2 h3 => En.blk_own ho (h.kp i t cs h1 h2 h3) h2 hg⟩
/-- the writer: a record's cells, and its bytes so far. -/
structure WrS (W : World) (g : Nat) (X : List Value) (vb : Value) : Prop where
  blk : BlkIs W g 58 (X ++ [vb]).toArray
  len : X.length = 109
theorem WrS.b {W : World} {g : Nat} {X : List Value} {vb : Value} (h : WrS W g X vb) : W.cell? ⟨g, 109, none⟩ = some vb := by
  refine h.blk.get ?_
  rw [List.getElem?_append_right (by rw [h.len]; omega), h.len]
  rfl
theorem WrS.froz {W : World} {g : Nat} {X : List Value} {vb : Value} (h : WrS W g X vb) : W.frozen? ⟨g, 109, none⟩ = false := h.blk.froz 109
theorem WrS.rng {W : World} {g : Nat} {X : List Value} {vb : Value} (h : WrS W g X vb) : W.rangeAt g 0 X := rng_l (blk_rng h.blk)
theorem WrS.lt {W : World} {g : Nat} {X : List Value} {vb : Value} (h : WrS W g X vb) : g < W.heap.size := h.blk.lt
theorem WrS.put {W : World} {g : Nat} {X : List Value} {vb : Value} (h : WrS W g X vb) (v : Value) : WrS (W.setCell ⟨g, 109, none⟩ v) g X v := by
  refine ⟨?_, h.len⟩
  have hp := h.blk.put 109 v
  have e : (X ++ [vb]).toArray.setIfInBounds 109 v = (X ++ [v]).toArray := by
    rw [List.setIfInBounds_toArray, List.set_append_right _ _ (by rw [h.len]; omega), h.len]
    rfl
  rwa [e] at hp
theorem WrS.own {w w' : World} {g N : Nat} {X : List Value} {vb v : Value} {l : L} (h : WrS w g X vb) (ho : Own5 w N v l) (hg : w.grownBy w' v.ownBlock) : WrS w' g X vb :=
  ⟨En.blk_own ho h.blk (by decide) hg, h.len⟩
theorem WrS.below {w w' : World} {g M : Nat} {X : List Value} {vb : Value} (h : WrS w g X vb) (hb : Below M w w') (hM : g < M) : WrS w' g X vb := ⟨(hb.block _ hM).trans h.blk, h.len⟩
theorem WrS.alloc {w : World} {g : Nat} {X : List Value} {vb : Value} (h : WrS w g X vb) (o : Obj) : WrS (w.alloc o) g X vb := ⟨h.blk.alloc o, h.len⟩
/-- a part of the record that is written. -/
def WrP (W : World) (g M : Nat) (X : List Value) (ok : Bool) (er : Int) (out : L) (e : Ending) (w' : World) : Prop :=
  Fr g M W w' ∧ ((ok = true ∧ e = .returned (.tuple #[]) ∧ ∃ vb, WrS w' g X vb ∧ Own5 w' M vb out) ∨ (ok = false ∧ e = Fa.bad er))
/-- a record's value, in memory below B. -/
def RecAt (w : World) (B : Nat) (X : List Value) (r : R) : Prop := ∃ v1 v2, X = rc r v1 v2 ∧ En.MsgAt w B (.agg (mc r.msg v1 v2).toArray) r.msg ∧ Ok r
theorem RecAt.below {w w' : World} {B : Nat} {X : List Value} {r : R} (h : RecAt w B X r) (hb : Below B w w') : RecAt w' B X r := by
  obtain ⟨v1, v2, h1, h2, h3⟩ := h
  exact ⟨v1, v2, h1, h2.below hb, h3⟩
theorem RecAt.more {w : World} {B B' : Nat} {X : List Value} {r : R} (h : RecAt w B X r) (hB : B ≤ B') : RecAt w B' X r := by
  obtain ⟨v1, v2, h1, h2, h3⟩ := h
  exact ⟨v1, v2, h1, h2.more hB, h3⟩
theorem RecAt.len {w : World} {B : Nat} {X : List Value} {r : R} (h : RecAt w B X r) : X.length = 109 := by
  obtain ⟨v1, v2, rfl, _, h3⟩ := h
  exact rc_length h3 v1 v2
/-- numbers of 64 bits, texts of bounded size. -/
structure SmallR (r : R) : Prop where
  m : En.SmallM r.msg
  nm : r.nm.length ≤ 100000
  who : r.who.length ≤ 100000
  p0 : -9223372036854775808 ≤ r.pid
  p1 : r.pid < 9223372036854775808
  t0 : -9223372036854775808 ≤ r.pat
  t1 : r.pat < 9223372036854775808
end Rc
end Go.Proofs.YteapnkedpmcokaaGreatDoor
/- Contracts of a seal's bytes: lay, Bytes, the document's four. Conditions: as stated at each. -/
namespace Go.Proofs.YteapnkedpmcokaaGreatDoor
set_option maxRecDepth 100000
open Go.RowKit Go
theorem nb0 (n : Int) : n % 256 = ((nb n 0).toNat : Int) := by have := nb_int n 0; simpa using this
theorem nb1 (n : Int) : n / 256 % 256 = ((nb n 1).toNat : Int) := by have := nb_int n 1; simpa using this
theorem nb2 (n : Int) : n / 65536 % 256 = ((nb n 2).toNat : Int) := by have := nb_int n 2; simpa using this
theorem nb3 (n : Int) : n / 16777216 % 256 = ((nb n 3).toNat : Int) := by have := nb_int n 3; simpa using this
/-- between two rounds. -/
def midB (n : Int) (old : List UInt8) (k : Nat) : List UInt8 := (fourB n).take k ++ old.drop k
theorem mid_set (n : Int) (pre post : List UInt8) (a b c d : UInt8) (o k : Nat) (ho : pre.length = o) (hk : k < 4) (v : Value) (hv : v = .int .u8 (((fourB n).getD k 0).toNat : Int)) :
    (bv (pre ++ (midB n [a, b, c, d] k ++ post))).toArray.setIfInBounds (o + k) v = (bv (pre ++ (midB n [a, b, c, d] (k + 1) ++ post))).toArray := by
  subst hv
  subst ho
  apply Array.toList_inj.1
  rcases k with _ | _ | _ | _ | k
  · simp [bv, midB, fourB]
  · simp [bv, midB, fourB]
  · simp [bv, midB, fourB]
  · simp [bv, midB, fourB]
  · omega
theorem mid_get (n : Int) (pre post : List UInt8) (a b c d : UInt8) (o k : Nat) (ho : pre.length = o) (hk : k < 4) : ∃ u : UInt8, (bv (pre ++ (midB n [a, b, c, d] k ++ post)))[o + k]? = some (.int .u8 (u.toNat : Int)) := by
  subst ho
  rcases k with _ | _ | _ | _ | k
  · exact ⟨a, by simp [bv, midB, fourB]⟩
  · exact ⟨b, by simp [bv, midB, fourB]⟩
  · exact ⟨c, by simp [bv, midB, fourB]⟩
  · exact ⟨d, by simp [bv, midB, fourB]⟩
  · omega
set_option maxHeartbeats 1600000 in
theorem lay_any (pre old post : List UInt8) (g o l c : Nat) (n : Int) (w : World) (h : BlkIs w g 5 (bv (pre ++ (old ++ post))).toArray) (ho : pre.length = o) (h4 : old.length = 4) (hl : 4 ≤ l) :
    Calls Tryz.prog 117 #[.slice (some ⟨g, o, none⟩) l c, .int .i64 n] w fun e w' => (∃ v, e = .returned v) ∧ BlkIs w' g 5 (bv (pre ++ (fourB n ++ post))).toArray ∧ Tn (fun i => i = g) w w' := by
  match old, h4 with
  | [a, b, c1, d], _ =>
  have hM0 : midB n [a, b, c1, d] 0 = [a, b, c1, d] := rfl
  have hM4 : Hid (midB n [a, b, c1, d] 4 = fourB n) := Lib.hid rfl
  rw [← hM0] at h
  have H0 := Lib.hid h
  have HO := Lib.hid ho
  clear h ho hM0 h4
  go_enter Tryz.func117, Tryz.ntmps117
  go_wp2_with fail
  go_loopw [5] (fun i wr => ∃ k : Nat, k ≤ 4 ∧ i = .int .i64 k ∧ BlkIs wr g 5 (bv (pre ++ (midB n [a, b, c1, d] k ++ post))).toArray ∧ Tn (fun i => i = g) w wr) (fun i _ => 4 - (intOf i).toNat)
  case atStart => exact ⟨0, by omega, rfl, H0.out, Tn.refl _ _⟩
  case round =>
    obtain ⟨k, hk, rfl, hb, ht⟩ := hrel
    by_cases hlt : k < 4
    · obtain ⟨u, hu⟩ := mid_get n pre post a b c1 d o k HO.out hlt
      have hget := hb.get hu
      have hfr := hb.froz (o + k)
      have HP := Lib.hid (fun v hv => mid_set n pre post a b c1 d o k HO.out hlt v hv)
      have HB := Lib.hid hb
      have HT := Lib.hid ht
      clear hu hb ht H0
      obtain rfl | rfl | rfl | rfl : k = 0 ∨ k = 1 ∨ k = 2 ∨ k = 3 := by omega
      · have hl0 : (0 : Int) < (l : Int) := by omega
        rw [Nat.add_zero] at hget hfr
        have hl0' : 0 < l := by omega
        go_wp2_with fail
        go_roundw
        case rel =>
          refine ⟨1, by omega, by go_num, ?_, HT.out.setCell (.inl rfl) _⟩
          have hp := HB.out.put o (.int .u8 (n / 16777216 % 256))
          rw [show o = o + 0 from rfl, HP.out _ (by rw [nb3]; rfl)] at hp
          exact hp
        case measure => simp [intOf]
      · have hl0 : (1 : Int) < (l : Int) := by omega
        have hl0' : 1 < l := by omega
        go_wp2_with fail
        go_roundw
        case rel =>
          refine ⟨2, by omega, by go_num, ?_, HT.out.setCell (.inl rfl) _⟩
          have hp := HB.out.put (o + 1) (.int .u8 (n / 65536 % 256))
          rw [HP.out _ (by rw [nb2]; rfl)] at hp
          exact hp
        case measure => simp [intOf]
      · have hl0 : (2 : Int) < (l : Int) := by omega
        have hl0' : 2 < l := by omega
        go_wp2_with fail
        go_roundw
        case rel =>
          refine ⟨3, by omega, by go_num, ?_, HT.out.setCell (.inl rfl) _⟩
          have hp := HB.out.put (o + 2) (.int .u8 (n / 256 % 256))
          rw [HP.out _ (by rw [nb1]; rfl)] at hp
          exact hp
        case measure => simp [intOf]
      · have hl0 : (3 : Int) < (l : Int) := by omega
        have hl0' : 3 < l := by omega
        go_wp2_with fail
        go_roundw
        case rel =>
          refine ⟨4, by omega, by go_num, ?_, HT.out.setCell (.inl rfl) _⟩
          have hp := HB.out.put (o + 3) (.int .u8 (n % 256))
          rw [HP.out _ (by rw [nb0]; rfl)] at hp
          exact hp
        case measure => simp [intOf]
    · obtain rfl : k = 4 := by omega
      go_wp2_with fail
      go_end0
      exact ⟨⟨_, rfl⟩, by rw [← hM4.out]; exact hb, ht⟩
theorem cut45 (g o l c k : Nat) (hk : k ≤ l) (hkc : k < c) (w : World) : (Instr.slice 25 (.slice (some ⟨g, o, none⟩) l c) (some (.int .i64 k)) none none).run Tryz.prog w = .ok (.slice (some ⟨g, o + k, none⟩) (l - k) (c - k)) w := by
  obtain ⟨i, hi, hz, h0, h1⟩ := info_parts info5
  have e1 : (k : Int) ≤ (l : Int) := by omega
  have e2 : ¬ c = k := by omega
  simp [Instr.slice, run_underlying Tryz.underlying25, Instr.sliceBounds, Instr.sliceBound, asIntOf, Sem.run_bind, hk, e2, sizeOf, typeInfo, hi, h0, add_at]
theorem isl26o (g o : Nat) (w : World) : (Instr.sliceAt 28 (.pointer (some ⟨g, o, none⟩)) none none none).run Tryz.prog w = .ok (.slice (some ⟨g, o, none⟩) 32 32) w := by
  obtain ⟨i, hi, _, h0, _⟩ := info_parts info5
  simp [Instr.sliceAt, run_underlying Tryz.underlying28, Instr.sliceBounds, Sem.run_bind, sizeOf, typeInfo, hi, Instr.sureAddr, add_at]
theorem sc_seg {W : World} {g : Nat} {s : Sl} (h : BlkIs W g 32 (sc s).toArray) : W.cell? ⟨g, 0, none⟩ = some (.int .i64 s.seg) := h.get rfl
theorem sc_count {W : World} {g : Nat} {s : Sl} (h : BlkIs W g 32 (sc s).toArray) : W.cell? ⟨g, 1, none⟩ = some (.int .i64 s.count) := h.get rfl
theorem sc_root {W : World} {g : Nat} {s : Sl} (h : BlkIs W g 32 (sc s).toArray) : W.rangeAt g 2 (bv s.root) := BlkIs.range (a := [.int .i64 s.seg, .int .i64 s.count]) (b := bv s.root) (c := bv s.prev) h rfl
theorem sc_prev {W : World} {g : Nat} {s : Sl} (hs : s.ok) (h : BlkIs W g 32 (sc s).toArray) : W.rangeAt g 34 (bv s.prev) := by
  refine BlkIs.range (t := 32) (a := [.int .i64 s.seg, .int .i64 s.count] ++ bv s.root) (b := bv s.prev) (c := []) ?_ (by simp [bv_length, hs.1])
  rw [List.append_nil, List.append_assoc]
  exact h
theorem splice_mid (a b c m : List UInt8) (o : Nat) (ho : a.length = o) (hb : b.length = m.length) : splice (bv (a ++ (b ++ c))) o (bv m) = bv (a ++ (m ++ c)) := by
  unfold splice
  rw [bv_append, bv_append, bv_append, bv_append, List.take_left' (by rw [bv_length, ho]), bv_length, ← hb, ← List.drop_drop, List.drop_left' (by rw [bv_length, ho]), List.drop_left' (by rw [bv_length])]
set_option maxHeartbeats 1600000 in
theorem bytes_any (s : Sl) (w : World) (hs : s.ok) :
    Calls Tryz.prog 111 #[.agg (sc s).toArray] w fun e w' => ∃ g, e = .returned (.slice (some ⟨g, 0, none⟩) 72 72) ∧ BlkIs w' g 5 (bv (bytesS s)).toArray ∧ w.heap.size ≤ g ∧ Below w.heap.size w w' := by
  have hmk : ∀ w' : World, (Instr.makeSlice 25 (.int .i64 72) (.int .i64 72)).run Tryz.prog w' = .ok (.slice (some ⟨w'.heap.size, 0, none⟩) 72 72) (w'.alloc (.cells (bv (List.replicate 72 0)).toArray 5)) := fun w' => run_mk5 72 (by omega) w'
  have HS := Lib.hid hs
  have HT := Lib.hid (two_blocks w (.cells (sc s).toArray 32) (.cells (bv (List.replicate 72 0)).toArray 5))
  have HK := Lib.hid (below2 w (.cells (sc s).toArray 32) (.cells (bv (List.replicate 72 0)).toArray 5))
  clear hs
  generalize hX : (sc s).toArray = X at *
  have HX := Lib.hid hX
  clear hX
  generalize hZ : (bv (List.replicate 72 0)).toArray = Z at *
  have HZ := Lib.hid hZ
  clear hZ
  go_enter Tryz.func111, Tryz.ntmps111
  go_wp2_with fail
  obtain ⟨W0, hW0⟩ : ∃ W0, W0 = (w.alloc (.cells X 32)).alloc (.cells Z 5) := ⟨_, rfl⟩
  have hT := HT.out
  have hK := HK.out
  rw [← hW0] at hT hK ⊢
  have h0 : BlkIs W0 w.heap.size 32 (sc s).toArray := by rw [HX.out]; exact hT.1
  have h1 : BlkIs W0 (w.heap.size + 1) 5 (bv ([] ++ (List.replicate 4 0 ++ List.replicate 68 0))).toArray := by
    rw [show ([] ++ (List.replicate 4 0 ++ List.replicate 68 0) : List UInt8) = List.replicate 72 0 from rfl, HZ.out]
    exact hT.2
  clear hW0 hT HT HK hmk
  generalize hg : w.heap.size + 1 = g at *
  have HN : Hid (w.heap.size < g) := Lib.hid (by omega)
  clear hg
  have hc0 : ∀ w', (Instr.slice 25 (.slice (some ⟨g, 0, none⟩) 72 72) (some (.int .i64 0)) none none).run Tryz.prog w' = .ok (.slice (some ⟨g, 0, none⟩) 72 72) w' := fun w' => cut45 g 0 72 72 0 (by omega) (by omega) w'
  have hc4 : ∀ w', (Instr.slice 25 (.slice (some ⟨g, 0, none⟩) 72 72) (some (.int .i64 4)) none none).run Tryz.prog w' = .ok (.slice (some ⟨g, 4, none⟩) 68 68) w' := fun w' => cut45 g 0 72 72 4 (by omega) (by omega) w'
  have hc8 : ∀ w', (Instr.slice 25 (.slice (some ⟨g, 0, none⟩) 72 72) (some (.int .i64 8)) none none).run Tryz.prog w' = .ok (.slice (some ⟨g, 8, none⟩) 64 64) w' := fun w' => cut45 g 0 72 72 8 (by omega) (by omega) w'
  have hc40 : ∀ w', (Instr.slice 25 (.slice (some ⟨g, 0, none⟩) 72 72) (some (.int .i64 40)) none none).run Tryz.prog w' = .ok (.slice (some ⟨g, 40, none⟩) 32 32) w' := fun w' => cut45 g 0 72 72 40 (by omega) (by omega) w'
  have hi2 := isl26o w.heap.size 2
  have hi34 := isl26o w.heap.size 34
  have H0C := Lib.hid hc0
  have H4C := Lib.hid hc4
  have H8C := Lib.hid hc8
  have H40C := Lib.hid hc40
  have HI2 := Lib.hid hi2
  have HI34 := Lib.hid hi34
  clear hc0 hc4 hc8 hc40 hi2 hi34
  have H1 := Lib.hid h1
  have HB0 := Lib.hid hK
  have H0 := Lib.hid h0
  clear h1 hK h0
  refine wp_region_held_drew (S := (fun W => W.cell? ⟨w.heap.size, 0, none⟩ = some (.int .i64 s.seg))) (by kernel_rfl) (sc_seg ((Alk.drew _).blk H0.out)) (fun hHeld => ?_)
  refine wpAnyH_take (i := 0) (v := .slice (some ⟨g, 0, none⟩) 72 72) rfl (by kernel_rfl) (by kernel_rfl) (by kernel_rfl) (fun _ _ _ h => h) (Or.inl ⟨by rfl, fun w hS => by first | (go_simp; done) | (go_simp; with_reducible rfl)⟩) hHeld ?_
  try simp only [Act.put, List.getElem_toArray, List.getElem_cons_zero, List.setIfInBounds_toArray, List.set_cons_zero, List.set_cons_succ]
  refine wpAnyH_take (i := 1) (v := .slice (some ⟨g, 0, none⟩) 72 72) rfl (by kernel_rfl) (by kernel_rfl) (by kernel_rfl) (fun _ _ _ h => h) (Or.inl ⟨by rfl, fun w hS => by (have hc := H0C.out; first | (go_simp; done) | (go_simp; with_reducible rfl))⟩) hHeld ?_
  try simp only [Act.put, List.getElem_toArray, List.getElem_cons_zero, List.getElem_cons_succ, List.setIfInBounds_toArray, List.set_cons_zero, List.set_cons_succ]
  refine wpAnyH_take (i := 2) (v := .pointer (some ⟨w.heap.size, 0, none⟩)) rfl (by kernel_rfl) (by kernel_rfl) (by kernel_rfl) (fun _ _ _ h => h) (Or.inl ⟨by rfl, fun w hS => by first | (go_simp; done) | (go_simp; with_reducible rfl)⟩) hHeld ?_
  try simp only [Act.put, List.getElem_toArray, List.getElem_cons_zero, List.getElem_cons_succ, List.setIfInBounds_toArray, List.set_cons_zero, List.set_cons_succ]
  refine wpAnyH_take (i := 3) (v := .int .i64 s.seg) rfl (by kernel_rfl) (by kernel_rfl) (by kernel_rfl) (fun _ _ _ h => h) (Or.inl ⟨by rfl, fun w hS => by (have hc := hS; first | (go_simp; done) | (go_simp; with_reducible rfl))⟩) hHeld ?_
  try simp only [Act.put, List.getElem_toArray, List.getElem_cons_zero, List.getElem_cons_succ, List.setIfInBounds_toArray, List.set_cons_zero, List.set_cons_succ]
  refine wpAnyH_ready (rs := [4]) (by kernel_rfl) (by simp) ?_
  refine AllReadyH.cons rfl (fun K hK => ?_) AllReadyH.nil
  go_simp
  go_wp2_with (go_at_call 117; refine (lay_any [] (List.replicate 4 0) (List.replicate 68 0) g 0 72 72 s.seg _ ((Alk.drew _).blk H1.out) rfl rfl (by omega)).mono ?_; rintro e w2 ⟨⟨v2, rfl⟩, hb2, ht2⟩; have k2 : BlkIs w2 w.heap.size 32 (sc s).toArray := BlkIs.tn ((Alk.drew _).blk H0.out) ht2 (by have := HN.out; omega))
  refine hK.out _ _ ?_ (fun hHeld => ?_)
  · exact sc_seg k2
  clear hK K
  try simp only [Act.put, List.getElem_toArray, List.getElem_cons_zero, List.getElem_cons_succ, List.setIfInBounds_toArray, List.set_cons_zero, List.set_cons_succ]
  refine wpAnyH_done (by kernel_rfl) ?_ _
  have HB2 : Hid (Below w.heap.size w w2) := Lib.hid ((HB0.out.drew).trans (ht2.below (HB0.out.drew).size (fun i hi h => by have := HN.out; omega)))
  have HL2 : Hid (BlkIs w2 g 5 (bv (fourB s.seg ++ (List.replicate 4 0 ++ List.replicate 64 0))).toArray) := Lib.hid hb2
  have HK2 := Lib.hid k2
  clear hb2 ht2 k2
  go_wp2_with fail
  refine wp_region_held_drew (S := (fun W => W.cell? ⟨w.heap.size, 1, none⟩ = some (.int .i64 s.count))) (by kernel_rfl) (sc_count ((Alk.drew _).blk HK2.out)) (fun hHeld => ?_)
  refine wpAnyH_take (i := 0) (v := .slice (some ⟨g, 0, none⟩) 72 72) rfl (by kernel_rfl) (by kernel_rfl) (by kernel_rfl) (fun _ _ _ h => h) (Or.inl ⟨by rfl, fun w hS => by first | (go_simp; done) | (go_simp; with_reducible rfl)⟩) hHeld ?_
  try simp only [Act.put, List.getElem_toArray, List.getElem_cons_zero, List.setIfInBounds_toArray, List.set_cons_zero, List.set_cons_succ]
  refine wpAnyH_take (i := 1) (v := .slice (some ⟨g, 4, none⟩) 68 68) rfl (by kernel_rfl) (by kernel_rfl) (by kernel_rfl) (fun _ _ _ h => h) (Or.inl ⟨by rfl, fun w hS => by (have hc := H4C.out; first | (go_simp; done) | (go_simp; with_reducible rfl))⟩) hHeld ?_
  try simp only [Act.put, List.getElem_toArray, List.getElem_cons_zero, List.getElem_cons_succ, List.setIfInBounds_toArray, List.set_cons_zero, List.set_cons_succ]
  refine wpAnyH_take (i := 2) (v := .pointer (some ⟨w.heap.size, 1, none⟩)) rfl (by kernel_rfl) (by kernel_rfl) (by kernel_rfl) (fun _ _ _ h => h) (Or.inl ⟨by rfl, fun w hS => by first | (go_simp; done) | (go_simp; with_reducible rfl)⟩) hHeld ?_
  try simp only [Act.put, List.getElem_toArray, List.getElem_cons_zero, List.getElem_cons_succ, List.setIfInBounds_toArray, List.set_cons_zero, List.set_cons_succ]
  refine wpAnyH_take (i := 3) (v := .int .i64 s.count) rfl (by kernel_rfl) (by kernel_rfl) (by kernel_rfl) (fun _ _ _ h => h) (Or.inl ⟨by rfl, fun w hS => by (have hc := hS; first | (go_simp; done) | (go_simp; with_reducible rfl))⟩) hHeld ?_
  try simp only [Act.put, List.getElem_toArray, List.getElem_cons_zero, List.getElem_cons_succ, List.setIfInBounds_toArray, List.set_cons_zero, List.set_cons_succ]
  refine wpAnyH_ready (rs := [4]) (by kernel_rfl) (by simp) ?_
  refine AllReadyH.cons rfl (fun K hK => ?_) AllReadyH.nil
  go_simp
  go_wp2_with (go_at_call 117; refine (lay_any (fourB s.seg) (List.replicate 4 0) (List.replicate 64 0) g 4 68 68 s.count _ ((Alk.drew _).blk HL2.out) rfl rfl (by omega)).mono ?_; rintro e w3 ⟨⟨v3, rfl⟩, hb3, ht3⟩; have k3 : BlkIs w3 w.heap.size 32 (sc s).toArray := BlkIs.tn ((Alk.drew _).blk HK2.out) ht3 (by have := HN.out; omega))
  refine hK.out _ _ ?_ (fun hHeld => ?_)
  · exact sc_count k3
  clear hK K
  try simp only [Act.put, List.getElem_toArray, List.getElem_cons_zero, List.getElem_cons_succ, List.setIfInBounds_toArray, List.set_cons_zero, List.set_cons_succ]
  refine wpAnyH_done (by kernel_rfl) ?_ _
  have HB3 : Hid (Below w.heap.size w w3) := Lib.hid ((HB2.out.drew).trans (ht3.below (HB2.out.drew).size (fun i hi h => by have := HN.out; omega)))
  have HL3 : Hid (BlkIs w3 g 5 (bv ((fourB s.seg ++ fourB s.count) ++ (List.replicate 32 0 ++ List.replicate 32 0))).toArray) := Lib.hid (by rw [List.append_assoc]; exact hb3)
  have HK3 := Lib.hid k3
  clear hb3 ht3 k3
  go_wp2_with fail
  refine wp_region_held_drew (S := (fun _ => True)) (by kernel_rfl) (trivial) (fun hHeld => ?_)
  refine wpAnyH_take (i := 0) (v := .slice (some ⟨g, 0, none⟩) 72 72) rfl (by kernel_rfl) (by kernel_rfl) (by kernel_rfl) (fun _ _ _ h => h) (Or.inl ⟨by rfl, fun w hS => by first | (go_simp; done) | (go_simp; with_reducible rfl)⟩) hHeld ?_
  try simp only [Act.put, List.getElem_toArray, List.getElem_cons_zero, List.setIfInBounds_toArray, List.set_cons_zero, List.set_cons_succ]
  refine wpAnyH_take (i := 1) (v := .slice (some ⟨g, 8, none⟩) 64 64) rfl (by kernel_rfl) (by kernel_rfl) (by kernel_rfl) (fun _ _ _ h => h) (Or.inl ⟨by rfl, fun w hS => by (have hc := H8C.out; first | (go_simp; done) | (go_simp; with_reducible rfl))⟩) hHeld ?_
  try simp only [Act.put, List.getElem_toArray, List.getElem_cons_zero, List.getElem_cons_succ, List.setIfInBounds_toArray, List.set_cons_zero, List.set_cons_succ]
  refine wpAnyH_take (i := 2) (v := .pointer (some ⟨w.heap.size, 2, none⟩)) rfl (by kernel_rfl) (by kernel_rfl) (by kernel_rfl) (fun _ _ _ h => h) (Or.inl ⟨by rfl, fun w hS => by first | (go_simp; done) | (go_simp; with_reducible rfl)⟩) hHeld ?_
  try simp only [Act.put, List.getElem_toArray, List.getElem_cons_zero, List.getElem_cons_succ, List.setIfInBounds_toArray, List.set_cons_zero, List.set_cons_succ]
  refine wpAnyH_take (i := 3) (v := .slice (some ⟨w.heap.size, 2, none⟩) 32 32) rfl (by kernel_rfl) (by kernel_rfl) (by kernel_rfl) (fun _ _ _ h => h) (Or.inl ⟨by rfl, fun w hS => by (have hc := HI2.out; first | (go_simp; done) | (go_simp; with_reducible rfl))⟩) hHeld ?_
  try simp only [Act.put, List.getElem_toArray, List.getElem_cons_zero, List.getElem_cons_succ, List.setIfInBounds_toArray, List.set_cons_zero, List.set_cons_succ]
  refine wpAnyH_ready (rs := [4]) (by kernel_rfl) (by simp) ?_
  refine AllReadyH.cons rfl (fun K hK => ?_) AllReadyH.nil
  refine step_copy5 (.tmp 16) (.tmp 18) g 8 64 64 ⟨w.heap.size, 2, none⟩ 32 32 (bv ((fourB s.seg ++ fourB s.count) ++ (List.replicate 32 0 ++ List.replicate 32 0))) (bv s.root) 5 ((Alk.drew _).blk HL3.out) rfl rfl rfl rfl (by rw [bv_length, HS.out.1]; rfl) (fun j v hj => by rw [add_at]; exact sc_root ((Alk.drew _).blk HK3.out) j v hj) (by simp [bv_length, HS.out.1, fourB]) (bv_one _) ?_; intro w4 hb4 ht4
  refine hK.out _ _ ?_ (fun hHeld => ?_)
  · trivial
  clear hK K
  try simp only [Act.put, List.getElem_toArray, List.getElem_cons_zero, List.getElem_cons_succ, List.setIfInBounds_toArray, List.set_cons_zero, List.set_cons_succ]
  refine wpAnyH_done (by kernel_rfl) ?_ _
  rw [splice_mid _ _ _ _ 8 (by rfl) (by rw [HS.out.1]; rfl)] at hb4
  have HB4 : Hid (Below w.heap.size w w4) := Lib.hid ((HB3.out.drew).trans (ht4.below (HB3.out.drew).size (fun i hi h => by have := HN.out; omega)))
  have HK4 : Hid (BlkIs w4 w.heap.size 32 (sc s).toArray) := Lib.hid (BlkIs.tn ((Alk.drew _).blk HK3.out) ht4 (by have := HN.out; omega))
  have HL4 : Hid (BlkIs w4 g 5 (bv (((fourB s.seg ++ fourB s.count) ++ s.root) ++ (List.replicate 32 0 ++ []))).toArray) := Lib.hid (by rw [List.append_nil, List.append_assoc]; exact hb4)
  clear hb4 ht4
  go_wp2_with fail
  refine wp_region_held_drew (S := (fun _ => True)) (by kernel_rfl) (trivial) (fun hHeld => ?_)
  refine wpAnyH_take (i := 0) (v := .slice (some ⟨g, 0, none⟩) 72 72) rfl (by kernel_rfl) (by kernel_rfl) (by kernel_rfl) (fun _ _ _ h => h) (Or.inl ⟨by rfl, fun w hS => by first | (go_simp; done) | (go_simp; with_reducible rfl)⟩) hHeld ?_
  try simp only [Act.put, List.getElem_toArray, List.getElem_cons_zero, List.setIfInBounds_toArray, List.set_cons_zero, List.set_cons_succ]
  refine wpAnyH_take (i := 1) (v := .slice (some ⟨g, 40, none⟩) 32 32) rfl (by kernel_rfl) (by kernel_rfl) (by kernel_rfl) (fun _ _ _ h => h) (Or.inl ⟨by rfl, fun w hS => by (have hc := H40C.out; first | (go_simp; done) | (go_simp; with_reducible rfl))⟩) hHeld ?_
  try simp only [Act.put, List.getElem_toArray, List.getElem_cons_zero, List.getElem_cons_succ, List.setIfInBounds_toArray, List.set_cons_zero, List.set_cons_succ]
  refine wpAnyH_take (i := 2) (v := .pointer (some ⟨w.heap.size, 34, none⟩)) rfl (by kernel_rfl) (by kernel_rfl) (by kernel_rfl) (fun _ _ _ h => h) (Or.inl ⟨by rfl, fun w hS => by first | (go_simp; done) | (go_simp; with_reducible rfl)⟩) hHeld ?_
  try simp only [Act.put, List.getElem_toArray, List.getElem_cons_zero, List.getElem_cons_succ, List.setIfInBounds_toArray, List.set_cons_zero, List.set_cons_succ]
  refine wpAnyH_take (i := 3) (v := .slice (some ⟨w.heap.size, 34, none⟩) 32 32) rfl (by kernel_rfl) (by kernel_rfl) (by kernel_rfl) (fun _ _ _ h => h) (Or.inl ⟨by rfl, fun w hS => by (have hc := HI34.out; first | (go_simp; done) | (go_simp; with_reducible rfl))⟩) hHeld ?_
  try simp only [Act.put, List.getElem_toArray, List.getElem_cons_zero, List.getElem_cons_succ, List.setIfInBounds_toArray, List.set_cons_zero, List.set_cons_succ]
  refine wpAnyH_ready (rs := [4]) (by kernel_rfl) (by simp) ?_
  refine AllReadyH.cons rfl (fun K hK => ?_) AllReadyH.nil
  refine step_copy5 (.tmp 21) (.tmp 23) g 40 32 32 ⟨w.heap.size, 34, none⟩ 32 32 (bv (((fourB s.seg ++ fourB s.count) ++ s.root) ++ (List.replicate 32 0 ++ []))) (bv s.prev) 5 ((Alk.drew _).blk HL4.out) rfl rfl rfl rfl (by rw [bv_length, HS.out.2]; rfl) (fun j v hj => by rw [add_at]; exact sc_prev HS.out ((Alk.drew _).blk HK4.out) j v hj) (by simp [bv_length, HS.out.1, HS.out.2, fourB]) (bv_one _) ?_; intro w5 hb5 ht5
  refine hK.out _ _ ?_ (fun hHeld => ?_)
  · trivial
  clear hK K
  try simp only [Act.put, List.getElem_toArray, List.getElem_cons_zero, List.getElem_cons_succ, List.setIfInBounds_toArray, List.set_cons_zero, List.set_cons_succ]
  refine wpAnyH_done (by kernel_rfl) ?_ _
  rw [splice_mid _ _ _ _ 40 (by simp [fourB, HS.out.1]) (by rw [HS.out.2]; rfl)] at hb5
  have HB5 : Hid (Below w.heap.size w w5) := Lib.hid ((HB4.out.drew).trans (ht5.below (HB4.out.drew).size (fun i hi h => by have := HN.out; omega)))
  have HL5 : Hid (BlkIs w5 g 5 (bv (bytesS s)).toArray) := Lib.hid (by
    have e : ((fourB s.seg ++ fourB s.count) ++ s.root) ++ (s.prev ++ []) = bytesS s := by simp [bytesS]
    rw [← e]
    exact hb5)
  clear hb5 ht5
  go_wp2_with fail
  go_ret
  exact ⟨g, rfl, HL5.out, Nat.le_of_lt HN.out, HB5.out⟩
set_option maxHeartbeats 800000 in
theorem four_any (n : Int) (w : World) : Calls Tryz.prog 43 #[.int .i64 n] w fun e w' => e = .returned (.slice (some ⟨w.heap.size, 0, none⟩) 4 4) ∧ w' = w.alloc (.cells (bv (fourB n)).toArray 5) := by
  have e : (bv (fourB n)).toArray = #[.int .u8 (n / 16777216 % 256), .int .u8 (n / 65536 % 256), .int .u8 (n / 256 % 256), .int .u8 (n % 256)] := by
    rw [nb3 n, nb2 n, nb1 n, nb0 n]
    rfl
  rw [e]
  go_enter Tryz.func43, Tryz.ntmps43
  go_wp2_with fail
  go_ret
  exact ⟨rfl, rfl⟩
theorem four_blk (n : Int) (w : World) : Calls Tryz.prog 43 #[.int .i64 n] w fun e w' => ∃ g, e = .returned (.slice (some ⟨g, 0, none⟩) 4 4) ∧ BlkIs w' g 5 (bv (fourB n)).toArray ∧ w.heap.size ≤ g ∧ Below w.heap.size w w' :=
  (four_any n w).mono fun e w' h => by
    obtain ⟨rfl, rfl⟩ := h
    exact ⟨_, rfl, BlkIs.new w _ _, Nat.le_refl _, below1 w _⟩
theorem own_blk {W : World} {N g n : Nat} {l : List UInt8} (h : BlkIs W g 5 (bv l).toArray) (hN : N ≤ g) (hl : l.length = n) (hn : n ≤ 100000) : W.ownsRow N 5 1 (.slice (some ⟨g, 0, none⟩) n n) n (bv l) :=
  ⟨by rw [bv_length, hl]; omega, .inr ⟨g, n, _, rfl, hN, h, Nat.le_refl _, by unfold maxLen; omega, by rw [List.size_toArray, bv_length, hl]; omega, by rw [List.take_of_length_le (by rw [bv_length, hl]; omega)]⟩⟩
set_option maxHeartbeats 1600000 in
theorem rbytes_any (s : Sl) (w : World) (hs : s.ok) :
    Calls Tryz.prog 26 #[.agg (sc s).toArray] w fun e w' => ∃ A c, e = .returned (.slice A 72 c) ∧ 72 ≤ c ∧ c ≤ maxLen ∧ Bts w' w'.heap.size A (bytesS s) ∧ Below w.heap.size w w' := by
  have HS := Lib.hid hs
  have h0 : BlkIs (w.alloc (.cells (sc s).toArray 32)) w.heap.size 32 (sc s).toArray := BlkIs.new w _ _
  have hb := below1 w (.cells (sc s).toArray 32)
  clear hs
  obtain ⟨W0, hW0⟩ : ∃ W0, W0 = w.alloc (.cells (sc s).toArray 32) := ⟨_, rfl⟩
  have hsz : W0.heap.size = w.heap.size + 1 := by rw [hW0]; simp
  go_enter Tryz.func26, Tryz.ntmps26
  go_wp2_with fail
  rw [← hW0] at h0 hb ⊢
  clear hW0
  have KEEP : Hid (∀ W, Below W0.heap.size W0 W → BlkIs W w.heap.size 32 (sc s).toArray ∧ Below w.heap.size w W) := Lib.hid fun W h => ⟨(h.block _ h0.lt).trans h0, hb.trans (h.mono (by omega))⟩
  have kd : Below W0.heap.size W0 W0.drew := (Below.refl _ W0).drew
  have HI2 := Lib.hid (isl26o w.heap.size 2)
  have HI34 := Lib.hid (isl26o w.heap.size 34)
  obtain ⟨i, hi, hzz, hi0, hi1⟩ := info_parts info5
  clear h0 hb
  refine wp_region_held_drew (S := (fun W => Below W0.heap.size W0 W)) (by kernel_rfl) (kd) (fun hHeld => ?_)
  refine wpAnyH_take (i := 0) (v := .pointer (some ⟨w.heap.size, 0, none⟩)) rfl (by kernel_rfl) (by kernel_rfl) (by kernel_rfl) (fun _ _ _ h => h) (Or.inl ⟨by rfl, fun w hS => by first | (go_simp; done) | (go_simp; with_reducible rfl)⟩) hHeld ?_
  try simp only [Act.put, List.getElem_toArray, List.getElem_cons_zero, List.setIfInBounds_toArray, List.set_cons_zero, List.set_cons_succ]
  refine wpAnyH_take (i := 1) (v := .int .i64 s.seg) rfl (by kernel_rfl) (by kernel_rfl) (by kernel_rfl) (fun _ _ _ h => h) (Or.inl ⟨by rfl, fun w hS => by (have hc := sc_seg (KEEP.out _ hS).1; first | (go_simp; done) | (go_simp; with_reducible rfl))⟩) hHeld ?_
  try simp only [Act.put, List.getElem_toArray, List.getElem_cons_zero, List.getElem_cons_succ, List.setIfInBounds_toArray, List.set_cons_zero, List.set_cons_succ]
  refine wpAnyH_take (i := 3) (v := .pointer (some ⟨w.heap.size, 1, none⟩)) rfl (by kernel_rfl) (by kernel_rfl) (by kernel_rfl) (fun _ _ _ h => h) (Or.inl ⟨by rfl, fun w hS => by first | (go_simp; done) | (go_simp; with_reducible rfl)⟩) hHeld ?_
  try simp only [Act.put, List.getElem_toArray, List.getElem_cons_zero, List.getElem_cons_succ, List.setIfInBounds_toArray, List.set_cons_zero, List.set_cons_succ]
  refine wpAnyH_take (i := 4) (v := .int .i64 s.count) rfl (by kernel_rfl) (by kernel_rfl) (by kernel_rfl) (fun _ _ _ h => h) (Or.inl ⟨by rfl, fun w hS => by (have hc := sc_count (KEEP.out _ hS).1; first | (go_simp; done) | (go_simp; with_reducible rfl))⟩) hHeld ?_
  try simp only [Act.put, List.getElem_toArray, List.getElem_cons_zero, List.getElem_cons_succ, List.setIfInBounds_toArray, List.set_cons_zero, List.set_cons_succ]
  refine wpAnyH_take (i := 7) (v := .pointer (some ⟨w.heap.size, 2, none⟩)) rfl (by kernel_rfl) (by kernel_rfl) (by kernel_rfl) (fun _ _ _ h => h) (Or.inl ⟨by rfl, fun w hS => by first | (go_simp; done) | (go_simp; with_reducible rfl)⟩) hHeld ?_
  try simp only [Act.put, List.getElem_toArray, List.getElem_cons_zero, List.getElem_cons_succ, List.setIfInBounds_toArray, List.set_cons_zero, List.set_cons_succ]
  refine wpAnyH_take (i := 8) (v := .slice (some ⟨w.heap.size, 2, none⟩) 32 32) rfl (by kernel_rfl) (by kernel_rfl) (by kernel_rfl) (fun _ _ _ h => h) (Or.inl ⟨by rfl, fun w hS => by (have hc := HI2.out; first | (go_simp; done) | (go_simp; with_reducible rfl))⟩) hHeld ?_
  try simp only [Act.put, List.getElem_toArray, List.getElem_cons_zero, List.getElem_cons_succ, List.setIfInBounds_toArray, List.set_cons_zero, List.set_cons_succ]
  refine wpAnyH_take (i := 10) (v := .pointer (some ⟨w.heap.size, 34, none⟩)) rfl (by kernel_rfl) (by kernel_rfl) (by kernel_rfl) (fun _ _ _ h => h) (Or.inl ⟨by rfl, fun w hS => by first | (go_simp; done) | (go_simp; with_reducible rfl)⟩) hHeld ?_
  try simp only [Act.put, List.getElem_toArray, List.getElem_cons_zero, List.getElem_cons_succ, List.setIfInBounds_toArray, List.set_cons_zero, List.set_cons_succ]
  refine wpAnyH_take (i := 11) (v := .slice (some ⟨w.heap.size, 34, none⟩) 32 32) rfl (by kernel_rfl) (by kernel_rfl) (by kernel_rfl) (fun _ _ _ h => h) (Or.inl ⟨by rfl, fun w hS => by (have hc := HI34.out; first | (go_simp; done) | (go_simp; with_reducible rfl))⟩) hHeld ?_
  try simp only [Act.put, List.getElem_toArray, List.getElem_cons_zero, List.getElem_cons_succ, List.setIfInBounds_toArray, List.set_cons_zero, List.set_cons_succ]
  refine wpAnyH_ready (rs := [2]) (by kernel_rfl) (by simp) ?_
  refine AllReadyH.cons rfl (fun K hK => ?_) AllReadyH.nil
  go_simp
  go_wp2_with (go_at_call 43; refine (four_blk s.seg _).mono ?_; rintro e w1 ⟨g1, rfl, r1, hg1, hb1⟩; have k1 : Below W0.heap.size W0 w1 := kd.trans (hb1.mono kd.size))
  refine hK.out _ _ ?_ (fun hHeld => ?_)
  · exact k1
  clear hK K
  try simp only [Act.put, List.getElem_toArray, List.getElem_cons_zero, List.getElem_cons_succ, List.setIfInBounds_toArray, List.set_cons_zero, List.set_cons_succ]
  have hg1' : W0.heap.size ≤ g1 := hg1
  refine wpAnyH_ready (rs := [5]) (by kernel_rfl) (by simp) ?_
  refine AllReadyH.cons rfl (fun K hK => ?_) AllReadyH.nil
  go_simp
  go_wp2_with (go_at_call 43; refine (four_blk s.count _).mono ?_; rintro e w2 ⟨g2, rfl, r2, hg2, hb2⟩; have k2 : Below W0.heap.size W0 w2 := k1.trans (hb2.mono k1.size); have q2 : BlkIs w2 g1 5 (bv (fourB s.seg)).toArray := (hb2.block _ r1.lt).trans r1)
  refine hK.out _ _ ?_ (fun hHeld => ?_)
  · exact k2
  clear hK K
  try simp only [Act.put, List.getElem_toArray, List.getElem_cons_zero, List.getElem_cons_succ, List.setIfInBounds_toArray, List.set_cons_zero, List.set_cons_succ]
  have hn2 := k2.size
  refine wpAnyH_ready (rs := [6]) (by kernel_rfl) (by simp) ?_
  refine AllReadyH.cons rfl (fun K hK => ?_) AllReadyH.nil
  rw [if_pos (by rfl)]; refine wp_app (.tmp 5) (.tmp 8) rfl (N := W0.heap.size) Tryz.underlying25 hi hzz hi0 hi1 rfl rfl (own_blk q2 hg1' (n := 4) rfl (by omega)) (A := some ⟨g2, 0, none⟩) (m := 4) (c := 4) (news := bv (fourB s.count)) rfl (BlkIs.bts r2 (Nat.lt_succ_self _)) (by rw [bv_length]; rfl) (bv_one _) (by simp) (by decide) hn2 ?_; intro v3 w3 hv3 hg3; have k3 := k2.grown hg3 hn2 (fun k hk => low_lit hg1' hk)
  refine hK.out _ _ ?_ (fun hHeld => ?_)
  · exact k3
  clear hK K
  try simp only [Act.put, List.getElem_toArray, List.getElem_cons_zero, List.getElem_cons_succ, List.setIfInBounds_toArray, List.set_cons_zero, List.set_cons_succ]
  clear r1 r2 q2 hb1 hb2
  obtain ⟨A3, c3, rfl, _, _, _⟩ := own5_bts (l := fourB s.seg ++ fourB s.count) (by rw [bv_append]; exact hv3)
  have hn3 := k3.size
  have hr3 : Cs w3 (w.heap.size + 1) (some ⟨w.heap.size, 2, none⟩) (bv s.root) := fun j v hj => ⟨⟨w.heap.size, 2, none⟩, rfl, Nat.lt_succ_self _, by rw [add_at]; exact sc_root (KEEP.out _ k3).1 j v hj⟩
  refine wpAnyH_ready (rs := [9]) (by kernel_rfl) (by simp) ?_
  refine AllReadyH.cons rfl (fun K hK => ?_) AllReadyH.nil
  rw [if_pos (by rfl)]; refine wp_app (.tmp 9) (.tmp 11) rfl (N := W0.heap.size) Tryz.underlying25 hi hzz hi0 hi1 rfl rfl hv3 (A := some ⟨w.heap.size, 2, none⟩) (m := 32) (c := 32) (news := bv s.root) rfl hr3 (by rw [bv_length, HS.out.1]) (bv_one _) (by simp) (by decide) hn3 ?_; intro v4 w4 hv4 hg4; have k4 := k3.grown hg4 hn3 (fun k hk => (World.ownsRow.lt hv3 k hk).1)
  refine hK.out _ _ ?_ (fun hHeld => ?_)
  · exact k4
  clear hK K
  try simp only [Act.put, List.getElem_toArray, List.getElem_cons_zero, List.getElem_cons_succ, List.setIfInBounds_toArray, List.set_cons_zero, List.set_cons_succ]
  obtain ⟨A4, c4, rfl, _, _, _⟩ := own5_bts (l := fourB s.seg ++ fourB s.count ++ s.root) (by rw [bv_append, bv_append, List.length_append, HS.out.1]; exact hv4)
  have hn4 := k4.size
  have hr4 : Cs w4 (w.heap.size + 1) (some ⟨w.heap.size, 34, none⟩) (bv s.prev) := fun j v hj => ⟨⟨w.heap.size, 34, none⟩, rfl, Nat.lt_succ_self _, by rw [add_at]; exact sc_prev HS.out (KEEP.out _ k4).1 j v hj⟩
  refine wpAnyH_ready (rs := [12]) (by kernel_rfl) (by simp) ?_
  refine AllReadyH.cons rfl (fun K hK => ?_) AllReadyH.nil
  rw [if_pos (by rfl)]; refine wp_app (.tmp 12) (.tmp 14) rfl (N := W0.heap.size) Tryz.underlying25 hi hzz hi0 hi1 rfl rfl hv4 (A := some ⟨w.heap.size, 34, none⟩) (m := 32) (c := 32) (news := bv s.prev) rfl hr4 (by rw [bv_length, HS.out.2]) (bv_one _) (by simp) (by decide) hn4 ?_; intro v5 w5 hv5 hg5; have k5 := k4.grown hg5 hn4 (fun k hk => (World.ownsRow.lt hv4 k hk).1)
  refine hK.out _ _ ?_ (fun hHeld => ?_)
  · exact k5
  clear hK K
  try simp only [Act.put, List.getElem_toArray, List.getElem_cons_zero, List.getElem_cons_succ, List.setIfInBounds_toArray, List.set_cons_zero, List.set_cons_succ]
  have hL5 : (bytesS s).length = 72 := bytesS_length HS.out
  obtain ⟨A5, c5, rfl, hc5, hm5, hbt⟩ := own5_bts (l := bytesS s) (by
    have e : bytesS s = fourB s.seg ++ fourB s.count ++ s.root ++ s.prev := by simp [bytesS]
    rw [hL5, e, bv_append, bv_append, bv_append]
    exact hv5)
  rw [hL5] at hc5 ⊢
  clear hL5
  refine wpAnyH_ready (rs := [13]) (by kernel_rfl) (by simp) ?_
  refine AllReadyH.cons rfl (fun K hK => ?_) AllReadyH.nil
  go_simp
  refine hK.out _ _ ?_ (fun hHeld => ?_)
  · exact hHeld
  clear hK K
  try simp only [Act.put, List.getElem_toArray, List.getElem_cons_zero, List.getElem_cons_succ, List.setIfInBounds_toArray, List.set_cons_zero, List.set_cons_succ]
  refine wpAnyH_done (by kernel_rfl) ?_ _
  go_wp2_with fail
  go_ret
  exact ⟨A5, c5, rfl, hc5, hm5, hbt, (KEEP.out _ k5).2⟩
end Go.Proofs.YteapnkedpmcokaaGreatDoor
/- Rows of slices of bytes that the call makes, whose elements it makes too. Conditions: as stated at each. -/
namespace Go.Proofs.YteapnkedpmcokaaGreatDoor
set_option maxRecDepth 100000
namespace En
open Go.RowKit Go Go.Proofs.YteapnkedpmcokaaGreatDoor.Pa
attribute [local go_sem] Oper.semAt_some
/-- an element's bytes lie apart from the row. -/
def El (w : World) (v : Value) (A : Option Addr) (l : L) : Prop := l = [] ∨ (Bts w w.heap.size A l ∧ ∀ ad, A = some ad → v.ownBlock ≠ some ad.block)
theorem El.bts {w : World} {v : Value} {A : Option Addr} {l : L} (h : El w v A l) : Bts w w.heap.size A l := by
  rcases h with rfl | h
  · exact Cs.nil
  · exact h.1
theorem El.below {w w' : World} {v : Value} {A : Option Addr} {l : L} (h : El w v A l) (hb : Below w.heap.size w w') : El w' v A l := by
  rcases h with h | ⟨h1, h2⟩
  · exact .inl h
  · exact .inr ⟨(h1.below hb).more hb.size, h2⟩
theorem El.grown {w w' : World} {v v' : Value} {A : Option Addr} {l : L} (h : El w v A l) (hg : w.grownBy w' v.ownBlock) (hv : v'.ownBlock = v.ownBlock ∨ v'.ownBlock = some w.heap.size) : El w' v' A l := by
  rcases Nat.eq_zero_or_pos l.length with h0 | h0
  · exact .inl (List.eq_nil_of_length_eq_zero h0)
  · rcases h with h | ⟨h1, h2⟩
    · subst h; simp at h0
    · obtain ⟨ad0, e0, hb0, _⟩ := h1.at_ h0
      have hne := h2 ad0 e0
      refine .inr ⟨fun j u hj => ?_, fun ad e => ?_⟩
      · obtain ⟨ad, e, hb, hc⟩ := h1 j u hj
        rw [e0] at e
        injection e with e
        subst e
        refine ⟨ad0, e0, Nat.lt_of_lt_of_le hb hg.size, ?_⟩
        have hh := hg.block ad0.block hb (fun e => hne e.symm)
        rw [← hc]
        unfold World.cell?
        rw [blk_add, hh]
      · rw [e0] at e
        injection e with e
        subst e
        rcases hv with hv | hv
        · rw [hv]; exact hne
        · rw [hv]
          intro e
          injection e with e
          omega
theorem El.old {w : World} {B : Nat} {v : Value} {A : Option Addr} {l : L} (h : Bts w B A l) (hB : B ≤ w.heap.size) (hv : ∀ k, v.ownBlock = some k → B ≤ k) : El w v A l := by
  rcases Nat.eq_zero_or_pos l.length with h0 | h0
  · exact .inl (List.eq_nil_of_length_eq_zero h0)
  · obtain ⟨ad0, e0, hb0, _⟩ := h.at_ h0
    refine .inr ⟨h.more hB, fun ad e hc => ?_⟩
    rw [e0] at e
    injection e with e
    subst e
    have := hv _ hc
    omega
def RowP (w : World) (N : Nat) (v : Value) (ls : List L) : Prop := ∃ vs, w.ownsRow N 25 1 v ls.length vs ∧ vs.length = ls.length ∧ ∀ (k : Nat) l, ls[k]? = some l → ∃ A c, vs[k]? = some (.slice A l.length c) ∧ l.length ≤ c ∧ c ≤ maxLen ∧ El w v A l
theorem RowP.slice {w : World} {N : Nat} {v : Value} {ls : List L} (h : RowP w N v ls) : ∃ A c, v = .slice A ls.length c ∧ ls.length ≤ c ∧ c ≤ maxLen := by
  obtain ⟨vs, h1, _⟩ := h
  exact own_slice h1
theorem RowP.low {w : World} {N : Nat} {v : Value} {ls : List L} (h : RowP w N v ls) : ∀ k, v.ownBlock = some k → N ≤ k ∧ k < w.heap.size := by
  obtain ⟨vs, h1, _⟩ := h
  intro k hk
  exact h1.lt k hk
theorem RowP.below {w w' : World} {N : Nat} {v : Value} {ls : List L} (h : RowP w N v ls) (hb : Below w.heap.size w w') : RowP w' N v ls := by
  obtain ⟨vs, h1, h2, h3⟩ := h
  refine ⟨vs, own_kept h1 hb (Nat.le_refl _), h2, fun k l hk => ?_⟩
  obtain ⟨A, c, g1, g2, g3, g4⟩ := h3 k l hk
  exact ⟨A, c, g1, g2, g3, g4.below hb⟩
theorem RowP.rws {w : World} {N n c : Nat} {A : Option Addr} {ls : List L} (h : RowP w N (.slice A n c) ls) : Rws w w.heap.size A ls := by
  obtain ⟨vs, h1, h2, h3⟩ := h
  obtain ⟨A', c', e, _⟩ := own_slice h1
  injection e with e1 e2 e3
  subst e1; subst e2; subst e3
  intro k r hk
  obtain ⟨Ak, ck, g1, g2, g3, g4⟩ := h3 k r hk
  obtain ⟨ad, e, hb, hc⟩ := Cs.of_own h1 k _ g1
  exact ⟨ad, Ak, ck, e, hb, hc, g2, g3, g4.bts⟩
/-- a slice's value, and what it reads. -/
def SlV (w : World) (x : Value) (l : L) : Prop := ∃ A c, x = .slice A l.length c ∧ Bts w w.heap.size A l ∧ l.length ≤ c ∧ c ≤ maxLen
theorem SlV.below {w w' : World} {x : Value} {l : L} (h : SlV w x l) (hb : Below w.heap.size w w') : SlV w' x l := by
  obtain ⟨A, c, h1, h2, h3⟩ := h
  exact ⟨A, c, h1, (h2.below hb).more hb.size, h3⟩
/-- a row written out. -/
theorem RowP.lit {w : World} (cs : Array Value) (ls : List L) (hl : cs.size = ls.length) (hm : ls.length ≤ maxLen) (h : ∀ (k : Nat) l, ls[k]? = some l → ∃ x, cs[k]? = some x ∧ SlV w x l) :
    RowP (w.alloc (.cells cs 25)) w.heap.size (.slice (some ⟨w.heap.size, 0, none⟩) ls.length ls.length) ls := by
  have hb : Below w.heap.size w (w.alloc (.cells cs 25)) := (Below.refl _ w).alloc (Nat.le_refl _) _
  refine ⟨cs.toList, World.ownsRow_lit w cs ls.length (Nat.le_refl _) hm (by rw [Nat.mul_one]; exact hl), by rw [Array.length_toList, hl], fun k l hk => ?_⟩
  obtain ⟨x, hx, A, c, rfl, h2, h3, h4⟩ := h k l hk
  refine ⟨A, c, by rw [Array.getElem?_toList]; exact hx, h3, h4, El.old (h2.below hb) hb.size (fun j hj => ?_)⟩
  have e1 : w.heap.size = j := by simpa [Value.ownBlock] using hj
  omega
theorem info45 : (Tryz.prog.info? 25).map (fun i => (i.zero, i.size, i.bytes)) = some (some (.slice none 0 0), 1, 24) := by kernel_rfl
/-- one slice more. -/
theorem lappR {w : World} {ops : Array Oper} {rest : List Oper} {o : Oper} {a : Act} {Q : Exit → Act → World → Prop} (s x : Operand)
    (ho : o.op = .call { callee := .builtin .append, args := #[s, x], argTypes := #[79, 79] }) (hgd : o.guard = none)
    {N : Nat} {v : Value} {ls : List L} {l : L} {A : Option Addr} {c : Nat} (hs : a.eval s = v) (hown : RowP w N v ls) (hl : El w v A l) (hc : l.length ≤ c) (hm : c ≤ maxLen)
    {g c1 : Nat} (hx : a.eval x = .slice (some ⟨g, 0, none⟩) 1 c1) (hcell : w.cell? ⟨g, 0, none⟩ = some (.slice A l.length c)) (h63 : ls.length + 1 ≤ 1000000000) (hN : N ≤ w.heap.size)
    (h : ∀ v' w', RowP w' N v' (ls ++ [l]) → w.grownBy w' v.ownBlock → (∀ k, v.ownBlock = some k → N ≤ k) → wpList Tryz.prog ops Q rest (a.put o.dst v') w') : wpList Tryz.prog ops Q (o :: rest) a w := by
  obtain ⟨i, hi, hz, h0, h1⟩ := info_parts info45
  obtain ⟨vs, g1, g2, g3⟩ := hown
  obtain ⟨v', w', hrun, h2, h3, _, h5⟩ := run_append_own_at (P := Tryz.prog) w N 79 o.type 25 i (.slice none 0 0) 1 24 Tryz.underlying79 hi hz h0 h1 rfl (by omega) v ls.length vs g1 ⟨g, 0, none⟩ 1 c1 [.slice A l.length c] rfl
    (fun j u hj => by
      have hj0 : j = 0 := by
        have := (List.getElem?_eq_some_iff.1 hj).1
        simpa using this
      subst hj0
      have hu : u = .slice A l.length c := by simpa using hj.symm
      subst hu
      simpa [Addr.add] using hcell) (fun u hu => by
      have : u = .slice A l.length c := by simpa using hu
      rw [this]; rfl) (by unfold maxLen; omega) (by omega) hN
  refine wpList_plain hgd fun K hK => ?_
  unfold Oper.wp execOp
  simp only [ho, resolve, invoke, builtin, Sem.run_bind, Sem.run_pure, Result.andThen_ok, List.map_toArray, List.map_cons, List.map_nil, hs, hx, hrun]
  refine hK _ _ (h v' w' ⟨vs ++ [.slice A l.length c], by rw [List.length_append]; exact h2, by simp [g2], fun k r hk => ?_⟩ h3 (fun k hk => (g1.lt k hk).1))
  rcases Nat.lt_or_ge k ls.length with hlt | hge
  · rw [List.getElem?_append_left hlt] at hk
    obtain ⟨A', c', f1, f2, f3, f4⟩ := g3 k r hk
    exact ⟨A', c', by rw [List.getElem?_append_left (by rw [g2]; exact hlt)]; exact f1, f2, f3, f4.grown h3 h5⟩
  · rw [List.getElem?_append_right hge] at hk
    have hk0 : k - ls.length = 0 := by
      have := (List.getElem?_eq_some_iff.1 hk).1
      simp at this; omega
    rw [hk0] at hk
    obtain rfl : l = r := by simpa using hk
    exact ⟨A, c, by rw [List.getElem?_append_right (by rw [g2]; exact hge), g2, hk0]; rfl, hc, hm, hl.grown h3 h5⟩
end En
end Go.Proofs.YteapnkedpmcokaaGreatDoor
