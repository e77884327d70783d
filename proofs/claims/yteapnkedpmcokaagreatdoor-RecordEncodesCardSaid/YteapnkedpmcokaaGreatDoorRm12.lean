/- DgState DgWith. Conditions: as stated at each. -/
import Derived.Test.YteapnkedpmcokaaGreatDoorRm11
import Derived.Laws.CopyOwn
/- What the state of the sum holds behind some bytes, and how a step turns it. Conditions: none. -/
namespace Go.Proofs.YteapnkedpmcokaaGreatDoor
set_option maxRecDepth 100000
open Go.RowKit Go
/-- the state's cells. -/
def stv (s : S8) (blk : List UInt8) (z : Nat) : List Value := wv s.l ++ (bv blk ++ [Value.int .u64 (z : Int)])
theorem stv_length (s : S8) (blk : List UInt8) (z : Nat) (h : blk.length = 64) : (stv s blk z).length = 73 := by simp [stv, wv_length, bv_length, S8.length, h]
theorem stv_size (s : S8) (blk : List UInt8) (z : Nat) (h : blk.length = 64) : (stv s blk z)[72]? = some (.int .u64 (z : Int)) := by
  unfold stv
  rw [List.getElem?_append_right (by simp [wv_length, S8.length]), wv_length, S8.length, List.getElem?_append_right (by simp [bv_length, h]), bv_length, h]
  rfl
theorem stv_one (s : S8) (blk : List UInt8) (z : Nat) : ∀ u ∈ stv s blk z, u.oneCell' = true := by
  intro u hu
  simp only [stv, List.mem_append, List.mem_singleton] at hu
  rcases hu with hu | hu | rfl
  · exact wv_one _ u hu
  · exact bv_one _ u hu
  · rfl
theorem stv_all (s : S8) (blk : List UInt8) (z : Nat) : (stv s blk z).toArray.all (·.oneCell') = true := Array.all_eq_true_iff_forall_mem.2 fun u hu => stv_one s blk z u (by simpa using hu)
/-- behind the bytes m: the words, and a block that begins with what is left. -/
structure StOK (s : S8) (blk m : List UInt8) : Prop where
  ws : s = wsN m (m.length / 64)
  len : blk.length = 64
  rest : blk.take (m.length % 64) = m.drop (64 * (m.length / 64))
theorem StOK.ok {s : S8} {blk m : List UInt8} (h : StOK s blk m) : s.ok := by rw [h.ws]; exact wsN_ok _ _
theorem StOK.nil (blk : List UInt8) (h : blk.length = 64) : StOK init8 blk [] := ⟨rfl, h, by simp⟩
theorem splice_len (blk x : List UInt8) (r : Nat) (h : blk.length = 64) (hx : r + x.length ≤ 64) : (splice blk r x).length = 64 := by rw [length_splice _ _ _ (by omega)]; exact h
theorem splice_take (blk x : List UInt8) (r : Nat) (h : blk.length = 64) (hx : r + x.length ≤ 64) : (splice blk r x).take (r + x.length) = blk.take r ++ x := by
  unfold splice
  rw [← List.append_assoc, List.take_append_of_le_length (by simp; omega)]
  exact List.take_of_length_le (by simp; omega)
theorem stv_splice (s : S8) (blk x : List UInt8) (z r : Nat) (h : blk.length = 64) (hx : r + x.length ≤ 64) : splice (stv s blk z) (8 + r) (bv x) = stv s (splice blk r x) z := by
  have h8 : (wv s.l).length = 8 := by rw [wv_length, S8.length]
  unfold splice stv
  rw [List.take_append, List.drop_append, List.take_append_of_le_length (by rw [bv_length]; omega), List.drop_append_of_le_length (by rw [bv_length, bv_length]; omega),
    List.take_of_length_le (by omega), List.drop_eq_nil_of_le (by omega), bv_append, bv_append, h8, bv_length, show 8 + r - 8 = r from by omega, show 8 + r + x.length - 8 = r + x.length from by omega, bv_take, bv_drop]
  simp
/-- fewer bytes than a block lacks. -/
theorem StOK.some {s : S8} {blk m x : List UInt8} (h : StOK s blk m) (hx : m.length % 64 + x.length < 64) : StOK s (splice blk (m.length % 64) x) (m ++ x) := by
  have hq : (m ++ x).length / 64 = m.length / 64 := by rw [List.length_append]; omega
  have hr : (m ++ x).length % 64 = m.length % 64 + x.length := by rw [List.length_append]; omega
  refine ⟨?_, splice_len _ _ _ h.len (by omega), ?_⟩
  · rw [hq, wsN_append m x _ (by omega)]
    exact h.ws
  · rw [hr, hq, splice_take _ _ _ h.len (by omega), h.rest, List.drop_append_of_le_length (by omega)]
/-- as many as it lacks. -/
theorem StOK.full {s : S8} {blk m x : List UInt8} (h : StOK s blk m) (hx : m.length % 64 + x.length = 64) : StOK (mix s (splice blk (m.length % 64) x)) (splice blk (m.length % 64) x) (m ++ x) := by
  have hq : (m ++ x).length / 64 = m.length / 64 + 1 := by rw [List.length_append]; omega
  have hr : (m ++ x).length % 64 = 0 := by rw [List.length_append]; omega
  have hl := splice_len blk x (m.length % 64) h.len (by omega)
  have hs := splice_take blk x (m.length % 64) h.len (by omega)
  rw [hx, List.take_of_length_le (by omega), h.rest] at hs
  refine ⟨?_, hl, ?_⟩
  · rw [hq, wsN, wsN_append m x _ (by omega), ← h.ws, List.drop_append_of_le_length (by omega), ← hs]
    congr 1
    exact (List.take_of_length_le (by omega)).symm
  · rw [hr, hq, List.take_zero]
    exact (List.drop_eq_nil_of_le (by rw [List.length_append]; omega)).symm
end Go.Proofs.YteapnkedpmcokaaGreatDoor
/- Contract of the state behind more bytes. Conditions: as stated at each. -/
namespace Go.Proofs.YteapnkedpmcokaaGreatDoor
set_option maxRecDepth 100000
open Go.RowKit Go
/-- the state's value behind the bytes m. -/
def StV (m : List UInt8) (v : Value) : Prop := ∃ s blk, StOK s blk m ∧ v = .agg (stv s blk m.length).toArray
structure WiW (N : Nat) (W wr : World) (cur : List Value) : Prop where
  b : BlkIs wr N 106 cur.toArray
  r : ∃ z, BlkIs wr (N + 1) 106 z ∧ z.size = 73
  glob : Glob wr
  below : Below N W wr
theorem cut_run (A : Option Addr) (l : List UInt8) (c n : Nat) {w : World} {B : Nat} (h : Bts w B A l) (hn : n ≤ l.length) (hc : l.length ≤ c) :
    ∃ A', (∀ w', (Instr.slice 25 (.slice A l.length c) (some (.int .i64 n)) none none).run Tryz.prog w' = .ok (.slice A' (l.length - n) (c - n)) w') ∧ Bts w B A' (l.drop n) := by
  refine ⟨_, fun w' => ?_, h.drop (k := n) c hc⟩
  obtain ⟨i, hi, hz, h0, h1⟩ := info_parts info5
  have e1 : (n : Int) ≤ (l.length : Int) := by omega
  simp [Instr.slice, run_underlying Tryz.underlying25, Instr.sliceBounds, Instr.sliceBound, asIntOf, Sem.run_bind, hn, sizeOf, typeInfo, hi, h0]
theorem WiW.tn {N : Nat} {W w w' : World} {cur cur' : List Value} (h : WiW N W w cur) (hb : BlkIs w' N 106 cur'.toArray) (k : Tn (fun i => i = N) w w') (hN : 2 ≤ N) : WiW N W w' cur' := by
  have hb0 : Below N w w' := k.below (Nat.le_of_lt h.b.lt) (fun i hi h => by omega)
  refine ⟨hb, ?_, h.glob.below hb0 hN, h.below.trans hb0⟩
  obtain ⟨z, hz, hs⟩ := h.r
  exact ⟨z, hz.tn k (by omega), hs⟩
theorem sliceAt_st (N r : Nat) (hr : r < 64) (w : World) : (Instr.sliceAt 104 (.pointer (some ⟨N, 8, none⟩)) (some (.int .u64 r)) none none).run Tryz.prog w = .ok (.slice (some ⟨N, 8 + r, none⟩) (64 - r) (64 - r)) w := by
  obtain ⟨i, hi, hz, h0, h1⟩ := info_parts info5
  have e1 : (r : Int) ≤ 64 := by omega
  have e2 : ¬ 64 = r := by omega
  have e3 : r ≤ 64 := by omega
  simp [Instr.sliceAt, run_underlying Tryz.underlying104, Instr.sliceBounds, Instr.sliceBound, asIntOf, Sem.run_bind, e3, e2, sizeOf, typeInfo, hi, h0, Instr.sureAddr]
  unfold Addr.add
  split <;> simp_all
theorem copy_st {ops : Array Oper} {rs : List Oper} {o : Oper} {a : Act} {w : World} {Q : Exit → Act → World → Prop} (d x : Operand) (N : Nat) (W : World) (s : S8) (blk : List UInt8) (z r n : Nat) (A : Option Addr) (B c : Nat) (l : List UInt8)
    (hW : WiW N W w (stv s blk z)) (hN : 2 ≤ N) (hl : Bts w B A l) (hpos : 0 < l.length) (h64 : blk.length = 64) (hr : r < 64) (hn : n = min l.length (64 - r))
    (ho : o.op = .call { callee := .builtin .copy, args := #[d, x], argTypes := #[25, 25] }) (hgd : o.guard = none)
    (hd : a.eval d = .slice (some ⟨N, 8 + r, none⟩) (64 - r) (64 - r)) (hx : a.eval x = .slice A l.length c)
    (h : ∀ w', WiW N W w' (stv s (splice blk r (l.take n)) z) → Below N w w' → wpList Tryz.prog ops Q rs (a.put o.dst (.int .i64 n)) w') : wpList Tryz.prog ops Q (o :: rs) a w := by
  obtain ⟨ad, rfl, _, _⟩ := hl.at_ hpos
  have hlen : (l.take n).length = n := by rw [List.length_take]; omega
  have hcs : (bv (l.take n)).length = n := by rw [bv_length, hlen]
  refine wpList_copy_own hgd d x 25 25 ho 5 Tryz.underlying25 isz5 N (8 + r) _ _ ad _ _ hd hx _ 106 hW.b (bv (l.take n)) (by rw [hcs, hn]) ?_ (by rw [hcs, List.size_toArray, stv_length _ _ _ h64]; omega) (bv_one _) ?_
  · intro j v hj
    obtain ⟨ad', e, _, hc⟩ := hl.take n j v hj
    injection e with e
    subst e
    exact hc
  · have hs : (List.take (8 + r) (stv s blk z).toArray.toList ++ (bv (l.take n) ++ List.drop (8 + r + (bv (l.take n)).length) (stv s blk z).toArray.toList)) = stv s (splice blk r (l.take n)) z := stv_splice s blk (l.take n) z r h64 (by omega)
    have e := (tn_row hW.b (stv s (splice blk r (l.take n)) z).toArray)
    rw [hs, hcs]
    exact h _ (hW.tn e.1 e.2 hN) (e.2.below (Nat.le_of_lt hW.b.lt) (fun i hi h => by omega))
theorem stv_set (s : S8) (blk : List UInt8) (z z' : Nat) (h : blk.length = 64) : (stv s blk z).toArray.setIfInBounds 72 (.int .u64 (z' : Int)) = (stv s blk z').toArray := by
  have h8 : (wv s.l).length = 8 := by rw [wv_length, S8.length]
  unfold stv
  simp [h8, bv_length, h]
theorem WiW.set {N : Nat} {W w : World} {s : S8} {blk : List UInt8} {z : Nat} (h : WiW N W w (stv s blk z)) (h64 : blk.length = 64) (hN : 2 ≤ N) (z' : Nat) : WiW N W (w.setCell ⟨N, 72, none⟩ (.int .u64 (z' : Int))) (stv s blk z') := by
  refine h.tn ?_ ((Tn.refl (fun i => i = N) w).setCell (x := ⟨N, 72, none⟩) (.inl rfl) _) hN
  rw [← stv_set s blk z z' h64]
  exact h.b.put 72 _
theorem WiW.more {N : Nat} {W w w' : World} {cur : List Value} (h : WiW N W w cur) (k : Below w.heap.size w w') : WiW N W w' cur := by
  refine ⟨(k.block _ h.b.lt).trans h.b, ?_, h.glob.below k h.glob.size, h.below.trans (k.mono (Nat.le_of_lt h.b.lt))⟩
  obtain ⟨z, hz, hs⟩ := h.r
  exact ⟨z, (k.block _ hz.lt).trans hz, hs⟩
theorem store_words {ops : Array Oper} {rs : List Oper} {o : Oper} {a : Act} {w : World} {Q : Exit → Act → World → Prop} (x y : Operand) (N : Nat) (W : World) (s s2 : S8) (blk : List UInt8) (z : Nat)
    (hW : WiW N W w (stv s blk z)) (hN : 2 ≤ N) (ho : o.op = .store 103 x y) (hgd : o.guard = none) (hdst : o.dst = none) (hx : a.eval x = .pointer (some ⟨N, 0, none⟩)) (hy : a.eval y = .agg (wv s2.l).toArray)
    (h : ∀ w', WiW N W w' (stv s2 blk z) → wpList Tryz.prog ops Q rs a w') : wpList Tryz.prog ops Q (o :: rs) a w := by
  have h8 : (wv s.l).length = 8 := by rw [wv_length, S8.length]
  have h8' : (wv s2.l).length = 8 := by rw [wv_length, S8.length]
  refine wpList_plain hgd fun K hK => ?_
  have hrun := run_storeCells_at (P := Tryz.prog) N 0 106 (wv s2.l) 0 (stv s blk z).toArray w hW.b (by rw [h8']; simp [stv, h8]) (wv_one _)
  have e : (List.take (0 + 0) (stv s blk z).toArray.toList ++ wv s2.l ++ List.drop (0 + 0 + (wv s2.l).length) (stv s blk z).toArray.toList) = stv s2 blk z := by
    rw [h8']
    show List.take 0 (stv s blk z) ++ wv s2.l ++ List.drop 8 (stv s blk z) = _
    unfold stv
    rw [List.drop_append_of_le_length (by omega), List.drop_eq_nil_of_le (by omega)]
    simp
  rw [e] at hrun
  have e2 := tn_row hW.b (stv s2 blk z).toArray
  cases hq : Tryz.prog.info? 103 with
  | none => have := isz41; simp [hq] at this
  | some i =>
    have hs : i.size = 8 := by have := isz41; simpa [hq] using this
    have hst : (storeVar 103 ⟨N, 0, none⟩ (.agg (wv s2.l).toArray)).run Tryz.prog w = .ok () (w.setRow N (stv s2 blk z).toArray) := by
      simp [storeVar, sizeOf, typeInfo, hq, Value.cells, hs, h8', hrun]
    unfold Oper.wp execOp
    simp only [ho, hx, hy, Instr.storeAt, Instr.sureAddr, Sem.run_bind, Sem.run_pure, Result.andThen_ok, hst]
    have hput : a.put o.dst undef = a := by rw [hdst]; rfl
    show K (a.put o.dst undef) _
    rw [hput]
    exact hK _ _ (h _ (hW.tn e2.1 e2.2 hN))
theorem WiW.words {N : Nat} {W w : World} {s : S8} {blk : List UInt8} {z : Nat} (h : WiW N W w (stv s blk z)) : w.rangeAt N 0 (wv s.l) := BlkIs.range (a := []) (b := wv s.l) (c := bv blk ++ [.int .u64 (z : Int)]) h.b rfl
theorem WiW.bytes {N : Nat} {W w : World} {s : S8} {blk : List UInt8} {z : Nat} (h : WiW N W w (stv s blk z)) : w.rangeAt N 8 (bv blk) := BlkIs.range (a := wv s.l) (b := bv blk) (c := [.int .u64 (z : Int)]) h.b (by rw [wv_length, S8.length])
theorem take_step (m l : List UInt8) (j n : Nat) : m ++ l.take (j + n) = (m ++ l.take j) ++ (l.drop j).take n := by rw [List.take_add, List.append_assoc]
theorem info44 : (Tryz.prog.info? 106).map (fun i => (i.zero, i.size)) = some (some (.agg (stv ⟨0, 0, 0, 0, 0, 0, 0, 0⟩ (List.replicate 64 0) 0).toArray), 73) := by kernel_rfl
theorem zero44 : ∃ z : Array Value, z.size = 73 ∧ ∀ w, (zeroValue 106).run Tryz.prog w = .ok (.agg z) w :=
  ⟨_, by simp only [List.size_toArray]; exact stv_length _ _ _ rfl, (zero_of_info info44).1⟩
theorem isz44s (s : S8) (blk : List UInt8) (z : Nat) (h : blk.length = 64) : (Tryz.prog.info? 106).map (·.size) = some (stv s blk z).toArray.size := by rw [isz44, List.size_toArray, stv_length _ _ _ h]
set_option maxHeartbeats 800000 in
theorem with_any (s : S8) (blk m : List UInt8) (A : Option Addr) (B c : Nat) (l : List UInt8) (w : World) (hS : StOK s blk m) (hl : Bts w B A l) (hB : B ≤ w.heap.size) (hc : l.length ≤ c) (hc2 : c ≤ maxLen) (hm : m.length + l.length ≤ 1000000000) (hg : Glob w) :
    Calls Tryz.prog 61 #[.agg (stv s blk m.length).toArray, .slice A l.length c] w fun e w' => (∃ v, e = .returned v ∧ StV (m ++ l) v) ∧ Below w.heap.size w w' := by
  unfold maxLen at hc2
  obtain ⟨z, hz, hzr⟩ := zero44
  have HZ := Lib.hid hz
  have HS := Lib.hid hS
  have GS := Lib.hid hg.size
  clear hz hS
  go_enter Tryz.func61, Tryz.ntmps61
  go_wp2_with fail
  have HW := Lib.hid (show WiW w.heap.size w ((w.alloc (Obj.cells (stv s blk m.length).toArray 106)).alloc (Obj.cells z 106)) (stv s blk m.length) from
    ⟨(BlkIs.new _ _ _).alloc _, ⟨z, BlkIs.new_at (w.alloc _) _ _ _ (by simp), HZ.out⟩, (hg.alloc _).alloc _, ((Below.refl _ _).alloc (Nat.le_refl _) _).alloc (by simp) _⟩)
  clear hg hzr
  go_loopw [1] (fun u wr => ∃ (j : Nat) (A' : Option Addr) (c' : Nat) (s' : S8) (blk' rest : List UInt8), rest = l.drop j ∧ j ≤ l.length ∧ u = .slice A' rest.length c' ∧ rest.length ≤ c' ∧ c' ≤ c ∧ Bts w B A' rest ∧ StOK s' blk' (m ++ l.take j) ∧ WiW w.heap.size w wr (stv s' blk' (m ++ l.take j).length)) (fun u _ => match u with | .slice _ n _ => n | _ => 0)
  case atStart => exact ⟨0, A, c, s, blk, l, rfl, Nat.zero_le _, rfl, hc, Nat.le_refl _, hl, by simpa using HS.out, by simpa using HW.out⟩
  case round =>
    clear HW HS
    obtain ⟨j, A', c', s', blk', rest, hrest, hj, rfl, hrc, hcc, hbts, hS, hW⟩ := hrel
    have HR := Lib.hid hrest
    clear hrest
    by_cases hpos : 0 < rest.length
    · have c72 := hW.b.get (stv_size s' blk' (m ++ l.take j).length hS.len)
      obtain ⟨z', hz'⟩ : ∃ z, z = (m ++ l.take j).length := ⟨_, rfl⟩
      have hzm : z' ≤ 1000000000 := by rw [hz', List.length_append, List.length_take]; omega
      rw [← hz'] at c72 hW
      have HZ' := Lib.hid hz'
      clear hz'
      obtain ⟨r, hr⟩ : ∃ r, r = z' % 64 := ⟨_, rfl⟩
      have hr64 : r < 64 := by omega
      have er : (z' : Int) % 64 = (r : Int) := by omega
      have HR' := Lib.hid hr
      clear hr
      have hsl := sliceAt_st w.heap.size r hr64
      have h2 : 2 ≤ w.heap.size := GS.out
      obtain ⟨n, hn⟩ : ∃ n, n = min rest.length (64 - r) := ⟨_, rfl⟩
      have HN := Lib.hid hn
      have hnr : n ≤ rest.length := by omega
      have hn1 : 1 ≤ n := by omega
      have hn64 : n ≤ 64 - r := by omega
      clear hn
      obtain ⟨A'', hcut, hbts2⟩ := cut_run A' rest c' n hbts hnr hrc
      have h64 := Lib.hid hS.len
      have hbw := hbts.below (hW.below.mono hB)
      have HL : Hid ((splice blk' r (rest.take n)).length = 64) := Lib.hid (splice_len _ _ _ h64.out (by rw [List.length_take]; omega))
      have HI1 : Hid ((Tryz.prog.info? 103).map (·.size) = some (wv s'.l).length) := Lib.hid (by rw [isz41, wv_length, S8.length])
      have HI2 : Hid ((Tryz.prog.info? 104).map (·.size) = some (bv (splice blk' r (rest.take n))).length) := Lib.hid (by rw [isz42, bv_length, HL.out])
      have hnext := take_step m l j n
      rw [← HR.out] at hnext
      have hlen2 : (m ++ l.take (j + n)).length = z' + n := by
        rw [hnext, List.length_append, ← HZ'.out, List.length_take]
        omega
      have hrl : rest.length = l.length - j := by rw [HR.out, List.length_drop]
      have hr2 : r = (m ++ l.take j).length % 64 := by rw [← HZ'.out]; exact HR'.out
      have hxl : (rest.take n).length = n := by rw [List.length_take]; omega
      have hdr : rest.drop n = l.drop (j + n) := by rw [HR.out, List.drop_drop]
      have HD := Lib.hid hdr
      have hj2 : j + n ≤ l.length := by omega
      have hok := hS.ok
      by_cases hf : r + n = 64
      · have hS2 : StOK (mix s' (splice blk' r (rest.take n))) (splice blk' r (rest.take n)) (m ++ l.take (j + n)) := by
          rw [hnext, hr2]
          exact hS.full (by rw [← hr2, hxl]; exact hf)
        have HL2 := Lib.hid hlen2
        have ef : (((z' : Int) + (n : Int)) % 64 == 0) = true := by
          have := HR'.out
          rw [beq_iff_eq]
          omega
        clear hnext hlen2 hr2 hxl hdr hrl hS
        go_wp2_with (first
          | (refine copy_st (.tmp 13) (.tmp 14) w.heap.size w s' blk' z' r n A' B c' rest hW h2 hbw hpos h64.out hr64 HN.out rfl rfl rfl rfl ?_; intro w3 hW3 hb3; have c72' := hW3.b.get (stv_size s' _ z' HL.out); have f72' := hW3.b.froz 72; have hW4 := hW3.set HL.out h2 (z' + n); rw [Int.natCast_add] at hW4)
          | (refine wpList_load_mid rfl 103 (.tmp 29) rfl w.heap.size 0 rfl (wv s'.l) _ (WiW.words (by assumption)) Tryz.underlying103 rfl HI1.out ?_)
          | (refine wpList_load_mid rfl 104 (.tmp 31) rfl w.heap.size 8 rfl (bv (splice blk' r (rest.take n))) _ (WiW.bytes (by assumption)) Tryz.underlying104 rfl HI2.out ?_)
          | (go_at_call 68; refine (mixed_any s' _ _ hok HL.out (WiW.glob (by assumption))).mono ?_; rintro e w5 ⟨rfl, hb5⟩; have hW5 := hW4.more hb5)
          | (refine store_words (.tmp 34) (.tmp 33) w.heap.size w s' (mix s' (splice blk' r (rest.take n))) (splice blk' r (rest.take n)) (z' + n) hW5 h2 rfl rfl rfl rfl rfl ?_; intro w6 hW6))
        refine ⟨⟨j + n, A'', c' - n, _, _, rest.drop n, HD.out, hj2, by rw [List.length_drop], by rw [List.length_drop]; omega, by omega, hbts2, hS2, by rw [HL2.out]; exact hW6⟩, ?_⟩
        show rest.length - n < rest.length
        omega
      · have hS2 : StOK s' (splice blk' r (rest.take n)) (m ++ l.take (j + n)) := by
          rw [hnext, hr2]
          exact hS.some (by rw [← hr2, hxl]; omega)
        have HL2 := Lib.hid hlen2
        have ef : (((z' : Int) + (n : Int)) % 64 == 0) = false := by
          have := HR'.out
          rw [beq_eq_false_iff_ne]
          omega
        clear hnext hlen2 hr2 hxl hdr hrl hS
        go_wp2_with (refine copy_st (.tmp 13) (.tmp 14) w.heap.size w s' blk' z' r n A' B c' rest hW h2 hbw hpos h64.out hr64 HN.out rfl rfl rfl rfl ?_; intro w3 hW3 hb3; have c72' := hW3.b.get (stv_size s' _ z' HL.out); have f72' := hW3.b.froz 72)
        refine ⟨⟨j + n, A'', c' - n, _, _, rest.drop n, HD.out, hj2, by rw [List.length_drop], by rw [List.length_drop]; omega, by omega, hbts2, hS2, by rw [HL2.out]; have h := hW3.set HL.out h2 (z' + n); rw [Int.natCast_add] at h; exact h⟩, ?_⟩
        show rest.length - n < rest.length
        omega
    · have hlen0 : rest.length ≤ 0 := by omega
      have hrl : rest.length = l.length - j := by rw [HR.out, List.length_drop]
      have HJ : Hid (l.take j = l) := Lib.hid (List.take_of_length_le (by omega))
      have HI := Lib.hid (isz44s s' blk' (m ++ l.take j).length hS.len)
      obtain ⟨z', hr, hz'⟩ := hW.r
      have HZ2 : Hid (z'.size = (stv s' blk' (m ++ l.take j).length).toArray.size) := Lib.hid (by rw [hz', List.size_toArray, stv_length _ _ _ hS.len])
      have hbl := hW.below
      have hb := hW.b
      have hst := stv_all s' blk' (m ++ l.take j).length
      generalize hX : (stv s' blk' (m ++ l.take j).length).toArray = X at *
      have HX := Lib.hid hX
      have HX1 := Lib.hid hst
      clear hX hrl hz' hst
      go_wp2_with (first
        | (with_reducible refine load_blk (.tmp 2) 106 w.heap.size 106 X hb rfl rfl rfl _ Tryz.underlying106 rfl HI.out ?_)
        | (with_reducible refine store_blk (.tmp 4) (.tmp 35) 106 (w.heap.size + 1) 106 z' X hr rfl rfl rfl rfl HI.out HZ2.out HX1.out ?_; intro w9 hr9 ht9))
      refine ret_blk rfl (w.heap.size + 1) 106 X hr9 _ rfl Tryz.underlying106 rfl HI.out rfl ⟨⟨_, rfl, s', blk', by rw [← HJ.out]; exact hS, by rw [← HX.out, HJ.out]⟩, ?_⟩
      have h9 : Below w.heap.size wr w9 := ht9.below (Nat.le_of_lt hb.lt) (fun i hi h => by omega)
      exact Below.trans hbl h9
end Go.Proofs.YteapnkedpmcokaaGreatDoor
