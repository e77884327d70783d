/- DgEnd DgJoin DgSum. Conditions: as stated at each. -/
import Derived.Test.YteapnkedpmcokaaGreatDoorRm12
import Derived.Deep.Cut
/- Contract of the sum of all bytes that there were. Conditions: as stated at each. -/
namespace Go.Proofs.YteapnkedpmcokaaGreatDoor
set_option maxRecDepth 100000
open Go.RowKit Go
def pad64 : List UInt8 := 128 :: List.replicate 63 0
structure EndW (N : Nat) (W wr : World) (cur : List Value) : Prop where
  b : BlkIs wr N 106 cur.toArray
  r : ∃ z, BlkIs wr (N + 1) 28 z ∧ z.size = 32
  p : BlkIs wr (N + 1 + 1) 104 (bv pad64).toArray
  glob : Glob wr
  below : Below N W wr
theorem EndW.more {N : Nat} {W w w' : World} {cur : List Value} (h : EndW N W w cur) (k : Below w.heap.size w w') : EndW N W w' cur := by
  refine ⟨(k.block _ h.b.lt).trans h.b, ?_, (k.block _ h.p.lt).trans h.p, h.glob.below k h.glob.size, h.below.trans (k.mono (Nat.le_of_lt h.b.lt))⟩
  obtain ⟨z, hz, hs⟩ := h.r
  exact ⟨z, (k.block _ hz.lt).trans hz, hs⟩
theorem EndW.tn {N : Nat} {W w w' : World} {cur cur' : List Value} (h : EndW N W w cur) (hb : BlkIs w' N 106 cur'.toArray) (k : Tn (fun i => i = N) w w') (hN : 2 ≤ N) : EndW N W w' cur' := by
  have hb0 : Below N w w' := k.below (Nat.le_of_lt h.b.lt) (fun i hi h => by omega)
  refine ⟨hb, ?_, h.p.tn k (by omega), h.glob.below hb0 hN, h.below.trans hb0⟩
  obtain ⟨z, hz, hs⟩ := h.r
  exact ⟨z, hz.tn k (by omega), hs⟩
theorem EndW.mk0 {w w1 : World} {cur : List Value} {Z1 Z2 : Array Value} (hg : Glob w) (h32 : Z1.size = 32) (hp : BlkIs w1 (w.heap.size + 1 + 1) 104 (bv pad64).toArray)
    (ht : Tn (fun i => i = w.heap.size + 1 + 1) (((w.alloc (.cells cur.toArray 106)).alloc (.cells Z1 28)).alloc (.cells Z2 104)) w1) : EndW w.heap.size w w1 cur := by
  have hb : Below w.heap.size w (((w.alloc (.cells cur.toArray 106)).alloc (.cells Z1 28)).alloc (.cells Z2 104)) := (((Below.refl _ _).alloc (Nat.le_refl _) _).alloc (by simp) _).alloc (by simp; omega) _
  have hb2 : Below w.heap.size w w1 := hb.trans (ht.below (by simp; omega) (fun i hi h => by omega))
  exact ⟨(((BlkIs.new _ _ _).alloc _).alloc _).tn ht (by omega), ⟨_, ((BlkIs.new_at (w.alloc _) _ _ _ (by simp)).alloc _).tn ht (by omega), h32⟩, hp, hg.below hb2 hg.size, hb2⟩
theorem store_bl {P : Program} {ops : Array Oper} {rest : List Oper} {o : Oper} {a : Act} {w : World} {Q : Exit → Act → World → Prop} (x y : Operand) (ty : TypeId) (g : Nat) (t : TypeId) (old cells : Array Value) (hg : BlkIs w g t old)
    (ho : o.op = .store ty x y) (hx : a.eval x = .pointer (some ⟨g, 0, none⟩)) (hy : a.eval y = .agg cells) (hgd : o.guard = none) (hdst : o.dst = none)
    (hi : (P.info? ty).map (·.size) = some cells.size) (hold : old.size = cells.size) (h1 : cells.all (·.oneCell') = true)
    (h : ∀ w', BlkIs w' g t cells → Tn (fun i => i = g) w w' → wpList P ops Q rest a w') : wpList P ops Q (o :: rest) a w :=
  store_blk x y ty g t old cells hg ho hx hy hgd hi hold h1 fun w' h2 h3 => by
    have hput : a.put o.dst undef = a := by rw [hdst]; rfl
    rw [hput]
    exact h w' h2 h3
theorem run_load {P : Program} {w : World} {g : Nat} {t ty : TypeId} {cs : Array Value} (hg : BlkIs w g t cs) {d : TypeDesc} (hu : P.underlying ty = some d) (hd : (match d with | .struct _ | .array _ _ => true | _ => false) = true) (hi : (P.info? ty).map (·.size) = some cs.size) :
    (Instr.loadAt ty (.pointer (some ⟨g, 0, none⟩))).run P w = .ok (.agg cs) w := by
  simp only [Instr.loadAt, Instr.sureAddr, Sem.run_bind, Sem.run_pure, Result.andThen, run_loadVar_row w g t ty cs (0, 0) d hg hu hd hi]
theorem still_load {P : Program} {ops : Array Oper} {rest : List Oper} {o : Oper} {a : Act} {w : World} {Q : Act → Prop} (x : Operand) (ty : TypeId) (g : Nat) (t : TypeId) (cs : Array Value) (hg : BlkIs w g t cs)
    (ho : o.op = .load ty x) (hx : a.eval x = .pointer (some ⟨g, 0, none⟩)) (hgd : o.guard = none) (d : TypeDesc)
    (hu : P.underlying ty = some d) (hd : (match d with | .struct _ | .array _ _ => true | _ => false) = true) (hi : (P.info? ty).map (·.size) = some cs.size)
    (h : wpStill P ops w Q rest (a.put o.dst (.agg cs))) : wpStill P ops w Q (o :: rest) a := by
  refine wpStill_step fun K hK => ?_
  have hw : Region.wanted o (yielded ops a.tmps) = true := by simp [Region.wanted, hgd]
  rw [if_pos hw]
  unfold Oper.still execOp
  simp only [ho, hx, Sem.run_bind, run_load hg hu hd hi, Result.andThen, Sem.run_pure, Oper.stillUpon]
  exact ⟨trivial, hK _ h⟩
theorem step_load {P : Program} {ops : Array Oper} {o : Oper} {a : Act} {w : World} {K : Act → World → Prop} {Q : Exit → Act → World → Prop} {E : Prop} (x : Operand) (ty : TypeId) (g : Nat) (t : TypeId) (cs : Array Value) (hg : BlkIs w g t cs)
    (ho : o.op = .load ty x) (hx : a.eval x = .pointer (some ⟨g, 0, none⟩)) (hgd : o.guard = none) (d : TypeDesc)
    (hu : P.underlying ty = some d) (hd : (match d with | .struct _ | .array _ _ => true | _ => false) = true) (hi : (P.info? ty).map (·.size) = some cs.size)
    (h : K (a.put o.dst (.agg cs)) w) : if Region.wanted o (yielded ops a.tmps) = true then Oper.wp P o a w K Q else E := by
  have hw : Region.wanted o (yielded ops a.tmps) = true := by simp [Region.wanted, hgd]
  rw [if_pos hw]
  exact wp_load_row ty x ho g hx t cs (0, 0) d hg hu hd hi h
theorem step_store {P : Program} {ops : Array Oper} {o : Oper} {a : Act} {w : World} {K : Act → World → Prop} {Q : Exit → Act → World → Prop} {E : Prop} (x y : Operand) (ty : TypeId) (g : Nat) (t : TypeId) (old cells : Array Value) (hg : BlkIs w g t old)
    (ho : o.op = .store ty x y) (hx : a.eval x = .pointer (some ⟨g, 0, none⟩)) (hy : a.eval y = .agg cells) (hgd : o.guard = none) (hdst : o.dst = none)
    (hi : (P.info? ty).map (·.size) = some cells.size) (hold : old.size = cells.size) (h1 : cells.all (·.oneCell') = true)
    (h : ∀ w', BlkIs w' g t cells → Tn (fun i => i = g) w w' → K a w') : if Region.wanted o (yielded ops a.tmps) = true then Oper.wp P o a w K Q else E := by
  have hw : Region.wanted o (yielded ops a.tmps) = true := by simp [Region.wanted, hgd]
  rw [if_pos hw]
  refine wp_store_row ty x y ho g cells hx hy t old hg hi hold h1 ?_
  have hput : a.put o.dst undef = a := by rw [hdst]; rfl
  rw [hput]
  exact h _ (tn_row hg cells).1 (tn_row hg cells).2
theorem sliceAt_hi (N h : Nat) (hh : h ≤ 64) (w : World) : (Instr.sliceAt 104 (.pointer (some ⟨N, 0, none⟩)) none (some (.int .u64 h)) none).run Tryz.prog w = .ok (.slice (some ⟨N, 0, none⟩) h 64) w := by
  obtain ⟨i, hi, _, _, _⟩ := info_parts info5
  simp [Instr.sliceAt, run_underlying Tryz.underlying104, Instr.sliceBounds, Instr.sliceBound, asIntOf, Sem.run_bind, hh, sizeOf, typeInfo, hi, Instr.sureAddr]
  rfl
theorem with_z (s : S8) (blk m : List UInt8) (A : Option Addr) (B c : Nat) (l : List UInt8) (z n : Nat) (w : World) (hS : StOK s blk m) (hl : Bts w B A l) (hB : B ≤ w.heap.size) (hz : m.length = z) (hn : l.length = n) (hc : n ≤ c) (hc2 : c ≤ 1000000000) (hm : z + n ≤ 1000000000) (hg : Glob w) :
    Calls Tryz.prog 61 #[.agg (stv s blk z).toArray, .slice A n c] w fun e w' => (∃ s' blk', e = .returned (.agg (stv s' blk' (z + n)).toArray) ∧ StOK s' blk' (m ++ l)) ∧ Below w.heap.size w w' := by
  subst hz
  subst hn
  refine (with_any s blk m A B c l w hS hl hB hc (by unfold maxLen; omega) hm hg).mono fun e w' h => ?_
  obtain ⟨⟨v, rfl, s', blk', hS', rfl⟩, hb⟩ := h
  exact ⟨⟨s', blk', by rw [List.length_append], hS'⟩, hb⟩
theorem EndW.put {N : Nat} {W w : World} {s s' : S8} {blk blk' : List UInt8} {z z' : Nat} {w' : World} (h : EndW N W w (stv s blk z)) (hb : BlkIs w' N 106 (stv s' blk' z').toArray) (k : Tn (fun i => i = N) w w') (hN : 2 ≤ N) : EndW N W w' (stv s' blk' z') := h.tn hb k hN
theorem EndW.ld {N : Nat} {W w : World} {s : S8} {blk m : List UInt8} {z : Nat} (h : EndW N W w (stv s blk z)) (hS : StOK s blk m) : (loadVar 106 ⟨N, 0, none⟩).run Tryz.prog w = .ok (.agg (stv s blk z).toArray) w :=
  run_loadVar_row w N 106 106 _ (0, 0) _ h.b Tryz.underlying106 rfl (isz44s s blk z hS.len)
theorem EndW.alk {N : Nat} {W w w' : World} {cur : List Value} (h : EndW N W w cur) (k : Alk w w') : EndW N W w' cur := h.more (k.below _)
theorem blk_bts {w : World} {g : Nat} {t : TypeId} {l : List UInt8} (h : BlkIs w g t (bv l).toArray) : Bts w (g + 1) (some ⟨g, 0, none⟩) l := fun j u hj => by
  refine ⟨_, rfl, by simp, ?_⟩
  rw [Addr.add_mid, Nat.zero_add]
  exact h.get hj
/-- the bytes of the first words. -/
def sm (s : S8) (k : Nat) : List UInt8 := (s.l.take k).flatMap fun w => hib w 4
def smz (s : S8) (k : Nat) : List UInt8 := sm s k ++ List.replicate (32 - 4 * k) 0
theorem eight {k : Nat} (h : k ≤ 8) : k = 0 ∨ k = 1 ∨ k = 2 ∨ k = 3 ∨ k = 4 ∨ k = 5 ∨ k = 6 ∨ k = 7 ∨ k = 8 := by omega
theorem sm_length (s : S8) {k : Nat} (h : k ≤ 8) : (sm s k).length = 4 * k := by
  rcases eight h with rfl | rfl | rfl | rfl | rfl | rfl | rfl | rfl | rfl <;> simp [sm, S8.l, hib_length]
theorem sm_next (s : S8) {k : Nat} (h : k < 8) : sm s (k + 1) = sm s k ++ hib (s.l.getD k 0) 4 := by
  obtain rfl | rfl | rfl | rfl | rfl | rfl | rfl | rfl : k = 0 ∨ k = 1 ∨ k = 2 ∨ k = 3 ∨ k = 4 ∨ k = 5 ∨ k = 6 ∨ k = 7 := by omega
  all_goals simp [sm, S8.l]
theorem smz_length (s : S8) {k : Nat} (h : k ≤ 8) : (smz s k).length = 32 := by rw [smz, List.length_append, sm_length s h, List.length_replicate]; omega
theorem smz_next (s : S8) {k : Nat} (h : k < 8) : splice (bv (smz s k)) (4 * k) (bv (hib (s.l.getD k 0) 4)) = bv (smz s (k + 1)) := by
  have hl := sm_length s (Nat.le_of_lt h)
  unfold splice smz
  rw [sm_next s h, bv_append, bv_append, bv_append, List.take_append_of_le_length (by rw [bv_length]; omega), List.take_of_length_le (by rw [bv_length]; omega), List.drop_append, List.drop_eq_nil_of_le (by rw [bv_length]; omega), bv_length, bv_length, hib_length,
    show 4 * k + 4 - (sm s k).length = 4 from by omega, bv_drop, List.drop_replicate, show 32 - 4 * k - 4 = 32 - 4 * (k + 1) from by omega]
  simp
theorem smz_all (s : S8) : smz s 8 = s.l.flatMap fun w => hib w 4 := by
  unfold smz sm
  rw [List.take_of_length_le (by rw [S8.length]; omega)]
  simp
theorem step_copy5 {ops : Array Oper} {o : Oper} {a : Act} {w : World} {K : Act → World → Prop} {Q : Exit → Act → World → Prop} {E : Prop} (d x : Operand) (g off m dCap : Nat) (ad : Addr) (sLen sCap : Nat) (cur cs : List Value) (t : TypeId) (hg : BlkIs w g t cur.toArray)
    (ho : o.op = .call { callee := .builtin .copy, args := #[d, x], argTypes := #[25, 25] }) (hgd : o.guard = none)
    (hd : a.eval d = .slice (some ⟨g, off, none⟩) m dCap) (hx : a.eval x = .slice (some ad) sLen sCap) (hn : cs.length = Nat.min sLen m)
    (hsrc : ∀ j v, cs[j]? = some v → w.cell? (ad.add j) = some v) (hfit : off + cs.length ≤ cur.length) (h1 : ∀ v ∈ cs, v.oneCell' = true)
    (h : ∀ w', BlkIs w' g t (splice cur off cs).toArray → Tn (fun i => i = g) w w' → K (a.put o.dst (.int .i64 cs.length)) w') : if Region.wanted o (yielded ops a.tmps) = true then Oper.wp Tryz.prog o a w K Q else E := by
  have hw : Region.wanted o (yielded ops a.tmps) = true := by simp [Region.wanted, hgd]
  rw [if_pos hw]
  have hrun := run_copy_row (P := Tryz.prog) w 25 25 o.type 5 g off m dCap ad sLen sCap cur.toArray t cs Tryz.underlying25 isz5 hg hn hsrc (by simpa using hfit) h1
  have e : cur.toArray.toList.take off ++ cs ++ cur.toArray.toList.drop (off + cs.length) = splice cur off cs := by unfold splice; simp
  rw [e] at hrun
  unfold Oper.wp
  simp [execOp, ho, resolve, invoke, builtin, hd, hx, hrun, Result.andThen]
  exact h _ (tn_row hg _).1 (tn_row hg _).2
theorem sliceAt_lo (g q : Nat) (hq : q < 32) (w : World) : (Instr.sliceAt 28 (.pointer (some ⟨g, 0, none⟩)) (some (.int .i64 q)) none none).run Tryz.prog w = .ok (.slice (some ⟨g, q, none⟩) (32 - q) (32 - q)) w := by
  obtain ⟨i, hi, _, h0, _⟩ := info_parts info5
  have e2 : ¬ 32 = q := by omega
  have e3 : q ≤ 32 := by omega
  simp [Instr.sliceAt, run_underlying Tryz.underlying28, Instr.sliceBounds, Instr.sliceBound, asIntOf, Sem.run_bind, e3, e2, sizeOf, typeInfo, hi, h0, Instr.sureAddr, Addr.add]
  intro h
  exact h.symm
theorem padded_is (m : List UInt8) (z q y : Nat) (hz : m.length = z) (hq : q = (119 - z % 64) % 64) (hy : y = 8 * z) : m ++ (128 :: List.replicate q 0) ++ hib y 8 = padded m := by
  subst hq
  subst hy
  subst hz
  simp [padded, padding]
theorem EndW.words {N : Nat} {W w : World} {s : S8} {blk : List UInt8} {z : Nat} (h : EndW N W w (stv s blk z)) : w.rangeAt N 0 (wv s.l) := BlkIs.range (a := []) (b := wv s.l) (c := bv blk ++ [.int .u64 (z : Int)]) h.b rfl
theorem high4 (x : Nat) (w : World) (hx : x < 18446744073709551616) :
    Calls Tryz.prog 69 #[.int .u64 x, .int .i64 4] w fun e w' => ∃ g, e = .returned (.slice (some ⟨g, 0, none⟩) 4 4) ∧ BlkIs w' g 5 (bv (hib x 4)).toArray ∧ w.heap.size ≤ g ∧ Below w.heap.size w w' := high_any x 4 w (by omega) hx
theorem pad_bts {w : World} {g : Nat} {t : TypeId} (h : BlkIs w g t (bv pad64).toArray) (q : Nat) (hq : q ≤ 63) : Bts w (g + 1) (some ⟨g, 0, none⟩) (128 :: List.replicate q 0) := fun j u hj => by
  refine ⟨_, rfl, by simp, ?_⟩
  have e : (128 :: List.replicate q 0 : List UInt8) = pad64.take (1 + q) := by
    rw [Nat.add_comm]
    show _ = 128 :: (List.replicate 63 0).take q
    rw [List.take_replicate, Nat.min_eq_left hq]
  rw [e, ← bv_take, List.getElem?_take] at hj
  split at hj
  · rw [Addr.add_mid, Nat.zero_add]
    exact h.get hj
  · cases hj
set_option maxRecDepth 100000 in
set_option maxHeartbeats 1600000 in
theorem end_any (s : S8) (blk m : List UInt8) (z : Nat) (w : World) (hS : StOK s blk m) (hz : m.length = z) (hm : z ≤ 900000000) (hg : Glob w) :
    Calls Tryz.prog 62 #[.agg (stv s blk z).toArray] w fun e w' => e = .returned (.agg (bv (sha m)).toArray) ∧ Below w.heap.size w w' := by
  have HS := Lib.hid hS
  have GS := Lib.hid hg.size
  have HZ := Lib.hid hz
  clear hS hz
  have c72 := fun o => ((BlkIs.new w 106 (stv s blk z).toArray).alloc o).get (stv_size s blk z HS.out.len)
  have HPI : Hid ((Tryz.prog.info? 104).map (·.size) = some (bv pad64).toArray.size) := Lib.hid isz42
  obtain ⟨r, hr⟩ : ∃ r, r = z % 64 := ⟨_, rfl⟩
  have er : (z : Int) % 64 = (r : Int) := by omega
  have r63 : r ≤ 63 := by omega
  have er2 : (z : Int).tmod 64 = (r : Int) := by rw [Int.tmod_eq_emod_of_nonneg (by omega)]; exact er
  obtain ⟨c, hc⟩ : ∃ c, c = 119 - r := ⟨_, rfl⟩
  have ec : IntKind.u64.wrap (119 - (r : Int)) = (c : Int) := by rw [IntWalk.u64_in _ (by omega)]; omega
  obtain ⟨q, hq⟩ : ∃ q, q = c % 64 := ⟨_, rfl⟩
  have eq2 : (c : Int).tmod 64 = (q : Int) := by rw [Int.tmod_eq_emod_of_nonneg (by omega)]; omega
  have q63 : q ≤ 63 := by omega
  obtain ⟨h, hh⟩ : ∃ h, h = 1 + q := ⟨_, rfl⟩
  have eh : IntKind.u64.wrap (1 + (q : Int)) = (h : Int) := by rw [IntWalk.u64_in _ (by omega)]; omega
  have h64 : h ≤ 64 := by omega
  have HC := Lib.hid hc
  have HH := Lib.hid hh
  have HQR : Hid (q = (119 - r) % 64) := Lib.hid (by omega)
  have HR := Lib.hid hr
  have HQ := Lib.hid hq
  clear hr hq hc hh
  obtain ⟨y, hy⟩ : ∃ y, y = 8 * z := ⟨_, rfl⟩
  have ey : IntKind.u64.wrap (8 * (z : Int)) = (y : Int) := by rw [IntWalk.u64_in _ (by omega)]; omega
  have hy64 : y < 18446744073709551616 := by omega
  have HY := Lib.hid hy
  clear hy
  go_enter Tryz.func62, Tryz.ntmps62
  go_wp2_with (refine store_bl (.tmp 4) (.tmp 10) 104 (w.heap.size + 1 + 1) 104 _ (bv pad64).toArray (BlkIs.new_at ((w.alloc _).alloc _) _ _ _ (by simp)) rfl rfl rfl rfl rfl HPI.out rfl (bv_all _) ?_; intro w1 hp1 ht1; have hE1 : EndW w.heap.size w w1 (stv s blk z) := EndW.mk0 hg rfl hp1 ht1; clear hp1 ht1)
  clear hg c72
  have HI := Lib.hid (isz44s s blk z HS.out.len)
  refine still_tail 7 (by kernel_rfl) (by kernel_rfl) (fun W1 hk1 => ?_)
  have hE2 := hE1.more (hk1.below _)
  clear hE1 hk1
  have hsl := sliceAt_hi (w.heap.size + 1 + 1) h h64 W1
  simp only [List.take_succ_cons, List.take_zero, List.drop_succ_cons, List.drop_zero]
  refine still_load (.tmp 1) 106 w.heap.size 106 _ hE2.b rfl rfl rfl _ Tryz.underlying106 rfl HI.out ?_
  repeat still_step
  refine wpStill_nil ?_
  have hbp := pad_bts hE2.p q q63
  have HLEN : Hid ((128 :: List.replicate q 0 : List UInt8).length = h) := Lib.hid (by rw [HH.out]; simp; omega)
  have hlt := hE2.p.lt
  have hO := stv_length s blk z HS.out.len
  have HO : Hid ((stv s blk z).length = 73) := Lib.hid hO
  have h2 := GS.out
  clear hO hsl
  go_wp2_with (first
    | (go_at_call 61; refine (with_z s blk m _ _ 64 _ z h _ HS.out hbp hlt HZ.out HLEN.out h64 (by omega) (by omega) hE2.glob).mono ?_; rintro e w3 ⟨⟨s1, blk1, rfl, hS1⟩, hb3⟩; have hE3 := hE2.more hb3; have HS1 := Lib.hid hS1; have HI3 := Lib.hid (isz44s s1 blk1 (z + h) hS1.len); have HQ3 : Hid ((stv s blk z).toArray.size = (stv s1 blk1 (z + h)).toArray.size) := Lib.hid (by rw [List.size_toArray, List.size_toArray, HO.out, stv_length _ _ _ hS1.len]); clear hS1)
    | (refine store_bl (.tmp 1) (.tmp 18) 106 w.heap.size 106 _ (stv s1 blk1 (z + h)).toArray hE3.b rfl rfl rfl rfl rfl HI3.out HQ3.out (stv_all _ _ _) ?_; intro w4 hb4 ht4; have hE4 := hE3.put hb4 ht4 h2))
  clear hE2 hE3 hb3 hb4 ht4 hbp hlt HI3 HQ3
  go_cut [] from 19 (fun wt => ∃ s2 blk2, StOK s2 blk2 (m ++ (128 :: List.replicate q 0) ++ hib y 8) ∧ EndW w.heap.size w wt (stv s2 blk2 (z + h + 8)))
  case first =>
    have hE5 := hE4.alk (Alk.drew w4)
    have hrun4 : Hid ((m ++ (128 :: List.replicate q 0)).length = z + h) := Lib.hid (by rw [List.length_append, HZ.out, HLEN.out])
    have HI4 := Lib.hid (isz44s s1 blk1 (z + h) HS1.out.len)
    have h2 := GS.out
    refine wp_region_any (by kernel_rfl) ?_
    have hE5' : EndW w.heap.size w { w4 with drawn := w4.drawn + 1 } (stv s1 blk1 (z + h)) := hE5
    generalize { w4 with drawn := w4.drawn + 1 } = w5 at *
    clear hE5 hE4
    have hE5 := hE5'
    clear hE5'
    refine wpAny_take (i := 1) (v := .int .u64 z) rfl (by kernel_rfl) (by kernel_rfl) (by kernel_rfl) (fun _ _ _ h => h) (Or.inl ⟨by rfl, fun w => by first | (go_simp; done) | (go_simp; with_reducible rfl)⟩) ?_
    dsimp only [Act.put, List.setIfInBounds_toArray, List.set_cons_zero, List.set_cons_succ]
    refine wpAny_take (i := 2) (v := .int .u64 y) rfl (by kernel_rfl) (by kernel_rfl) (by kernel_rfl) (fun _ _ _ h => h) (Or.inl ⟨by rfl, fun w => by first | (go_simp; done) | (go_simp; with_reducible rfl)⟩) ?_
    dsimp only [Act.put, List.setIfInBounds_toArray, List.set_cons_zero, List.set_cons_succ]
    refine wpAny_ready (rs := [0, 3]) (by kernel_rfl) (by simp) ?_
    refine AllReady.cons rfl (fun K hK => ?_) (AllReady.cons rfl (fun K hK => ?_) AllReady.nil)
    · refine step_load (.tmp 1) 106 w.heap.size 106 _ hE5.b rfl rfl rfl _ Tryz.underlying106 rfl HI4.out ?_
      refine hK _ _ ?_
      clear hK K
      dsimp only [Act.put, List.setIfInBounds_toArray, List.set_cons_zero, List.set_cons_succ]
      refine wpAny_ready (rs := [3]) (by kernel_rfl) (by simp) ?_
      refine AllReady.cons rfl (fun K hK => ?_) AllReady.nil
      go_simp
      go_wp2_with (go_at_call 69; refine (high_any y 8 _ (by omega) hy64).mono ?_; rintro e w6 ⟨g6, rfl, hb6, hge6, hbel6⟩; have hE6 := hE5.more hbel6)
      try (refine hK _ _ ?_; clear hK K)
      refine wpAny_ready (rs := [4]) (by kernel_rfl) (by simp) ?_
      refine AllReady.cons rfl (fun K hK => ?_) AllReady.nil
      go_simp
      go_wp2_with (go_at_call 61; refine (with_z s1 blk1 _ _ _ 8 (hib y 8) _ 8 w6 HS1.out (blk_bts hb6) hb6.lt hrun4.out (hib_length y 8) (by omega) (by omega) (by omega) hE6.glob).mono ?_; rintro e w7 ⟨⟨s2, blk2, rfl, hS2⟩, hb7⟩; have hE7 := hE6.more hb7)
      try (refine hK _ _ ?_; clear hK K)
      refine wpAny_ready (rs := [5]) (by kernel_rfl) (by simp) ?_
      refine AllReady.cons rfl (fun K hK => ?_) AllReady.nil
      refine step_store (.tmp 1) (.tmp 23) 106 w.heap.size 106 _ (stv s2 blk2 (z + h + 8)).toArray hE7.b rfl rfl rfl rfl rfl (isz44s _ _ _ hS2.len) (by rw [List.size_toArray, List.size_toArray, stv_length _ _ _ HS1.out.len, stv_length _ _ _ hS2.len]) (stv_all _ _ _) (fun w8 hb8 ht8 => ?_)
      refine hK _ _ ?_
      clear hK K
      refine wpAny_done (by kernel_rfl) ?_ _
      go_wp2_with fail
      go_meet
      exact ⟨s2, blk2, hS2, hE7.put hb8 ht8 h2⟩
    · go_simp
      go_wp2_with (go_at_call 69; refine (high_any y 8 _ (by omega) hy64).mono ?_; rintro e w6 ⟨g6, rfl, hb6, hge6, hbel6⟩; have hE6 := hE5.more hbel6)
      try (refine hK _ _ ?_; clear hK K)
      refine wpAny_ready (rs := [0]) (by kernel_rfl) (by simp) ?_
      refine AllReady.cons rfl (fun K hK => ?_) AllReady.nil
      refine step_load (.tmp 1) 106 w.heap.size 106 _ hE6.b rfl rfl rfl _ Tryz.underlying106 rfl HI4.out ?_
      refine hK _ _ ?_
      clear hK K
      dsimp only [Act.put, List.setIfInBounds_toArray, List.set_cons_zero, List.set_cons_succ]
      refine wpAny_ready (rs := [4]) (by kernel_rfl) (by simp) ?_
      refine AllReady.cons rfl (fun K hK => ?_) AllReady.nil
      go_simp
      go_wp2_with (go_at_call 61; refine (with_z s1 blk1 _ _ _ 8 (hib y 8) _ 8 w6 HS1.out (blk_bts hb6) hb6.lt hrun4.out (hib_length y 8) (by omega) (by omega) (by omega) hE6.glob).mono ?_; rintro e w7 ⟨⟨s2, blk2, rfl, hS2⟩, hb7⟩; have hE7 := hE6.more hb7)
      try (refine hK _ _ ?_; clear hK K)
      refine wpAny_ready (rs := [5]) (by kernel_rfl) (by simp) ?_
      refine AllReady.cons rfl (fun K hK => ?_) AllReady.nil
      refine step_store (.tmp 1) (.tmp 23) 106 w.heap.size 106 _ (stv s2 blk2 (z + h + 8)).toArray hE7.b rfl rfl rfl rfl rfl (isz44s _ _ _ hS2.len) (by rw [List.size_toArray, List.size_toArray, stv_length _ _ _ HS1.out.len, stv_length _ _ _ hS2.len]) (stv_all _ _ _) (fun w8 hb8 ht8 => ?_)
      refine hK _ _ ?_
      clear hK K
      refine wpAny_done (by kernel_rfl) ?_ _
      go_wp2_with fail
      go_meet
      exact ⟨s2, blk2, hS2, hE7.put hb8 ht8 h2⟩
  case rest =>
    clear hE4 HS1
    obtain ⟨s2, blk2, hS2, hE⟩ := hcut
    have HM : Hid ((wv s2.l).flatMap (fun _ => ([] : List Nat)) = [] ∧ sha m = s2.l.flatMap fun w => hib w 4) := Lib.hid ⟨by simp, by
      have := padded_is m z q y HZ.out (by rw [HQR.out, HR.out]) HY.out
      rw [this] at hS2
      rw [hS2.ws]
      rfl⟩
    have hok := hS2.ok
    have HI1 : Hid ((Tryz.prog.info? 103).map (·.size) = some (wv s2.l).length) := Lib.hid (by rw [isz41, wv_length, S8.length])
    clear hS2
    have hEE := hE
    obtain ⟨G, hG⟩ : ∃ G, G = wc.heap.size := ⟨_, rfl⟩
    have hGp := hE.p.lt
    rw [← hG] at hGp
    have hE9 := hE.more ((Below.refl wc.heap.size wc).alloc (Nat.le_refl _) (.cells #[.int .u8 0, .int .u8 0, .int .u8 0, .int .u8 0, .int .u8 0, .int .u8 0, .int .u8 0, .int .u8 0, .int .u8 0, .int .u8 0, .int .u8 0, .int .u8 0, .int .u8 0, .int .u8 0, .int .u8 0, .int .u8 0, .int .u8 0, .int .u8 0, .int .u8 0, .int .u8 0, .int .u8 0, .int .u8 0, .int .u8 0, .int .u8 0, .int .u8 0, .int .u8 0, .int .u8 0, .int .u8 0, .int .u8 0, .int .u8 0, .int .u8 0, .int .u8 0] 28))
    go_wp2_with (refine wpList_load_mid rfl 103 (.tmp 24) rfl w.heap.size 0 rfl (wv s2.l) _ (EndW.words (by assumption)) Tryz.underlying103 rfl HI1.out ?_)
    have HE9 := Lib.hid hE9
    have HB9 := Lib.hid (BlkIs.new wc 28 (bv (List.replicate 32 0)).toArray)
    have hr := hE.r
    clear hE9 hE hEE
    rw [← hG]
    have HG := Lib.hid hG
    clear hG
    go_loopw [26] (fun i wr => ∃ k : Nat, k ≤ 8 ∧ i = .int .i64 k ∧ BlkIs wr G 28 (bv (smz s2 k)).toArray ∧ EndW w.heap.size w wr (stv s2 blk2 (z + h + 8))) (fun i _ => 8 - (intOf i).toNat)
    case atStart => exact ⟨0, by omega, rfl, by rw [HG.out]; exact HB9.out, HE9.out⟩
    case round =>
      clear HE9 HB9 hr
      obtain ⟨k, hk, rfl, hb, hE⟩ := hrel
      by_cases hlt : k < 8
      · have hx := getD_lt (S8.ok_l hok) k
        have hidx := fun w => run_index (P := Tryz.prog) Tryz.underlying103 Tryz.underlying92 isz37 (wv s2.l).toArray k (.int .u32 ((s2.l.getD k 0 : Nat) : Int)) hlt (by rw [List.getElem?_toArray]; exact wv_get s2.l k (by rw [S8.length]; exact hlt)) w
        obtain ⟨q4, hq4⟩ : ∃ q, q = 4 * k := ⟨_, rfl⟩
        have e4 : IntKind.i64.wrap (4 * (k : Int)) = (q4 : Int) := by rw [IntWalk.i64_in _ (by omega)]; omega
        have q32 : q4 < 32 := by omega
        have HQ4 := Lib.hid hq4
        have HN := Lib.hid (smz_next s2 hlt)
        have HL := Lib.hid (smz_length s2 hk)
        generalize s2.l.getD k 0 = x at *
        have k8 : (k : Int) < 8 := by omega
        have HMIN : Hid ((bv (hib x 4)).length = Nat.min 4 (32 - q4)) := Lib.hid (by rw [bv_length, hib_length]; show 4 = min 4 (32 - q4); omega)
        have HFIT : Hid (q4 + (bv (hib x 4)).length ≤ (bv (smz s2 k)).length) := Lib.hid (by rw [bv_length, bv_length, HL.out, hib_length]; omega)
        have hx64 : x < 18446744073709551616 := by omega
        have ewx : IntKind.u64.wrap (x : Int) = (x : Int) := IntWalk.u64_in _ (by omega)
        clear hq4
        go_wp2_with fail
        have hE2 := hE.alk (Alk.drew wr)
        have hb2 := (Alk.drew wr).blk hb
        have hsl := fun w => sliceAt_lo G q4 q32 w
        go_region_held3 (fun _ => True) (first | trivial) (first
          | (go_at_call 69; (with_reducible refine (high4 x _ hx64).mono ?_); rintro e w6 ⟨g6, rfl, hb6, hge6, hbel6⟩; have hE3 := hE2.more hbel6; have hb3 : BlkIs w6 G 28 _ := (hbel6.block G hb2.lt).trans hb2)
          | (refine step_copy5 (.tmp 32) (.tmp 35) G q4 (32 - q4) (32 - q4) ⟨g6, 0, none⟩ 4 4 (bv (smz s2 k)) (bv (hib x 4)) 28 hb3 (by rfl) (by rfl) (by rfl) (by rfl) HMIN.out (fun j v hj => by rw [Addr.add_mid, Nat.zero_add]; exact hb6.get hj) HFIT.out (bv_one _) ?_; intro w7 hb7 ht7)
          | fail)
        go_wp2_with fail
        have hE4 : EndW w.heap.size w w7 (stv s2 blk2 (z + h + 8)) := by
          refine ⟨hE3.b.tn ht7 (by omega), ?_, hE3.p.tn ht7 (by omega), hE3.glob.below (N := w.heap.size) (ht7.below (Nat.le_of_lt hE3.b.lt) (fun i hi h => by omega)) GS.out, hE3.below.trans (ht7.below (Nat.le_of_lt hE3.b.lt) (fun i hi h => by omega))⟩
          obtain ⟨z0, hz0, hs0⟩ := hE3.r
          exact ⟨z0, hz0.tn ht7 (by omega), hs0⟩
        rw [HQ4.out, HN.out] at hb7
        exact ⟨⟨k + 1, by omega, by go_num, hb7, hE4⟩, by simp [intOf]; omega⟩
      · obtain rfl : k = 8 := by omega
        have HS := Lib.hid (smz_all s2)
        have HL := Lib.hid (smz_length s2 (k := 8) (by omega))
        obtain ⟨z0, hr, hz0⟩ := hE.r
        have hbel := hE.below
        have hNs := Nat.le_of_lt hE.b.lt
        have HI : Hid ((Tryz.prog.info? 28).map (·.size) = some (bv (smz s2 8)).toArray.size) := Lib.hid (by rw [isz24, List.size_toArray, bv_length, HL.out])
        have HZ0 : Hid (z0.size = (bv (smz s2 8)).toArray.size) := Lib.hid (by rw [hz0, List.size_toArray, bv_length, HL.out])
        have hall := bv_all (smz s2 8)
        generalize hX : (bv (smz s2 8)).toArray = X at *
        have HX : Hid (X = (bv (sha m)).toArray) := Lib.hid (by rw [← hX, HS.out, HM.out.2])
        clear hX hz0
        have HA := Lib.hid hall
        clear hall hE
        go_wp2_with (first
          | (with_reducible refine load_blk (.tmp 5) 28 G 28 X hb rfl rfl rfl _ Tryz.underlying28 rfl HI.out ?_)
          | (with_reducible refine store_blk (.tmp 2) (.tmp 38) 28 (w.heap.size + 1) 28 z0 X hr rfl rfl rfl rfl HI.out HZ0.out HA.out ?_; intro w9 hr9 ht9))
        refine ret_blk rfl (w.heap.size + 1) 28 X hr9 _ rfl Tryz.underlying28 rfl HI.out rfl ⟨by rw [HX.out], ?_⟩
        have h9 : Below w.heap.size wr w9 := ht9.below hNs (fun i hi h => by omega)
        exact Below.trans hbel h9
end Go.Proofs.YteapnkedpmcokaaGreatDoor
/- Contracts of the sum of parts, and of one. Conditions: as stated at each. -/
namespace Go.Proofs.YteapnkedpmcokaaGreatDoor
set_option maxRecDepth 100000
open Go.RowKit Go
structure JnW (N : Nat) (W wr : World) (cur : List Value) : Prop where
  r : ∃ z, BlkIs wr N 28 z ∧ z.size = 32
  b : BlkIs wr (N + 1) 106 cur.toArray
  glob : Glob wr
  below : Below N W wr
theorem JnW.more {N : Nat} {W w w' : World} {cur : List Value} (h : JnW N W w cur) (k : Below w.heap.size w w') : JnW N W w' cur := by
  have hlt := h.b.lt
  refine ⟨?_, (k.block _ h.b.lt).trans h.b, h.glob.below k h.glob.size, h.below.trans (k.mono (by omega))⟩
  obtain ⟨z, hz, hs⟩ := h.r
  exact ⟨z, (k.block _ hz.lt).trans hz, hs⟩
theorem JnW.put {N : Nat} {W w w' : World} {cur cur' : List Value} (h : JnW N W w cur) (hb : BlkIs w' (N + 1) 106 cur'.toArray) (k : Tn (fun i => i = N + 1) w w') (hN : 2 ≤ N) : JnW N W w' cur' := by
  have hlt := h.b.lt
  have hb0 : Below N w w' := k.below (by omega) (fun i hi h => by omega)
  refine ⟨?_, hb, h.glob.below hb0 hN, h.below.trans hb0⟩
  obtain ⟨z, hz, hs⟩ := h.r
  exact ⟨z, hz.tn k (by omega), hs⟩
theorem build_init (w : World) : (Instr.build 106 #[(0, .agg (wv init8.l).toArray)]).run Tryz.prog w = .ok (.agg (stv init8 (List.replicate 64 0) 0).toArray) w := by kernel_rfl
theorem build_one {P : Program} {ops : Array Oper} {rest : List Oper} {o : Oper} {a : Act} {w : World} {Q : Exit → Act → World → Prop} (x : Operand) (t : TypeId) (u v : Value)
    (hrun : ∀ w, (Instr.build t #[(0, u)]).run P w = .ok v w) (ho : o.op = .build t #[(0, x)]) (hx : a.eval x = u) (hgd : o.guard = none)
    (h : wpList P ops Q rest (a.put o.dst v) w) : wpList P ops Q (o :: rest) a w := by
  refine wpList_plain hgd fun K hK => ?_
  unfold Oper.wp execOp
  simp only [ho, List.map_toArray, List.map_cons, List.map_nil, hx, Sem.run_bind, hrun, Result.andThen, Sem.run_pure]
  exact hK _ _ h
theorem with_zc (s : S8) (blk m : List UInt8) (A : Option Addr) (B c : Nat) (l : List UInt8) (z n : Nat) (w : World) (hS : StOK s blk m) (hl : Bts w B A l) (hB : B ≤ w.heap.size) (hz : m.length = z) (hn : l.length = n) (hc : n ≤ c) (hc2 : c ≤ maxLen) (hm : z + n ≤ 1000000000) (hg : Glob w) :
    Calls Tryz.prog 61 #[.agg (stv s blk z).toArray, .slice A n c] w fun e w' => (∃ s' blk', e = .returned (.agg (stv s' blk' (z + n)).toArray) ∧ StOK s' blk' (m ++ l)) ∧ Below w.heap.size w w' := by
  subst hz
  subst hn
  refine (with_any s blk m A B c l w hS hl hB hc hc2 hm hg).mono fun e w' h => ?_
  obtain ⟨⟨v, rfl, s', blk', hS', rfl⟩, hb⟩ := h
  exact ⟨⟨s', blk', by rw [List.length_append], hS'⟩, hb⟩
theorem flat_next (ll : List (List UInt8)) (k : Nat) (h : k < ll.length) : (ll.take (k + 1)).flatten = (ll.take k).flatten ++ ll.getD k [] := by
  rw [List.take_succ_eq_append_getElem h, List.flatten_append]
  simp [List.getD_eq_getElem?_getD, h]
theorem flat_le (ll : List (List UInt8)) (k : Nat) : (ll.take k).flatten.length ≤ ll.flatten.length := by
  have e : ll.flatten = (ll.take k).flatten ++ (ll.drop k).flatten := by rw [← List.flatten_append, List.take_append_drop]
  rw [e, List.length_append]
  omega
theorem flat_get_le (ll : List (List UInt8)) (k : Nat) (h : k < ll.length) : (ll.take k).flatten.length + (ll.getD k []).length ≤ ll.flatten.length := by
  have := flat_le ll (k + 1)
  rw [flat_next ll k h, List.length_append] at this
  exact this
set_option maxRecDepth 100000 in
set_option maxHeartbeats 1600000 in
theorem join_any (A : Option Addr) (B c : Nat) (ll : List (List UInt8)) (w : World) (h : Rws w B A ll) (hB : B ≤ w.heap.size) (hl : ll.length ≤ 1000000000) (hm : ll.flatten.length ≤ 900000000) (hg : Glob w) :
    Calls Tryz.prog 50 #[.slice A ll.length c] w fun e w' => e = .returned (.agg (bv (sha ll.flatten)).toArray) ∧ Below w.heap.size w w' := by
  have GS := Lib.hid hg.size
  have h2 := GS.out
  obtain ⟨z, hz, hzr⟩ := zero44
  have HZ := Lib.hid hz
  have HI8 : Hid ((Tryz.prog.info? 103).map (·.size) = some (wv init8.l).length) := Lib.hid (by rw [isz41, wv_length, S8.length])
  have HI0 := Lib.hid (isz44s init8 (List.replicate 64 0) 0 (by simp))
  have HO0 : Hid (z.size = (stv init8 (List.replicate 64 0) 0).toArray.size) := Lib.hid (by rw [hz, List.size_toArray, stv_length _ _ _ (by simp)])
  have hbi := build_init
  have hga := fun o => (hg.alloc o).first
  clear hz
  generalize hS0 : stv init8 (List.replicate 64 0) 0 = S0 at *
  have HS0 := Lib.hid hS0
  have HA0 : Hid (S0.toArray.all (·.oneCell') = true) := Lib.hid (by rw [← hS0]; exact stv_all _ _ _)
  clear hS0
  generalize wv init8.l = W0 at *
  go_enter Tryz.func50, Tryz.ntmps50
  go_wp2_with (first
    | (with_reducible refine wpList_load_mid rfl 103 (.global 0) rfl 0 0 rfl W0 _ (hga _) Tryz.underlying103 rfl HI8.out ?_)
    | (with_reducible refine build_one (.tmp 6) 106 _ _ hbi rfl rfl rfl ?_)
    | (refine store_bl (.tmp 3) (.tmp 7) 106 (w.heap.size + 1) 106 z S0.toArray (BlkIs.new_at (w.alloc _) _ _ _ (by simp)) rfl rfl rfl rfl rfl HI0.out HO0.out HA0.out ?_; intro w1 hb1 ht1; have hJ1 : JnW w.heap.size w w1 S0 := JnW.put ⟨⟨_, (BlkIs.new _ _ _).alloc _, rfl⟩, BlkIs.new_at (w.alloc _) _ _ _ (by simp), (hg.alloc _).alloc _, ((Below.refl _ _).alloc (Nat.le_refl _) _).alloc (by simp) _⟩ hb1 ht1 h2)
    | fail)
  have HJ := Lib.hid hJ1
  clear hb1 ht1 hJ1 hbi hga hzr
  go_loopw [10] (fun i wr => ∃ (k : Nat) (s' : S8) (blk' : List UInt8), k ≤ ll.length ∧ i = .int .i64 k ∧ StOK s' blk' (ll.take k).flatten ∧ JnW w.heap.size w wr (stv s' blk' (ll.take k).flatten.length)) (fun i _ => ll.length - (intOf i).toNat)
  case atStart => exact ⟨0, init8, List.replicate 64 0, by omega, rfl, by simpa using StOK.nil (List.replicate 64 0) (by simp), by show JnW w.heap.size w w1 (stv init8 (List.replicate 64 0) 0); rw [HS0.out]; exact HJ.out⟩
  case round =>
    clear HJ hg
    obtain ⟨k, s', blk', hk, rfl, hS, hJ⟩ := hrel
    by_cases hlt : k < ll.length
    · obtain ⟨ad, Ak, ck, rfl, had, hcell, hck, hmx, hbt⟩ := (h.below (hJ.below.mono hB)).at_ hlt
      have HT := Lib.hid (flat_next ll k hlt)
      have hle := flat_get_le ll k hlt
      have hBw : B ≤ wr.heap.size := Nat.le_trans hB hJ.below.size
      generalize ll.getD k [] = part at *
      generalize hM : (ll.take k).flatten = mm at *
      have HMM := Lib.hid hM
      clear hM
      obtain ⟨zz, hzz⟩ : ∃ z, z = mm.length := ⟨_, rfl⟩
      rw [← hzz] at hle hJ
      have HZZ : Hid (mm.length = zz) := Lib.hid hzz.symm
      obtain ⟨pn, hpn⟩ : ∃ n, n = part.length := ⟨_, rfl⟩
      rw [← hpn] at hle hcell hck
      have HPN : Hid (part.length = pn) := Lib.hid hpn.symm
      clear hzz hpn
      have HS := Lib.hid hS
      have HI := Lib.hid (isz44s s' blk' zz hS.len)
      have HL : Hid ((stv s' blk' zz).length = 73) := Lib.hid (stv_length _ _ _ hS.len)
      have hbm : Hid (ck ≤ maxLen) := Lib.hid hmx
      clear hS hmx
      go_wp2_with (first
        | (with_reducible refine load_blk (.tmp 3) 106 (w.heap.size + 1) 106 _ hJ.b rfl rfl rfl _ Tryz.underlying106 rfl HI.out ?_)
        | (go_at_call 61; refine (with_zc s' blk' mm Ak B ck part zz pn _ HS.out hbt hBw HZZ.out HPN.out hck hbm.out (by omega) hJ.glob).mono ?_; rintro e w3 ⟨⟨s1, blk1, rfl, hS1⟩, hb3⟩; have hJ3 := hJ.more hb3; have HI3 := Lib.hid (isz44s s1 blk1 (zz + pn) hS1.len); have HQ3 : Hid ((stv s' blk' zz).toArray.size = (stv s1 blk1 (zz + pn)).toArray.size) := Lib.hid (by rw [List.size_toArray, List.size_toArray, HL.out, stv_length _ _ _ hS1.len]))
        | (refine store_bl (.tmp 3) (.tmp 16) 106 (w.heap.size + 1) 106 _ (stv s1 blk1 (zz + pn)).toArray hJ3.b rfl rfl rfl rfl rfl HI3.out HQ3.out (stv_all _ _ _) ?_; intro w4 hb4 ht4; have hJ4 := hJ3.put hb4 ht4 h2)
        | fail)
      go_roundw
      case rel => exact ⟨k + 1, s1, blk1, by omega, by go_num, by rw [HT.out]; exact hS1, by rw [HT.out, List.length_append, HZZ.out, HPN.out]; exact hJ4⟩
      case measure => simp [intOf]; omega
    · obtain rfl : k = ll.length := by omega
      rw [List.take_length] at hS hJ
      generalize hMM : ll.flatten = M at *
      have HMM := Lib.hid hMM
      clear hMM
      obtain ⟨zM, hzM⟩ : ∃ z, z = M.length := ⟨_, rfl⟩
      rw [← hzM] at hJ hm
      have HL : Hid (M.length = zM) := Lib.hid hzM.symm
      clear hzM
      have HS := Lib.hid hS
      have HI := Lib.hid (isz44s s' blk' zM hS.len)
      obtain ⟨z0, hr, hz0⟩ := hJ.r
      have hJb := hJ.b
      have hJl := hJ.below
      have hJg := hJ.glob
      have hJt := hJ.b.lt
      have HI24 : Hid ((Tryz.prog.info? 28).map (·.size) = some (bv (sha M)).toArray.size) := Lib.hid (by rw [isz24, List.size_toArray, bv_length, sha_length])
      have HZ0 : Hid (z0.size = (bv (sha M)).toArray.size) := Lib.hid (by rw [hz0, List.size_toArray, bv_length, sha_length])
      have he := fun w hg => end_any s' blk' M zM w HS.out HL.out hm hg
      have hall := bv_all (sha M)
      generalize hX : (bv (sha M)).toArray = X at *
      have HX := Lib.hid hX
      have HA := Lib.hid hall
      have HE := Lib.hid he
      clear hS hz0 hJ hX hall he
      go_wp2_with (first
        | (with_reducible refine load_blk (.tmp 3) 106 (w.heap.size + 1) 106 _ hJb rfl rfl rfl _ Tryz.underlying106 rfl HI.out ?_)
        | (go_at_call 62; refine (HE.out _ hJg).mono ?_; rintro e w3 ⟨rfl, hb3⟩; have hr3 : BlkIs w3 w.heap.size 28 z0 := (hb3.block _ hr.lt).trans hr)
        | (refine store_bl (.tmp 2) (.tmp 19) 28 w.heap.size 28 z0 X hr3 rfl rfl rfl rfl rfl HI24.out HZ0.out HA.out ?_; intro w4 hb4 ht4)
        | fail)
      refine ret_blk rfl w.heap.size 28 X hb4 _ rfl Tryz.underlying28 rfl HI24.out rfl ⟨by rw [HMM.out, HX.out], ?_⟩
      have h9 : Below w.heap.size w3 w4 := ht4.below (Nat.le_trans (by omega) hb3.size) (fun i hi h => by omega)
      exact (hJl.trans (hb3.mono (by omega))).trans h9
end Go.Proofs.YteapnkedpmcokaaGreatDoor
/- Contract of the sum of any bytes. Conditions: as stated at each. -/
namespace Go.Proofs.YteapnkedpmcokaaGreatDoor
set_option maxRecDepth 100000
open Go.RowKit Go
theorem join_one (A : Option Addr) (B c : Nat) (l : List UInt8) (w : World) (h : Bts w B A l) (hB : B ≤ w.heap.size) (hl : l.length ≤ c) (hc : c ≤ maxLen) (hm : l.length ≤ 900000000) (hg : Glob w) :
    Calls Tryz.prog 50 #[.slice (some ⟨w.heap.size, 0, none⟩) 1 1] (w.alloc (.cells #[.slice A l.length c] 25)) fun e w' => e = .returned (.agg (bv (sha l)).toArray) ∧ Below w.heap.size w w' := by
  have hj := join_any _ _ 1 [l] _ (Rws.one h hB hl hc) (by simp) (by simp) (by simpa using hm) (hg.alloc (.cells #[.slice A l.length c] 25))
  rw [show [l].flatten = l by simp] at hj
  refine Calls.mono hj fun e w' h => ⟨h.1, ?_⟩
  exact ((Below.refl w.heap.size w).alloc (Nat.le_refl _) _).trans (h.2.mono (by simp))
theorem sum_blk (w : World) (z : Array Value) (w2 : World) (hb : Below (w.heap.size + 1) (w.alloc (.cells z 28)) w2) : BlkIs w2 w.heap.size 28 z := (hb.block w.heap.size (by omega)).trans (BlkIs.new w 28 z)
theorem sum_bel (w : World) (o : Obj) (w2 : World) (hb : Below (w.heap.size + 1) (w.alloc o) w2) : Below w.heap.size w w2 := ((Below.refl w.heap.size w).alloc (Nat.le_refl _) o).trans (hb.mono (by omega))
end Go.Proofs.YteapnkedpmcokaaGreatDoor
