/- DkMem DkPut DkSmall. Conditions: as stated at each. -/
import Derived.Test.YtidadjlhnlmfkaaGreatDoorKt02
import Derived.Test.YtidadjlhnlmfkaaGreatDoorKt04
/- Blocks known whole, what may have turned, regions that read and end in one write: words for the disk's calls. Conditions: none. -/
namespace Go.Proofs.YtidadjlhnlmfkaaGreatDoor
set_option maxRecDepth 100000
open Go.RowKit Go
/-- Block g of W is these cells of type t, and none is frozen. -/
def BlkIs (W : World) (g : Nat) (t : TypeId) (cs : Array Value) : Prop := W.heap[g]? = some (.cells cs t (0, 0))
theorem BlkIs.cell {W : World} {g : Nat} {t : TypeId} {cs : Array Value} (h : BlkIs W g t cs) (i : Nat) : W.cell? ⟨g, i, none⟩ = cs[i]? := cell_of_row W g i cs t (0, 0) h
theorem BlkIs.froz {W : World} {g : Nat} {t : TypeId} {cs : Array Value} (h : BlkIs W g t cs) (i : Nat) : W.frozen? ⟨g, i, none⟩ = false := by
  unfold BlkIs at h
  simp [World.frozen?, h]
/-- W1 is W but for what has been drawn. -/
def Alk (W W1 : World) : Prop := W1.heap = W.heap ∧ W1.os = W.os ∧ W1.tape = W.tape ∧ W1.output = W.output
theorem Alk.blk {W W1 : World} (h : Alk W W1) {g : Nat} {t : TypeId} {cs : Array Value} (hb : BlkIs W g t cs) : BlkIs W1 g t cs := by unfold BlkIs; rw [h.1]; exact hb
theorem still_tail {P : Program} {id : Nat} {Q : Exit → Act → World → Prop} {a : Act} {w : World} {l : List Oper} (n : Nat) (hm : P.follows .mixedOrders = true) (hB : Region.lexTailB .any l.toArray n = true)
    (h : ∀ w1, Alk w w1 → wpStill P l.toArray w1 (fun a' => wpList P l.toArray Q (l.drop n) a' w1) (l.take n) a) : (Code.region id l.toArray true).wp P Q a w :=
  wp_region_still_tail n hm hB (h _ ⟨rfl, rfl, rfl, rfl⟩)
/-- What may have turned: the blocks of p, and new ones. -/
structure Tn (p : Nat → Prop) (W W' : World) : Prop where
  os : W'.os = W.os
  tape : W'.tape = W.tape
  output : W'.output = W.output
  size : W.heap.size ≤ W'.heap.size
  block : ∀ i, i < W.heap.size → ¬ p i → W'.heap[i]? = W.heap[i]?
theorem Tn.refl (p : Nat → Prop) (W : World) : Tn p W W := ⟨rfl, rfl, rfl, Nat.le_refl _, fun _ _ _ => rfl⟩
theorem Tn.trans {p : Nat → Prop} {a b c : World} (h : Tn p a b) (k : Tn p b c) : Tn p a c :=
  ⟨k.os.trans h.os, k.tape.trans h.tape, k.output.trans h.output, Nat.le_trans h.size k.size, fun i hi hp => (k.block i (Nat.lt_of_lt_of_le hi h.size) hp).trans (h.block i hi hp)⟩
theorem Tn.alk {p : Nat → Prop} {a b c : World} (h : Tn p a b) (k : Alk b c) : Tn p a c :=
  h.trans ⟨k.2.1, k.2.2.1, k.2.2.2, by rw [k.1]; exact Nat.le_refl _, fun i _ _ => by rw [k.1]⟩
theorem Tn.alloc {p : Nat → Prop} {a b : World} (h : Tn p a b) (o : Obj) : Tn p a (b.alloc o) :=
  h.trans ⟨rfl, rfl, rfl, by simp, fun i hi _ => Below.heap_alloc b o i hi⟩
theorem Tn.setCell {p : Nat → Prop} {a b : World} (h : Tn p a b) {x : Addr} (hx : p x.block ∨ a.heap.size ≤ x.block) (v : Value) : Tn p a (b.setCell x v) :=
  ⟨h.os, h.tape, h.output, by have := h.size; simpa [World.setCell] using this, fun i hi hp => (Below.heap_setCell b x v i (by
    rintro rfl
    rcases hx with hx | hx
    · exact hp hx
    · omega)).trans (h.block i hi hp)⟩
theorem Tn.grown {p : Nat → Prop} {a b c : World} (h : Tn p a b) {row : Option Nat} (k : b.grownBy c row) (hr : ∀ g, row = some g → p g ∨ a.heap.size ≤ g) : Tn p a c :=
  ⟨k.os.trans h.os, k.tape.trans h.tape, k.output.trans h.output, Nat.le_trans h.size k.size, fun i hi hp => (k.block i (Nat.lt_of_lt_of_le hi h.size) (fun e => by
    rcases hr i e.symm with hx | hx
    · exact hp hx
    · omega)).trans (h.block i hi hp)⟩
theorem Tn.mono {p q : Nat → Prop} {a b : World} (h : Tn p a b) (hpq : ∀ i, i < a.heap.size → p i → q i) : Tn q a b :=
  ⟨h.os, h.tape, h.output, h.size, fun i hi hq => h.block i hi (fun hp => hq (hpq i hi hp))⟩
theorem Tn.below {p : Nat → Prop} {a b : World} (h : Tn p a b) {N : Nat} (hN : N ≤ a.heap.size) (hp : ∀ i, i < N → ¬ p i) : Below N a b :=
  ⟨h.os, h.tape, h.output, h.size, fun i hi => h.block i (by omega) (hp i hi)⟩
theorem Tn.of_below {p : Nat → Prop} {a b : World} (h : Below a.heap.size a b) : Tn p a b := ⟨h.os, h.tape, h.output, h.size, fun i hi _ => h.block i hi⟩
theorem BlkIs.lt {W : World} {g : Nat} {t : TypeId} {cs : Array Value} (h : BlkIs W g t cs) : g < W.heap.size := (Array.getElem?_eq_some_iff.1 h).1
theorem BlkIs.new (W : World) (t : TypeId) (cs : Array Value) : BlkIs (W.alloc (.cells cs t)) W.heap.size t cs := heap_alloc_new W _
theorem BlkIs.alloc {W : World} {g : Nat} {t : TypeId} {cs : Array Value} (h : BlkIs W g t cs) (o : Obj) : BlkIs (W.alloc o) g t cs := (Below.heap_alloc W o g h.lt).trans h
theorem BlkIs.put {W : World} {g : Nat} {t : TypeId} {cs : Array Value} (h : BlkIs W g t cs) (i : Nat) (u : Value) : BlkIs (W.setCell ⟨g, i, none⟩ u) g t (cs.setIfInBounds i u) := by
  unfold BlkIs at h ⊢
  simp [World.setCell, Array.getElem?_modify, h]
theorem BlkIs.far {W : World} {g : Nat} {t : TypeId} {cs : Array Value} (h : BlkIs W g t cs) {x : Addr} (hx : g ≠ x.block) (u : Value) : BlkIs (W.setCell x u) g t cs := (Below.heap_setCell W x u g hx).trans h
theorem BlkIs.tn {p : Nat → Prop} {W W' : World} {g : Nat} {t : TypeId} {cs : Array Value} (h : BlkIs W g t cs) (k : Tn p W W') (hp : ¬ p g) : BlkIs W' g t cs := (k.block g h.lt hp).trans h
theorem BlkIs.grown {W W' : World} {g : Nat} {t : TypeId} {cs : Array Value} {row : Option Nat} (h : BlkIs W g t cs) (hg : W.grownBy W' row) (hr : row ≠ some g) : BlkIs W' g t cs := (hg.block g h.lt (fun e => hr e.symm)).trans h
/-- a map's block. -/
theorem Held.lt {w : World} {P : Program} {k : TypeId} {b n : Nat} {D : DataW Value} (h : Held w P k b n D) : b < w.heap.size := World.ownsMap.lt h
theorem Held.same {w w' : World} {P : Program} {k : TypeId} {b n : Nat} {D : DataW Value} (h : Held w P k b n D) (hb : w'.heap[b]? = w.heap[b]?) : Held w' P k b n D := by
  obtain ⟨es, clock, h1, h2, h3, h4⟩ := h
  exact ⟨es, clock, hb.trans h1, h2, h3, h4⟩
theorem Held.tn {p : Nat → Prop} {w w' : World} {P : Program} {k : TypeId} {b n : Nat} {D : DataW Value} (h : Held w P k b n D) (hk : Tn p w w') (hp : ¬ p b) : Held w' P k b n D := h.same (hk.block b h.lt hp)
theorem Held.not_blk {w : World} {P : Program} {k : TypeId} {b n : Nat} {D : DataW Value} (h : Held w P k b n D) {g : Nat} {t : TypeId} {cs : Array Value} (hg : BlkIs w g t cs) : b ≠ g := by
  rintro rfl
  obtain ⟨es, clock, h1, _⟩ := h
  unfold BlkIs at hg
  rw [h1] at hg
  cases hg
end Go.Proofs.YtidadjlhnlmfkaaGreatDoor
/- (*disk.Disk).put at whatever files there are. Conditions: as stated at each. -/
namespace Go.Proofs.YtidadjlhnlmfkaaGreatDoor
set_option maxRecDepth 100000
open Go.RowKit Go
/-- the disk's map reads as D. -/
def MapIs (w : World) (M n : Nat) (D : DataW Value) : Prop := Held w Tryz.prog 9 M n D
/-- by that name stands nothing (n0 = 0), or a file of n0 bytes. -/
def OldIs (D : DataW Value) (s : ByteArray) (n0 : Nat) : Prop := (at_ D s = none ∧ n0 = 0) ∨ ∃ a c z, at_ D s = some (.agg #[.slice a n0 c, .int .i64 z])
theorem zero58 (w : World) : (zeroValue 71).run Tryz.prog w = .ok (.agg #[.slice none 0 0, .int .i64 0]) w := by kernel_rfl
theorem look_old {D : DataW Value} {s : ByteArray} {n0 : Nat} (h : OldIs D s n0) (hs : s.size ≤ maxLen) : ∃ a c z, ∀ (w : World) (M n : Nat), MapIs w M n D →
    (Instr.lookup 53 (.map (some M)) (.string s) false).run Tryz.prog w = .ok (.agg #[.slice a n0 c, .int .i64 z]) w := by
  rcases h with ⟨h, rfl⟩ | ⟨a, c, z, h⟩
  · exact ⟨none, 0, 0, fun w M n hM => by rw [held_look hM Tryz.underlying9 Tryz.underlying53 hs (zero58 w) false, h]; rfl⟩
  · exact ⟨a, c, z, fun w M n hM => by rw [held_look hM Tryz.underlying9 Tryz.underlying53 hs (zero58 w) false, h]; rfl⟩
def PutPost (W : World) (Dk M n : Nat) (D : DataW Value) (s : ByteArray) (v r l b : Value) (x : Int) (w' : World) : Prop :=
  BlkIs w' Dk 55 #[.map (some M), r, .int .i64 x, l, b] ∧ MapIs w' M (n + 1) (D.put (kOf s) (.held v)) ∧ Tn (fun i => i = Dk ∨ i = M) W w'
set_option maxRecDepth 20000 in
set_option maxHeartbeats 800000 in
theorem put_any (W : World) (Dk M k : Nat) (D : DataW Value) (s : ByteArray) (r l b : Value) (x : Int) (n0 : Nat) (a : Option Addr) (n c : Nat) (z : Int)
    (hD : BlkIs W Dk 55 #[.map (some M), r, .int .i64 x, l, b]) (hM : MapIs W M k D) (ho : OldIs D s n0) (hs : s.size ≤ maxLen) (hk : k < maxLen) (hx : 0 ≤ x) (hx2 : x ≤ 1000000000000) (hn : n ≤ 1000000000000) (hn0 : n0 ≤ 1000000000000) :
    Calls Tryz.prog 34 #[.pointer (some ⟨Dk, 0, none⟩), .string s, .agg #[.slice a n c, .int .i64 z]] W fun e w' => e = .returned (.tuple #[]) ∧ PutPost W Dk M k D s (.agg #[.slice a n c, .int .i64 z]) r l b (x + (n - n0)) w' := by
  have dlt := hD.lt
  have mlt := Held.lt hM
  have hne : M ≠ Dk := Held.not_blk hM hD
  have hne2 : Dk ≠ M := fun e => hne e.symm
  obtain ⟨a0, c0', z0, hlook⟩ := look_old ho hs
  have HL := Lib.hid hlook
  clear hlook ho
  go_enter Tryz.func34, Tryz.ntmps34
  go_wp2_with fail
  have hD1 := hD.alloc (Obj.cells #[Value.slice a n c, Value.int IntKind.i64 z] 71)
  have hB1 := BlkIs.new W 71 #[Value.slice a n c, Value.int IntKind.i64 z]
  have hM1 := Held.same hM (Below.heap_alloc W (Obj.cells #[Value.slice a n c, Value.int IntKind.i64 z] 71) M mlt)
  have hT1 := (Tn.refl (fun i => i = Dk ∨ i = M) W).alloc (Obj.cells #[Value.slice a n c, Value.int IntKind.i64 z] 71)
  generalize W.alloc (Obj.cells #[Value.slice a n c, Value.int IntKind.i64 z] 71) = Wa at *
  refine still_tail 19 (by kernel_rfl) (by kernel_rfl) (fun W1 hk1 => ?_)
  have hD2 := hk1.blk hD1
  have hB2 := hk1.blk hB1
  have hM2 := Held.same hM1 (congrArg (·[M]?) hk1.1)
  have c0 := hD2.cell 0
  have c2 := hD2.cell 2
  have b0 := hB2.cell 0
  have f2 := hD2.froz 2
  have hl := HL.out W1 M k hM2
  have hfd : ∀ w (v u : Value), (Instr.field 71 (.agg #[v, u]) 0).run Tryz.prog w = .ok v w := fun _ _ _ => by kernel_rfl
  simp only [List.take_succ_cons, List.take_zero, List.drop_succ_cons, List.drop_zero]
  repeat still_step
  refine wpStill_nil ?_
  go_wp2_with fail
  have hD3 : BlkIs (W1.setCell ⟨Dk, 2, none⟩ (.int .i64 (x + (n - n0)))) Dk 55 #[.map (some M), r, .int .i64 (x + (n - n0)), l, b] := by
    have := hD2.put 2 (.int .i64 (x + (n - n0)))
    simpa using this
  have hB3 := hB2.far (x := ⟨Dk, 2, none⟩) (by show W.heap.size ≠ Dk; omega) (.int .i64 (x + (n - n0)))
  have hM3 := Held.same hM2 (Below.heap_setCell W1 ⟨Dk, 2, none⟩ (.int .i64 (x + (n - n0))) M hne)
  have hT3 := (hT1.alk hk1).setCell (x := ⟨Dk, 2, none⟩) (.inl (.inl rfl)) (.int .i64 (x + (n - n0)))
  clear hT1 hD1 hB1 hM1 hk1 hD2 hB2 hM2 c0 c2 b0 f2 hl
  generalize W1.setCell ⟨Dk, 2, none⟩ (.int .i64 (x + (n - n0))) = Wb at *
  refine still_tail 6 (by kernel_rfl) (by kernel_rfl) (fun W4 hk4 => ?_)
  have hD4 := hk4.blk hD3
  have hB4 := hk4.blk hB3
  have hM4 := Held.same hM3 (congrArg (·[M]?) hk4.1)
  have c0 := hD4.cell 0
  have b0 := hB4.cell 0
  have b1 := hB4.cell 1
  obtain ⟨W5, hrun, hM5, hg5⟩ := held_put hM4 Tryz.underlying9 Tryz.underlying53 hs hk (.agg #[.slice a n c, .int .i64 z])
  have hD5 := hD4.grown hg5 (fun e => hne (by injection e))
  have hT5 := (hT3.alk hk4).grown hg5 (fun g e => .inl (.inr (by injection e with e; exact e.symm)))
  simp only [List.take_succ_cons, List.take_zero, List.drop_succ_cons, List.drop_zero]
  repeat still_step
  refine wpStill_nil ?_
  go_wp2_with fail
  go_end0
  exact ⟨rfl, hD5, hM5, hT5⟩
end Go.Proofs.YtidadjlhnlmfkaaGreatDoor
/- The disk's small calls: made, Down, refuse, nothing, change, at whatever state. Conditions: as stated at each. -/
namespace Go.Proofs.YtidadjlhnlmfkaaGreatDoor
set_option maxRecDepth 100000
open Go.RowKit Go
set_option maxHeartbeats 400000 in
theorem made_any (W : World) (Dk M : Nat) (c0 : W.cell? ⟨Dk, 0, none⟩ = some (.map (some M))) :
    Calls Tryz.prog 32 #[.pointer (some ⟨Dk, 0, none⟩)] W fun e w' => e = .returned (.bool true) ∧ W = w' := by
  have hn : ∀ (w : World) (r : Option Nat), (binOp .neq 53 (.map r) (.map none)).run Tryz.prog w = .ok (.bool (!r.isNone)) w := fun w r => run_neq_map_nil w _ _ _ r Tryz.underlying53
  go_enter Tryz.func32, Tryz.ntmps32
  go_wp2_with fail
  go_ret
  exact ⟨rfl, rfl⟩
set_option maxHeartbeats 400000 in
theorem made_nil (W : World) : Calls Tryz.prog 32 #[.pointer none] W fun e w' => e = .returned (.bool false) ∧ W = w' := by
  go_enter Tryz.func32, Tryz.ntmps32
  go_wp2_with fail
  go_ret
  exact ⟨rfl, rfl⟩
set_option maxHeartbeats 400000 in
theorem down_any (W : World) (Dk M : Nat) (b : Bool) (c0 : W.cell? ⟨Dk, 0, none⟩ = some (.map (some M))) (c4 : W.cell? ⟨Dk, 4, none⟩ = some (.bool b)) :
    Calls Tryz.prog 20 #[.pointer (some ⟨Dk, 0, none⟩)] W fun e w' => e = .returned (.bool b) ∧ W = w' := by
  go_enter Tryz.func20, Tryz.ntmps20
  go_wp2_with (go_at_call 32; refine (made_any _ Dk M c0).mono ?_; rintro e w' ⟨rfl, rfl⟩)
  go_ret
  exact ⟨rfl, rfl⟩
set_option maxHeartbeats 400000 in
theorem down_nil (W : World) : Calls Tryz.prog 20 #[.pointer none] W fun e w' => e = .returned (.bool true) ∧ W = w' := by
  go_enter Tryz.func20, Tryz.ntmps20
  go_wp2_with (go_at_call 32; refine (made_nil _).mono ?_; rintro e w' ⟨rfl, rfl⟩)
  go_ret
  exact ⟨rfl, rfl⟩
set_option maxHeartbeats 400000 in
theorem nothing_any (W : World) : Calls Tryz.prog 79 #[] W fun e w' => e = .returned (.tuple #[]) ∧ W = w' := by
  go_enter Tryz.func79, Tryz.ntmps79
  go_wp2_with fail
  go_end0
  exact ⟨rfl, rfl⟩
/-- the closures are taken by what they do. -/
def Does (f : Nat) (ps : Array Value) (W : World) (Q : World → Prop) : Prop := Calls Tryz.prog f ps W fun e w' => e = .returned (.tuple #[]) ∧ Q w'
set_option maxHeartbeats 400000 in
/-- no change is the last: the whole is done. -/
theorem change_zero (f : Nat) (ps : Array Value) (other : Value) (W : World) (Dk : Nat) (x : Int) (hx : ¬ 1 ≤ x) (c3 : W.cell? ⟨Dk, 3, none⟩ = some (.int .i64 x)) (Q : World → Prop) (hf : ∀ w, (callFunc f ps).run Tryz.prog w = .ok (.enter f ps) w)
    (h : Does f ps W Q) :
    Calls Tryz.prog 58 #[.pointer (some ⟨Dk, 0, none⟩), .func (.func f) #[] ps, other] W fun e w' => e = .returned (.int .i64 0) ∧ Q w' := by
  have h' := Lib.hid h
  clear h
  have h1 : (x == 1) = false := by simp; omega
  have h2 : ¬ 1 < x := by omega
  go_enter Tryz.func58, Tryz.ntmps58
  go_wp2_with fail
  refine h'.out.mono ?_
  rintro e w' ⟨rfl, hq⟩
  go_wp2_with fail
  go_ret
  exact ⟨rfl, hq⟩
set_option maxHeartbeats 400000 in
/-- more changes are let: one fewer, and the whole is done. -/
theorem change_more (f : Nat) (ps : Array Value) (other : Value) (W : World) (Dk : Nat) (x : Int) (hx : 1 < x) (hx2 : x ≤ 9223372036854775807) (c3 : W.cell? ⟨Dk, 3, none⟩ = some (.int .i64 x)) (f3 : W.frozen? ⟨Dk, 3, none⟩ = false) (Q : World → Prop) (hf : ∀ w, (callFunc f ps).run Tryz.prog w = .ok (.enter f ps) w)
    (h : Does f ps (W.setCell ⟨Dk, 3, none⟩ (.int .i64 (x - 1))) Q) :
    Calls Tryz.prog 58 #[.pointer (some ⟨Dk, 0, none⟩), .func (.func f) #[] ps, other] W fun e w' => e = .returned (.int .i64 0) ∧ Q w' := by
  have h' := Lib.hid h
  clear h
  have h1 : (x == 1) = false := by simp; omega
  go_enter Tryz.func58, Tryz.ntmps58
  go_wp2_with fail
  refine h'.out.mono ?_
  rintro e w' ⟨rfl, hq⟩
  go_wp2_with fail
  go_ret
  exact ⟨rfl, hq⟩
set_option maxHeartbeats 400000 in
/-- the last change: it is cut, and the disk is down behind it. -/
theorem change_last (f : Nat) (ps : Array Value) (whole : Value) (W : World) (Dk : Nat) (c3 : W.cell? ⟨Dk, 3, none⟩ = some (.int .i64 1)) (Q : World → Prop) (hf : ∀ w, (callFunc f ps).run Tryz.prog w = .ok (.enter f ps) w)
    (h : Does f ps W (fun w' => (∃ u, w'.cell? ⟨Dk, 4, none⟩ = some (.bool u)) ∧ w'.frozen? ⟨Dk, 4, none⟩ = false ∧ Q (w'.setCell ⟨Dk, 4, none⟩ (.bool true)))) :
    Calls Tryz.prog 58 #[.pointer (some ⟨Dk, 0, none⟩), whole, .func (.func f) #[] ps] W fun e w' => e = .returned (.int .i64 10) ∧ Q w' := by
  have h' := Lib.hid h
  clear h
  go_enter Tryz.func58, Tryz.ntmps58
  go_wp2_with fail
  refine h'.out.mono ?_
  rintro e w' ⟨rfl, ⟨u, c4⟩, f4, hq⟩
  have HQ := Lib.hid hq
  clear hq
  go_wp2_with fail
  go_ret
  exact ⟨rfl, HQ.out⟩
/-- a slice of names. -/
def Strs (w : World) (A : Option Addr) (ss : List ByteArray) : Prop := ∀ k s, ss[k]? = some s → s.size ≤ maxLen ∧ ∃ ad, A = some ad ∧ w.cell? (ad.add k) = some (.string s)
end Go.Proofs.YtidadjlhnlmfkaaGreatDoor
