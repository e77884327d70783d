/- (*disk.Disk).put at whatever files there are. Conditions: as stated at each. -/
import Derived.Test.YtidadjlhnlmfkaaGreatDoorDkMem
namespace Go.Proofs.YtidadjlhnlmfkaaGreatDoor
set_option maxRecDepth 100000
open Go.RowKit Go
/-- the disk's map reads as D. -/
def MapIs (w : World) (M n : Nat) (D : DataW Value) : Prop := Held w Tryz.prog 9 M n D
/-- by that name stands nothing (n0 = 0), or a file of n0 bytes. -/
def OldIs (D : DataW Value) (s : ByteArray) (n0 : Nat) : Prop := (at_ D s = none ∧ n0 = 0) ∨ ∃ a c z, at_ D s = some (.agg #[.slice a n0 c, .int .i64 z])
theorem zero58 (w : World) : (zeroValue 71).run Tryz.prog w = .ok (.agg #[.slice none 0 0, .int .i64 0]) w := by kernel_rfl
theorem look_old {D : DataW Value} {s : ByteArray} {n0 : Nat} (h : OldIs D s n0) (hs : s.size ≤ maxLen) : ∃ a c z, ∀ (w : World) (M n : Nat), MapIs w M n D →
    (Instr.lookup 53 (.map (some M)) (.string s) false).run Tryz.prog w = .ok (.agg #[.slice a n0 c, .int .i64 z]) w := by
  rcases h with ⟨h, rfl⟩ | ⟨a, c, z, h⟩
  · exact ⟨none, 0, 0, fun w M n hM => by rw [held_look hM Tryz.underlying9 Tryz.underlying53 hs (zero58 w) false, h]; rfl⟩
  · exact ⟨a, c, z, fun w M n hM => by rw [held_look hM Tryz.underlying9 Tryz.underlying53 hs (zero58 w) false, h]; rfl⟩
def PutPost (W : World) (Dk M n : Nat) (D : DataW Value) (s : ByteArray) (v r l b : Value) (x : Int) (w' : World) : Prop :=
  BlkIs w' Dk 55 #[.map (some M), r, .int .i64 x, l, b] ∧ MapIs w' M (n + 1) (D.put (kOf s) (.held v)) ∧ Tn (fun i => i = Dk ∨ i = M) W w'
set_option maxRecDepth 20000 in
set_option maxHeartbeats 800000 in
theorem put_any (W : World) (Dk M k : Nat) (D : DataW Value) (s : ByteArray) (r l b : Value) (x : Int) (n0 : Nat) (a : Option Addr) (n c : Nat) (z : Int)
    (hD : BlkIs W Dk 55 #[.map (some M), r, .int .i64 x, l, b]) (hM : MapIs W M k D) (ho : OldIs D s n0) (hs : s.size ≤ maxLen) (hk : k < maxLen) (hx : 0 ≤ x) (hx2 : x ≤ 1000000000000) (hn : n ≤ 1000000000000) (hn0 : n0 ≤ 1000000000000) :
    Calls Tryz.prog 34 #[.pointer (some ⟨Dk, 0, none⟩), .string s, .agg #[.slice a n c, .int .i64 z]] W fun e w' => e = .returned (.tuple #[]) ∧ PutPost W Dk M k D s (.agg #[.slice a n c, .int .i64 z]) r l b (x + (n - n0)) w' := by
  have dlt := hD.lt
  have mlt := Held.lt hM
  have hne : M ≠ Dk := Held.not_blk hM hD
  have hne2 : Dk ≠ M := fun e => hne e.symm
  obtain ⟨a0, c0', z0, hlook⟩ := look_old ho hs
  have HL := Lib.hid hlook
  clear hlook ho
  go_enter Tryz.func34, Tryz.ntmps34
  go_wp2_with fail
  have hD1 := hD.alloc (Obj.cells #[Value.slice a n c, Value.int IntKind.i64 z] 71)
  have hB1 := BlkIs.new W 71 #[Value.slice a n c, Value.int IntKind.i64 z]
  have hM1 := Held.same hM (Below.heap_alloc W (Obj.cells #[Value.slice a n c, Value.int IntKind.i64 z] 71) M mlt)
  have hT1 := (Tn.refl (fun i => i = Dk ∨ i = M) W).alloc (Obj.cells #[Value.slice a n c, Value.int IntKind.i64 z] 71)
  generalize W.alloc (Obj.cells #[Value.slice a n c, Value.int IntKind.i64 z] 71) = Wa at *
  refine still_tail 19 (by kernel_rfl) (by kernel_rfl) (fun W1 hk1 => ?_)
  have hD2 := hk1.blk hD1
  have hB2 := hk1.blk hB1
  have hM2 := Held.same hM1 (congrArg (·[M]?) hk1.1)
  have c0 := hD2.cell 0
  have c2 := hD2.cell 2
  have b0 := hB2.cell 0
  have f2 := hD2.froz 2
  have hl := HL.out W1 M k hM2
  have hfd : ∀ w (v u : Value), (Instr.field 71 (.agg #[v, u]) 0).run Tryz.prog w = .ok v w := fun _ _ _ => by kernel_rfl
  simp only [List.take_succ_cons, List.take_zero, List.drop_succ_cons, List.drop_zero]
  repeat still_step
  refine wpStill_nil ?_
  go_wp2_with fail
  have hD3 : BlkIs (W1.setCell ⟨Dk, 2, none⟩ (.int .i64 (x + (n - n0)))) Dk 55 #[.map (some M), r, .int .i64 (x + (n - n0)), l, b] := by
    have := hD2.put 2 (.int .i64 (x + (n - n0)))
    simpa using this
  have hB3 := hB2.far (x := ⟨Dk, 2, none⟩) (by show W.heap.size ≠ Dk; omega) (.int .i64 (x + (n - n0)))
  have hM3 := Held.same hM2 (Below.heap_setCell W1 ⟨Dk, 2, none⟩ (.int .i64 (x + (n - n0))) M hne)
  have hT3 := (hT1.alk hk1).setCell (x := ⟨Dk, 2, none⟩) (.inl (.inl rfl)) (.int .i64 (x + (n - n0)))
  clear hT1 hD1 hB1 hM1 hk1 hD2 hB2 hM2 c0 c2 b0 f2 hl
  generalize W1.setCell ⟨Dk, 2, none⟩ (.int .i64 (x + (n - n0))) = Wb at *
  refine still_tail 6 (by kernel_rfl) (by kernel_rfl) (fun W4 hk4 => ?_)
  have hD4 := hk4.blk hD3
  have hB4 := hk4.blk hB3
  have hM4 := Held.same hM3 (congrArg (·[M]?) hk4.1)
  have c0 := hD4.cell 0
  have b0 := hB4.cell 0
  have b1 := hB4.cell 1
  obtain ⟨W5, hrun, hM5, hg5⟩ := held_put hM4 Tryz.underlying9 Tryz.underlying53 hs hk (.agg #[.slice a n c, .int .i64 z])
  have hD5 := hD4.grown hg5 (fun e => hne (by injection e))
  have hT5 := (hT3.alk hk4).grown hg5 (fun g e => .inl (.inr (by injection e with e; exact e.symm)))
  simp only [List.take_succ_cons, List.take_zero, List.drop_succ_cons, List.drop_zero]
  repeat still_step
  refine wpStill_nil ?_
  go_wp2_with fail
  go_end0
  exact ⟨rfl, hD5, hM5, hT5⟩
end Go.Proofs.YtidadjlhnlmfkaaGreatDoor
