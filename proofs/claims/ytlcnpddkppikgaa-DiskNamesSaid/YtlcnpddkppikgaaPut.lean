/- (*disk.Disk).put at the example's states. Conditions: as stated at each. -/
import Derived.Test.YtlcnpddkppikgaaRegs
namespace Go.Proofs.Ytlcnpddkppikgaa
open Go.RowKit Go
/-- what the map says of the example's file: there is none (n = 0), or it is the struct of a slice of n bytes and a number. -/
def FileIs (es : Array MapEntry) (clk n : Nat) : Prop := (es = #[] ∧ n = 0) ∨ ∃ a c s born, born < clk ∧ es = #[ent (.agg #[.slice a n c, .int .i64 s]) born]
def PutPost (W : World) (D M : Nat) (r l b : Value) (x : Int) (a : Option Addr) (n c : Nat) (s : Int) (w' : World) : Prop :=
  BlkIs w' D 38 #[.map (some M), r, .int .i64 x, l, b] ∧ (∃ born clk', born < clk' ∧ w'.heap[M]? = some (.map #[ent (.agg #[.slice a n c, .int .i64 s]) born] clk')) ∧ Tn (fun i => i = D ∨ i = M) W w'
set_option maxHeartbeats 800000 in
theorem put_any (W : World) (D M : Nat) (r l b : Value) (x : Int) (es : Array MapEntry) (clk n0 : Nat) (a : Option Addr) (n c : Nat) (s : Int)
    (hD : BlkIs W D 38 #[.map (some M), r, .int .i64 x, l, b]) (hM : W.heap[M]? = some (.map es clk)) (hf : FileIs es clk n0) (hx : 0 ≤ x) (hx2 : x ≤ 1000) (hn : n ≤ 1000) (hn0 : n0 ≤ 1000) :
    Calls Try.prog 17 #[.pointer (some ⟨D, 0, none⟩), .string nA, .agg #[.slice a n c, .int .i64 s]] W fun e w' => e = .returned (.tuple #[]) ∧ PutPost W D M r l b (x + (n - n0)) a n c s w' := by
  have dlt := hD.lt
  have mlt : M < W.heap.size := (Array.getElem?_eq_some_iff.1 hM).1
  have hne : M ≠ D := fun e => by subst e; unfold BlkIs at hD; rw [hM] at hD; cases hD
  have hne2 : D ≠ M := fun e => hne e.symm
  rcases hf with ⟨rfl, rfl⟩ | ⟨a0, c0', s0, born, hbc, rfl⟩
  · go_enter Try.func17, Try.ntmps17
    go_wp2_with fail
    have hD1 := hD.alloc (Obj.cells #[Value.slice a n c, Value.int IntKind.i64 s] 41)
    have hB1 := BlkIs.new W 41 #[Value.slice a n c, Value.int IntKind.i64 s]
    have hM1 := (Below.heap_alloc W (Obj.cells #[Value.slice a n c, Value.int IntKind.i64 s] 41) M mlt).trans hM
    have hT1 := (Tn.refl (fun i => i = D ∨ i = M) W).alloc (Obj.cells #[Value.slice a n c, Value.int IntKind.i64 s] 41)
    generalize W.alloc (Obj.cells #[Value.slice a n c, Value.int IntKind.i64 s] 41) = Wa at *
    refine still_tail 19 (by kernel_rfl) (by kernel_rfl) (fun W1 hk => ?_)
    have hD2 := hk.blk hD1
    have hB2 := hk.blk hB1
    have hM2 := hk.at_ hM1
    have c0 := hD2.cell 0
    have c2 := hD2.cell 2
    have b0 := hB2.cell 0
    have f2 := hD2.froz 2
    have hl := lk_none W1 M clk hM2 false
    have hfd : ∀ w (v u : Value), (Instr.field 41 (.agg #[v, u]) 0).run Try.prog w = .ok v w := fun _ _ _ => by kernel_rfl
    simp only [List.take_succ_cons, List.take_zero, List.drop_succ_cons, List.drop_zero]
    repeat still_step
    refine wpStill_nil ?_
    go_wp2_with fail
    have hD3 : BlkIs (W1.setCell ⟨D, 2, none⟩ (.int .i64 (x + n))) D 38 #[.map (some M), r, .int .i64 (x + (n - (0 : Nat))), l, b] := by
      have := hD2.put 2 (.int .i64 (x + n))
      simpa using this
    have hB3 := hB2.far (x := ⟨D, 2, none⟩) (by show W.heap.size ≠ D; omega) (.int .i64 (x + n))
    have hM3 := (Below.heap_setCell W1 ⟨D, 2, none⟩ (.int .i64 (x + n)) M hne).trans hM2
    have hT3 := (hT1.alk hk).setCell (x := ⟨D, 2, none⟩) (.inl (.inl rfl)) (.int .i64 (x + n))
    clear hT1 hD1 hB1 hM1 hk hD2 hB2 hM2 c0 c2 b0 f2 hl
    generalize W1.setCell ⟨D, 2, none⟩ (.int .i64 (x + n)) = Wb at *
    refine still_tail 6 (by kernel_rfl) (by kernel_rfl) (fun W4 hk => ?_)
    have hD4 := hk.blk hD3
    have hB4 := hk.blk hB3
    have hM4 := hk.at_ hM3
    have c0 := hD4.cell 0
    have b0 := hB4.cell 0
    have b1 := hB4.cell 1
    obtain ⟨W5, hrun, hM5, hg5⟩ := up_none W4 M clk (.agg #[.slice a n c, .int .i64 s]) hM4
    have hD5 : BlkIs W5 D 38 #[.map (some M), r, .int .i64 (x + (n - (0 : Nat))), l, b] := (hg5.block D hD4.lt (fun e => hne2 (by injection e))).trans hD4
    have hT5 := (hT3.alk hk).grown hg5 (fun g e => .inl (.inr (by injection e with e; exact e.symm)))
    simp only [List.take_succ_cons, List.take_zero, List.drop_succ_cons, List.drop_zero]
    repeat still_step
    refine wpStill_nil ?_
    go_wp2_with fail
    go_end0
    exact ⟨rfl, hD5, ⟨_, _, Nat.lt_succ_self _, hM5⟩, hT5⟩
  · go_enter Try.func17, Try.ntmps17
    go_wp2_with fail
    have hD1 := hD.alloc (Obj.cells #[Value.slice a n c, Value.int IntKind.i64 s] 41)
    have hB1 := BlkIs.new W 41 #[Value.slice a n c, Value.int IntKind.i64 s]
    have hM1 := (Below.heap_alloc W (Obj.cells #[Value.slice a n c, Value.int IntKind.i64 s] 41) M mlt).trans hM
    have hT1 := (Tn.refl (fun i => i = D ∨ i = M) W).alloc (Obj.cells #[Value.slice a n c, Value.int IntKind.i64 s] 41)
    generalize W.alloc (Obj.cells #[Value.slice a n c, Value.int IntKind.i64 s] 41) = Wa at *
    refine still_tail 19 (by kernel_rfl) (by kernel_rfl) (fun W1 hk => ?_)
    have hD2 := hk.blk hD1
    have hB2 := hk.blk hB1
    have hM2 := hk.at_ hM1
    have c0 := hD2.cell 0
    have c2 := hD2.cell 2
    have b0 := hB2.cell 0
    have f2 := hD2.froz 2
    have hl := lk_some W1 M clk _ _ hM2 false
    have hfd : ∀ w (v u : Value), (Instr.field 41 (.agg #[v, u]) 0).run Try.prog w = .ok v w := fun _ _ _ => by kernel_rfl
    simp only [List.take_succ_cons, List.take_zero, List.drop_succ_cons, List.drop_zero]
    repeat still_step
    refine wpStill_nil ?_
    go_wp2_with fail
    have hD3 : BlkIs (W1.setCell ⟨D, 2, none⟩ (.int .i64 (x + (n - n0)))) D 38 #[.map (some M), r, .int .i64 (x + (n - n0)), l, b] := by
      have := hD2.put 2 (.int .i64 (x + (n - n0)))
      simpa using this
    have hB3 := hB2.far (x := ⟨D, 2, none⟩) (by show W.heap.size ≠ D; omega) (.int .i64 (x + (n - n0)))
    have hM3 := (Below.heap_setCell W1 ⟨D, 2, none⟩ (.int .i64 (x + (n - n0))) M hne).trans hM2
    have hT3 := (hT1.alk hk).setCell (x := ⟨D, 2, none⟩) (.inl (.inl rfl)) (.int .i64 (x + (n - n0)))
    clear hT1 hD1 hB1 hM1 hk hD2 hB2 hM2 c0 c2 b0 f2 hl
    generalize W1.setCell ⟨D, 2, none⟩ (.int .i64 (x + (n - n0))) = Wb at *
    refine still_tail 6 (by kernel_rfl) (by kernel_rfl) (fun W4 hk => ?_)
    have hD4 := hk.blk hD3
    have hB4 := hk.blk hB3
    have hM4 := hk.at_ hM3
    have c0 := hD4.cell 0
    have b0 := hB4.cell 0
    have b1 := hB4.cell 1
    obtain ⟨W5, hrun, hM5, hg5⟩ := up_some W4 M clk (.agg #[.slice a n c, .int .i64 s]) _ _ hM4
    have hD5 : BlkIs W5 D 38 #[.map (some M), r, .int .i64 (x + (n - n0)), l, b] := (hg5.block D hD4.lt (fun e => hne2 (by injection e))).trans hD4
    have hT5 := (hT3.alk hk).grown hg5 (fun g e => .inl (.inr (by injection e with e; exact e.symm)))
    simp only [List.take_succ_cons, List.take_zero, List.drop_succ_cons, List.drop_zero]
    repeat still_step
    refine wpStill_nil ?_
    go_wp2_with fail
    go_end0
    exact ⟨rfl, hD5, ⟨_, _, hbc, hM5⟩, hT5⟩
end Go.Proofs.Ytlcnpddkppikgaa
