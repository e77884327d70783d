/- Contracts of segment, Of: the program's, the document's. Conditions: as stated at each. -/
import Derived.Test.YtlbmieeimnjncaaDoorSeMem
import Derived.Test.YtlbmieeimnjncaaDoorMkIn
import Derived.Test.YtlbmieeimnjncaaDoorMkKey
namespace Go.Proofs.YtlbmieeimnjncaaDoor
set_option maxRecDepth 100000
open Go.RowKit Go
theorem blk_rng {w : World} {g : Nat} {t : TypeId} {l : List Value} (h : BlkIs w g t l.toArray) : w.rangeAt g 0 l := fun j v hj => by
  rw [Nat.zero_add]
  exact h.get hj
theorem build_ops {P : Program} {ops : Array Oper} {rest : List Oper} {o : Oper} {a : Act} {w : World} {Q : Exit → Act → World → Prop} (t : TypeId) (parts : Array (Nat × Operand)) (vs : Array (Nat × Value)) (v : Value)
    (hrun : (Instr.build t vs).run P w = .ok v w) (ho : o.op = .build t parts) (hx : (parts.map fun (i, x) => (i, a.eval x)) = vs) (hw : Region.wanted o (yielded ops a.tmps) = true)
    (h : wpList P ops Q rest (a.put o.dst v) w) : wpList P ops Q (o :: rest) a w := by
  refine BigFrame.wpList_want hw fun K hK => ?_
  unfold Oper.wp execOp
  simp only [ho, hx, Sem.run_bind, hrun, Result.andThen, Sem.run_pure]
  exact hK _ _ h
theorem yields_build {P : Program} {ops : Array Oper} {S : World → Prop} {o : Oper} {a : Act} (t : TypeId) (parts : Array (Nat × Operand)) (vs : Array (Nat × Value)) (v : Value)
    (hrun : ∀ w, (Instr.build t vs).run P w = .ok v w) (ho : o.op = .build t parts) (hx : (parts.map fun (i, x) => (i, a.eval x)) = vs) (hw : Region.wanted o (yielded ops a.tmps) = true) : YieldsIf P ops S o v a :=
  Or.inl ⟨hw, fun w _ => by
    unfold execOp
    simp only [ho, hx, Sem.run_bind, hrun, Result.andThen, Sem.run_pure]⟩
theorem sc_zero : (sc zeroS).toArray.size = 66 := by kernel_rfl
/-- a seal in a block, beside an error's number. -/
theorem ret_sl {P : Program} {fn : Func} {R : Ending → World → Prop} {a : Act} {w : World} {p q : Tmp} {ty : TypeId} (hr : fn.results = #[.cell p ty, .tmp q]) (g : Nat) (t : TypeId) (cs : Array Value) (v : Value) (hg : BlkIs w g t cs) (d : TypeDesc)
    (hp : a.tmps.getD p undef = .pointer (some ⟨g, 0, none⟩)) (hq : a.tmps.getD q undef = v) (hu : P.underlying ty = some d) (hd : (match d with | .struct _ | .array _ _ => true | _ => false) = true) (hi : (P.info? ty).map (·.size) = some cs.size)
    (hde : a.defers = []) (hR : R (.returned (.tuple #[.agg cs, v])) w) : bodyPost P fn R .ret a w := ret_blk3 hr g t cs v hg d hp hq hu hd hi hde hR
end Go.Proofs.YtlbmieeimnjncaaDoor
