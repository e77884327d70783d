/- The methods of the heap of lists through an interface. Conditions: as stated at each. -/
import Derived.Test.YtkpolakdamiiiaaPsLess
namespace Go.Proofs.Ytkpolakdamiiiaa
set_option maxRecDepth 100000
namespace Ps
open Go.RowKit Go
attribute [local go_sem] Oper.semAt_some
/-- a method of a pointer's, by its row. -/
def MRow (name : String) (f : FuncId) (b : Bool) : Prop := ((Try.prog.info? 43).bind fun i => (i.methods.find? (·.name == name)).map fun m => (m.path.toList, m.func)) = some ([], some (f, b))
theorem MRow.out {name : String} {f : FuncId} {b : Bool} (h : MRow name f b) : ∃ i m, Try.prog.info? 43 = some i ∧ i.methods.find? (·.name == name) = some m ∧ m.path = #[] ∧ m.func = some (f, b) := by
  unfold MRow at h
  rcases hi : Try.prog.info? 43 with _ | i
  · rw [hi] at h; cases h
  · rw [hi] at h
    rcases hm : i.methods.find? (·.name == name) with _ | m
    · simp [hm] at h
    · simp [hm] at h
      exact ⟨i, m, rfl, hm, h.1, h.2⟩
theorem wrap_some (T : Array TypeId) (t : TypeId) (a : Addr) (x y : String) : Builtin.ssaWrapNilChk_ T t #[.pointer (some a), strVal x, strVal y] = pure (.pointer (some a)) := rfl
theorem run_prog (w : World) : program.run Try.prog w = .ok Try.prog w := rfl
theorem m_ptr {name : String} {f : FuncId} (h : MRow name f true) (P : Nat) (w : World) : (method 174 43 (.pointer (some ⟨P, 0, none⟩)) name).run Try.prog w = .ok (f, .pointer (some ⟨P, 0, none⟩)) w := by
  obtain ⟨i, m, hi, hm, hp, hf⟩ := h.out
  rw [method]
  simp only [typeInfo, Sem.run_bind, run_prog, hi, Sem.run_pure, Result.andThen_ok, hm, hp, hf, follow, receiverAt, run_underlying Try.underlying43, Place.get]
theorem m_val {name : String} {f : FuncId} (h : MRow name f false) {P : Nat} {w : World} {v : Value} (hv : BlkIs w P 44 #[v]) : (method 174 43 (.pointer (some ⟨P, 0, none⟩)) name).run Try.prog w = .ok (f, v) w := by
  obtain ⟨i, m, hi, hm, hp, hf⟩ := h.out
  rw [method]
  simp only [typeInfo, Sem.run_bind, run_prog, hi, Sem.run_pure, Result.andThen_ok, hm, hp, hf, follow, receiverAt, run_underlying Try.underlying43, Place.get]
  have hl : (loadVar 44 ⟨P, 0, none⟩).run Try.prog w = .ok v w := by
    have hc := (BlkIs.cell hv 0).trans (rfl : _ = some v)
    unfold loadVar
    simp only [isAgg, Sem.run_bind, run_underlying Try.underlying44, Sem.run_pure, Result.andThen_ok, Bool.false_eq_true, if_false]
    go_simp
  rw [if_pos (by rfl)]
  simp only [Sem.run_bind, wrap_some, Sem.run_pure, Result.andThen_ok, asAddr, hl]
theorem row_len : MRow "Len" 29 false := by unfold MRow; kernel_rfl
theorem row_less : MRow "Less" 53 false := by unfold MRow; kernel_rfl
theorem row_swap : MRow "Swap" 56 false := by unfold MRow; kernel_rfl
theorem row_push : MRow "Push" 55 true := by unfold MRow; kernel_rfl
theorem row_pop : MRow "Pop" 54 true := by unfold MRow; kernel_rfl
end Ps
end Go.Proofs.Ytkpolakdamiiiaa
