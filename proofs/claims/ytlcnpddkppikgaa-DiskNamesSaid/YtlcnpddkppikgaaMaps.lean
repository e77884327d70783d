/- The map of files with no file, or with the example's one file: what its operations do. Conditions: as stated at each. -/
import Derived.Test.YtlcnpddkppikgaaDisk
import Derived.Maps.Own
namespace Go.Proofs.Ytlcnpddkppikgaa
open Go.RowKit Go
open Go.ChangeMaps (setBlock heap_setBlock_same heap_setBlock_other)
theorem eeA : (nA == nA) = true := by decide +kernel
theorem keyA : keyOf Try.prog 9 (.string nA) = some (.string nA.data.toList) := WideMaps.keyOf_string_mk Try.underlying9 (by decide)
theorem chk (W : World) (b : Bool) : (Instr.checkKey b 10000 9 (.string nA)).run Try.prog W = .ok () W := (Go.Maps.string_keyed Try.underlying9).check W b keyA
def ent (x : Value) (born : Nat) : MapEntry := { key := .string nA, val := x, born := born }
theorem lk_none (W : World) (M clk : Nat) (h : W.heap[M]? = some (.map #[] clk)) (ok : Bool) :
    (Instr.lookup 36 (.map (some M)) (.string nA) ok).run Try.prog W = .ok (if ok then .tuple #[.agg #[.slice none 0 0, .int .i64 0], .bool false] else .agg #[.slice none 0 0, .int .i64 0]) W := by
  have hz : (zeroValue 41).run Try.prog W = .ok (.agg #[.slice none 0 0, .int .i64 0]) W := by kernel_rfl
  cases ok <;> simp [Instr.lookup, run_underlying Try.underlying36, MapKept.run_getObj_map h, chk, Instr.findKey, run_underlying Try.underlying9, Instr.findNow, hz, Result.andThen]
theorem lk_some (W : World) (M clk : Nat) (x : Value) (born : Nat) (h : W.heap[M]? = some (.map #[ent x born] clk)) (ok : Bool) :
    (Instr.lookup 36 (.map (some M)) (.string nA) ok).run Try.prog W = .ok (if ok then .tuple #[x, .bool true] else x) W := by
  cases ok <;> simp [Instr.lookup, run_underlying Try.underlying36, MapKept.run_getObj_map h, chk, Instr.findKey, run_underlying Try.underlying9, Instr.findNow, Instr.sameNow, ent, eeA, Result.andThen]
theorem up_none (W : World) (M clk : Nat) (x : Value) (h : W.heap[M]? = some (.map #[] clk)) :
    ∃ W', (Instr.mapUpdate 36 (.map (some M)) (.string nA) x).run Try.prog W = .ok () W' ∧ W'.heap[M]? = some (.map #[ent x clk] (clk + 1)) ∧ W.grownBy W' (some M) := by
  refine ⟨setBlock W M (.map #[ent x clk] (clk + 1)), ?_, heap_setBlock_same h _, ⟨rfl, rfl, rfl, by simp [setBlock], fun i _ hi => heap_setBlock_other h _ (fun e => hi (by rw [e]))⟩⟩
  simp [Instr.mapUpdate, run_underlying Try.underlying36, MapKept.run_getObj_map h, chk, Instr.findKey, run_underlying Try.underlying9, Instr.findNow, ent, MapKept.run_setObj_map _ h, Result.andThen, setBlock]
theorem up_some (W : World) (M clk : Nat) (x y : Value) (born : Nat) (h : W.heap[M]? = some (.map #[ent y born] clk)) :
    ∃ W', (Instr.mapUpdate 36 (.map (some M)) (.string nA) x).run Try.prog W = .ok () W' ∧ W'.heap[M]? = some (.map #[ent x born] clk) ∧ W.grownBy W' (some M) := by
  refine ⟨setBlock W M (.map #[ent x born] clk), ?_, heap_setBlock_same h _, ⟨rfl, rfl, rfl, by simp [setBlock], fun i _ hi => heap_setBlock_other h _ (fun e => hi (by rw [e]))⟩⟩
  simp [Instr.mapUpdate, run_underlying Try.underlying36, MapKept.run_getObj_map h, chk, Instr.findKey, run_underlying Try.underlying9, Instr.findNow, Instr.sameNow, ent, eeA, Instr.keyThatStays, Instr.sameBits, MapKept.run_setObj_map _ h, Result.andThen, setBlock]
end Go.Proofs.Ytlcnpddkppikgaa
