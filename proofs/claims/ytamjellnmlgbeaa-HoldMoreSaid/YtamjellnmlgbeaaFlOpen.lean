/- What a parameter reads as. Conditions: none. -/
import Derived.Test.YtamjellnmlgbeaaFlMem
import Derived.Test.YtamjellnmlgbeaaRows
import Derived.ProofKit
import Derived.OpenShut
import Derived.ChangeOld
import Derived.Deep.Matrix
namespace Go.Proofs.Ytamjellnmlgbeaa
set_option maxRecDepth 100000
open Go.ChangeShapes Go.WideShapes Go.ChangeAt Go.RowKit
theorem own : ownKnob Try.prog.godebug = none := by kernel_rfl
theorem laidOut : laidOutB Try.prog = true := by kernel_rfl
theorem wf_byte {n : Int} (h : (Lit.int .u8 n).wf = true) : n = ((UInt8.ofNat n.toNat).toNat : Int) := by
  have h2 : 0 ≤ n ∧ n ≤ 255 := by
    simpa [Lit.wf, IntKind.min, IntKind.max, IntKind.signed, IntKind.bits] using h
  simp
  omega
theorem bytes_of {W : World} {x : Addr} {len : Nat} {zs : List Int} (hl : len ≤ zs.length) (hcell : ∀ i, i < len → W.cell? (x.add i) = some (.int .u8 (zs.getD i 0))) (hw : ∀ n ∈ zs, (Lit.int .u8 n).wf = true) :
    ∃ l : List UInt8, l.length = len ∧ Bts W W.heap.size (some x) l := by
  refine ⟨(zs.take len).map fun n => UInt8.ofNat n.toNat, by simp; omega, fun j u hj => ?_⟩
  have hlt : j < len := by
    have := (List.getElem?_eq_some_iff.1 hj).1
    simp [bv] at this
    omega
  have hc := hcell j hlt
  have hz : j < zs.length := by omega
  have hu : u = .int .u8 (zs.getD j 0) := by
    simp [bv, hlt, hz] at hj
    rw [← hj]
    congr 1
    rw [List.getD, List.getElem?_eq_getElem hz, Option.getD_some]
    have h := wf_byte (hw zs[j] (List.getElem_mem hz))
    simp at h
    omega
  refine ⟨x, rfl, ?_, by rw [hu]; exact hc⟩
  have := World.block_lt_of_cell? W _ hc
  rwa [blk_add] at this
/-- a parameter of bytes. -/
def IsB (W : World) (v : Value) : Prop := ∃ A c l, v = .slice A l.length c ∧ Bts W W.heap.size A l ∧ l.length ≤ c ∧ c ≤ maxLen
/-- a parameter of lists of bytes. -/
def IsR (W : World) (v : Value) : Prop := ∃ A c ll, v = .slice A ll.length c ∧ Rws W W.heap.size A ll ∧ ll.length ≤ c ∧ c ≤ maxLen
section
variable {H : Type} {enc : TypeId × Value → H}
set_option maxRecDepth 100000 in
theorem open_b {W : World} {v : Value} {d : DataW H} {p : List MemPlace} (hv : Value.okWide Try.prog W .any 0 54 v) (h : DataW.Trod enc Try.prog W 0 (fun _ => true) true 54 v d p) : IsB W v := by
  obtain ⟨a0, len0, cap0, rfl⟩ := okWide_slice Try.underlying54 hv
  obtain ⟨fuel, hf⟩ := h
  rcases open_ints Try.underlying54 Try.underlying5 (by kernel_rfl) hf with ⟨hcs, _⟩ | ⟨x, l, c, zs, hcs, _, hl, hm, hz, _, hcell, hwz⟩
  · simp [Value.cells] at hcs
    obtain ⟨rfl, rfl, rfl⟩ := hcs
    exact ⟨none, 0, [], rfl, Cs.nil, by simp, by unfold maxLen; omega⟩
  · simp [Value.cells] at hcs
    obtain ⟨rfl, rfl, rfl⟩ := hcs
    have hz' : zs.length = cap0 := by simpa using hz
    obtain ⟨l, rfl, hb⟩ := bytes_of (len := len0) (by omega) (fun i hi => hcell i (by omega)) hwz
    exact ⟨_, _, l, rfl, hb, hl, hm⟩
end
end Go.Proofs.Ytamjellnmlgbeaa
