/- FlOpen. Conditions: as stated at each. -/
import Derived.Test.YteapnkedpmcokaaGreatDoorRm02
import Derived.Test.YteapnkedpmcokaaGreatDoorRows
import Derived.ProofKit
import Derived.OpenShut
import Derived.ChangeOld
import Derived.Deep.Matrix
/- What a parameter reads as. Conditions: none. -/
namespace Go.Proofs.YteapnkedpmcokaaGreatDoor
set_option maxRecDepth 100000
open Go.ChangeShapes Go.WideShapes Go.ChangeAt Go.RowKit
theorem own : ownKnob Tryz.prog.godebug = none := by kernel_rfl
theorem laidOut : laidOutB Tryz.prog = true := by kernel_rfl
theorem wf_byte {n : Int} (h : (Lit.int .u8 n).wf = true) : n = ((UInt8.ofNat n.toNat).toNat : Int) := by
  have h2 : 0 ≤ n ∧ n ≤ 255 := by
    simpa [Lit.wf, IntKind.min, IntKind.max, IntKind.signed, IntKind.bits] using h
  simp
  omega
theorem bytes_of {W : World} {x : Addr} {len : Nat} {zs : List Int} (hl : len ≤ zs.length) (hcell : ∀ i, i < len → W.cell? (x.add i) = some (.int .u8 (zs.getD i 0))) (hw : ∀ n ∈ zs, (Lit.int .u8 n).wf = true) :
    ∃ l : List UInt8, l.length = len ∧ Bts W W.heap.size (some x) l := by
  refine ⟨(zs.take len).map fun n => UInt8.ofNat n.toNat, by simp; omega, fun j u hj => ?_⟩
  have hlt : j < len := by
    have := (List.getElem?_eq_some_iff.1 hj).1
    simp [bv] at this
    omega
  have hc := hcell j hlt
  have hz : j < zs.length := by omega
  have hu : u = .int .u8 (zs.getD j 0) := by
    simp [bv, hlt, hz] at hj
    rw [← hj]
    congr 1
    rw [List.getD, List.getElem?_eq_getElem hz, Option.getD_some]
    have h := wf_byte (hw zs[j] (List.getElem_mem hz))
    simp at h
    omega
  refine ⟨x, rfl, ?_, by rw [hu]; exact hc⟩
  have := World.block_lt_of_cell? W _ hc
  rwa [blk_add] at this
/-- a parameter of bytes. -/
def IsB (W : World) (v : Value) : Prop := ∃ A c l, v = .slice A l.length c ∧ Bts W W.heap.size A l ∧ l.length ≤ c ∧ c ≤ maxLen
/-- a parameter of lists of bytes. -/
def IsR (W : World) (v : Value) : Prop := ∃ A c ll, v = .slice A ll.length c ∧ Rws W W.heap.size A ll ∧ ll.length ≤ c ∧ c ≤ maxLen
section
variable {H : Type} {enc : TypeId × Value → H}
set_option maxRecDepth 100000 in
theorem open_b {W : World} {v : Value} {d : DataW H} {p : List MemPlace} (hv : Value.okWide Tryz.prog W .any 0 25 v) (h : DataW.Trod enc Tryz.prog W 0 (fun _ => true) true 25 v d p) : IsB W v := by
  obtain ⟨a0, len0, cap0, rfl⟩ := okWide_slice Tryz.underlying25 hv
  obtain ⟨fuel, hf⟩ := h
  rcases open_ints Tryz.underlying25 Tryz.underlying5 (by kernel_rfl) hf with ⟨hcs, _⟩ | ⟨x, l, c, zs, hcs, _, hl, hm, hz, _, hcell, hwz⟩
  · simp [Value.cells] at hcs
    obtain ⟨rfl, rfl, rfl⟩ := hcs
    exact ⟨none, 0, [], rfl, Cs.nil, by simp, by unfold maxLen; omega⟩
  · simp [Value.cells] at hcs
    obtain ⟨rfl, rfl, rfl⟩ := hcs
    have hz' : zs.length = cap0 := by simpa using hz
    obtain ⟨l, rfl, hb⟩ := bytes_of (len := len0) (by omega) (fun i hi => hcell i (by omega)) hwz
    exact ⟨_, _, l, rfl, hb, hl, hm⟩
set_option maxRecDepth 100000 in
theorem open_r {W : World} {v : Value} {d : DataW H} {p : List MemPlace} (hv : Value.okWide Tryz.prog W .any 0 79 v) (h : DataW.Trod enc Tryz.prog W 0 (fun _ => true) true 79 v d p) : IsR W v := by
  obtain ⟨a0, len0, cap0, rfl⟩ := okWide_slice Tryz.underlying79 hv
  obtain ⟨fuel, hf⟩ := h
  rcases Deep.open_int_rows Tryz.underlying79 Tryz.underlying25 Tryz.underlying5 (by kernel_rfl) (by kernel_rfl) hf with ⟨hcs, _⟩ | ⟨a, len, cap, A, L, C, Z, hcs, _, hl, hm, _, hr⟩
  · simp [Value.cells] at hcs
    obtain ⟨rfl, rfl, rfl⟩ := hcs
    exact ⟨none, 0, [], rfl, fun k r hk => by simp at hk, by simp, by unfold maxLen; omega⟩
  · simp [Value.cells] at hcs
    obtain ⟨rfl, rfl, rfl⟩ := hcs
    have each : ∀ r, r < len0 → ∃ l : List UInt8, l.length = L r ∧ Bts W W.heap.size (A r) l := fun r hlt => by
      obtain ⟨_, h1, _, h3, h4, h5, h6⟩ := hr r (by omega)
      cases hA : A r with
      | none => exact ⟨[], by have := h5 hA; simp; omega, Cs.nil⟩
      | some x => exact bytes_of (by omega) (fun i hi => (h6 x hA).2 i (by omega)) h4
    obtain ⟨y, hy⟩ := Deep.choose_lt each
    refine ⟨some a, cap0, (List.range len0).map y, by simp, fun k r hk => ?_, by simpa using hl, hm⟩
    have hlt : k < len0 := by
      have := (List.getElem?_eq_some_iff.1 hk).1
      simpa using this
    obtain rfl : y k = r := by simpa [hlt] using hk
    obtain ⟨hc, h1, h2, _⟩ := hr k (by omega)
    obtain ⟨e1, e2⟩ := hy k hlt
    have hb := World.block_lt_of_cell? W _ hc
    rw [blk_add] at hb
    exact ⟨a, A k, C k, rfl, hb, by rw [e1]; exact hc, by rw [e1]; exact h1, h2, e2⟩
end
end Go.Proofs.YteapnkedpmcokaaGreatDoor
