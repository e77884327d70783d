/- What a parameter of numbers, or of lists of numbers, reads as. Conditions: none. -/
import Derived.Test.YtkpolakdamiiiaaPsLaws
import Derived.Test.YtkpolakdamiiiaaRows
import Derived.ProofKit
import Derived.OpenShut
import Derived.ChangeOld
import Derived.Deep.Matrix
namespace Go.Proofs.Ytkpolakdamiiiaa
set_option maxRecDepth 100000
open Go.ChangeShapes Go.WideShapes Go.ChangeAt Go.RowKit Go
theorem own : ownKnob Try.prog.godebug = none := by kernel_rfl
theorem laidOut : laidOutB Try.prog = true := by kernel_rfl
theorem ints_of {W : World} {x : Addr} {len : Nat} {zs : List Int} (hl : len ≤ zs.length) (hcell : ∀ i, i < len → W.cell? (x.add i) = some (.int .i64 (zs.getD i 0))) :
    ∃ l : List Int, l.length = len ∧ Ps.Ints W W.heap.size (some x) l := by
  refine ⟨zs.take len, by simp; omega, fun j u hj => ?_⟩
  have hlt : j < len := by
    have := (List.getElem?_eq_some_iff.1 hj).1
    rw [Ps.iv_length, List.length_take] at this
    omega
  have hc := hcell j hlt
  have hz : j < zs.length := by omega
  have hu : u = .int .i64 (zs.getD j 0) := by
    simp [Ps.iv, hlt, hz] at hj
    rw [← hj]
    simp [List.getD, hz]
  refine ⟨x, rfl, ?_, by rw [hu]; exact hc⟩
  have := World.block_lt_of_cell? W _ hc
  rwa [blk_add] at this
section
variable {H : Type} {enc : TypeId × Value → H}
set_option maxRecDepth 100000 in
theorem open_il {W : World} {v : Value} {d : DataW H} {p : List MemPlace} (hv : Value.okWide Try.prog W .any 0 22 v) (h : DataW.Trod enc Try.prog W 0 (fun _ => true) true 22 v d p) : ∃ l, Ps.Ar W v l := by
  obtain ⟨a0, len0, cap0, rfl⟩ := okWide_slice Try.underlying22 hv
  obtain ⟨fuel, hf⟩ := h
  rcases open_ints Try.underlying22 Try.underlying2 (by kernel_rfl) hf with ⟨hcs, _⟩ | ⟨x, l, c, zs, hcs, _, hl, hm, hz, _, hcell, _⟩
  · simp [Value.cells] at hcs
    obtain ⟨rfl, rfl, rfl⟩ := hcs
    exact ⟨[], none, 0, rfl, Cs.nil, by simp, by unfold maxLen; omega⟩
  · simp [Value.cells] at hcs
    obtain ⟨rfl, rfl, rfl⟩ := hcs
    have hz' : zs.length = cap0 := by simpa using hz
    obtain ⟨l, rfl, hb⟩ := ints_of (len := len0) (by omega) (fun i hi => hcell i (by omega))
    exact ⟨l, _, _, rfl, hb, hl, hm⟩
set_option maxRecDepth 100000 in
theorem open_ill {W : World} {v : Value} {d : DataW H} {p : List MemPlace} (hv : Value.okWide Try.prog W .any 0 30 v) (h : DataW.Trod enc Try.prog W 0 (fun _ => true) true 30 v d p) : ∃ A c L, v = .slice A (List.length (α := Ps.E) L) c ∧ Ps.Lists W W.heap.size A L ∧ L.length ≤ c := by
  obtain ⟨a0, len0, cap0, rfl⟩ := okWide_slice Try.underlying30 hv
  obtain ⟨fuel, hf⟩ := h
  rcases Deep.open_int_rows Try.underlying30 Try.underlying22 Try.underlying2 (by kernel_rfl) (by kernel_rfl) hf with ⟨hcs, _⟩ | ⟨a, len, cap, A, L, C, Z, hcs, _, hl, hm, _, hr⟩
  · simp [Value.cells] at hcs
    obtain ⟨rfl, rfl, rfl⟩ := hcs
    exact ⟨none, 0, [], rfl, ⟨Cs.nil, fun e he => by simp at he⟩, by simp⟩
  · simp [Value.cells] at hcs
    obtain ⟨rfl, rfl, rfl⟩ := hcs
    have each : ∀ r, r < len0 → ∃ l : List Int, l.length = L r ∧ Ps.Ints W W.heap.size (A r) l := fun r hlt => by
      obtain ⟨_, h1, _, h3, h4, h5, h6⟩ := hr r (by omega)
      cases hA : A r with
      | none => exact ⟨[], by have := h5 hA; simp; omega, Cs.nil⟩
      | some x => exact ints_of (by omega) (fun i hi => (h6 x hA).2 i (by omega))
    obtain ⟨y, hy⟩ := Deep.choose_lt each
    refine ⟨some a, cap0, (List.range len0).map (fun r => ⟨A r, C r, y r⟩), by simp, ⟨fun k u hk => ?_, fun e he => ?_⟩, by simpa using hl⟩
    · have hlt : k < len0 := by
        have := (List.getElem?_eq_some_iff.1 hk).1
        simpa using this
      have hu : u = .slice (A k) (L k) (C k) := by
        simp [hlt, Ps.E.val] at hk
        rw [← hk, (hy k hlt).1]
      obtain ⟨hc, _⟩ := hr k (by omega)
      have hb := World.block_lt_of_cell? W _ hc
      rw [blk_add] at hb
      exact ⟨a, rfl, hb, by rw [hu]; exact hc⟩
    · obtain ⟨k, hk, rfl⟩ := List.mem_map.1 he
      have hlt : k < len0 := by simpa using hk
      obtain ⟨_, h1, h2, _⟩ := hr k (by omega)
      exact ⟨(hy k hlt).2, by rw [(hy k hlt).1]; exact h1, h2⟩
end
end Go.Proofs.Ytkpolakdamiiiaa
