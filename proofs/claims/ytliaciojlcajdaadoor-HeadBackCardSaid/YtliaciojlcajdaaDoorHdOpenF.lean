/- Fields as a parameter. Conditions: none. -/
import Derived.Test.YtliaciojlcajdaaDoorHdOpen
import Derived.Test.YtliaciojlcajdaaDoorHdMem
import Derived.Deep.SlicePairs
namespace Go.Proofs.YtliaciojlcajdaaDoor
set_option maxRecDepth 100000
open Go.ChangeShapes Go.WideShapes Go.ChangeAt Go.RowKit
namespace Hd
theorem prs_of {W : World} {a : Addr} {fs : List F} (h : ∀ i, i < fs.length → W.cell? (a.add (i * 2)) = some (.string (str (fs.getD i ([], [])).1)) ∧ W.cell? (a.add (i * 2 + 1)) = some (.string (str (fs.getD i ([], [])).2))) : Prs W W.heap.size (some a) (fv fs) := by
  rcases Decidable.em (fs = []) with h0 | h0
  · exact .inl (by rw [h0]; rfl)
  · have hl : 0 < fs.length := List.length_pos_iff.2 h0
    obtain ⟨g, o, sp⟩ := a
    have h1 := (h 0 hl).1
    have hs : sp = none := by
      cases sp with
      | none => rfl
      | some x =>
        rw [Nat.zero_mul] at h1
        simp only [Addr.add, if_true, World.cell?] at h1
        split at h1
        · simp at h1
        · cases h1
    subst hs
    have hg : g < W.heap.size := World.block_lt_of_cell? W ⟨g, o, none⟩ (by rw [Nat.zero_mul] at h1; exact h1)
    refine .inr ⟨g, o, rfl, hg, fun j v hj => ?_⟩
    have hjl : j < (pc (fv fs)).length := (List.getElem?_eq_some_iff.1 hj).1
    rw [pc_length, fv_length] at hjl
    have hk : j / 2 < fs.length := by omega
    have hget : (fv fs)[j / 2]? = some (.string (str (fs.getD (j / 2) ([], [])).1), .string (str (fs.getD (j / 2) ([], [])).2)) := fv_get (by simp [List.getD, hk])
    have hadd : ∀ n, (⟨g, o, none⟩ : Addr).add n = ⟨g, o + n, none⟩ := fun n => by
      unfold Addr.add
      split
      · next e => subst e; rfl
      · rfl
    obtain ⟨c0, c1⟩ := h (j / 2) hk
    rw [hadd] at c0 c1
    rcases Nat.mod_two_eq_zero_or_one j with hm | hm
    · have e : j = j / 2 * 2 := by omega
      have := (pc_get hget).1
      rw [← e, hj] at this
      injection this with this
      rw [this, ← c0, ← e]
    · have e : j = j / 2 * 2 + 1 := by omega
      have := (pc_get hget).2
      rw [← e, hj] at this
      injection this with this
      rw [this, ← c1, ← e]
theorem str_of (s : ByteArray) : s = str s.data.toList := by
  simp [str]
end Hd
section
variable {H : Type} {enc : TypeId × Value → H}
set_option maxRecDepth 100000 in
theorem open_fl {W : World} {v : Value} {d : DataW H} {p : List MemPlace} (hv : Value.okWide Tryd.prog W .any 0 24 v) (h : DataW.Trod enc Tryd.prog W 0 (fun _ => true) true 24 v d p) :
    ∃ A c fs, v = .slice A (List.length (α := Hd.F) fs) c ∧ Hd.Prs W W.heap.size A (Hd.fv fs) ∧ fs.length ≤ c ∧ c ≤ maxLen := by
  obtain ⟨a0, len0, cap0, rfl⟩ := okWide_slice Tryd.underlying24 hv
  obtain ⟨fuel, hf⟩ := h
  rcases Deep.open_slice_pairs Tryd.underlying24 Tryd.underlying47 (by kernel_rfl) rfl rfl (by kernel_rfl) (by kernel_rfl) hf with ⟨hcs, _⟩ | ⟨x, l, c, m, n, V0, V1, D0, D1, P0, P1, hcs, _, hl, hm, hmm, _, hel⟩
  · simp [Value.cells] at hcs
    obtain ⟨rfl, rfl, rfl⟩ := hcs
    exact ⟨none, 0, [], rfl, .inl rfl, Nat.le_refl _, by unfold maxLen; omega⟩
  · simp [Value.cells] at hcs
    obtain ⟨rfl, rfl, rfl⟩ := hcs
    have hmc : m = cap0 := by simpa using hmm
    have hall : ∀ i, ∃ f : Hd.F, i < len0 → W.cell? (x.add (i * 2)) = some (.string (str f.1)) ∧ W.cell? (x.add (i * 2 + 1)) = some (.string (str f.2)) := fun i => by
      by_cases hi : i < len0
      · obtain ⟨c0, c1, t0, t1⟩ := hel i (by omega)
        obtain ⟨s0, e0, _, _⟩ := DataW.trod_string Tryd.underlying9 t0
        obtain ⟨s1, e1, _, _⟩ := DataW.trod_string Tryd.underlying9 t1
        injection e0 with e0 _
        injection e1 with e1 _
        refine ⟨(s0.data.toList, s1.data.toList), fun _ => ?_⟩
        rw [c0, c1, e0, e1, ← Hd.str_of, ← Hd.str_of]
        exact ⟨rfl, rfl⟩
      · exact ⟨([], []), fun h => absurd h hi⟩
    obtain ⟨F, hF⟩ := Classical.skolem.1 hall
    refine ⟨some x, cap0, (List.range len0).map F, by simp, Hd.prs_of (fun i hi => ?_), by simpa using hl, hm⟩
    have hi' : i < len0 := by simpa using hi
    have : ((List.range len0).map F).getD i ([], []) = F i := by simp [List.getD, hi']
    rw [this]
    exact hF i hi'
end
end Go.Proofs.YtliaciojlcajdaaDoor
