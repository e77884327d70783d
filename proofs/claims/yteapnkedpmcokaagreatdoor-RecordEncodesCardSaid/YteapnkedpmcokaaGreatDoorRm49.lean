/- SeOpen. Conditions: as stated at each. -/
import Derived.Test.YteapnkedpmcokaaGreatDoorRm26
import Derived.Test.YteapnkedpmcokaaGreatDoorRm25
import Derived.Deep.Slices
import Derived.ChangeArms
/- A seal as a parameter, a list of seals as a parameter. Conditions: none. -/
namespace Go.Proofs.YteapnkedpmcokaaGreatDoor
set_option maxRecDepth 100000
open Go.ChangeShapes Go.WideShapes Go.ChangeAt Go.RowKit Go
section
variable {H : Type} {enc : TypeId × Value → H}
set_option maxRecDepth 100000 in
theorem sum_trod {W : World} {m : Nat} {cs : List Value} {x : DataW H × List MemPlace} (h : DataW.trod enc Tryz.prog W 0 (fun _ => true) true m 28 cs = some x) : ∃ l : List UInt8, l.length = 32 ∧ cs = bv l := by
  obtain ⟨xs, m', _, _, hcl, hxl, hall⟩ := DataW.trod_array Tryz.underlying28 h
  have hc26 : Tryz.prog.cellsOf 28 = 32 := by kernel_rfl
  have hc5 : Tryz.prog.cellsOf 5 = 1 := by kernel_rfl
  rw [hc26] at hcl
  have hb : ∀ i, i < 32 → ∃ b : UInt8, cs[i]? = some (.int .u8 (b.toNat : Int)) := fun i hi => by
    have h1 := hall i hi
    obtain ⟨x, hx⟩ : ∃ x, xs[i]? = some x := ⟨xs[i]'(by omega), List.getElem?_eq_getElem (by omega)⟩
    rw [hx, hc5] at h1
    obtain ⟨z, hcz, _, hw⟩ := DataW.trod_int Tryz.underlying5 h1
    refine ⟨UInt8.ofNat z.toNat, ?_⟩
    have h2 : cs[i]? = some (.int .u8 z) := by
      have := congrArg (·[0]?) hcz
      simpa [List.getElem?_take, List.getElem?_drop] using this
    rw [wf_byte hw] at h2
    exact h2
  refine ⟨(List.range 32).map fun i => if h : i < 32 then (hb i h).choose else 0, by simp, ?_⟩
  apply List.ext_getElem?
  intro i
  by_cases hi : i < 32
  · rw [(hb i hi).choose_spec]
    simp [bv, hi]
  · rw [List.getElem?_eq_none (by omega)]
    simp [bv, hi]
theorem cut4 {cs : List Value} (h : cs.length = 66) : cs = (cs.drop 0).take 1 ++ ((cs.drop 1).take 1 ++ ((cs.drop 2).take 32 ++ (cs.drop 34).take 32)) := by
  have h1 : (cs.drop 34).take 32 = cs.drop 34 := List.take_of_length_le (by simp [h])
  have h2 : (cs.drop 2).take 32 ++ cs.drop 34 = cs.drop 2 := by
    rw [show (34 : Nat) = 2 + 32 from rfl, ← List.drop_drop, List.take_append_drop]
  have h3 : (cs.drop 1).take 1 ++ cs.drop 2 = cs.drop 1 := by
    rw [show (2 : Nat) = 1 + 1 from rfl, ← List.drop_drop, List.take_append_drop]
  have h4 : (cs.drop 0).take 1 ++ cs.drop 1 = cs := by
    rw [List.drop_zero, List.take_append_drop]
  rw [h1, h2, h3, h4]
set_option maxRecDepth 100000 in
theorem seal_trod {W : World} {m : Nat} {cs : List Value} {x : DataW H × List MemPlace} (h : DataW.trod enc Tryz.prog W 0 (fun _ => true) true m 32 cs = some x) : ∃ s : Sl, s.ok ∧ cs = sc s := by
  obtain ⟨xs, m', _, _, hcl, hxl, hall⟩ := DataW.trod_struct Tryz.underlying32 h
  have hc39 : Tryz.prog.cellsOf 32 = 66 := by kernel_rfl
  have hc26 : Tryz.prog.cellsOf 28 = 32 := by kernel_rfl
  have hc3 : Tryz.prog.cellsOf 3 = 1 := by kernel_rfl
  rw [hc39] at hcl
  have hxl' : xs.length = 4 := hxl.trans (by kernel_rfl)
  have at_ : ∀ i, i < 4 → ∃ x, xs[i]? = some x := fun i hi => ⟨xs[i]'(by omega), List.getElem?_eq_getElem (by omega)⟩
  obtain ⟨x0, e0⟩ := at_ 0 (by omega)
  obtain ⟨x1, e1⟩ := at_ 1 (by omega)
  obtain ⟨x2, e2⟩ := at_ 2 (by omega)
  obtain ⟨x3, e3⟩ := at_ 3 (by omega)
  have f0 := hall 0 ⟨"Seg", 3, 0, false, "", "", 0⟩ rfl
  have f1 := hall 1 ⟨"Count", 3, 1, false, "", "", 8⟩ rfl
  have f2 := hall 2 ⟨"Root", 28, 2, false, "", "", 16⟩ rfl
  have f3 := hall 3 ⟨"Prev", 28, 34, false, "", "", 48⟩ rfl
  rw [e0] at f0
  rw [e1] at f1
  rw [e2] at f2
  rw [e3] at f3
  dsimp only at f0 f1 f2 f3
  rw [hc3] at f0 f1
  rw [hc26] at f2 f3
  obtain ⟨z0, c0, _, _⟩ := DataW.trod_int Tryz.underlying3 f0
  obtain ⟨z1, c1, _, _⟩ := DataW.trod_int Tryz.underlying3 f1
  obtain ⟨l2, k2, c2⟩ := sum_trod f2
  obtain ⟨l3, k3, c3⟩ := sum_trod f3
  refine ⟨⟨z0, z1, l2, l3⟩, ⟨k2, k3⟩, ?_⟩
  rw [cut4 hcl, c0, c1, c2, c3]
  rfl
/-- a parameter that is a seal. -/
def IsSl (v : Value) : Prop := ∃ s : Sl, v = .agg (sc s).toArray ∧ s.ok
theorem open_sl {W : World} {v : Value} {d : DataW H} {p : List MemPlace} (hv : Value.okWide Tryz.prog W .any 0 32 v) (h : DataW.Trod enc Tryz.prog W 0 (fun _ => true) true 32 v d p) : IsSl v := by
  obtain ⟨cs, rfl⟩ : ∃ cs, v = .agg cs := by
    simp only [Value.okWide, Tryz.underlying32] at hv
    obtain ⟨cs, h1, _⟩ := hv
    exact ⟨cs, h1⟩
  obtain ⟨fuel, hf⟩ := h
  obtain ⟨s, hs, e⟩ := seal_trod hf
  refine ⟨s, ?_, hs⟩
  congr 1
  apply Array.toList_inj.1
  simpa [Value.cells] using e
end
end Go.Proofs.YteapnkedpmcokaaGreatDoor
