/- DgOpen. Conditions: as stated at each. -/
import Derived.Test.YteapnkedpmcokaaGreatDoorRm03
import Derived.Test.YteapnkedpmcokaaGreatDoorRm10
import Derived.Lib.LaidTab
import Derived.Stop.LaidErr
import Derived.MakeChecks
/- What a sum reads as, and what the listed tables say of the world. Conditions: none. -/
namespace Go.Proofs.YteapnkedpmcokaaGreatDoor
set_option maxRecDepth 100000
open Go.ChangeShapes Go.WideShapes Go.ChangeAt Go.RowKit
/-- a parameter that is a sum. -/
def IsH (v : Value) : Prop := ∃ l : List UInt8, v = .agg (bv l).toArray ∧ l.length = 32
section
variable {H : Type} {enc : TypeId × Value → H}
set_option maxRecDepth 100000 in
theorem open_h {W : World} {v : Value} {d : DataW H} {p : List MemPlace} (hv : Value.okWide Tryz.prog W .any 0 28 v) (h : DataW.Trod enc Tryz.prog W 0 (fun _ => true) true 28 v d p) : IsH v := by
  obtain ⟨cs, rfl, hsz⟩ : ∃ cs, v = .agg cs ∧ cs.size = 32 := by
    simp only [Value.okWide, Tryz.underlying28] at hv
    obtain ⟨cs, h1, h2, _⟩ := hv
    exact ⟨cs, h1, h2.trans (by kernel_rfl)⟩
  obtain ⟨fuel, hf⟩ := h
  obtain ⟨xs, m, _, _, hl, hxl, hall⟩ := DataW.trod_array Tryz.underlying28 hf
  have hc5 : Tryz.prog.cellsOf 5 = 1 := by kernel_rfl
  have hb : ∀ i, i < 32 → ∃ b : UInt8, cs[i]? = some (.int .u8 (b.toNat : Int)) := fun i hi => by
    have h1 := hall i hi
    obtain ⟨x, hx⟩ : ∃ x, xs[i]? = some x := ⟨xs[i]'(by omega), List.getElem?_eq_getElem (by omega)⟩
    rw [hx, hc5] at h1
    obtain ⟨z, hcz, _, hw⟩ := DataW.trod_int Tryz.underlying5 h1
    refine ⟨UInt8.ofNat z.toNat, ?_⟩
    have h2 : cs.toList[i]? = some (.int .u8 z) := by
      have := congrArg (·[0]?) hcz
      simpa [List.getElem?_take, List.getElem?_drop, Value.cells] using this
    rw [wf_byte hw] at h2
    simpa using h2
  refine ⟨(List.range 32).map fun i => if h : i < 32 then (hb i h).choose else 0, ?_, by simp⟩
  congr 1
  apply Array.ext_getElem?
  intro i
  by_cases hi : i < 32
  · rw [(hb i hi).choose_spec]
    simp [bv, hi]
  · rw [Array.getElem?_eq_none (by omega)]
    simp [bv, hi]
end
theorem glob_of {W : World} (h : laidMetH Tryz.prog [("scriptorium/digest.first", Rows.laid_scriptorium_digest_first), ("scriptorium/digest.added", Rows.laid_scriptorium_digest_added)] W) : Glob W := by
  rw [Go.MakeChecks.laidMetH_plain _ _ _ (by kernel_rfl)] at h
  have h1 := Lib.tabIs_of_head (k := .u32) (zs := init8.l.map fun (x : Nat) => (x : Int)) (g := 0) (t := 103) (e := 92) (n := 8) (by kernel_rfl) (by kernel_rfl) Tryz.underlying103 Tryz.underlying92 (by kernel_rfl) (by kernel_rfl) h
  have h2 := Lib.tabIs_of_head (k := .u32) (zs := kk.map fun (x : Nat) => (x : Int)) (g := 1) (t := 119) (e := 92) (n := 64) (by kernel_rfl) (by kernel_rfl) Tryz.underlying119 Tryz.underlying92 (by kernel_rfl) (by kernel_rfl) h.tail
  have c1 : ∀ j v, (wv init8.l)[j]? = some v → W.cell? ⟨0, 0 + j, none⟩ = some v := fun j v hj => by
    rw [Nat.zero_add]
    have hlt : j < init8.l.length := by have := (List.getElem?_eq_some_iff.1 hj).1; simpa [wv_length] using this
    have := h1.cell (g := 0) (by kernel_rfl) j (by simpa using hlt)
    rw [this]
    rw [wv_get _ _ hlt] at hj
    injection hj with hj
    rw [← hj]
    simp [List.getD_eq_getElem?_getD, hlt]
  have c2 : ∀ j v, (wv kk)[j]? = some v → W.cell? ⟨1, 0 + j, none⟩ = some v := fun j v hj => by
    rw [Nat.zero_add]
    have hlt : j < kk.length := by have := (List.getElem?_eq_some_iff.1 hj).1; simpa [wv_length] using this
    have := h2.cell (g := 1) (by kernel_rfl) j (by simpa using hlt)
    rw [this]
    rw [wv_get _ _ hlt] at hj
    injection hj with hj
    rw [← hj]
    simp [List.getD_eq_getElem?_getD, hlt]
  exact ⟨c1, c2, block_lt_of_cell (c2 0 _ rfl)⟩
end Go.Proofs.YteapnkedpmcokaaGreatDoor
