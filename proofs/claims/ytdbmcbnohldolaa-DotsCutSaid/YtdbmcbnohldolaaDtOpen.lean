/- Bytes as a parameter; the library's variable out of the world's shape. Conditions: none. -/
import Derived.Test.YtdbmcbnohldolaaFlOpen
import Derived.Test.YtdbmcbnohldolaaDtScanA
namespace Go.Proofs.Ytdbmcbnohldolaa
set_option maxRecDepth 100000
open Go.ChangeShapes Go.WideShapes Go.ChangeAt Go.RowKit
section
variable {H : Type} {enc : TypeId × Value → H}
set_option maxRecDepth 100000 in
/-- a text, and nil has no room. -/
theorem open_bn {W : World} {v : Value} {d : DataW H} {p : List MemPlace} (hv : Value.okWide Try.prog W .any 0 22 v) (h : DataW.Trod enc Try.prog W 0 (fun _ => true) true 22 v d p) :
    ∃ A c l, v = .slice A l.length c ∧ Bts W W.heap.size A l ∧ l.length ≤ c ∧ c ≤ maxLen ∧ (A = none → c = 0) := by
  obtain ⟨a0, len0, cap0, rfl⟩ := okWide_slice Try.underlying22 hv
  obtain ⟨fuel, hf⟩ := h
  rcases open_ints Try.underlying22 Try.underlying5 (by kernel_rfl) hf with ⟨hcs, _⟩ | ⟨x, l, c, zs, hcs, _, hl, hm, hz, _, hcell, hwz⟩
  · simp [Value.cells] at hcs
    obtain ⟨rfl, rfl, rfl⟩ := hcs
    exact ⟨none, 0, [], rfl, Cs.nil, by simp, by unfold maxLen; omega, fun _ => rfl⟩
  · simp [Value.cells] at hcs
    obtain ⟨rfl, rfl, rfl⟩ := hcs
    have hz' : zs.length = cap0 := by simpa using hz
    obtain ⟨l, rfl, hb⟩ := bytes_of (len := len0) (by omega) (fun i hi => hcell i (by omega)) hwz
    exact ⟨_, _, l, rfl, hb, hl, hm, fun e => by cases e⟩
end
theorem gl_of {W : World} (h : W.ShapedOpen Try.prog) : Dt.Gl W := Try.laysM185.s1_3 W h
end Go.Proofs.Ytdbmcbnohldolaa
