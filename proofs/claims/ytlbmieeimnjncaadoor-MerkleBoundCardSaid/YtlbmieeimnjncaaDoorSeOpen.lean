/- A seal as a parameter, a list of seals as a parameter. Conditions: none. -/
import Derived.Test.YtlbmieeimnjncaaDoorSeChain
import Derived.Test.YtlbmieeimnjncaaDoorDgOpen
import Derived.Deep.Slices
import Derived.ChangeArms
namespace Go.Proofs.YtlbmieeimnjncaaDoor
set_option maxRecDepth 100000
open Go.ChangeShapes Go.WideShapes Go.ChangeAt Go.RowKit Go
section
variable {H : Type} {enc : TypeId × Value → H}
set_option maxRecDepth 100000 in
theorem sum_trod {W : World} {m : Nat} {cs : List Value} {x : DataW H × List MemPlace} (h : DataW.trod enc Tryd.prog W 0 (fun _ => true) true m 22 cs = some x) : ∃ l : List UInt8, l.length = 32 ∧ cs = bv l := by
  obtain ⟨xs, m', _, _, hcl, hxl, hall⟩ := DataW.trod_array Tryd.underlying22 h
  have hc26 : Tryd.prog.cellsOf 22 = 32 := by kernel_rfl
  have hc5 : Tryd.prog.cellsOf 5 = 1 := by kernel_rfl
  rw [hc26] at hcl
  have hb : ∀ i, i < 32 → ∃ b : UInt8, cs[i]? = some (.int .u8 (b.toNat : Int)) := fun i hi => by
    have h1 := hall i hi
    obtain ⟨x, hx⟩ : ∃ x, xs[i]? = some x := ⟨xs[i]'(by omega), List.getElem?_eq_getElem (by omega)⟩
    rw [hx, hc5] at h1
    obtain ⟨z, hcz, _, hw⟩ := DataW.trod_int Tryd.underlying5 h1
    refine ⟨UInt8.ofNat z.toNat, ?_⟩
    have h2 : cs[i]? = some (.int .u8 z) := by
      have := congrArg (·[0]?) hcz
      simpa [List.getElem?_take, List.getElem?_drop] using this
    rw [wf_byte hw] at h2
    exact h2
  refine ⟨(List.range 32).map fun i => if h : i < 32 then (hb i h).choose else 0, by simp, ?_⟩
  apply List.ext_getElem?
  intro i
  by_cases hi : i < 32
  · rw [(hb i hi).choose_spec]
    simp [bv, hi]
  · rw [List.getElem?_eq_none (by omega)]
    simp [bv, hi]
theorem cut4 {cs : List Value} (h : cs.length = 66) : cs = (cs.drop 0).take 1 ++ ((cs.drop 1).take 1 ++ ((cs.drop 2).take 32 ++ (cs.drop 34).take 32)) := by
  have h1 : (cs.drop 34).take 32 = cs.drop 34 := List.take_of_length_le (by simp [h])
  have h2 : (cs.drop 2).take 32 ++ cs.drop 34 = cs.drop 2 := by
    rw [show (34 : Nat) = 2 + 32 from rfl, ← List.drop_drop, List.take_append_drop]
  have h3 : (cs.drop 1).take 1 ++ cs.drop 2 = cs.drop 1 := by
    rw [show (2 : Nat) = 1 + 1 from rfl, ← List.drop_drop, List.take_append_drop]
  have h4 : (cs.drop 0).take 1 ++ cs.drop 1 = cs := by
    rw [List.drop_zero, List.take_append_drop]
  rw [h1, h2, h3, h4]
/-- a parameter that is a seal. -/
def IsSl (v : Value) : Prop := ∃ s : Sl, v = .agg (sc s).toArray ∧ s.ok
/-- a parameter of seals. -/
def IsSs (W : World) (v : Value) : Prop := ∃ A c L, v = .slice A (List.length L) c ∧ Ss W W.heap.size A L ∧ L.length ≤ c ∧ c ≤ maxLen
theorem range_seals {w : World} {g : Nat} : ∀ (L : List Sl) (o : Nat), Oks L → (∀ k, k < L.length → w.rangeAt g (o + k * 66) (sc (L.getD k zeroS))) → w.rangeAt g o (scs L)
  | [], _, _, _ => fun j v hj => by simp [scs] at hj
  | x :: L, o, hL, h => by
    show w.rangeAt g o (sc x ++ scs L)
    refine range_append (by simpa using h 0 (by simp)) ?_
    rw [sc_length (hL x (by simp))]
    refine range_seals L (o + 66) (fun y hy => hL y (by simp [hy])) fun k hk => ?_
    have := h (k + 1) (by simp; omega)
    rw [show o + (k + 1) * 66 = o + 66 + k * 66 from by omega] at this
    simpa using this
end
end Go.Proofs.YtlbmieeimnjncaaDoor
