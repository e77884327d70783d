/- DgEq24. Conditions: as stated at each. -/
import Derived.Test.YteapnkedpmcokaaGreatDoorRm13
import Derived.ChangeKeysEq
/- Sums compared. Conditions: none. -/
namespace Go.Proofs.YteapnkedpmcokaaGreatDoor
set_option maxRecDepth 100000
open Go.RowKit Go
theorem run_part5 (l : List UInt8) (i : Nat) (hi : i < l.length) (w : World) : (part 5 (bv l).toArray (i * 1)).run Tryz.prog w = .ok (.int .u8 ((l.getD i 0).toNat : Int)) w := by
  have h := bv_get l i hi
  have hq : (bv l).toArray[i]? = some (.int .u8 ((l.getD i 0).toNat : Int)) := by rw [List.getElem?_toArray]; exact h
  simp only [Nat.mul_one]
  simp [part, isAgg, run_underlying Tryz.underlying5, Sem.run_bind, hq]
theorem run_items (d : Nat) (a b : List UInt8) (w : World) : ∀ is : List Nat, (∀ i ∈ is, i < a.length ∧ i < b.length) →
    (Op.eqItems (d + 1) 5 1 (bv a).toArray (bv b).toArray is).run Tryz.prog w = .ok (is.all fun i => a.getD i 0 == b.getD i 0) w
  | [], _ => rfl
  | i :: is, h => by
    have ih := run_items d a b w is (fun j hj => h j (by simp [hj]))
    obtain ⟨h1, h2⟩ := h i (by simp)
    simp only [Op.eqItems, Sem.run_bind, run_part5 a i h1 w, run_part5 b i h2 w, run_equalIn_int (P := Tryz.prog) w d 5 .u8 .u8 _ _ Tryz.underlying5, Result.andThen_ok, List.all_cons]
    have e : (((a.getD i 0).toNat : Int) == ((b.getD i 0).toNat : Int)) = (a.getD i 0 == b.getD i 0) := by
      rw [Bool.eq_iff_iff, beq_iff_eq, beq_iff_eq]
      constructor
      · intro h
        exact UInt8.toNat_inj.1 (by omega)
      · intro h
        rw [h]
    rw [e]
    cases a.getD i 0 == b.getD i 0
    · simp
    · simpa using ih
theorem eq_sums (a b : List UInt8) (ha : a.length = 32) (hb : b.length = 32) : ((List.range 32).all fun i => a.getD i 0 == b.getD i 0) = (a == b) := by
  rw [Bool.eq_iff_iff, List.all_eq_true, beq_iff_eq]
  constructor
  · intro h
    apply List.ext_getElem (by omega)
    intro i h1 h2
    have := h i (List.mem_range.2 (by omega))
    simpa [List.getD_eq_getElem?_getD, h1, h2] using this
  · rintro rfl i _
    simp
theorem run_eq24 (a b : List UInt8) (ha : a.length = 32) (hb : b.length = 32) (w : World) : (Op.equalIn 10000 28 (.agg (bv a).toArray) (.agg (bv b).toArray)).run Tryz.prog w = .ok (a == b) w := by
  obtain ⟨i, hi, _, _, _⟩ := info_parts info5
  have h := run_equalIn_array (P := Tryz.prog) w 9999 (bv a).toArray (bv b).toArray Tryz.underlying28 hi
  rw [show Tryz.prog.cellsOf 5 = 1 by kernel_rfl] at h
  rw [show (10000 : Nat) = 9999 + 1 from rfl, h, show (9999 : Nat) = 9998 + 1 from rfl, run_items 9998 a b w _ (fun i hi => by rw [ha, hb]; simpa using hi), eq_sums a b ha hb]
end Go.Proofs.YteapnkedpmcokaaGreatDoor
