/- Sums compared. Conditions: none. -/
import Derived.Test.YtmckgbjkplkblaaDoorDgAwake
import Derived.ChangeKeysEq
namespace Go.Proofs.YtmckgbjkplkblaaDoor
open Go.RowKit Go
theorem run_part5 (l : List UInt8) (i : Nat) (hi : i < l.length) (w : World) : (part 5 (bv l).toArray (i * 1)).run Tryd.prog w = .ok (.int .u8 ((l.getD i 0).toNat : Int)) w := by
  have h := bv_get l i hi
  have hq : (bv l).toArray[i]? = some (.int .u8 ((l.getD i 0).toNat : Int)) := by rw [List.getElem?_toArray]; exact h
  simp only [Nat.mul_one]
  simp [part, isAgg, run_underlying Tryd.underlying5, Sem.run_bind, hq]
theorem run_items (d : Nat) (a b : List UInt8) (w : World) : ∀ is : List Nat, (∀ i ∈ is, i < a.length ∧ i < b.length) →
    (Op.eqItems (d + 1) 5 1 (bv a).toArray (bv b).toArray is).run Tryd.prog w = .ok (is.all fun i => a.getD i 0 == b.getD i 0) w
  | [], _ => rfl
  | i :: is, h => by
    have ih := run_items d a b w is (fun j hj => h j (by simp [hj]))
    obtain ⟨h1, h2⟩ := h i (by simp)
    simp only [Op.eqItems, Sem.run_bind, run_part5 a i h1 w, run_part5 b i h2 w, run_equalIn_int (P := Tryd.prog) w d 5 .u8 .u8 _ _ Tryd.underlying5, Result.andThen_ok, List.all_cons]
    have e : (((a.getD i 0).toNat : Int) == ((b.getD i 0).toNat : Int)) = (a.getD i 0 == b.getD i 0) := by
      rw [Bool.eq_iff_iff, beq_iff_eq, beq_iff_eq]
      constructor
      · intro h
        exact UInt8.toNat_inj.1 (by omega)
      · intro h
        rw [h]
    rw [e]
    cases a.getD i 0 == b.getD i 0
    · simp
    · simpa using ih
theorem eq_sums (a b : List UInt8) (ha : a.length = 32) (hb : b.length = 32) : ((List.range 32).all fun i => a.getD i 0 == b.getD i 0) = (a == b) := by
  rw [Bool.eq_iff_iff, List.all_eq_true, beq_iff_eq]
  constructor
  · intro h
    apply List.ext_getElem (by omega)
    intro i h1 h2
    have := h i (List.mem_range.2 (by omega))
    simpa [List.getD_eq_getElem?_getD, h1, h2] using this
  · rintro rfl i _
    simp
theorem run_eq24 (a b : List UInt8) (ha : a.length = 32) (hb : b.length = 32) (w : World) : (Op.equalIn 10000 24 (.agg (bv a).toArray) (.agg (bv b).toArray)).run Tryd.prog w = .ok (a == b) w := by
  obtain ⟨i, hi, _, _, _⟩ := info_parts info5
  have h := run_equalIn_array (P := Tryd.prog) w 9999 (bv a).toArray (bv b).toArray Tryd.underlying24 hi
  rw [show Tryd.prog.cellsOf 5 = 1 by kernel_rfl] at h
  rw [show (10000 : Nat) = 9999 + 1 from rfl, h, show (9999 : Nat) = 9998 + 1 from rfl, run_items 9998 a b w _ (fun i hi => by rw [ha, hb]; simpa using hi), eq_sums a b ha hb]
/-- a sum is read again. -/
theorem hexv_hexd : ∀ n, n < 16 → hexv (hexd n) = n := by decide
theorem hex_at (h : List UInt8) (j : Nat) (hj : j < h.length) : (hex h).getD (2 * j) 0 = hexd ((h.getD j 0).toNat / 16) ∧ (hex h).getD (2 * j + 1) 0 = hexd ((h.getD j 0).toNat % 16) := by
  have e : hex h = hex (h.take j) ++ ([hexd ((h.getD j 0).toNat / 16), hexd ((h.getD j 0).toNat % 16)] ++ hex (h.drop (j + 1))) := by
    rw [← List.append_assoc, ← hex_next h j hj, ← hex_append, List.take_append_drop]
  have hl : (hex (h.take j)).length = 2 * j := by rw [hex_length, List.length_take]; omega
  rw [e]
  constructor
  · rw [List.getD_eq_getElem?_getD, List.getElem?_append_right (by omega), hl, Nat.sub_self]
    rfl
  · rw [List.getD_eq_getElem?_getD, List.getElem?_append_right (by omega), hl, show 2 * j + 1 - 2 * j = 1 from by omega]
    rfl
theorem hex_ok (h : List UInt8) (hh : h.length = 32) : okText (hex h) = true := by
  have hl : (hex h).length = 64 := by rw [hex_length, hh]
  unfold okText dgs
  rw [decide_eq_true hl, List.take_of_length_le (by omega), Bool.true_and, List.all_eq_true]
  intro c hc
  have : ∃ n, n < 16 ∧ c = hexd n := by
    unfold hex at hc
    rw [List.mem_flatMap] at hc
    obtain ⟨x, _, hx⟩ := hc
    have := x.toNat_lt
    simp only [List.mem_cons, List.not_mem_nil, or_false] at hx
    rcases hx with rfl | rfl
    · exact ⟨_, by omega, rfl⟩
    · exact ⟨_, by omega, rfl⟩
  obtain ⟨n, hn, rfl⟩ := this
  rw [hexv_hexd n hn]
  exact decide_eq_true hn
theorem hex_back (h : List UInt8) (hh : h.length = 32) : sumOf (hex h) = h := by
  rw [okText_yes _ (hex_ok h hh)]
  apply List.ext_getElem (by rw [uh_length, hh])
  intro j h1 h2
  obtain ⟨e1, e2⟩ := hex_at h j h2
  have hc := (h.getD j 0).toNat_lt
  have : (uh (hex h) 64).getD j 0 = h.getD j 0 := by
    rw [uh_get _ _ _ (by omega)]
    unfold ub
    rw [if_pos (by omega), e1, e2, hexv_hexd _ (by omega), hexv_hexd _ (by omega)]
    apply UInt8.toNat_inj.1
    rw [UInt8.toNat_ofNat']
    omega
  simpa [List.getD_eq_getElem?_getD, h1, h2] using this
end Go.Proofs.YtmckgbjkplkblaaDoor
