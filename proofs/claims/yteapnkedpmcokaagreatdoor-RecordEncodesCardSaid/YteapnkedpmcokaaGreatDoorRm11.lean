/- DgHigh. Conditions: as stated at each. -/
import Derived.Test.YteapnkedpmcokaaGreatDoorRm10
import Derived.Laws.MakeOwn
/- Contract of a number's bytes, the highest ahead. Conditions: as stated at each. -/
namespace Go.Proofs.YteapnkedpmcokaaGreatDoor
set_option maxRecDepth 100000
open Go.RowKit Go
/-- noughts, and the lowest k bytes behind them. -/
def hz (x n k : Nat) : List UInt8 := List.replicate (n - k) 0 ++ hib x k
theorem hz_length (x n k : Nat) (h : k ≤ n) : (hz x n k).length = n := by simp [hz, hib_length]; omega
theorem hz_set (x n k : Nat) (h : k < n) (j : Nat) (hj : j + k + 1 = n) : (bv (hz x n k)).toArray.setIfInBounds j (.int .u8 (((x / 256 ^ k : Nat) : Int) % 256)) = (bv (hz x n (k + 1))).toArray := by
  obtain rfl : n = j + k + 1 := hj.symm
  have e : (((x / 256 ^ k : Nat) : Int) % 256) = ((UInt8.ofNat (x / 256 ^ k)).toNat : Int) := by simp
  rw [e]
  unfold hz
  rw [show j + k + 1 - k = j + 1 from by omega, show j + k + 1 - (k + 1) = j from by omega, hib]
  simp [bv, List.replicate_succ']
theorem hz_all (x n : Nat) : hz x n n = hib x n := by simp [hz]
theorem hz_none (x n : Nat) : hz x n 0 = List.replicate n 0 := by simp [hz, hib]
theorem made_noughts (n : Nat) : madeCells (Value.int .u8 0).cells n = (bv (List.replicate n 0)).toArray := by
  apply Array.ext
  · simp [size_madeCells, bv_length]
  · intro i h1 h2
    simp [madeCells, Value.cells, bv, Nat.mod_one]
theorem run_mk5 (n : Nat) (hn : n ≤ 1000000000) (w : World) :
    (Instr.makeSlice 25 (.int .i64 n) (.int .i64 n)).run Tryz.prog w = .ok (.slice (some ⟨w.heap.size, 0, none⟩) n n) (w.alloc (.cells (bv (List.replicate n 0)).toArray 5)) := by
  obtain ⟨i, hi, hz, h0, h1⟩ := info_parts info5
  have := run_make (P := Tryz.prog) w 25 5 i _ Tryz.underlying25 hi hz .i64 .i64 n n (by omega) (Int.le_refl _) (by rw [h1]; omega) (by omega)
  rw [this, h0]
  simp [made_noughts]
set_option maxHeartbeats 800000 in
theorem high_any (x n : Nat) (w : World) (hn : n ≤ 8) (hx : x < 18446744073709551616) :
    Calls Tryz.prog 69 #[.int .u64 x, .int .i64 n] w fun e w' => ∃ g, e = .returned (.slice (some ⟨g, 0, none⟩) n n) ∧ BlkIs w' g 5 (bv (hib x n)).toArray ∧ w.heap.size ≤ g ∧ Below w.heap.size w w' := by
  have hmk := run_mk5 n (by omega) w
  go_enter Tryz.func69, Tryz.ntmps69
  go_wp2_with fail
  have HB := Lib.hid (BlkIs.new w 5 (bv (List.replicate n 0)).toArray)
  have HW := Lib.hid ((Below.refl w.heap.size w).alloc (Nat.le_refl _) (.cells (bv (List.replicate n 0)).toArray 5))
  clear hmk
  go_loopw [0, 11] (fun y i wr => ∃ k : Nat, k ≤ n ∧ i = .int .i64 k ∧ y = .int .u64 ((x / 256 ^ k : Nat)) ∧ BlkIs wr w.heap.size 5 (bv (hz x n k)).toArray ∧ Below w.heap.size w wr) (fun _ i _ => n - (intOf i).toNat)
  case atStart => exact ⟨0, by omega, rfl, by simp, by rw [hz_none]; exact HB.out, HW.out⟩
  case round =>
    obtain ⟨k, hk, rfl, rfl, hb, hbel⟩ := hrel
    clear HB HW
    by_cases hlt : k < n
    · have HS := Lib.hid (shr_next x k)
      have hy : x / 256 ^ k < 18446744073709551616 := Nat.lt_of_le_of_lt (Nat.div_le_self _ _) hx
      obtain ⟨j, hj⟩ : ∃ j, j + k + 1 = n := ⟨n - k - 1, by omega⟩
      have HP := Lib.hid (hz_set x n k hlt j hj)
      have hget := hb.cell j
      have hget2 := bv_get (hz x n k) j (by rw [hz_length _ _ _ (by omega)]; omega)
      have hget3 := hb.get hget2
      have hfr := hb.froz j
      have ej : (n : Int) - 1 - (k : Int) = (j : Int) := by omega
      clear hget hget2 hj
      generalize (hz x n k).getD j 0 = old at *
      generalize x / 256 ^ k = y at *
      have hjn : j < n := by omega
      go_wp2_with fail
      go_roundw
      case rel =>
        refine ⟨k + 1, by omega, by go_num, by rw [HS.out]; go_num, ?_, hbel.setCell (Nat.le_refl _) _⟩
        have h := hb.put j (.int .u8 ((y : Int) % 256))
        rw [HP.out] at h
        exact h
      case measure => simp [intOf]; omega
    · obtain rfl : k = n := by omega
      rw [hz_all] at hb
      go_wp2_with fail
      go_ret
      exact ⟨_, rfl, hb, Nat.le_refl _, hbel⟩
end Go.Proofs.YteapnkedpmcokaaGreatDoor
