/- Contracts of digest.Parse and of the document's. Conditions: as stated at each. -/
import Derived.Test.YtmckgbjkplkblaaDoorDgDigit
namespace Go.Proofs.YtmckgbjkplkblaaDoor
open Go.RowKit Go
/-- the j-th byte where k digits have been read. -/
def ub (l : List UInt8) (k j : Nat) : UInt8 := if 2 * j + 1 < k then UInt8.ofNat (16 * hexv (l.getD (2 * j) 0) + hexv (l.getD (2 * j + 1) 0)) else if 2 * j < k then UInt8.ofNat (hexv (l.getD (2 * j) 0)) else 0
def uh (l : List UInt8) (k : Nat) : List UInt8 := (List.range 32).map (ub l k)
theorem uh_length (l : List UInt8) (k : Nat) : (uh l k).length = 32 := by simp [uh]
theorem uh_get (l : List UInt8) (k j : Nat) (h : j < 32) : (uh l k).getD j 0 = ub l k j := by simp [uh, List.getD_eq_getElem?_getD, h]
theorem uh_zero (l : List UInt8) : uh l 0 = List.replicate 32 0 := by
  unfold uh
  rw [List.map_congr_left (g := fun _ => 0) (fun i _ => by unfold ub; rw [if_neg (by omega), if_neg (by omega)])]
  rfl
theorem uh_set (l : List UInt8) (k k' j : Nat) (h : j < 32) (hk : ∀ i, i < 32 → i ≠ j → ub l k' i = ub l k i) (v : Nat) (hv : (ub l k' j).toNat = v) :
    (bv (uh l k)).toArray.setIfInBounds j (.int .u8 (v : Int)) = (bv (uh l k')).toArray := by
  apply Array.ext
  · simp [bv_length, uh_length]
  · intro i h1 h2
    have hi : i < 32 := by simpa [bv_length, uh_length] using h2
    by_cases hij : i = j
    · subst hij
      simp [bv, uh, hv]
    · have := hk i hi hij
      simp [Ne.symm hij, bv, uh, this]
theorem ub_even (l : List UInt8) (j : Nat) (hv : hexv (l.getD (2 * j) 0) < 16) : (ub l (2 * j + 1) j).toNat = hexv (l.getD (2 * j) 0) ∧ (ub l (2 * j) j).toNat = 0 := by
  unfold ub
  rw [if_neg (by omega), if_pos (by omega), if_neg (by omega), if_neg (by omega)]
  generalize hexv (l.getD (2 * j) 0) = a at *
  rw [UInt8.toNat_ofNat']
  exact ⟨by omega, rfl⟩
theorem ub_odd (l : List UInt8) (j : Nat) (hv : hexv (l.getD (2 * j) 0) < 16) (hv2 : hexv (l.getD (2 * j + 1) 0) < 16) : (ub l (2 * j + 1 + 1) j).toNat = 16 * hexv (l.getD (2 * j) 0) + hexv (l.getD (2 * j + 1) 0) := by
  unfold ub
  rw [if_pos (by omega), UInt8.toNat_ofNat']
  omega
theorem ub_far (l : List UInt8) (j i : Nat) (h : i ≠ j) : ub l (2 * j + 1) i = ub l (2 * j) i ∧ ub l (2 * j + 1 + 1) i = ub l (2 * j + 1) i := by
  unfold ub
  have e1 : (2 * i + 1 < 2 * j + 1) ↔ (2 * i + 1 < 2 * j) := by omega
  have e2 : (2 * i < 2 * j + 1) ↔ (2 * i < 2 * j) := by omega
  have e3 : (2 * i + 1 < 2 * j + 1 + 1) ↔ (2 * i + 1 < 2 * j + 1) := by omega
  have e4 : (2 * i < 2 * j + 1 + 1) ↔ (2 * i < 2 * j + 1) := by omega
  simp only [e1, e2, e3, e4, and_self]
/-- the first k are digits. -/
def dgs (l : List UInt8) (k : Nat) : Bool := (l.take k).all fun c => decide (hexv c < 16)
theorem dgs_next (l : List UInt8) (k : Nat) (h : k < l.length) : dgs l (k + 1) = (dgs l k && decide (hexv (l.getD k 0) < 16)) := by
  unfold dgs
  rw [List.take_succ_eq_append_getElem h, List.all_append]
  simp [List.getD_eq_getElem?_getD, h]
theorem dgs_at (l : List UInt8) (k i : Nat) (hk : dgs l k = true) (hi : i < k) (hl : i < l.length) : hexv (l.getD i 0) < 16 := by
  unfold dgs at hk
  rw [List.all_eq_true] at hk
  have hm : l.getD i 0 ∈ l.take k := by
    rw [List.getD_eq_getElem?_getD, List.getElem?_eq_getElem hl, Option.getD_some, List.mem_take_iff_getElem]
    exact ⟨i, by omega, rfl⟩
  simpa using hk _ hm
theorem dgs_less (l : List UInt8) (k m : Nat) (h : dgs l k = false) (hkm : k ≤ m) : dgs l m = false := by
  unfold dgs at *
  have e : l.take m = l.take k ++ (l.take m).drop k := by
    have h2 : l.take k = (l.take m).take k := by rw [List.take_take, Nat.min_eq_left hkm]
    rw [h2, List.take_append_drop]
  rw [e, List.all_append, h]
  rfl
/-- a text as a sum. -/
def okText (l : List UInt8) : Bool := decide (l.length = 64) && dgs l 64
def sumOf (l : List UInt8) : List UInt8 := if okText l then uh l 64 else List.replicate 32 0
theorem run_at (s : ByteArray) (l : List UInt8) (hs : s.data.toList = l) (k : Nat) (hk : k < l.length) (w : World) : (Instr.index 9 (.string s) (.int .i64 k)).run Tryd.prog w = .ok (.int .u8 ((l.getD k 0).toNat : Int)) w := by
  subst hs
  have h : k < s.size := by simpa using hk
  have e : s[k]? = some (s.data.toList.getD k 0) := by
    rw [List.getD_eq_getElem?_getD]
    simp [h]
    rfl
  simp [Instr.index, asIntOf, Sem.run_bind, run_underlying Tryd.underlying9, e]
theorem index_yes (c : UInt8) (w : World) (h : hexv c < 16) : Calls Tryd.prog 19 #[.string ⟨#[48, 49, 50, 51, 52, 53, 54, 55, 56, 57, 97, 98, 99, 100, 101, 102]⟩, .int .u8 (c.toNat : Int)] w fun e w' => e = .returned (.int .i64 (hexv c : Nat)) ∧ w = w' := by
  have := index_any c w
  unfold hexi at this
  rwa [if_pos h] at this
theorem index_no (c : UInt8) (w : World) (h : ¬ hexv c < 16) : Calls Tryd.prog 19 #[.string ⟨#[48, 49, 50, 51, 52, 53, 54, 55, 56, 57, 97, 98, 99, 100, 101, 102]⟩, .int .u8 (c.toNat : Int)] w fun e w' => e = .returned (.int .i64 (-1)) ∧ w = w' := by
  have := index_any c w
  unfold hexi at this
  rwa [if_neg h] at this
end Go.Proofs.YtmckgbjkplkblaaDoor
