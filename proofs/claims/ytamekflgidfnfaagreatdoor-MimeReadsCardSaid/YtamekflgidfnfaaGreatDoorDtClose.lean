/- dots.Whole, dots.Close; slices.Grow of nothing, slices.Concat of bytes. Conditions: as stated at each. -/
import Derived.Test.YtamekflgidfnfaaGreatDoorDtRef
import Derived.Test.YtamekflgidfnfaaGreatDoorShelf
import Derived.Lib.SlBytesConst
import Derived.Lib.AppendZeros
namespace Go.Proofs.YtamekflgidfnfaaGreatDoor
set_option maxRecDepth 100000
namespace Dt
open Go.RowKit Go Go.Proofs.YtamekflgidfnfaaGreatDoor.Hd
def numsOf (l : List UInt8) : List Int := l.map fun b => (b.toNat : Int)
theorem numsOf_length (l : List UInt8) : (numsOf l).length = l.length := by simp [numsOf]
theorem bytes_nums (l : List UInt8) : Go.Lib.bytesOf (numsOf l) = l := by
  unfold Go.Lib.bytesOf numsOf
  rw [List.map_map, show ((fun n : Int => UInt8.ofNat n.toNat) ∘ fun b : UInt8 => (b.toNat : Int)) = id from by funext b; simp]
  simp
theorem nums_lt (l : List UInt8) : ∀ x ∈ numsOf l, 0 ≤ x ∧ x < 256 := by
  intro x hx
  simp only [numsOf, List.mem_map] at hx
  obtain ⟨b, _, rfl⟩ := hx
  have := b.toNat_lt
  omega
theorem nums_get (l : List UInt8) (i : Nat) (h : i < l.length) : (numsOf l).getD i 0 = ((l.getD i 0).toNat : Int) := by
  simp [numsOf, List.getD, h]
theorem nums_val (l : List UInt8) : (numsOf l).map (Value.int .u8) = bv l := by simp [numsOf, bv]
section
variable {w : World} {B : Nat} {A : Option Addr} {l : L}
theorem bts_cells {ad : Addr} (h : Bts w B (some ad) l) : ∀ i, i < l.length → w.cell? (ad.add i) = some (.int .u8 ((numsOf l).getD i 0)) := fun i hi => by
  obtain ⟨a', e, _, hc⟩ := h.at_ hi
  injection e with e
  subst e
  rw [nums_get l i hi]
  exact hc
theorem bts_in (h : Bts w B A l) : Go.Lib.BytesIn w A l.length (numsOf l) := by
  cases A with
  | none =>
    rw [bts_none h]
    exact Go.Lib.BytesIn.nil _ _ _
  | some ad => exact Go.Lib.BytesIn.of_cells (bts_cells h)
theorem clone_any (h : Bts w B A l) (c : Nat) (hl : l.length ≤ 1000000) :
    Calls Tryz.prog 55 #[.slice A l.length c] w fun e w' => ∃ v, e = .returned v ∧ Own5 w' w.heap.size v l ∧ Below w.heap.size w w' := by
  cases A with
  | none =>
    have := bts_none h
    subst this
    refine (Tryz.bytes_Clone_nil _ c w).mono ?_
    rintro e w' ⟨h1, rfl⟩
    exact ⟨_, h1, Own5.nil _ _, Below.refl _ _⟩
  | some ad =>
    refine (Tryz.bytes_Clone_at ad l.length c (numsOf l) w (numsOf_length l) (by omega) (bts_cells h)).mono ?_
    rintro e w' ⟨v, h1, h2, _, h3⟩
    rw [nums_val] at h2
    exact ⟨v, h1, h2, h3⟩
theorem suffix_any (h : Bts w B A l) (c g : Nat) (hc : l.length ≤ c) (hl : l.length ≤ 1000000) (hg : Bts w (g + 1) (some ⟨g, 0, none⟩) [13, 10]) :
    Calls Tryz.prog 79 #[.slice A l.length c, .slice (some ⟨g, 0, none⟩) 2 2] w fun e w' => e = .returned (.bool (Go.Lib.hasSuffix l [13, 10])) ∧ w = w' := by
  have := Tryz.bytes_HasSuffix_all A (some ⟨g, 0, none⟩) l.length c 2 2 (numsOf l) (numsOf [13, 10]) w (numsOf_length l) rfl hc (by omega) (bts_in h) (bts_in hg)
  rw [bytes_nums, bytes_nums] at this
  exact this.mono fun e w' ⟨h1, h2⟩ => ⟨h1, h2.symm⟩
theorem index_any (h : Bts w B A l) (c g : Nat) (hc : l.length ≤ c) (hA : A ≠ none) (hl : l.length ≤ 1000000) (hg : Bts w (g + 1) (some ⟨g, 0, none⟩) [13, 10]) (m : Int) (hm : w.cell? ⟨0, 0, none⟩ = some (.int .i64 m)) :
    Calls Tryz.prog 78 #[.slice A l.length c, .slice (some ⟨g, 0, none⟩) 2 2] w fun e w' => e = .returned (.int .i64 (match cut2 l with | some (s, _) => (s.length : Int) | none => -1)) ∧ ∃ q, w' = w.drewN q := by
  cases A with
  | none => exact absurd rfl hA
  | some ad =>
    have := Tryz.bytes_Index_at ad ⟨g, 0, none⟩ l.length c 2 2 (numsOf l) (numsOf [13, 10]) m w (numsOf_length l) rfl (nums_lt _) (nums_lt _) (bts_cells h) (bts_cells hg) hc (by omega) (by omega) hm
    rw [bytes_nums, bytes_nums, index_cut2] at this
    exact this
end
theorem conv_const (w : World) (C : Array Value) (n c : Nat) : (convert 22 22 (.slice (some ⟨w.heap.size, 0, none⟩) n c)).run Tryz.prog (w.alloc (.cells C 5)) = .ok (.slice (some ⟨w.heap.size, 0, none⟩) n c) (w.alloc (.cells C 5 (C.size, C.size + 1))) :=
  Lib.run_convert_bytes_const (P := Tryz.prog) w 22 5 C n c Tryz.underlying22 Tryz.underlying5
set_option maxHeartbeats 800000 in
theorem grow_any (n : Nat) (w : World) (h0 : 0 < n) (hn : n ≤ 10000000) :
    Calls Tryz.prog 94 #[.slice none 0 0, .int .i64 n] w fun e w' => ∃ v, e = .returned v ∧ Own5 w' w.heap.size v [] ∧ Below w.heap.size w w' := by
  obtain ⟨i, hi, hz, h1, h2⟩ := info_parts info5
  have hr := fun ty => Lib.run_append_nil_zeros (P := Tryz.prog) w 22 3 ty 5 i (.int .u8 0) .i64 .i64 Tryz.underlying22 Tryz.underlying3 hi hz n h0 (by rw [h1]; exact Nat.one_pos) (by omega) (by rw [h2]; omega)
  have hge := grownCap_ge w n 0 5
  have hle : grownCap w n 0 5 ≤ maxLen := grownCap_le_maxLen w n 0 5 (by unfold maxLen; omega)
  generalize grownCap w n 0 5 = G at *
  generalize hC : Builtin.zeroCells (Value.int .u8 0).cells n ++ Builtin.zeroCells (Value.int .u8 0).cells (G - n) = C at *
  have hCs : C.size = G * 1 := by rw [← hC]; simp [Builtin.zeroCells, Value.cells]; omega
  have hown : Own5 (w.drew.alloc (.cells C 5)) w.heap.size (.slice (some ⟨w.heap.size, 0, none⟩) 0 G) [] :=
    ⟨rfl, .inr ⟨w.heap.size, G, C, rfl, Nat.le_refl _, heap_alloc_new w.drew _, Nat.zero_le _, hle, hCs, by simp [bv]⟩⟩
  have HO := Lib.hid hown
  have HR := Lib.hid hr
  have HBe : Hid (Below w.heap.size w (w.drew.alloc (.cells C 5))) := Lib.hid (((Below.refl _ w).drew).alloc (Nat.le_refl _) _)
  have z0 : ¬ (n : Int) < 0 := by omega
  have z1 : (0 : Int) < (n : Int) := by omega
  have hG : G ≤ 9223372036854775807 := by unfold maxLen at hle; omega
  clear hown hr hle hC hCs
  go_enter Tryz.func94, Tryz.ntmps94
  go_wp2_with (first
    | (refine Lib.wpList_append_run _ rfl _ _ _ _ rfl _ _ rfl rfl _ _ (HR.out _) ?_)
    | fail)
  go_ret
  exact ⟨_, rfl, HO.out, HBe.out⟩
end Dt
end Go.Proofs.YtamekflgidfnfaaGreatDoor
