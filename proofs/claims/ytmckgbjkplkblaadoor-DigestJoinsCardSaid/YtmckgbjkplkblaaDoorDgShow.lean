/- Sums as texts: the plain functions, and the contract of digest.Show. Conditions: as stated at each. -/
import Derived.Test.YtmckgbjkplkblaaDoorDgSum
namespace Go.Proofs.YtmckgbjkplkblaaDoor
open Go.RowKit Go
def dig16 : List UInt8 := [48, 49, 50, 51, 52, 53, 54, 55, 56, 57, 97, 98, 99, 100, 101, 102]
def hexd (n : Nat) : UInt8 := dig16.getD n 0
/-- the digits of bytes. -/
def hex (h : List UInt8) : List UInt8 := h.flatMap fun c => [hexd (c.toNat / 16), hexd (c.toNat % 16)]
theorem hex_length (h : List UInt8) : (hex h).length = 2 * h.length := by
  induction h with
  | nil => rfl
  | cons c h ih =>
    have : hex (c :: h) = [hexd (c.toNat / 16), hexd (c.toNat % 16)] ++ hex h := rfl
    rw [this, List.length_append, ih, List.length_cons]
    simp
    omega
theorem hex_append (a b : List UInt8) : hex (a ++ b) = hex a ++ hex b := by simp [hex]
theorem hex_next (h : List UInt8) (k : Nat) (hk : k < h.length) : hex (h.take (k + 1)) = hex (h.take k) ++ [hexd ((h.getD k 0).toNat / 16), hexd ((h.getD k 0).toNat % 16)] := by
  rw [List.take_succ_eq_append_getElem hk, hex_append]
  simp [hex, List.getD_eq_getElem?_getD, hk]
/-- the digits so far, noughts behind. -/
def hxz (h : List UInt8) (k : Nat) : List UInt8 := hex (h.take k) ++ List.replicate (64 - 2 * k) 0
theorem hxz_length (h : List UInt8) (k : Nat) (hh : h.length = 32) (hk : k ≤ 32) : (hxz h k).length = 64 := by
  rw [hxz, List.length_append, hex_length, List.length_take, List.length_replicate]
  omega
theorem hxz_next (h : List UInt8) (k : Nat) (hh : h.length = 32) (hk : k < 32) :
    (((bv (hxz h k)).toArray.setIfInBounds (2 * k) (.int .u8 ((hexd ((h.getD k 0).toNat / 16)).toNat : Int))).setIfInBounds (2 * k + 1) (.int .u8 ((hexd ((h.getD k 0).toNat % 16)).toNat : Int))) = (bv (hxz h (k + 1))).toArray := by
  have hl : (hex (h.take k)).length = 2 * k := by rw [hex_length, List.length_take]; omega
  unfold hxz
  rw [hex_next h k (by omega), show 64 - 2 * k = (64 - 2 * (k + 1)) + 1 + 1 from by omega, List.replicate_succ, List.replicate_succ, bv_append, bv_append, bv_append]
  simp [hl, bv]
theorem hxz_all (h : List UInt8) (hh : h.length = 32) : hxz h 32 = hex h := by simp [hxz, List.take_of_length_le (Nat.le_of_eq hh)]
theorem run_dig (n : Nat) (hn : n < 16) (w : World) : (Instr.index 9 (.string ⟨#[48, 49, 50, 51, 52, 53, 54, 55, 56, 57, 97, 98, 99, 100, 101, 102]⟩) (.int .u8 n)).run Tryd.prog w = .ok (.int .u8 ((hexd n).toNat : Int)) w := by
  have : n = 0 ∨ n = 1 ∨ n = 2 ∨ n = 3 ∨ n = 4 ∨ n = 5 ∨ n = 6 ∨ n = 7 ∨ n = 8 ∨ n = 9 ∨ n = 10 ∨ n = 11 ∨ n = 12 ∨ n = 13 ∨ n = 14 ∨ n = 15 := by omega
  rcases this with rfl | rfl | rfl | rfl | rfl | rfl | rfl | rfl | rfl | rfl | rfl | rfl | rfl | rfl | rfl | rfl <;> rfl
theorem and15 (c : Nat) (hc : c < 256) : bits .and .u8 (c : Int) 15 = ((c % 16 : Nat) : Int) := by
  rw [show (15 : Int) = ((15 : Nat) : Int) from rfl, u8_and_nat _ _ hc (by decide), show (15 : Nat) = 2 ^ 4 - 1 from rfl, Nat.and_two_pow_sub_one_eq_mod]
theorem isStr (N : Nat) (w : World) : (Instr.sliceAt 42 (.pointer (some ⟨N, 0, none⟩)) none none none).run Tryd.prog w = .ok (.slice (some ⟨N, 0, none⟩) 64 64) w := by
  obtain ⟨i, hi, _, _, _⟩ := info_parts info5
  simp [Instr.sliceAt, run_underlying Tryd.underlying42, Instr.sliceBounds, Sem.run_bind, sizeOf, typeInfo, hi, Instr.sureAddr]
  rfl
set_option maxRecDepth 100000 in
set_option maxHeartbeats 800000 in
theorem show_any (h : List UInt8) (w : World) (hh : h.length = 32) :
    Calls Tryd.prog 13 #[.agg (bv h).toArray] w fun e w' => e = .returned (.string (str (hex h))) ∧ Below w.heap.size w w' := by
  have HH := Lib.hid hh
  have HI24 : Hid ((Tryd.prog.info? 24).map (·.size) = some (bv h).toArray.size) := Lib.hid (by rw [isz24, List.size_toArray, bv_length, hh])
  have hsl := isStr (w.heap.size + 1)
  clear hh
  generalize hX : (bv h).toArray = X at *
  have HX := Lib.hid hX
  have hb0 := fun o : Obj => (BlkIs.new w 24 X).alloc o
  clear hX
  go_enter Tryd.func13, Tryd.ntmps13
  go_wp2_with (first
    | (with_reducible refine load_blk (.tmp 1) 24 w.heap.size 24 X (hb0 _) rfl rfl rfl _ Tryd.underlying24 rfl HI24.out ?_)
    | fail)
  have HB := Lib.hid (BlkIs.new_at (w.alloc (.cells X 24)) 42 (bv (List.replicate 64 0)).toArray (w.heap.size + 1) (by simp))
  have HW := Lib.hid (((Below.refl w.heap.size w).alloc (Nat.le_refl _) (.cells X 24)).alloc (by simp) (.cells (bv (List.replicate 64 0)).toArray 42))
  clear hb0
  go_loopw [7] (fun i wr => ∃ k : Nat, k ≤ 32 ∧ i = .int .i64 k ∧ BlkIs wr (w.heap.size + 1) 42 (bv (hxz h k)).toArray ∧ Below w.heap.size w wr) (fun i _ => 32 - (intOf i).toNat)
  case atStart => exact ⟨0, by omega, rfl, HB.out, HW.out⟩
  case round =>
    clear HB HW
    obtain ⟨k, hk, rfl, hb, hbel⟩ := hrel
    by_cases hlt : k < 32
    · have hidx := fun w => run_index (P := Tryd.prog) Tryd.underlying24 Tryd.underlying5 isz5 X k (.int .u8 ((h.getD k 0).toNat : Int)) hlt (by rw [← HX.out, List.getElem?_toArray]; exact bv_get h k (by rw [HH.out]; exact hlt)) w
      have HN := Lib.hid (hxz_next h k HH.out hlt)
      have hg1 := bv_get (hxz h k) (2 * k) (by rw [hxz_length h k HH.out hk]; omega)
      have hg2 := bv_get (hxz h k) (2 * k + 1) (by rw [hxz_length h k HH.out hk]; omega)
      have hc := (h.getD k 0).toNat_lt
      generalize (h.getD k 0).toNat = c at *
      have r1 := run_dig (c / 16) (by omega)
      have r2 := run_dig (c % 16) (by omega)
      have ea := and15 c hc
      obtain ⟨a, ha⟩ : ∃ a, a = c / 16 := ⟨_, rfl⟩
      obtain ⟨b, hb'⟩ : ∃ b, b = c % 16 := ⟨_, rfl⟩
      have e1 : (c : Int) / 16 = (a : Int) := by omega
      rw [← ha] at r1 HN
      rw [← hb'] at r2 HN ea
      generalize (hexd a).toNat = x1 at *
      generalize (hexd b).toNat = x2 at *
      obtain ⟨q, hq⟩ : ∃ q, q = 2 * k := ⟨_, rfl⟩
      have e2 : IntKind.i64.wrap (2 * (k : Int)) = (q : Int) := by rw [IntWalk.i64_in _ (by omega)]; omega
      have q63 : (q : Int) + 1 < 64 := by omega
      rw [← hq] at hg1 hg2 HN
      have hc1 := hb.get hg1
      have hf1 := hb.froz q
      have hb1 := hb.put q (.int .u8 (x1 : Int))
      have hc2 := (cell_far wr (w.heap.size + 1) q (q + 1) (.int .u8 (x1 : Int)) (by omega)).trans (hb.get hg2)
      have hf2 := hb1.froz (q + 1)
      have hb2 := hb1.put (q + 1) (.int .u8 (x2 : Int))
      rw [HN.out] at hb2
      have k32 : (k : Int) < 32 := by omega
      clear ha hb' hq hg1 hg2 hb hb1
      go_wp2_with fail
      exact ⟨⟨k + 1, by omega, by go_num, hb2, (hbel.setCell (by show w.heap.size ≤ w.heap.size + 1; omega) _).setCell (by show w.heap.size ≤ w.heap.size + 1; omega) _⟩, by simp [intOf]; omega⟩
    · obtain rfl : k = 32 := by omega
      rw [hxz_all h HH.out] at hb
      have hlen : (hex h).length = 64 := by rw [hex_length, HH.out]
      have hs := run_str Tryd.prog Tryd.underlying22 Tryd.underlying5 Tryd.underlying9 64 (blk_bts hb)
      rw [hlen] at hs
      clear hlen hb
      go_wp2_with fail
      go_ret
      exact ⟨rfl, hbel⟩
end Go.Proofs.YtmckgbjkplkblaaDoor
