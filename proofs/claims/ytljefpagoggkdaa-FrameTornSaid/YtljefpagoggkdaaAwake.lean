/- The law's example: awake answers true. Conditions: none. -/
import Derived.Test.YtljefpagoggkdaaPut
import Derived.Lib.SlBytesConst
namespace Go.Proofs.Ytljefpagoggkdaa
open Go.RowKit Go
def nine : List UInt8 := [49, 50, 51, 52, 53, 54, 55, 56, 57]
theorem crc_nine : crc nine = 3421780262 := by decide +kernel
theorem rec_a : rec1 [97] = [1, 0, 0, 0, 67, 190, 183, 232, 97] := by decide +kernel
theorem str_a : str [1, 0, 0, 0, 67, 190, 183, 232, 97] = ⟨#[1, 0, 0, 0, 67, 190, 183, 232, 97]⟩ := rfl
theorem Bts.newm (w : World) (l : List UInt8) (C : Array Value) (fr : Nat × Nat) (h : C.toList = bv l) : Bts (w.alloc (.cells C 5 fr)) (w.heap.size + 1) (some ⟨w.heap.size, 0, none⟩) l := fun j u hj =>
  ⟨_, rfl, by simp, World.news_of_block (heap_alloc_new w _) j u (by rw [h]; exact hj)⟩
set_option maxHeartbeats 800000 in
theorem awake_any (w : World) : Calls Try.prog 10 #[] w fun e w' => e = .returned (.bool true) ∧ Below w.heap.size w w' := by
  have hb0 := (Below.refl w.heap.size w).alloc (Nat.le_refl _) (.cells #[.int .u8 97] 5 (1, 2))
  have hb1 := Bts.newm w [97] #[.int .u8 97] (1, 2) rfl
  have hp := put_any _ _ 1 [97] _ hb1 (by simp) (by simp) (by unfold maxLen; omega) (by simp)
  rw [rec_a] at hp
  clear hb1
  have hcv := fun (w : World) (C : Array Value) (n c : Nat) => Lib.run_convert_bytes_const (P := Try.prog) w 22 5 C n c Try.underlying22 Try.underlying5
  go_enter Try.func10, Try.ntmps10
  go_wp2_with fail
  refine hp.mono ?_
  rintro e w2 ⟨v2, rfl, ho2, hb2⟩
  have HB2 := Lib.hid (hb0.trans (hb2.mono (by simp)))
  have hn := Bts.newm w2 nine #[.int .u8 49, .int .u8 50, .int .u8 51, .int .u8 52, .int .u8 53, .int .u8 54, .int .u8 55, .int .u8 56, .int .u8 57] (9, 10) rfl
  have hc := crc_any _ _ 9 nine _ hn (by simp [nine])
  rw [crc_nine] at hc
  have HB3 := Lib.hid (HB2.out.alloc HB2.out.size (.cells #[.int .u8 49, .int .u8 50, .int .u8 51, .int .u8 52, .int .u8 53, .int .u8 54, .int .u8 55, .int .u8 56, .int .u8 57] 5 (9, 10)))
  have ho3 := own_kept ho2 ((Below.refl w2.heap.size w2).alloc (Nat.le_refl _) (.cells #[.int .u8 49, .int .u8 50, .int .u8 51, .int .u8 52, .int .u8 53, .int .u8 54, .int .u8 55, .int .u8 56, .int .u8 57] 5 (9, 10))) (Nat.le_refl _)
  obtain ⟨A2, c2, rfl, _⟩ := own_slice ho2
  have hs := run_str Try.prog Try.underlying22 Try.underlying5 Try.underlying9 c2 (Own5.bts ho3)
  rw [str_a] at hs
  change (convert 22 9 (.slice A2 9 c2)).run Try.prog _ = _ at hs
  clear hb0 hb2 hn hp ho2 ho3
  go_wp2_with (go_at_call 12; refine hc.mono ?_; rintro e w' ⟨rfl, rfl⟩)

  go_ret
  exact ⟨rfl, HB3.out⟩
end Go.Proofs.Ytljefpagoggkdaa
