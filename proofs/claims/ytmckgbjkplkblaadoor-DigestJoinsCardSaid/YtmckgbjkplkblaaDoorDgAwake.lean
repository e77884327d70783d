/- The law's example: awake answers true. Conditions: as stated. -/
import Derived.Test.YtmckgbjkplkblaaDoorDgRParse
import Derived.Lib.SlBytesConst
namespace Go.Proofs.YtmckgbjkplkblaaDoor
open Go.RowKit Go
theorem hex_abc : str (hex (sha [97, 98, 99])) = ⟨#[98, 97, 55, 56, 49, 54, 98, 102, 56, 102, 48, 49, 99, 102, 101, 97, 52, 49, 52, 49, 52, 48, 100, 101, 53, 100, 97, 101, 50, 50, 50, 51, 98, 48, 48, 51, 54, 49, 97, 51, 57, 54, 49, 55, 55, 97, 57, 99, 98, 52, 49, 48, 102, 102, 54, 49, 102, 50, 48, 48, 49, 53, 97, 100]⟩ := by decide +kernel
set_option maxRecDepth 100000 in
set_option maxHeartbeats 800000 in
theorem awake_any (w : World) (hg : Glob w) : Calls Tryd.prog 7 #[] w fun e w' => e = .returned (.bool true) ∧ Below w.heap.size w w' := by
  have hb0 := (Below.refl w.heap.size w).alloc (Nat.le_refl _) (.cells #[.int .u8 97, .int .u8 98, .int .u8 99] 5 (3, 4))
  have hb1 := Bts.newm w [97, 98, 99] #[.int .u8 97, .int .u8 98, .int .u8 99] (3, 4) rfl
  have hp := sum_any _ _ 3 [97, 98, 99] _ hb1 (by simp) (by simp) (by unfold maxLen; omega) (by simp) (hg.alloc _)
  have HX := Lib.hid hex_abc
  have hlen := sha_length [97, 98, 99]
  generalize sha [97, 98, 99] = X at *
  have hsh := fun w => show_any X w hlen
  have HB0 := Lib.hid hb0
  have HSH := Lib.hid hsh
  have HP := Lib.hid hp
  clear hb1 hlen hsh hp hb0
  have hcv := fun (w : World) (C : Array Value) (n c : Nat) => Lib.run_convert_bytes_const (P := Tryd.prog) w 22 5 C n c Tryd.underlying22 Tryd.underlying5
  go_enter Tryd.func7, Tryd.ntmps7
  go_wp2_with (first
    | (go_at_call 8; refine HP.out.mono ?_; rintro e w2 ⟨rfl, hb2⟩; have HB2 := Lib.hid (HB0.out.trans (hb2.mono (by simp))); clear hb2)
    | (go_at_call 13; refine (HSH.out _).mono ?_; rintro e w3 ⟨rfl, hb3⟩; have HB3 := Lib.hid (HB2.out.trans (hb3.mono HB2.out.size)); clear hb3; rw [HX.out])
    | fail)
  go_ret
  exact ⟨rfl, HB3.out⟩
end Go.Proofs.YtmckgbjkplkblaaDoor
