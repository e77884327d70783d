/- slices.Clone at bytes. Conditions: as stated. -/
import Derived.Test.YtidadjlhnlmfkaaGreatDoorFlMem
import Derived.Lib.SliceRun
namespace Go.Proofs.YtidadjlhnlmfkaaGreatDoor
set_option maxRecDepth 100000
open Go.RowKit Go
set_option maxHeartbeats 400000 in
theorem clone_any (A : Option Addr) (B c : Nat) (l : List UInt8) (w : World) (h : Bts w B A l) (hB : B ≤ w.heap.size) (hl : l.length ≤ 500000000) :
    Calls Tryz.prog 48 #[.slice A l.length c] w fun e w' => Gives5 w w.heap.size l e w' := by
  have hnl := fun w => Lib.run_eql_slice_nil (P := Tryz.prog) w _ _ A l.length c 0 0 Tryz.underlying26
  rcases A with _ | ad
  · have hl0 := bts_none h
    subst hl0
    simp only [List.length_nil, Option.isNone_none] at hnl ⊢
    go_enter Tryz.func48, Tryz.ntmps48
    go_wp2_with fail
    go_ret
    exact ⟨_, rfl, Own5.nil _ _, Below.refl _ _⟩
  · have ho := Own5.new w [] #[] rfl (by unfold maxLen; simp)
    have hb := (Below.refl w.heap.size w).alloc (Nat.le_refl _) (.cells #[] 5)
    have hs := h.below (hb.mono hB)
    go_enter Tryz.func48, Tryz.ntmps48
    go_wp2_with (at_builtin; refine app5 (.tmp 5) (.tmp 6) rfl rfl w.heap.size _ [] l rfl ho _ _ c rfl hs (by simp; omega) (by simp) ?_; intro v2 w2 hown2 hg2)
    go_ret
    exact ⟨_, rfl, hown2, grown_below hb (Nat.le_refl _) ho hg2⟩
end Go.Proofs.YtidadjlhnlmfkaaGreatDoor
