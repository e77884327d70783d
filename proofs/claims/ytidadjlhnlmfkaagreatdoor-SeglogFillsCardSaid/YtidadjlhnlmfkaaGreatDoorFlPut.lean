/- frame.Put. Conditions: as stated. -/
import Derived.Test.YtidadjlhnlmfkaaGreatDoorFlWrite
namespace Go.Proofs.YtidadjlhnlmfkaaGreatDoor
set_option maxRecDepth 100000
open Go.RowKit Go
set_option maxHeartbeats 400000 in
theorem fput_any (A : Option Addr) (B c : Nat) (l : List UInt8) (w : World) (h : Bts w B A l) (hB : B ≤ w.heap.size) (hl : l.length ≤ c) (hc : c ≤ maxLen) (hm : l.length ≤ 1000000) :
    Calls Tryz.prog 25 #[.slice A l.length c] w fun e w' => Wrote w w.heap.size (rec1 l) e w' := by
  have hr := Rws.one h hB hl hc
  have hw := write_any _ _ 1 [l] _ hr (by simp) (by simp) (by simpa using hm) (by simp [took]; omega)
  rw [wr_one] at hw
  have hb := (Below.refl w.heap.size w).alloc (Nat.le_refl _) (.cells #[.slice A l.length c] 26)
  clear hr
  go_enter Tryz.func25, Tryz.ntmps25
  go_wp2_with fail
  refine hw.mono ?_
  rintro e w2 ⟨v2, rfl, ho2, hb2⟩
  have ho3 := Lib.hid (own_more ho2 (show w.heap.size ≤ _ by simp))
  have hb3 := Lib.hid (hb.trans (hb2.mono (by simp)))
  clear ho2 hb2 hw hb
  go_wp2_with fail
  exact bodyPost_ret (by simp [results, Tryz.results25, go_sem]) rfl ⟨_, rfl, ho3.out, hb3.out⟩
end Go.Proofs.YtidadjlhnlmfkaaGreatDoor
