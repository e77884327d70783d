/- Chapter 9's example. Conditions: as stated. -/
import Derived.Test.YtdbmcbnohldolaaDtScanA
import Derived.Test.YtdbmcbnohldolaaDtStuffA
namespace Go.Proofs.Ytdbmcbnohldolaa
set_option maxRecDepth 100000
namespace Dt
open Go.RowKit Go Go.Proofs.Ytdbmcbnohldolaa.Hd
theorem scan_any {w : World} {A : Option Addr} {l : L} (h : Bts w w.heap.size A l) (c : Nat) (hc : l.length ≤ c) (hm : c ≤ maxLen) (hA : A = none → c = 0) (hl : l.length ≤ 20000) (hG : Gl w) :
    Calls Try.prog 15 #[.slice A l.length c] w (ScanP w l) := callsIn_wide.1 (scan_in h c hc hm hA hl hG)
theorem ex1 : stuff [46, 120] = [46, 46, 120, 13, 10, 46, 13, 10] := by decide +kernel
theorem ex2 : whole [97, 10] = false := by decide +kernel
theorem str8 {w : World} {B : Nat} {A : Option Addr} (c : Nat) (h : Bts w B A [46, 46, 120, 13, 10, 46, 13, 10]) : ∃ sx, (sx.toList == [46, 46, 120, 13, 10, 46, 13, 10]) = true ∧ (convert 22 9 (.slice A 8 c)).run Try.prog w = .ok (.string sx) w :=
  ⟨str [46, 46, 120, 13, 10, 46, 13, 10], by rw [str_list]; rfl, run_str Try.prog Try.underlying22 Try.underlying5 Try.underlying9 c h⟩
set_option maxHeartbeats 400000 in
theorem awake9 (w : World) (hG : Gl w) :
    Calls Try.prog 8 #[] w fun e w' => e = .returned (.bool true) ∧ Below w.heap.size w w' := by
  have hcv := conv_const
  have HS : Hid (∀ W : World, Below w.heap.size w W → Calls Try.prog 13 #[.slice (some ⟨W.heap.size, 0, none⟩) 2 2] (W.alloc (.cells #[.int .u8 46, .int .u8 120] 5 (2, 3))) (StuffP (W.alloc (.cells #[.int .u8 46, .int .u8 120] 5 (2, 3))) [46, 120])) := Lib.hid fun W hW => by
    have hs := hW.size
    have hl := hG.lt
    have hg : Gl (W.alloc (.cells #[.int .u8 46, .int .u8 120] 5 (2, 3))) := hG.below (hW.alloc hs _) hl
    refine stuff_any (l := [46, 120]) ?_ 2 (by decide) (by decide) (by decide) hg
    have := bts_new W [46, 120] #[.int .u8 46, .int .u8 120] (2, 3) rfl
    rwa [World.size_alloc]
  have HW0 : Hid (∀ W : World, Calls Try.prog 9 #[.slice none 0 0] W fun e w' => e = .returned (.bool true) ∧ Below W.heap.size W w') := Lib.hid fun W => whole_any (l := []) (A := none) Cs.nil 0 (by decide) (by decide)
  have HW1 : Hid (∀ W : World, Calls Try.prog 9 #[.slice (some ⟨W.heap.size, 0, none⟩) 2 2] (W.alloc (.cells #[.int .u8 97, .int .u8 10] 5 (2, 3))) fun e w' => e = .returned (.bool false) ∧ Below (W.alloc (.cells #[.int .u8 97, .int .u8 10] 5 (2, 3))).heap.size (W.alloc (.cells #[.int .u8 97, .int .u8 10] 5 (2, 3))) w') := Lib.hid fun W => by
    have := whole_any (l := [97, 10]) (A := some ⟨W.heap.size, 0, none⟩) (w := W.alloc (.cells #[.int .u8 97, .int .u8 10] 5 (2, 3))) (by have := bts_new W [97, 10] #[.int .u8 97, .int .u8 10] (2, 3) rfl; rwa [World.size_alloc]) 2 (by decide) (by decide)
    rw [ex2] at this
    exact this
  go_enter Try.func8, Try.ntmps8
  go_wp2_with (first
    | (go_at_call 13; refine (HS.out w (Below.refl _ _)).mono ?_; rintro e w1 ⟨v1, rfl, ho1, hb1⟩; rw [ex1] at ho1; obtain ⟨A1, c1, rfl, _, _⟩ := own_slice ho1; obtain ⟨sx, hls, hst⟩ := str8 c1 (Own5.bts ho1); have B1 := Lib.hid (((Below.refl w.heap.size w).alloc (Nat.le_refl _) (.cells #[.int .u8 46, .int .u8 120] 5 (2, 3))).trans (hb1.mono (by simp))); clear ho1 hb1)
    | fail)
  clear HS
  refine (HW0.out w1).mono ?_
  rintro e w2 ⟨rfl, hb2⟩
  have B2 := Lib.hid (B1.out.trans (hb2.mono B1.out.size))
  clear hb2 hls hst HW0
  go_wp2_with fail
  refine (HW1.out w2).mono ?_
  rintro e w3 ⟨rfl, hb3⟩
  have hz3 := B2.out.size
  have B3 := Lib.hid ((B2.out.alloc B2.out.size (.cells #[.int .u8 97, .int .u8 10] 5 (2, 3))).trans (hb3.mono (by simp; omega)))
  clear hb3 HW1
  go_wp2_with fail
  go_ret
  exact ⟨rfl, B3.out⟩
end Dt
end Go.Proofs.Ytdbmcbnohldolaa
