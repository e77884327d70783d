/- Contract of frame.Next. Conditions: as stated. -/
import Derived.Test.YtljefpagoggkdaaRSome
namespace Go.Proofs.Ytljefpagoggkdaa
open Go.RowKit Go
def NextP (W : World) (r1 r2 : List UInt8) (b : Bool) (e : Ending) (w' : World) : Prop :=
  ∃ v1 v2, e = .returned (.tuple #[v1, v2, .bool b]) ∧ Own5 w' W.heap.size v1 r1 ∧ Own5 w' W.heap.size v2 r2 ∧ Below W.heap.size W w'
set_option maxHeartbeats 800000 in
theorem next_none (A : Option Addr) (B c : Nat) (l : List UInt8) (w : World) (hbt : Bts w B A l) (hB : B ≤ w.heap.size) (hl : l.length ≤ c) (hm : l.length ≤ 100000000) (hn : cutN l = none) :
    Calls Try.prog 16 #[.slice A l.length c] w fun e w' => NextP w [] l false e w' := by
  have hcut := cut_none A B c l w hbt hl (by omega) hn
  clear hn
  go_enter Try.func16, Try.ntmps16
  go_wp2_with fail
  refine hcut.mono ?_
  rintro e w' ⟨rfl, k0, rfl⟩
  have h1 := hbt.below (drewN_below w B k0)
  have hB1 : B ≤ (w.drewN k0).heap.size := hB
  have hz : w.heap.size = (w.drewN k0).heap.size := rfl
  have HK := Lib.hid (drewN_below w w.heap.size k0)
  generalize w.drewN k0 = w1 at *
  have HZ := Lib.hid hz
  clear hz
  go_wp2_with fail
  refine (clone_any none w1.heap.size 0 [] w1 Cs.nil (Nat.le_refl _) (by simp)).mono ?_
  rintro e w2 ⟨v2, rfl, ho2, hb2⟩
  have HO2 := Lib.hid ho2
  have HB2 := Lib.hid hb2
  have h2 := h1.below (hb2.mono hB1)
  have hB2 : B ≤ w2.heap.size := Nat.le_trans hB1 hb2.size
  clear ho2 hb2
  go_wp2_with fail
  refine (clone_any A B c l w2 h2 hB2 (by omega)).mono ?_
  rintro e w3 ⟨v3, rfl, ho3, hb3⟩
  have HO3 := Lib.hid ho3
  have HB3 := Lib.hid hb3
  clear ho3 hb3
  go_wp2_with fail
  refine bodyPost_ret (v := .tuple #[v2, v3, .bool false]) (by simp [results, Try.results16, go_sem]) rfl ?_
  have e1 := HZ.out
  have e2 := HB2.out.size
  exact ⟨v2, v3, rfl, own_more (own_kept HO2.out HB3.out (Nat.le_refl _)) (by omega), own_more HO3.out (by omega), HK.out.trans ((HB2.out.mono (by omega)).trans (HB3.out.mono (by omega)))⟩
def CutS (W : World) (B : Nat) (r1 r2 : List UInt8) (e : Ending) (w' : World) : Prop :=
  ∃ A1 c1 A2 c2, e = .returned (.tuple #[.slice A1 r1.length c1, .slice A2 r2.length c2, .bool true]) ∧ Bts W B A1 r1 ∧ r1.length ≤ c1 ∧ c1 ≤ maxLen ∧ Bts W B A2 r2 ∧ r2.length ≤ c2 ∧ c2 ≤ maxLen ∧ ∃ m, w' = W.drewN m
set_option maxHeartbeats 800000 in
theorem next_cut (A : Option Addr) (B c : Nat) (l r1 r2 : List UInt8) (w : World) (hcut : Calls Try.prog 24 #[.slice A l.length c] w fun e w' => CutS w B r1 r2 e w') (hB : B ≤ w.heap.size) (hL : r1.length ≤ 100000000) (hR : r2.length ≤ 100000000) :
    Calls Try.prog 16 #[.slice A l.length c] w fun e w' => NextP w r1 r2 true e w' := by
  go_enter Try.func16, Try.ntmps16
  go_wp2_with fail
  refine hcut.mono ?_
  rintro e w' ⟨A1, c1, A2, c2, rfl, g1, _, _, g2, _, _, k0, rfl⟩
  have h1 := g1.below (drewN_below w B k0)
  have h2 := g2.below (drewN_below w B k0)
  have hB1 : B ≤ (w.drewN k0).heap.size := hB
  have hz : w.heap.size = (w.drewN k0).heap.size := rfl
  have HK := Lib.hid (drewN_below w w.heap.size k0)
  generalize w.drewN k0 = w1 at *
  have HZ := Lib.hid hz
  clear hz g1 g2
  go_wp2_with fail
  refine (clone_any A1 B c1 _ w1 h1 hB1 (by omega)).mono ?_
  rintro e w2 ⟨v2, rfl, ho2, hb2⟩
  have HO2 := Lib.hid ho2
  have HB2 := Lib.hid hb2
  have h3 := h2.below (hb2.mono hB1)
  have hB2 : B ≤ w2.heap.size := Nat.le_trans hB1 hb2.size
  clear ho2 hb2 h1 h2
  go_wp2_with fail
  refine (clone_any A2 B c2 _ w2 h3 hB2 (by omega)).mono ?_
  rintro e w3 ⟨v3, rfl, ho3, hb3⟩
  have HO3 := Lib.hid ho3
  have HB3 := Lib.hid hb3
  clear ho3 hb3
  go_wp2_with fail
  refine bodyPost_ret (v := .tuple #[v2, v3, .bool true]) (by simp [results, Try.results16, go_sem]) rfl ?_
  have e1 := HZ.out
  have e2 := HB2.out.size
  exact ⟨v2, v3, rfl, own_more (own_kept HO2.out HB3.out (Nat.le_refl _)) (by omega), own_more HO3.out (by omega), HK.out.trans ((HB2.out.mono (by omega)).trans (HB3.out.mono (by omega)))⟩
theorem next_some (A : Option Addr) (B c : Nat) (l : List UInt8) (w : World) (n : Nat) (hbt : Bts w B A l) (hB : B ≤ w.heap.size) (hl : l.length ≤ c) (hc : c ≤ maxLen) (hm : l.length ≤ 100000000) (hn : cutN l = some n) :
    Calls Try.prog 16 #[.slice A l.length c] w fun e w' => NextP w ((l.drop 8).take n) (l.drop (8 + n)) true e w' :=
  next_cut A B c l _ _ w (cut_some A B c l w n hbt hl hc (by omega) hn) hB (by simp; omega) (by simp; omega)
end Go.Proofs.Ytljefpagoggkdaa
