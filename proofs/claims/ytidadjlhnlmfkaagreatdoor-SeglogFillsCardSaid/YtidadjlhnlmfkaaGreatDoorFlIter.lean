/- The iterator over records. Conditions: as stated. -/
import Derived.RangeFuncNested
import Derived.RangeFuncBound
import Derived.RangeFuncCalls
import Derived.RangeFuncLeaves
import Derived.Shelf.Abstract
import Derived.Shelf.RegionOpen
import Derived.WalkKit
import Derived.OwnWalkIn
import Derived.TacticsInMore
import Derived.LoopNIn
import Derived.LoopIn
import Derived.Test.YtidadjlhnlmfkaaGreatDoorFlCut
namespace Go.Proofs.YtidadjlhnlmfkaaGreatDoor
set_option maxRecDepth 100000
open Go.RowKit Go.Shelf Go
attribute [local go_sem] Oper.semAt_some
/-- a record in memory. -/
abbrev RecAt (W : World) (B : Nat) : Type := { x : Option Addr × Nat × List UInt8 // Bts W B x.1 x.2.2 ∧ x.2.2.length ≤ x.2.1 ∧ x.2.1 ≤ maxLen ∧ x.2.2.length ≤ 1000000 }
def encR {W : World} {B : Nat} (x : RecAt W B) : Array Value := #[.slice x.1.1 x.1.2.2.length x.1.2.1]
def byR {W : World} {B : Nat} (x : RecAt W B) : List UInt8 := x.1.2.2
def oneIf : Value → Nat
  | .bool true => 1
  | _ => 0
/-- between two rounds: what has been cut off, what is left. -/
def IterSt (W : World) (B : Nat) (x3 x4 x5 : Value) (left : List (List UInt8)) : Prop :=
  (x3 = .slice none 0 0 ∧ (∃ A n c, x4 = .slice A n c) ∧ x5 = .bool false ∧ left = []) ∨
  ∃ (r1 r2 : List UInt8) (A1 : Option Addr) (c1 : Nat) (A2 : Option Addr) (c2 : Nat), x3 = .slice A1 r1.length c1 ∧ x4 = .slice A2 r2.length c2 ∧ x5 = .bool true ∧ left = r1 :: recs r2 ∧ (r2.length ≤ 100000000 ∧ r1.length ≤ 1000000) ∧
    Bts W B A1 r1 ∧ r1.length ≤ c1 ∧ c1 ≤ maxLen ∧ Bts W B A2 r2 ∧ r2.length ≤ c2 ∧ c2 ≤ maxLen
/-- what cut answers, as a state of the iterator. -/
def CutIs (W : World) (B : Nat) (l : List UInt8) (e : Ending) (w' : World) : Prop :=
  ∃ x3 x4 x5, e = .returned (.tuple #[x3, x4, x5]) ∧ IterSt W B x3 x4 x5 (recs l) ∧ sliceLen x4 + oneIf x5 < l.length + 1 ∧ ∃ m, w' = W.drewN m
theorem cut_iter (A : Option Addr) (B c : Nat) (l : List UInt8) (w : World) (hbt : Bts w B A l) (hl : l.length ≤ c) (hc : c ≤ maxLen) (hm : l.length ≤ 100000000) :
    Calls Tryz.prog 89 #[.slice A l.length c] w fun e w' => CutIs w B l e w' := by
  cases hn : cutN l with
  | none =>
    refine (cut_none A B c l w hbt hl (by omega) hn).mono ?_
    rintro e w' ⟨rfl, m, rfl⟩
    exact ⟨_, _, _, rfl, .inl ⟨rfl, ⟨_, _, _, rfl⟩, rfl, recs_none hn⟩, by simp [sliceLen, oneIf], m, rfl⟩
  | some k =>
    obtain ⟨h1, h2⟩ := cut_took hn
    refine (cut_some A B c l w k hbt hl hc (by omega) hn).mono ?_
    rintro e w' ⟨A1, c1, A2, c2, rfl, g1, g2, g3, g4, g5, g6, m, rfl⟩
    refine ⟨_, _, _, rfl, .inr ⟨_, _, A1, c1, A2, c2, rfl, rfl, rfl, recs_some hn, ⟨by omega, by have := (cutN_yes hn).2.2.1; omega⟩, g1, g2, g3, g4, g5, g6⟩, ?_, m, rfl⟩
    simp only [sliceLen, oneIf]
    omega
theorem IterSt.below {W W' : World} {B : Nat} {x3 x4 x5 : Value} {left : List (List UInt8)} (h : IterSt W B x3 x4 x5 left) (hb : Below B W W') : IterSt W' B x3 x4 x5 left := by
  rcases h with h | ⟨r1, r2, A1, c1, A2, c2, h1, h2, h3, h4, h5, h6, h7, h8, h9, h10⟩
  · exact .inl h
  · exact .inr ⟨r1, r2, A1, c1, A2, c2, h1, h2, h3, h4, h5, h6.below hb, h7, h8, h9.below hb, h10⟩
theorem drewN_grown (w : World) (n : Nat) : w.grownBy (w.drewN n) none := ⟨rfl, rfl, rfl, Nat.le_refl _, fun _ _ _ => rfl⟩
set_option maxHeartbeats 1600000 in
theorem recs_stops (n : Nat) (hn : 1 ≤ n) (w : World) (V N c : Nat) (A : Option Addr) (l : List UInt8) (hV : w.heap[V]? = some (.cells #[.slice A l.length c] 26 (0, 0))) (hb : Bts w N A l) (hN : N ≤ w.heap.size) (hl : l.length ≤ c) (hc : c ≤ maxLen) (hm : l.length ≤ 100000000) :
    SeqStopsK Fence.wide n Tryz.prog 88 #[.pointer (some ⟨V, 0, none⟩)] (encR (W := w) (B := N)) (Below N) (fun xs => xs.map byR = recs l) (fun _ => True) (l.length + 1) w := fun lp J Jx W hW hJ hJx hY h0 => by
  refine callsIn_of_wp Tryz.func88 rfl trivial ?_ rfl
  have hVl : V < w.heap.size := (Array.getElem?_eq_some_iff.1 hV).1
  have hv : W.cell? ⟨V, 0, none⟩ = some (.slice A l.length c) := (hW.cell (p := ⟨V, 0, none⟩) hVl).trans (cell_of_row w V 0 _ 26 (0, 0) hV)
  have hNW := hW.mono hN
  have hbW := hb.below hNW
  simp only [Tryz.ntmps88, List.size_toArray, List.length_cons, List.length_nil, Nat.reduceAdd, Nat.reduceSub, Array.replicate_succ, Array.replicate_zero, List.push_toArray, List.append_toArray, List.nil_append, List.cons_append]
  gi_wp2_with fail
  refine ⟨trivial, ?_⟩
  refine (callsIn_wide.2 (cut_iter _ _ _ _ _ hbW hl hc hm)).mono ?_
  rintro e w1 ⟨x3, x4, x5, rfl, hst, _, k0, rfl⟩
  have HJ := Lib.hid (hJ _ _ _ _ h0 (drewN_grown W k0) (fun r e => by cases e))
  have HK := Lib.hid (hNW.trans (drewN_below W N k0))
  have HS := Lib.hid (hst.below (drewN_below W N k0))
  clear hst h0
  generalize W.drewN k0 = w1 at *
  gi_wp2_with fail
  gi_loopw [3, 4, 5] (fun x3 x4 x5 wr => ∃ pre left, J pre wr ∧ Below N w wr ∧ IterSt wr N x3 x4 x5 left ∧ pre.map byR ++ left = recs l) (fun _ x4 x5 _ => sliceLen x4 + oneIf x5)
  case atStart => exact ⟨[], recs l, HJ.out, HK.out, HS.out, rfl⟩
  case round =>
    obtain ⟨pre, left, hj, hk, hs, he⟩ := hrel
    rcases hs with ⟨rfl, ⟨A4, n4, c4, rfl⟩, rfl, rfl⟩ | ⟨r1, r2, A1, c1, A2, c2, rfl, rfl, rfl, rfl, ⟨h5, h5'⟩, h6, h7, h8, h9, h10, h11⟩
    · have HE := Lib.hid he
      have HJ2 := Lib.hid hj
      clear he hj
      gi_wp2_with fail
      refine ⟨(fun f h => by cases h), ?_⟩
      gi_wp2_with fail
      go_end0
      exact ⟨⟨_, rfl⟩, .inl ⟨pre, by have := HE.out; rw [List.append_nil] at this; exact this, HJ2.out⟩⟩
    · have hlen : pre.length < l.length + 1 := by
        have h1 := congrArg List.length he
        have h2 := recs_len l
        simp at h1
        omega
      have g6 : Bts w N A1 r1 := Cs.keep h6 (fun p hp => (hk.cell hp).symm)
      obtain ⟨fn, tmps, assign, body, hy, hR⟩ := hY pre ⟨(A1, c1, r1), g6, h7, h8, h5'⟩ wr hj hlen
      dsimp only [encR] at hy
      have HE := Lib.hid he
      clear he hj
      gi_wp2_with fail
      refine hR.mono ?_
      rintro e W3 (⟨rfl, hJ3, hK3⟩ | ⟨rfl, hJx3⟩)
      · have HJ3 := Lib.hid hJ3
        have HK3 := Lib.hid (hk.trans hK3)
        have g9 := h9.below hK3
        clear hJ3 hR hy
        gi_wp2_with fail
        refine ⟨trivial, ?_⟩
        refine (callsIn_wide.2 (cut_iter _ _ _ _ _ g9 h10 h11 h5)).mono ?_
        rintro e w4 ⟨y3, y4, y5, rfl, hst, hms, k4, rfl⟩
        have HJ4 := Lib.hid (hJ _ _ _ _ HJ3.out (drewN_grown W3 k4) (fun r e => by cases e))
        have HK4 := Lib.hid (HK3.out.trans (drewN_below W3 N k4))
        have HS4 := Lib.hid (hst.below (drewN_below W3 N k4))
        have HM := Lib.hid hms
        clear hst hms
        generalize W3.drewN k4 = w5 at *
        gi_wp2_with fail
        go_roundw
        case rel => exact ⟨_, _, HJ4.out, HK4.out, HS4.out, by rw [← HE.out]; simp [byR]⟩
        case measure => have := HM.out; simp only [sliceLen, oneIf] at this ⊢; exact this
      · gi_wp2_with fail
        go_end0
        exact ⟨⟨_, rfl⟩, .inr ⟨_, trivial, hJx3⟩⟩
end Go.Proofs.YtidadjlhnlmfkaaGreatDoor
