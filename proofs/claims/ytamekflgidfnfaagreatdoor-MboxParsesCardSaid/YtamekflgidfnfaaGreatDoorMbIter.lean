/- The iterator over lines. Conditions: as stated at each. -/
import Derived.Test.YtamekflgidfnfaaGreatDoorMbCut
import Derived.RangeFuncNested
import Derived.RangeFuncBound
import Derived.RangeFuncBox
import Derived.RangeFuncCalls
import Derived.RangeFuncLeaves
import Derived.Shelf.Abstract
import Derived.Shelf.RegionOpen
import Derived.WalkKit
import Derived.OwnWalkIn
import Derived.TacticsInMore
import Derived.LoopNIn
import Derived.LoopIn
namespace Go.Proofs.YtamekflgidfnfaaGreatDoor
set_option maxRecDepth 100000
namespace Mb
open Go.RowKit Go.Shelf Go
attribute [local go_sem] Oper.semAt_some
/-- the blocks of p lie as they lay. -/
def Sm (p : Nat → Prop) (X Y : World) : Prop := X.heap.size ≤ Y.heap.size ∧ ∀ k, p k → k < X.heap.size → Y.heap[k]? = X.heap[k]?
theorem Sm.refl (p : Nat → Prop) (X : World) : Sm p X X := ⟨Nat.le_refl _, fun _ _ _ => rfl⟩
theorem Sm.trans {p : Nat → Prop} {X Y Z : World} (h : Sm p X Y) (h' : Sm p Y Z) : Sm p X Z := ⟨Nat.le_trans h.1 h'.1, fun k hk hv => (h'.2 k hk (Nat.lt_of_lt_of_le hv h.1)).trans (h.2 k hk hv)⟩
theorem Sm.grown {p : Nat → Prop} {X Y : World} (h : X.grownBy Y none) : Sm p X Y := ⟨h.size, fun k _ hv => h.block k hv (fun e => by cases e)⟩
theorem Sm.alloc (p : Nat → Prop) (X : World) (o : Obj) : Sm p X (X.alloc o) := Sm.grown (grown_alloc X o)
theorem Sm.of_below {p : Nat → Prop} {X Y : World} (h : Below X.heap.size X Y) : Sm p X Y := ⟨h.size, fun k _ hv => h.block k hv⟩
theorem Sm.cell {p : Nat → Prop} {X Y : World} (h : Sm p X Y) {a : Addr} {v : Value} (ha : p a.block) (hc : X.cell? a = some v) : Y.cell? a = some v := by
  have hl := World.block_lt_of_cell? X _ hc
  rw [← hc]
  unfold World.cell?
  rw [h.2 _ ha hl]
theorem Sm.bts {p : Nat → Prop} {X Y : World} (h : Sm p X Y) {N : Nat} {A : Option Addr} {l : L} (hb : Bts X N A l) (hp : ∀ ad, A = some ad → l ≠ [] → p ad.block) : Bts Y N A l := fun j u hj => by
  obtain ⟨ad, e, h1, h2⟩ := hb j u hj
  exact ⟨ad, e, h1, h.cell (by rw [blk_add]; exact hp ad e (fun h => by rw [h] at hj; simp [bv] at hj)) h2⟩
/-- a line in memory. -/
abbrev LineAt (p : Nat → Prop) (W : World) (B : Nat) : Type := { x : Option Addr × Nat × List UInt8 // (∀ X, Sm p W X → Bts X B x.1 x.2.2) ∧ x.2.2.length ≤ x.2.1 ∧ x.2.1 ≤ maxLen ∧ x.2.2.length ≤ 30000 ∧ 0 < x.2.2.length }
def encL {p : Nat → Prop} {W : World} {B : Nat} (x : LineAt p W B) : Array Value := #[.slice x.1.1 x.1.2.2.length x.1.2.1]
def byL {p : Nat → Prop} {W : World} {B : Nat} (x : LineAt p W B) : L := x.1.2.2
theorem lines_fn (A : Option Addr) (n c : Nat) (W : World) :
    Calls Tryz.prog 66 #[.slice A n c] W fun e w' => e = .returned (.func (.func 87) #[] #[.pointer (some ⟨W.heap.size, 0, none⟩)]) ∧ w' = W.alloc (.cells #[.slice A n c] 22) := by
  go_enter Tryz.func66, Tryz.ntmps66
  go_wp2_with fail
  go_ret
  exact ⟨rfl, rfl⟩
/-- the first line of what is left. -/
theorem first_line {r : L} (h : r ≠ []) : ∃ sz : Nat, 1 ≤ sz ∧ sz ≤ r.length ∧ lns r = r.take sz :: lns (r.drop sz) ∧ ((idx 10 r = -1 ∧ sz = r.length) ∨ ∃ n : Nat, idx 10 r = n ∧ sz = n + 1) := by
  have hpos := List.length_pos_iff.2 h
  by_cases hm : (10 : UInt8) ∈ r
  · have h1 := Pa.behind_len hm
    obtain ⟨h2, h3⟩ := Pa.take_ahead hm
    refine ⟨(Pa.ahead 10 r).length + 1, by omega, by omega, ?_, .inr ⟨(Pa.ahead 10 r).length, by unfold idx; rw [if_pos hm], rfl⟩⟩
    have h4 : r.take ((Pa.ahead 10 r).length + 1) = Pa.ahead 10 r ++ [10] := by
      have e := (Pa.cut_at hm).1
      generalize Pa.ahead 10 r = a at *
      generalize Pa.behind 10 r = b at *
      rw [e, show a ++ 10 :: b = (a ++ [10]) ++ b by simp, show a.length + 1 = (a ++ [10]).length by simp]
      exact List.take_left
    rw [h4, h3]
    exact lns_cut hm
  · refine ⟨r.length, by omega, Nat.le_refl _, ?_, .inl ⟨by unfold idx; rw [if_neg hm], rfl⟩⟩
    rw [List.take_of_length_le (Nat.le_refl _), List.drop_eq_nil_of_le (Nat.le_refl _), lns_last hm h]
    rfl
set_option maxHeartbeats 400000 in
theorem lines_stops (p : Nat → Prop) (n : Nat) (hn : 1 ≤ n) (w : World) (V N c : Nat) (A : Option Addr) (l : L) (hV : w.heap[V]? = some (.cells #[.slice A l.length c] 22 (0, 0))) (hb : Bts w N A l) (hpA : ∀ ad, A = some ad → l ≠ [] → p ad.block) (hc : l.length ≤ c) (hm : c ≤ maxLen) (hA : A = none → c = 0) (hl : l.length ≤ 30000) :
    SeqStopsK Fence.wide n Tryz.prog 87 #[.pointer (some ⟨V, 0, none⟩)] (encL (p := p) (W := w) (B := N)) (Sm p) (fun xs => xs.map byL = lns l) (fun pre => pre.map byL <+: lns l) (l.length + 1) w := fun lp J Jx W hW hJ hJx hY h0 => by
  refine callsIn_of_wp Tryz.func87 rfl trivial ?_ rfl
  have hcv := conv_const
  have hVl : V < w.heap.size := (Array.getElem?_eq_some_iff.1 hV).1
  have hNW : Sm p w W := Sm.of_below hW
  have HJ0 := Lib.hid h0
  have HB : Hid (∀ X, Sm p w X → Bts X N A l) := Lib.hid fun X hX => hX.bts hb hpA
  have HJ := Lib.hid hJ
  have HNW := Lib.hid hNW
  have HA := Lib.hid hA
  have HY := Lib.hid hY
  have hVW : W.heap[V]? = some (.cells #[.slice A l.length c] 22 (0, 0)) := (hW.block V hVl).trans hV
  have hcell : W.cell? ⟨V, 0, none⟩ = some (.slice A l.length c) := (cell_of_row W V 0 _ 22 (0, 0) hVW).trans rfl
  have hVs : V < W.heap.size := Nat.lt_of_lt_of_le hVl hW.size
  have HCU := Lib.hid (lns_count l)
  simp only [Tryz.ntmps87, List.size_toArray, List.length_cons, List.length_nil, Nat.reduceAdd, Nat.reduceSub, Array.replicate_succ, Array.replicate_zero, List.push_toArray, List.append_toArray, List.nil_append, List.cons_append]
  clear h0 hb hNW hA hV hJ hY hpA hVW
  have HM := Lib.hid hm
  unfold maxLen at hm
  obtain ⟨A0, l0, c0, hA0, hl0, hc0⟩ : ∃ A0 l0 c0, A0 = A ∧ l0 = l ∧ c0 = c := ⟨_, _, _, rfl, rfl, rfl⟩
  have HE0 := Lib.hid (And.intro hA0 (And.intro hl0 hc0))
  gi_wp2_with fail
  gi_loopw [3] (fun x wr => ∃ (pre : List (LineAt p w N)) (a : Nat) (A' : Option Addr) (c' : Nat), x = .slice A' (l.length - a) c' ∧ a ≤ l.length ∧ J pre wr ∧ Sm p w wr ∧ (∀ X, Sm p w X → Bts X N A' (l.drop a)) ∧ l.length - a ≤ c' ∧ c' ≤ c ∧ (A' = none → c' = 0) ∧ pre.map byL ++ lns (l.drop a) = lns l) (fun x _ => match x with | .slice _ k _ => k | _ => 0)
  case atStart => exact ⟨[], 0, A, c, rfl, Nat.zero_le _, HJ0.out, HNW.out, HB.out, by omega, Nat.le_refl _, HA.out, by simp⟩
  case round =>
    obtain ⟨pre, a, A', c', rfl, ha, hj, hk, hbX, hcc, hcm, hA', he⟩ := hrel
    have HK := Lib.hid hk
    have HE := Lib.hid he
    have HBX := Lib.hid hbX
    have HJ1 := Lib.hid (HJ.out _ _ _ _ hj (grown_alloc wr (.cells #[.int .u8 10] 5 (1, 2))) (fun r e => by cases e))
    have HK1 := Lib.hid (Sm.alloc p wr (.cells #[.int .u8 10] 5 (1, 2)))
    have HJR := Lib.hid hj
    have HAA := Lib.hid hA'
    have hds : (l.drop a).length = l.length - a := List.length_drop
    clear hk he hj hbX hA'
    by_cases hd : l.drop a = []
    · have hz : l.length - a = 0 := by rw [← hds, hd]; rfl
      have HD := Lib.hid hd
      rw [hz]
      clear hd hds hz
      gi_wp2_with fail
      go_end0
      refine ⟨⟨_, rfl⟩, .inl ⟨pre, ?_, HJR.out⟩⟩
      have := HE.out
      rwa [HD.out, show lns [] = [] from rfl, List.append_nil] at this
    · obtain ⟨sz, s1, s2, s3, s4⟩ := first_line hd
      have hpos := List.length_pos_iff.2 hd
      rw [hds] at s2 s4 hpos
      have hgt : (0 : Int) < ((l.length - a : Nat) : Int) := by omega
      obtain ⟨g, o, hgo, hgN, _⟩ := bts_at_ (HBX.out _ HK.out) (by rw [hds]; exact hpos)
      subst hgo
      have HX : Hid (Calls Tryz.prog 78 #[.slice (some ⟨g, o, none⟩) (l.length - a) c', .slice (some ⟨wr.heap.size, 0, none⟩) 1 1] (wr.alloc (.cells #[.int .u8 10] 5 (1, 2))) fun e w' => e = .returned (.int .i64 (idx 10 (l.drop a))) ∧ (wr.alloc (.cells #[.int .u8 10] 5 (1, 2))) = w') := Lib.hid (by
        have := index_any 10 (HBX.out _ (HK.out.trans HK1.out)) (by rw [hds]; exact hpos) c' wr.heap.size 1 (by
          have := (bts_new wr [10] #[.int .u8 10] (1, 2) rfl).at_ (k := 0) (by decide)
          obtain ⟨ad, e, _, hc⟩ := this
          injection e with e
          subst e
          exact hc)
        rwa [hds] at this)
      have hplen : pre.length < l.length + 1 := by
        have h1 := congrArg List.length HE.out
        rw [List.length_append, List.length_map] at h1
        have := HCU.out
        omega
      have HEL : Hid (∃ x : LineAt p w N, encL x = #[.slice (some ⟨g, o, none⟩) sz c'] ∧ byL x = (l.drop a).take sz) := Lib.hid ⟨⟨(some ⟨g, o, none⟩, c', (l.drop a).take sz), fun X hX => (HBX.out X hX).take sz, by show ((l.drop a).take sz).length ≤ c'; rw [List.length_take, hds]; omega, by show c' ≤ maxLen; have := HM.out; omega, by show ((l.drop a).take sz).length ≤ 30000; rw [List.length_take, hds]; omega, by show 0 < ((l.drop a).take sz).length; rw [List.length_take, hds]; omega⟩, by unfold encL; simp only; rw [List.length_take, hds, Nat.min_eq_left s2], rfl⟩
      obtain ⟨x, hx1, hx2⟩ := HEL.out
      have HX2 := Lib.hid hx2
      have HYY := Lib.hid (HY.out pre x _ HJ1.out hplen)
      rw [hx1] at HYY
      have HL := Lib.hid s3
      have HTAIL : Hid (∃ (A2 : Option Addr) (c2 : Nat), Value.slice (if c' = sz then some ⟨g, o, none⟩ else some ⟨g, o + sz, none⟩) (l.length - a - sz) (c' - sz) = .slice A2 (l.length - (a + sz)) c2 ∧ (∀ X, Sm p w X → Bts X N A2 (l.drop (a + sz))) ∧ l.length - (a + sz) ≤ c2 ∧ c2 ≤ c ∧ (A2 = none → c2 = 0)) := Lib.hid (by
        refine ⟨if c' = sz then some ⟨g, o, none⟩ else some ⟨g, o + sz, none⟩, c' - sz, by rw [Nat.sub_sub], fun X hX => ?_, by omega, by omega, fun e => by split at e <;> cases e⟩
        have h1 := (HBX.out X hX).drop (k := sz) c' (by rw [hds]; omega)
        rw [List.drop_drop] at h1
        have h2 : Option.map (fun x : Addr => x.add (sz * 1)) (some ⟨g, o, none⟩) = some ⟨g, o + sz, none⟩ := by simp [add_at]
        rw [h2] at h1
        exact h1)
      have z2 : sz ≤ c' := by omega
      have z3 : sz ≤ l.length - a := by omega
      clear hds hd s3 hx1 hx2 HEL hplen
      generalize hnr : l.length - a = nr at *
      have HNR : Hid (sz ≤ nr ∧ l.length - a = nr ∧ a ≤ l.length ∧ 1 ≤ sz) := Lib.hid ⟨s2, hnr, ha, s1⟩
      clear hnr
      rcases s4 with ⟨hi, rfl⟩ | ⟨n1, hi, rfl⟩
      · rw [hi] at HX
        gi_wp2_with fail
        refine ⟨trivial, ?_⟩
        refine (callsIn_wide.2 HX.out).mono ?_
        rintro e w1 ⟨rfl, rfl⟩
        have hY1 := HYY.out
        have HK2 := Lib.hid (HK.out.trans HK1.out)
        clear HYY HJ1 HK1
        generalize (wr.alloc (.cells #[.int .u8 10] 5 (1, 2))) = w1 at *
        obtain ⟨fn, tmps, assign, body, hy, hR⟩ := hY1
        gi_wp2_with fail
        refine hR.mono ?_
        rintro e W3 (⟨rfl, hJ3, hK3⟩ | ⟨rfl, hJx3⟩)
        · have HJ3 := Lib.hid hJ3
          have HK3 := Lib.hid hK3
          obtain ⟨A2, c2, t1, t2, t3, t4, t5⟩ := HTAIL.out
          have HT := Lib.hid (And.intro t2 t5)
          clear hJ3 hR hy hK3 t2 t5
          gi_wp2_with fail
          go_roundw
          case rel => exact ⟨pre ++ [x], a + sz, A2, c2, by rw [Nat.sub_self] at t1; exact t1, by have := HNR.out; omega, HJ3.out, HK2.out.trans HK3.out, HT.out.1, t3, t4, HT.out.2, by rw [← HE.out, HL.out, List.map_append, List.append_assoc, List.drop_drop]; simp [HX2.out]⟩
          case measure => have := HNR.out; simp; omega
        · gi_wp2_with fail
          refine bodyPost_ret (results_none rfl _ _ _) rfl ?_
          refine ⟨⟨_, rfl⟩, .inr ⟨_, ?_, hJx3⟩⟩
          rw [← HE.out, HL.out, List.map_append]
          exact ⟨_, by simp [HX2.out]; rfl⟩
      · rw [hi] at HX
        have z4 : ¬ (n1 : Int) < 0 := by omega
        gi_wp2_with fail
        refine ⟨trivial, ?_⟩
        refine (callsIn_wide.2 HX.out).mono ?_
        rintro e w1 ⟨rfl, rfl⟩
        have hY1 := HYY.out
        have HK2 := Lib.hid (HK.out.trans HK1.out)
        clear HYY HJ1 HK1
        generalize (wr.alloc (.cells #[.int .u8 10] 5 (1, 2))) = w1 at *
        obtain ⟨fn, tmps, assign, body, hy, hR⟩ := hY1
        gi_wp2_with fail
        refine hR.mono ?_
        rintro e W3 (⟨rfl, hJ3, hK3⟩ | ⟨rfl, hJx3⟩)
        · have HJ3 := Lib.hid hJ3
          have HK3 := Lib.hid hK3
          obtain ⟨A2, c2, t1, t2, t3, t4, t5⟩ := HTAIL.out
          have HT := Lib.hid (And.intro t2 t5)
          clear hJ3 hR hy hK3 t2 t5
          gi_wp2_with fail
          go_roundw
          case rel => exact ⟨pre ++ [x], a + (n1 + 1), A2, c2, rfl, by have := HNR.out; omega, HJ3.out, HK2.out.trans HK3.out, HT.out.1, t3, t4, HT.out.2, by rw [← HE.out, HL.out, List.map_append, List.append_assoc, List.drop_drop]; simp [HX2.out]⟩
          case measure => have := HNR.out; simp; omega
        · gi_wp2_with fail
          refine bodyPost_ret (results_none rfl _ _ _) rfl ?_
          refine ⟨⟨_, rfl⟩, .inr ⟨_, ?_, hJx3⟩⟩
          rw [← HE.out, HL.out, List.map_append]
          exact ⟨_, by simp [HX2.out]; rfl⟩
end Mb
end Go.Proofs.YtamekflgidfnfaaGreatDoor
