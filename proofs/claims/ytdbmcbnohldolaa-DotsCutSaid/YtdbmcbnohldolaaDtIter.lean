/- The iterator over lines. Conditions: as stated at each. -/
import Derived.Test.YtdbmcbnohldolaaDtConcat
import Derived.RangeFuncNested
import Derived.RangeFuncBound
import Derived.RangeFuncBox
import Derived.RangeFuncCalls
import Derived.RangeFuncLeaves
import Derived.Shelf.Abstract
import Derived.Shelf.RegionOpen
import Derived.WalkKit
import Derived.OwnWalkIn
import Derived.TacticsInMore
import Derived.LoopNIn
import Derived.LoopIn
namespace Go.Proofs.Ytdbmcbnohldolaa
set_option maxRecDepth 100000
namespace Dt
open Go.RowKit Go.Shelf Go Go.Proofs.Ytdbmcbnohldolaa.Hd
attribute [local go_sem] Oper.semAt_some
/-- the variable that bytes.Index looks at holds some number. -/
def Gl (w : World) : Prop := ∃ m, w.cell? ⟨0, 0, none⟩ = some (.int .i64 m)
theorem Gl.lt {w : World} (h : Gl w) : 0 < w.heap.size := by obtain ⟨m, h⟩ := h; exact World.block_lt_of_cell? w ⟨0, 0, none⟩ h
theorem Gl.below {w w' : World} {B : Nat} (h : Gl w) (hb : Below B w w') (hB : 0 < B) : Gl w' := by
  obtain ⟨m, hm⟩ := h
  exact ⟨m, (hb.cell (p := ⟨0, 0, none⟩) hB).trans hm⟩
def idx (l : L) : Int := match cut2 l with | some (s, _) => (s.length : Int) | none => -1
theorem idx_none {l : L} (h : cut2 l = none) : idx l = -1 := by unfold idx; rw [h]
theorem idx_some {l s r : L} (h : cut2 l = some (s, r)) : idx l = s.length := by unfold idx; rw [h]
theorem index_all {w : World} {B : Nat} {A : Option Addr} {l : L} (h : Bts w B A l) (c g : Nat) (hc : l.length ≤ c) (hA : A = none → c = 0) (hl : l.length ≤ 1000000) (hg : Bts w (g + 1) (some ⟨g, 0, none⟩) [13, 10]) (hG : Gl w) :
    Calls Try.prog 25 #[.slice A l.length c, .slice (some ⟨g, 0, none⟩) 2 2] w fun e w' => e = .returned (.int .i64 (idx l)) ∧ ∃ q, w' = w.drewN q := by
  obtain ⟨m, hm⟩ := hG
  cases A with
  | none =>
    have := bts_none h
    subst this
    rw [hA rfl]
    exact (Try.bytes_Index_nil (some ⟨g, 0, none⟩) 2 2 w (by omega) (fun h => by omega)).mono fun e w' ⟨h1, h2⟩ => ⟨h1, 0, h2⟩
  | some ad => exact index_any h c g hc (by simp) hl hg m hm
theorem grown_drewN (w : World) (n : Nat) : w.grownBy (w.drewN n) none := ⟨rfl, rfl, rfl, Nat.le_refl _, fun _ _ _ => rfl⟩
theorem grown_allocD (w : World) (o : Obj) (n : Nat) : w.grownBy ((w.alloc o).drewN n) none := ⟨rfl, rfl, rfl, by show w.heap.size ≤ (w.alloc o).heap.size; simp, fun i hi _ => Below.heap_alloc w o i hi⟩
theorem below_allocD (w : World) (o : Obj) (n : Nat) {N : Nat} (hN : N ≤ w.heap.size) : Below N w ((w.alloc o).drewN n) := ((Below.refl N w).alloc hN o).trans (drewN_below _ _ _)
/-- the blocks of p lie as they lay. -/
def Sm (p : Nat → Prop) (X Y : World) : Prop := X.heap.size ≤ Y.heap.size ∧ ∀ k, p k → k < X.heap.size → Y.heap[k]? = X.heap[k]?
theorem Sm.refl (p : Nat → Prop) (X : World) : Sm p X X := ⟨Nat.le_refl _, fun _ _ _ => rfl⟩
theorem Sm.trans {p : Nat → Prop} {X Y Z : World} (h : Sm p X Y) (h' : Sm p Y Z) : Sm p X Z := ⟨Nat.le_trans h.1 h'.1, fun k hk hv => (h'.2 k hk (Nat.lt_of_lt_of_le hv h.1)).trans (h.2 k hk hv)⟩
theorem Sm.allocD (p : Nat → Prop) (X : World) (o : Obj) (q : Nat) : Sm p X ((X.alloc o).drewN q) := ⟨(grown_allocD X o q).size, fun k _ hv => Below.heap_alloc X o k hv⟩
theorem Sm.of_below {p : Nat → Prop} {X Y : World} (h : Below X.heap.size X Y) : Sm p X Y := ⟨h.size, fun k _ hv => h.block k hv⟩
theorem Sm.cell {p : Nat → Prop} {X Y : World} (h : Sm p X Y) {a : Addr} {v : Value} (ha : p a.block) (hc : X.cell? a = some v) : Y.cell? a = some v := by
  have hl := World.block_lt_of_cell? X _ hc
  rw [← hc]
  unfold World.cell?
  rw [h.2 _ ha hl]
theorem Sm.bts {p : Nat → Prop} {X Y : World} (h : Sm p X Y) {N : Nat} {A : Option Addr} {l : L} (hb : Bts X N A l) (hp : ∀ ad, A = some ad → l ≠ [] → p ad.block) : Bts Y N A l := fun j u hj => by
  obtain ⟨ad, e, h1, h2⟩ := hb j u hj
  exact ⟨ad, e, h1, h.cell (by rw [blk_add]; exact hp ad e (fun h => by rw [h] at hj; simp [bv] at hj)) h2⟩
/-- a line in memory. -/
abbrev LineAt (p : Nat → Prop) (W : World) (B : Nat) : Type := { x : Option Addr × Nat × List UInt8 // (∀ X, Sm p W X → Bts X B x.1 x.2.2) ∧ x.2.2.length ≤ x.2.1 ∧ x.2.1 ≤ maxLen ∧ x.2.2.length ≤ 20000 ∧ LineB x.2.2 }
def encL {p : Nat → Prop} {W : World} {B : Nat} (x : LineAt p W B) : Array Value := #[.slice x.1.1 x.1.2.2.length x.1.2.1]
def byL {p : Nat → Prop} {W : World} {B : Nat} (x : LineAt p W B) : L := x.1.2.2
theorem lines_fn (A : Option Addr) (n c : Nat) (W : World) :
    Calls Try.prog 20 #[.slice A n c] W fun e w' => e = .returned (.func (.func 24) #[] #[.pointer (some ⟨W.heap.size, 0, none⟩)]) ∧ w' = W.alloc (.cells #[.slice A n c] 22) := by
  go_enter Try.func20, Try.ntmps20
  go_wp2_with fail
  go_ret
  exact ⟨rfl, rfl⟩
set_option maxHeartbeats 400000 in
theorem lines_stops (p : Nat → Prop) (n : Nat) (hn : 1 ≤ n) (w : World) (V N c : Nat) (A : Option Addr) (l : L) (hV : w.heap[V]? = some (.cells #[.slice A l.length c] 22 (0, 0))) (hb : Bts w N A l) (hp0 : p 0) (hpV : p V) (hpA : ∀ ad, A = some ad → l ≠ [] → p ad.block) (hc : l.length ≤ c) (hm : c ≤ maxLen) (hA : A = none → c = 0) (hl : l.length ≤ 20000) (hG : Gl w) :
    SeqStopsK Fence.wide n Try.prog 24 #[.pointer (some ⟨V, 0, none⟩)] (encL (p := p) (W := w) (B := N)) (Sm p) (fun xs => xs.map byL = lines l) (fun pre => pre.map byL <+: lines l) (l.length + 1) w := fun lp J Jx W hW hJ hJx hY h0 => by
  refine callsIn_of_wp Try.func24 rfl trivial ?_ rfl
  have hcv := conv_const
  have hVl : V < w.heap.size := (Array.getElem?_eq_some_iff.1 hV).1
  have hNW : Sm p w W := Sm.of_below hW
  have HIX : Hid (∀ (wx : World) (A' : Option Addr) (s : L) (c' : Nat), Sm p w wx → (∀ X, Sm p w X → Bts X N A' s) → s.length ≤ c' → (A' = none → c' = 0) → s.length ≤ 1000000 →
      Calls Try.prog 25 #[.slice A' s.length c', .slice (some ⟨wx.heap.size, 0, none⟩) 2 2] (wx.alloc (.cells #[.int .u8 13, .int .u8 10] 5 (2, 3))) fun e w' => e = .returned (.int .i64 (idx s)) ∧ ∃ q, w' = (wx.alloc (.cells #[.int .u8 13, .int .u8 10] 5 (2, 3))).drewN q) := Lib.hid fun wx A' s c' hwx hbs h1 h2 h3 => by
    have hal := hwx.trans (Sm.allocD p wx (.cells #[.int .u8 13, .int .u8 10] 5 (2, 3)) 0)
    obtain ⟨m, hm⟩ := hG
    exact index_all (hbs _ hal) c' wx.heap.size h1 h2 h3 (bts_new wx [13, 10] _ _ rfl) ⟨m, hal.cell hp0 hm⟩
  have HJ0 := Lib.hid h0
  have HB : Hid (∀ X, Sm p w X → Bts X N A l) := Lib.hid fun X hX => hX.bts hb hpA
  have HJ := Lib.hid hJ
  have HNW := Lib.hid hNW
  have HA := Lib.hid hA
  have HY := Lib.hid hY
  have HVW : Hid (W.heap[V]? = some (.cells #[.slice A l.length c] 22 (0, 0))) := Lib.hid ((hW.block V hVl).trans hV)
  have HCU := Lib.hid (lines_count l)
  simp only [Try.ntmps24, List.size_toArray, List.length_cons, List.length_nil, Nat.reduceAdd, Nat.reduceSub, Array.replicate_succ, Array.replicate_zero, List.push_toArray, List.append_toArray, List.nil_append, List.cons_append]
  clear h0 hb hG hNW hA hV hJ hY hpA
  generalize hln : l.length = ln at *
  have HLN := Lib.hid hln
  have HM := Lib.hid hm
  clear hln
  unfold maxLen at hm
  gi_wp2_with fail
  gi_loopw [3] (fun x wr => ∃ (pre : List (LineAt p w N)) (a : Nat), x = .int .i64 a ∧ a ≤ ln ∧ J pre wr ∧ Sm p w wr ∧ wr.heap[V]? = some (.cells #[.slice A ln c] 22 (0, 0)) ∧ pre.map byL ++ lines (l.drop a) = lines l) (fun x _ => ln + 1 - (intOf x).toNat)
  case atStart => exact ⟨[], 0, rfl, Nat.zero_le _, HJ0.out, HNW.out, HVW.out, by simp⟩
  case round =>
    obtain ⟨pre, a, rfl, ha, hj, hk, hv, he⟩ := hrel
    have hcell : wr.cell? ⟨V, 0, none⟩ = some (.slice A ln c) := (cell_of_row wr V 0 _ 22 (0, 0) hv).trans rfl
    have HK := Lib.hid hk
    have HE := Lib.hid he
    have HV := Lib.hid hv
    have HJ1 := Lib.hid (fun q => HJ.out _ _ _ _ hj (grown_allocD wr (.cells #[.int .u8 13, .int .u8 10] 5 (2, 3)) q) (fun r e => by cases e))
    have HK1 := Lib.hid (fun q => Sm.allocD p wr (.cells #[.int .u8 13, .int .u8 10] 5 (2, 3)) q)
    have hVr : V < wr.heap.size := (Array.getElem?_eq_some_iff.1 hv).1
    clear hk he hv hj
    by_cases hca : c = a
    · obtain rfl : ln = a := by omega
      subst hca
      have hd : l.drop c = [] := List.drop_eq_nil_of_le (by rw [HLN.out]; exact Nat.le_refl _)
      have HD := Lib.hid hd
      have HX : Hid (Calls Try.prog 25 #[.slice A 0 0, .slice (some ⟨wr.heap.size, 0, none⟩) 2 2] (wr.alloc (.cells #[.int .u8 13, .int .u8 10] 5 (2, 3))) fun e w' => e = .returned (.int .i64 (-1)) ∧ ∃ q, w' = (wr.alloc (.cells #[.int .u8 13, .int .u8 10] 5 (2, 3))).drewN q) := Lib.hid (by
        have := HIX.out wr A [] 0 HK.out (fun _ _ => Cs.nil) (Nat.le_refl _) (fun _ => rfl) (by simp)
        rwa [idx_none rfl] at this)
      gi_wp2_with fail
      refine ⟨trivial, ?_⟩
      refine (callsIn_wide.2 HX.out).mono ?_
      rintro e w1 ⟨rfl, q, rfl⟩
      have HJ2 := Lib.hid (HJ1.out q)
      generalize ((wr.alloc (.cells #[.int .u8 13, .int .u8 10] 5 (2, 3))).drewN q) = w1 at *
      gi_wp2_with fail
      refine ⟨(fun f h => by cases h), ?_⟩
      gi_wp2_with fail
      refine bodyPost_ret (results_none rfl _ _ _) rfl ?_
      refine ⟨⟨_, rfl⟩, .inl ⟨pre, ?_, HJ2.out⟩⟩
      have := HE.out
      rwa [HD.out, (lines_none rfl).1, List.append_nil] at this
    · obtain ⟨ad, rfl⟩ : ∃ ad, A = some ad := by
        cases A with
        | none => have := HA.out rfl; omega
        | some ad => exact ⟨ad, rfl⟩
      have hdl : (l.drop a).length = ln - a := by rw [List.length_drop, HLN.out]
      have hbd := fun X hX => (HB.out X hX).drop_eq a
      have HX : Hid (Calls Try.prog 25 #[.slice (some (ad.add a)) (ln - a) (c - a), .slice (some ⟨wr.heap.size, 0, none⟩) 2 2] (wr.alloc (.cells #[.int .u8 13, .int .u8 10] 5 (2, 3))) fun e w' => e = .returned (.int .i64 (idx (l.drop a))) ∧ ∃ q, w' = (wr.alloc (.cells #[.int .u8 13, .int .u8 10] 5 (2, 3))).drewN q) := Lib.hid (by
        have := HIX.out wr (some (ad.add a)) (l.drop a) (c - a) HK.out hbd (by omega) (fun h => by cases h) (by omega)
        rwa [hdl] at this)
      cases hcut : cut2 (l.drop a) with
      | none =>
        rw [idx_none hcut] at HX
        have HD := Lib.hid (lines_none hcut).1
        clear hcut hbd hdl
        gi_wp2_with fail
        refine ⟨trivial, ?_⟩
        refine (callsIn_wide.2 HX.out).mono ?_
        rintro e w1 ⟨rfl, q, rfl⟩
        have HJ2 := Lib.hid (HJ1.out q)
        generalize ((wr.alloc (.cells #[.int .u8 13, .int .u8 10] 5 (2, 3))).drewN q) = w1 at *
        gi_wp2_with fail
        refine ⟨(fun f h => by cases h), ?_⟩
        gi_wp2_with fail
        refine bodyPost_ret (results_none rfl _ _ _) rfl ?_
        refine ⟨⟨_, rfl⟩, .inl ⟨pre, ?_, HJ2.out⟩⟩
        have := HE.out
        rwa [HD.out, List.append_nil] at this
      | some pr =>
        obtain ⟨s, r⟩ := pr
        rw [idx_some hcut] at HX
        have hlen := cut2_len hcut
        rw [hdl] at hlen
        have hLB := cut2_line hcut
        have hL2 := (lines_some hcut).1
        have hr : r = l.drop (a + (s.length + 2)) := by
          have := (cut2_some hcut).2.2.2.2
          rw [this, List.drop_drop]
        have hsb : ∀ X, Sm p w X → Bts X N (some (ad.add a)) (s ++ [13, 10]) := fun X hX => by
          have h1 := (cut2_some hcut).1
          have h2 := (hbd X hX).take (s.length + 2)
          rw [h1, show s ++ 13 :: 10 :: r = (s ++ [13, 10]) ++ r by simp, show s.length + 2 = (s ++ [13, 10]).length by simp, List.take_left] at h2
          exact h2
        have hplen : pre.length < ln + 1 := by
          have h1 := congrArg List.length HE.out
          rw [List.length_append, List.length_map] at h1
          have := HCU.out
          omega
        have HEL : Hid (∃ x : LineAt p w N, encL x = #[.slice (some (ad.add a)) (a + s.length + 2 - a) (c - a)] ∧ byL x = s ++ [13, 10]) := Lib.hid ⟨⟨(some (ad.add a), c - a, s ++ [13, 10]), hsb, by simp; omega, Nat.le_trans (Nat.sub_le _ _) HM.out, by simp; omega, hLB⟩, by unfold encL; simp; omega, rfl⟩
        obtain ⟨x, hx1, hx2⟩ := HEL.out
        have HX2 := Lib.hid hx2
        have HYY := Lib.hid (fun q => HY.out pre x _ (HJ1.out q) hplen)
        have HL2 := Lib.hid hL2
        have HR := Lib.hid hr
        rw [hx1] at HYY
        generalize hsn : s.length = sn at *
        have z0 : ¬ (sn : Int) < 0 := by omega
        have z1 : a + (sn + 2) ≤ ln := by omega
        have z2 : a + (sn + 2) ≤ c := by omega
        clear hcut hsb hLB hL2 hr hbd hdl hx1 hx2 HEL hlen hsn hplen
        gi_wp2_with fail
        refine ⟨trivial, ?_⟩
        refine (callsIn_wide.2 HX.out).mono ?_
        rintro e w1 ⟨rfl, q, rfl⟩
        have hY1 := HYY.out q
        have hkv := HK1.out q
        have hcell1 : ((wr.alloc (.cells #[.int .u8 13, .int .u8 10] 5 (2, 3))).drewN q).cell? ⟨V, 0, none⟩ = some (.slice (some ad) ln c) := (cell_of_row _ V 0 _ 22 (0, 0) ((hkv.2 V hpV hVr).trans HV.out)).trans rfl
        have hV1 := Nat.lt_of_lt_of_le hVr hkv.1
        have HK2 := Lib.hid (HK.out.trans hkv)
        have HV2 := Lib.hid ((hkv.2 V hpV hVr).trans HV.out)
        clear HYY HJ1 HK1 hkv hcell
        generalize ((wr.alloc (.cells #[.int .u8 13, .int .u8 10] 5 (2, 3))).drewN q) = w1 at *
        obtain ⟨fn, tmps, assign, body, hy, hR⟩ := hY1
        gi_wp2_with fail
        refine hR.mono ?_
        rintro e W3 (⟨rfl, hJ3, hK3⟩ | ⟨rfl, hJx3⟩)
        · have HJ3 := Lib.hid hJ3
          have HK3 := Lib.hid hK3
          clear hJ3 hR hy hK3
          gi_wp2_with fail
          go_roundw
          case rel => exact ⟨pre ++ [x], a + (sn + 2), by go_num, z1, HJ3.out, HK2.out.trans HK3.out, (HK3.out.2 V hpV hV1).trans HV2.out, by rw [← HE.out, HL2.out, List.map_append, List.append_assoc, HR.out]; simp [HX2.out]⟩
          case measure => simp [intOf]; omega
        · gi_wp2_with fail
          refine bodyPost_ret (results_none rfl _ _ _) rfl ?_
          refine ⟨⟨_, rfl⟩, .inr ⟨_, ?_, hJx3⟩⟩
          rw [← HE.out, HL2.out, List.map_append]
          exact ⟨lines r, by simp [HX2.out]⟩
end Dt
end Go.Proofs.Ytdbmcbnohldolaa
