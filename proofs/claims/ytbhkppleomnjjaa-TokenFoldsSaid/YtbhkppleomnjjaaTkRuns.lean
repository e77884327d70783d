/- The iterator over runs. Conditions: as stated at each. -/
import Derived.Test.YtbhkppleomnjjaaTkWord
import Derived.RangeFuncNested
import Derived.RangeFuncBound
import Derived.RangeFuncBox
import Derived.RangeFuncCalls
import Derived.RangeFuncLeaves
import Derived.Shelf.Abstract
import Derived.Shelf.RegionOpen
import Derived.WalkKit
import Derived.OwnWalkIn
import Derived.TacticsInMore
import Derived.LoopNIn
import Derived.LoopIn
namespace Go.Proofs.Ytbhkppleomnjjaa
set_option maxRecDepth 100000
namespace Tk
open Go.RowKit Go.Shelf Go Go.Proofs.Ytbhkppleomnjjaa.Pa
attribute [local go_sem] Oper.semAt_some
/-- the blocks of p lie as they lay. -/
def Sm (p : Nat → Prop) (X Y : World) : Prop := X.heap.size ≤ Y.heap.size ∧ ∀ k, p k → k < X.heap.size → Y.heap[k]? = X.heap[k]?
theorem Sm.refl (p : Nat → Prop) (X : World) : Sm p X X := ⟨Nat.le_refl _, fun _ _ _ => rfl⟩
theorem Sm.trans {p : Nat → Prop} {X Y Z : World} (h : Sm p X Y) (h' : Sm p Y Z) : Sm p X Z := ⟨Nat.le_trans h.1 h'.1, fun k hk hv => (h'.2 k hk (Nat.lt_of_lt_of_le hv h.1)).trans (h.2 k hk hv)⟩
theorem Sm.grown {p : Nat → Prop} {X Y : World} (h : X.grownBy Y none) : Sm p X Y := ⟨h.size, fun k _ hv => h.block k hv (fun e => by cases e)⟩
theorem Sm.of_below {p : Nat → Prop} {X Y : World} (h : Below X.heap.size X Y) : Sm p X Y := ⟨h.size, fun k _ hv => h.block k hv⟩
theorem Sm.cell {p : Nat → Prop} {X Y : World} (h : Sm p X Y) {a : Addr} {v : Value} (ha : p a.block) (hc : X.cell? a = some v) : Y.cell? a = some v := by
  have hl := World.block_lt_of_cell? X _ hc
  rw [← hc]
  unfold World.cell?
  rw [h.2 _ ha hl]
theorem Sm.bts {p : Nat → Prop} {X Y : World} (h : Sm p X Y) {N : Nat} {A : Option Addr} {l : L} (hb : Bts X N A l) (hp : ∀ ad, A = some ad → l ≠ [] → p ad.block) : Bts Y N A l := fun j u hj => by
  obtain ⟨ad, e, h1, h2⟩ := hb j u hj
  exact ⟨ad, e, h1, h.cell (by rw [blk_add]; exact hp ad e (fun h => by rw [h] at hj; simp [bv] at hj)) h2⟩
theorem bts_drop {w : World} {B : Nat} {ad : Addr} {l : L} (h : Bts w B (some ad) l) (a : Nat) : Bts w B (some (ad.add a)) (l.drop a) := fun j u hj => by
  rw [← bv_drop, List.getElem?_drop] at hj
  obtain ⟨ad', e, hb, hc⟩ := h _ u hj
  injection e with e
  subst e
  exact ⟨_, rfl, by rw [blk_add]; exact hb, by rw [add_twice]; exact hc⟩
/-- a run in memory. -/
abbrev RunAt (p : Nat → Prop) (W : World) (B : Nat) : Type := { x : Option Addr × Nat × List UInt8 // (∀ X, Sm p W X → Bts X B x.1 x.2.2) ∧ x.2.2.length ≤ x.2.1 ∧ x.2.1 ≤ maxLen ∧ x.2.2.length ≤ 30000 ∧ x.2.2 ≠ [] }
def encR {p : Nat → Prop} {W : World} {B : Nat} (x : RunAt p W B) : Array Value := #[.slice x.1.1 x.1.2.2.length x.1.2.1]
def byR {p : Nat → Prop} {W : World} {B : Nat} (x : RunAt p W B) : L := x.1.2.2
theorem runs_fn (A : Option Addr) (n c : Nat) (W : World) :
    Calls Try.prog 16 #[.slice A n c] W fun e w' => e = .returned (.func (.func 23) #[] #[.pointer (some ⟨W.heap.size, 0, none⟩)]) ∧ w' = W.alloc (.cells #[.slice A n c] 22) := by
  go_enter Try.func16, Try.ntmps16
  go_wp2_with fail
  go_ret
  exact ⟨rfl, rfl⟩
set_option maxHeartbeats 800000 in
theorem runs_stops (p : Nat → Prop) (n : Nat) (hn : 1 ≤ n) (w : World) (V N c : Nat) (A : Option Addr) (l : L) (hV : w.heap[V]? = some (.cells #[.slice A l.length c] 22 (0, 0))) (hb : Bts w N A l) (hpV : p V) (hpA : ∀ ad, A = some ad → l ≠ [] → p ad.block) (hc : l.length ≤ c) (hm : c ≤ maxLen) (hl : l.length ≤ 30000) :
    SeqStopsK Fence.wide n Try.prog 23 #[.pointer (some ⟨V, 0, none⟩)] (encR (p := p) (W := w) (B := N)) (Sm p) (fun xs => xs.map byR = runsG [] l) (fun pre => pre.map byR <+: runsG [] l) (l.length + 1) w := fun lp J Jx W hW hJ hJx hY h0 => by
  refine callsIn_of_wp Try.func23 rfl trivial ?_ rfl
  have hVl : V < w.heap.size := (Array.getElem?_eq_some_iff.1 hV).1
  have hNW : Sm p w W := Sm.of_below hW
  have HJ0 := Lib.hid h0
  have HB : Hid (∀ X, Sm p w X → Bts X N A l) := Lib.hid fun X hX => hX.bts hb hpA
  have HJ := Lib.hid hJ
  have HNW := Lib.hid hNW
  have HY := Lib.hid hY
  have HCX : Hid (∀ X, Sm p w X → X.cell? ⟨V, 0, none⟩ = some (.slice A l.length c)) := Lib.hid fun X hX => (cell_of_row X V 0 _ 22 (0, 0) ((hX.2 V hpV hVl).trans hV)).trans rfl
  have hVc := HCX.out W hNW
  have hVs : V < W.heap.size := Nat.lt_of_lt_of_le hVl hW.size
  have HCU := Lib.hid (runs_len l [])
  have HINIT := Lib.hid (RnSt.init l)
  simp only [Try.ntmps23, List.size_toArray, List.length_cons, List.length_nil, Nat.reduceAdd, Nat.reduceSub, Array.replicate_succ, Array.replicate_zero, List.push_toArray, List.append_toArray, List.nil_append, List.cons_append]
  clear h0 hb hNW hV hJ hY hpA
  have HM := Lib.hid hm
  unfold maxLen at hm
  have HOD := Lib.hid orDigit_any
  generalize hln : l.length = ln at *
  have HLN := Lib.hid hln
  clear hln
  gi_wp2_with fail
  clear hVc
  gi_loopw [3, 4, 8] (fun x _ y wr => ∃ (pre : List (RunAt p w N)) (b i : Nat), x = .int .i64 b ∧ y = .int .i64 i ∧ Hid (J pre wr ∧ Sm p w wr ∧ RnSt l b i (pre.map byR)) ∧ i ≤ ln + 1) (fun _ _ y _ => ln + 1 - (intOf y).toNat)
  case atStart => exact ⟨[], 0, 0, rfl, rfl, Lib.hid ⟨HJ0.out, HNW.out, HINIT.out⟩, by omega⟩
  case round =>
    obtain ⟨pre, b, i, rfl, rfl, HR, hi1⟩ := hrel
    have hcell := HCX.out wr HR.out.2.1
    have hVr : V < wr.heap.size := World.block_lt_of_cell? wr _ hcell
    have hbi : b ≤ i := HR.out.2.2.le
    by_cases hi : i ≤ ln
    · by_cases hlt : i < ln
      · obtain ⟨ad, hA, hab, hci⟩ := (HB.out wr HR.out.2.1).at_ (k := i) (by rw [HLN.out]; exact hlt)
        first | subst hA | (injection hA with hA; subst hA)
        have hog := Lib.hid (HOD.out (l.getD i 0))
        cases hlet : letB (l.getD i 0) with
        | true =>
          rw [hlet] at hog
          have HN := Lib.hid (HR.out.2.2.more (by rw [HLN.out]; exact hlt) hlet)
          clear hlet
          generalize l.getD i 0 = cc at *
          gi_wp2_with fail
          refine ⟨trivial, ?_⟩
          refine (callsIn_wide.2 (hog.out _)).mono ?_
          rintro e w1 ⟨rfl, rfl⟩
          gi_wp2_with fail
          go_roundw
          case rel => exact ⟨pre, b, i + 1, rfl, by go_num, Lib.hid ⟨HR.out.1, HR.out.2.1, HN.out⟩, by omega⟩
          case measure => first | (simp [intOf]; done) | (simp [intOf]; omega)
        | false =>
          rw [hlet] at hog
          have HN := Lib.hid (HR.out.2.2.none (by rw [HLN.out]; exact hi) (fun _ => hlet))
          clear hlet
          generalize l.getD i 0 = cc at *
          by_cases hbl : b < i
          · obtain ⟨ad, hA, hab, _⟩ := (HB.out wr HR.out.2.1).at_ (k := b) (by rw [HLN.out]; omega)
            first | subst hA | (injection hA with hA; subst hA)
            have hplen : pre.length < ln + 1 := by
              have h1 := HR.out.2.2.pre.length_le
              rw [List.length_map] at h1
              have h2 := HCU.out
              rw [List.length_nil] at h2
              omega
            have hrl : ((l.drop b).take (i - b)).length = i - b := run_len hbi (by rw [HLN.out]; exact hi)
            have HEL : Hid (∃ x : RunAt p w N, encR x = #[.slice (some (ad.add b)) (i - b) (c - b)] ∧ (pre ++ [x]).map byR = pre.map byR ++ [(l.drop b).take (i - b)]) := Lib.hid ⟨⟨(some (ad.add b), c - b, (l.drop b).take (i - b)), fun X hX => (bts_drop (HB.out X hX) b).take (i - b), by show ((l.drop b).take (i - b)).length ≤ c - b; rw [hrl]; omega, by show c - b ≤ maxLen; have := HM.out; omega, by show ((l.drop b).take (i - b)).length ≤ 30000; rw [hrl]; omega, List.length_pos_iff.1 (by rw [hrl]; omega)⟩, by unfold encR; simp only; rw [hrl], by rw [List.map_append]; rfl⟩
            rw [one_run hbl (by rw [HLN.out]; exact hi)] at HN
            obtain ⟨x, hx1, hx2⟩ := HEL.out
            rw [← hx2] at HN
            have HYY := Lib.hid (HY.out pre x _ HR.out.1 hplen)
            rw [hx1] at HYY
            have hcb : ¬ c = b := by omega
            have hci2 : i ≤ c := by omega
            clear hx1 hx2 HEL hplen hrl
            gi_wp2_with fail
            refine ⟨trivial, ?_⟩
            refine (callsIn_wide.2 (hog.out _)).mono ?_
            rintro e w1 ⟨rfl, rfl⟩
            gi_wp2_with fail
            have hY1 := HYY.out
            clear HYY
            obtain ⟨fn, tmps, assign, body, hy, hR⟩ := hY1
            gi_wp2_with fail
            rw [hy, Oper.uponIn_round]
            refine ⟨fun _ => hn, hR.mono ?_⟩
            rintro e W3 (⟨rfl, hJ3, hK3⟩ | ⟨rfl, hJx3⟩)
            · have H3 := Lib.hid (And.intro hJ3 (And.intro (HR.out.2.1.trans hK3) HN.out))
              clear hJ3 hR hy hK3 HR
              gi_wp2_with fail
              go_roundw
              case rel => exact ⟨pre ++ [x], i + 1, i + 1, by go_num, by go_num, H3, by omega⟩
              case measure => first | (simp [intOf]; done) | (simp [intOf]; omega)
            · gi_wp2_with fail
              refine bodyPost_ret (results_none rfl _ _ _) rfl ?_
              exact ⟨⟨_, rfl⟩, .inr ⟨_, HN.out.pre, hJx3⟩⟩
          · rw [one_none hbl, List.append_nil] at HN
            have hbn : ¬ (b : Int) < (i : Int) := by omega
            gi_wp2_with fail
            refine ⟨trivial, ?_⟩
            refine (callsIn_wide.2 (hog.out _)).mono ?_
            rintro e w1 ⟨rfl, rfl⟩
            gi_wp2_with fail
            refine ⟨(fun f h => by cases h), ?_⟩
            gi_wp2_with fail
            go_roundw
            case rel => exact ⟨pre, i + 1, i + 1, by go_num, by go_num, Lib.hid ⟨HR.out.1, HR.out.2.1, HN.out⟩, by omega⟩
            case measure => first | (simp [intOf]; done) | (simp [intOf]; omega)
      · obtain rfl : i = ln := by omega
        have HN := Lib.hid (HR.out.2.2.none (by rw [HLN.out]; exact hi) (fun h => absurd h (by rw [HLN.out]; exact hlt)))
        by_cases hbl : b < i
        · obtain ⟨ad, hA, hab, _⟩ := (HB.out wr HR.out.2.1).at_ (k := b) (by rw [HLN.out]; omega)
          first | subst hA | (injection hA with hA; subst hA)
          have hplen : pre.length < i + 1 := by
            have h1 := HR.out.2.2.pre.length_le
            rw [List.length_map] at h1
            have h2 := HCU.out
            rw [List.length_nil] at h2
            omega
          have hrl : ((l.drop b).take (i - b)).length = i - b := run_len hbi (by rw [HLN.out]; exact hi)
          have HEL : Hid (∃ x : RunAt p w N, encR x = #[.slice (some (ad.add b)) (i - b) (c - b)] ∧ (pre ++ [x]).map byR = pre.map byR ++ [(l.drop b).take (i - b)]) := Lib.hid ⟨⟨(some (ad.add b), c - b, (l.drop b).take (i - b)), fun X hX => (bts_drop (HB.out X hX) b).take (i - b), by show ((l.drop b).take (i - b)).length ≤ c - b; rw [hrl]; omega, by show c - b ≤ maxLen; have := HM.out; omega, by show ((l.drop b).take (i - b)).length ≤ 30000; rw [hrl]; omega, List.length_pos_iff.1 (by rw [hrl]; omega)⟩, by unfold encR; simp only; rw [hrl], by rw [List.map_append]; rfl⟩
          rw [one_run hbl (by rw [HLN.out]; exact hi)] at HN
          obtain ⟨x, hx1, hx2⟩ := HEL.out
          rw [← hx2] at HN
          have HYY := Lib.hid (HY.out pre x _ HR.out.1 hplen)
          rw [hx1] at HYY
          have hcb : ¬ c = b := by omega
          have hci2 : i ≤ c := by omega
          clear hx1 hx2 HEL hplen hrl
          gi_wp2_with fail
          refine ⟨trivial, ?_⟩
          gi_wp2_with fail
          have hY1 := HYY.out
          clear HYY
          obtain ⟨fn, tmps, assign, body, hy, hR⟩ := hY1
          gi_wp2_with fail
          rw [hy, Oper.uponIn_round]
          refine ⟨fun _ => hn, hR.mono ?_⟩
          rintro e W3 (⟨rfl, hJ3, hK3⟩ | ⟨rfl, hJx3⟩)
          · have H3 := Lib.hid (And.intro hJ3 (And.intro (HR.out.2.1.trans hK3) HN.out))
            clear hJ3 hR hy hK3 HR
            gi_wp2_with fail
            go_roundw
            case rel => exact ⟨pre ++ [x], i + 1, i + 1, by go_num, by go_num, H3, by omega⟩
            case measure => first | (simp [intOf]; done) | (simp [intOf]; omega)
          · gi_wp2_with fail
            refine bodyPost_ret (results_none rfl _ _ _) rfl ?_
            exact ⟨⟨_, rfl⟩, .inr ⟨_, HN.out.pre, hJx3⟩⟩
        · rw [one_none hbl, List.append_nil] at HN
          have hbn : ¬ (b : Int) < (i : Int) := by omega
          gi_wp2_with fail
          refine ⟨trivial, ?_⟩
          gi_wp2_with fail
          refine ⟨(fun f h => by cases h), ?_⟩
          gi_wp2_with fail
          go_roundw
          case rel => exact ⟨pre, i + 1, i + 1, by go_num, by go_num, Lib.hid ⟨HR.out.1, HR.out.2.1, HN.out⟩, by omega⟩
          case measure => first | (simp [intOf]; done) | (simp [intOf]; omega)
    · obtain rfl : i = ln + 1 := by omega
      have HE := Lib.hid (HR.out.2.2.end_ (by rw [HLN.out]))
      gi_wp2_with fail
      go_end0
      exact ⟨⟨_, rfl⟩, .inl ⟨pre, HE.out, HR.out.1⟩⟩
end Tk
end Go.Proofs.Ytbhkppleomnjjaa
