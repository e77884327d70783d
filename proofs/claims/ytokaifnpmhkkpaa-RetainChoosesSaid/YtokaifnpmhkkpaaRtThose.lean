/- retain.those: the iterator over rules of which something holds. Conditions: as stated at each. -/
import Derived.Test.YtokaifnpmhkkpaaRtRow
import Derived.Test.YtokaifnpmhkkpaaDkMem
import Derived.RangeFuncNested
import Derived.RangeFuncBound
import Derived.RangeFuncBox
import Derived.RangeFuncCalls
import Derived.RangeFuncLeaves
import Derived.Shelf.Abstract
import Derived.Shelf.RegionOpen
import Derived.WalkKit
import Derived.OwnWalkIn
import Derived.TacticsInMore
import Derived.LoopNIn
import Derived.LoopIn
namespace Go.Proofs.Ytokaifnpmhkkpaa
set_option maxRecDepth 100000
namespace Rt
open Go.RowKit Go.Shelf Go
attribute [local go_sem] Oper.semAt_some
theorem below_a (w : World) (o : Obj) : Below w.heap.size w (w.alloc o) := (Below.refl _ w).alloc (Nat.le_refl _) o
theorem grown_of {X Y : World} (h : Below X.heap.size X Y) : X.grownBy Y none := ⟨h.os, h.tape, h.output, h.size, fun k hk _ => h.block k hk⟩
/-- a rule's value. -/
def encRu (x : R) : Array Value := #[.agg #[.string (str x.1), .string (str x.2)]]
theorem rls_at {w : World} {B : Nat} {A : Option Addr} {l : List R} (h : Prs w B A (cvR l)) : ∀ k, k < l.length → ∃ (g o : Nat), A = some ⟨g, o, none⟩ ∧ g < B ∧ ∀ X, Below B w X → X.cell? ⟨g, o + k * 2, none⟩ = some (.string (str (l.getD k r0).1)) ∧ X.cell? ⟨g, o + k * 2 + 1, none⟩ = some (.string (str (l.getD k r0).2)) := fun _ hk => h.els (cvR_get hk)
theorem filt_succ {rs : List R} {f : R → Bool} {k : Nat} (h : k < rs.length) : (rs.take (k + 1)).filter f = (rs.take k).filter f ++ (if f (rs.getD k r0) then [rs.getD k r0] else []) := by
  rw [List.take_succ_eq_append_getElem h, List.filter_append, List.getD, List.getElem?_eq_getElem h]
  cases hf : f rs[k] <;> simp [hf]
theorem filt_pre (rs : List R) (f : R → Bool) (k : Nat) : (rs.take k).filter f <+: rs.filter f := by
  conv => rhs; rw [← List.take_append_drop k rs, List.filter_append]
  exact List.prefix_append _ _
theorem those_any (A : Option Addr) (n c : Nat) (g : FuncId) (K : Nat) (W : World) :
    Calls Try.prog 27 #[.slice A n c, .func (.func g) #[] #[.pointer (some ⟨K, 0, none⟩)]] W fun e w' => e = .returned (.func (.func 37) #[] #[.pointer (some ⟨W.heap.size, 0, none⟩), .pointer (some ⟨W.heap.size + 1, 0, none⟩)]) ∧ w' = (W.alloc (.cells #[.slice A n c] 23)).alloc (.cells #[.func (.func g) #[] #[.pointer (some ⟨K, 0, none⟩)]] 52) := by
  go_enter Try.func27, Try.ntmps27
  go_wp2_with fail
  go_ret
  exact ⟨rfl, rfl⟩
set_option maxHeartbeats 1600000 in
theorem those_stops (n : Nat) (hn : 1 ≤ n) (w : World) (V U K N c : Nat) (A : Option Addr) (rs : List R) (g : FuncId) (f : R → Bool)
    (hV : w.heap[V]? = some (.cells #[.slice A rs.length c] 23 (0, 0))) (hU : w.heap[U]? = some (.cells #[.func (.func g) #[] #[.pointer (some ⟨K, 0, none⟩)]] 52 (0, 0)))
    (hN : N ≤ w.heap.size) (hVN : V < N) (hUN : U < N) (hr : Prs w N A (cvR rs)) (hl : rs.length ≤ 1000)
    (eg : ∀ args w, (callFunc g args).run Try.prog w = .ok (.enter g args) w)
    (hg : ∀ k, k < rs.length → ∀ X, Below N w X → Calls Try.prog g #[.agg #[.string (str (rs.getD k r0).1), .string (str (rs.getD k r0).2)], .pointer (some ⟨K, 0, none⟩)] X fun e w' => e = .returned (.bool (f (rs.getD k r0))) ∧ Below X.heap.size X w') :
    SeqStopsK Fence.wide n Try.prog 37 #[.pointer (some ⟨V, 0, none⟩), .pointer (some ⟨U, 0, none⟩)] encRu (Below N) (fun xs => xs = rs.filter f) (fun pre => pre <+: rs.filter f) (rs.length + 1) w := fun lp J Jx W hW hJ hJx hY h0 => by
  refine callsIn_of_wp Try.func37 rfl trivial ?_ rfl
  have hNW : Below N w W := hW.mono hN
  have hVc : ∀ X, Below N w X → X.cell? ⟨V, 0, none⟩ = some (.slice A rs.length c) := fun X hX => (cell_of_row X V 0 _ 23 (0, 0) ((hX.block V hVN).trans hV)).trans rfl
  have hUc : ∀ X, Below N w X → X.cell? ⟨U, 0, none⟩ = some (.func (.func g) #[] #[.pointer (some ⟨K, 0, none⟩)]) := fun X hX => (cell_of_row X U 0 _ 52 (0, 0) ((hX.block U hUN).trans hU)).trans rfl
  have HV := Lib.hid hVc
  have HU := Lib.hid hUc
  have HNW := Lib.hid hNW
  have HJ := Lib.hid hJ
  have HY := Lib.hid hY
  have HJ0 := Lib.hid h0
  have HEL := Lib.hid (rls_at hr)
  have HG := Lib.hid hg
  have v0 := hVc W hNW
  have hVs : V < W.heap.size := by have := hW.size; omega
  have hUs : U < W.heap.size := by have := hW.size; omega
  have HW := Lib.hid hW.size
  clear hV hU hr hg hVc hUc hJ hY h0 hJx
  obtain ⟨ln, hln⟩ : ∃ ln, ln = rs.length := ⟨_, rfl⟩
  rw [← hln] at hl v0
  have HV2 : Hid (∀ X, Below N w X → X.cell? ⟨V, 0, none⟩ = some (.slice A ln c)) := Lib.hid (by rw [hln]; exact HV.out)
  have HLN := Lib.hid hln
  clear hln HV
  simp only [Try.ntmps37, List.size_toArray, List.length_cons, List.length_nil, Nat.reduceAdd, Nat.reduceSub, Array.replicate_succ, Array.replicate_zero, List.push_toArray, List.append_toArray, List.nil_append, List.cons_append]
  gi_wp2_with fail
  clear v0
  gi_loopw [5, 8] (fun _ y wr => ∃ (pre : List R) (k : Nat), y = .int .i64 k ∧ k ≤ ln ∧ Hid (J pre wr ∧ Below N w wr ∧ W.heap.size ≤ wr.heap.size ∧ pre = (rs.take k).filter f)) (fun _ y _ => ln - (intOf y).toNat)
  case atStart => exact ⟨[], 0, rfl, Nat.zero_le _, Lib.hid ⟨HJ0.out, HNW.out, Nat.le_refl _, rfl⟩⟩
  case round =>
    obtain ⟨pre, k, rfl, hk, HR⟩ := hrel
    by_cases hlt : k < ln
    · obtain ⟨ga, oa, rfl, hga, hall⟩ := HEL.out k (by rw [← HLN.out]; exact hlt)
      obtain ⟨y0, y1⟩ := hall wr HR.out.2.1
      have u0 := HU.out wr HR.out.2.1
      have hgs : ga < wr.heap.size := by have := HR.out.2.2.1; have := HW.out; omega
      have HF := Lib.hid (filt_succ (rs := rs) (f := f) (k := k) (by rw [← HLN.out]; exact hlt))
      have HC := Lib.hid (HG.out k (by rw [← HLN.out]; exact hlt))
      have hplen : pre.length < ln + 1 := by
        rw [HR.out.2.2.2]
        have := List.length_filter_le f (rs.take k)
        rw [List.length_take] at this
        omega
      have HYY := Lib.hid (fun X hX => HY.out pre (rs.getD k r0) X hX (by rw [← HLN.out]; exact hplen))
      unfold encRu at HYY
      generalize rs.getD k r0 = r at *
      have HB1 : Hid (Below N w (wr.alloc (.cells #[.string (str r.1), .string (str r.2)] 50))) := Lib.hid (HR.out.2.1.trans ((below_a wr _).mono (by have := HR.out.2.2.1; have := HW.out; omega)))
      have HJ1 : Hid (J pre (wr.alloc (.cells #[.string (str r.1), .string (str r.2)] 50))) := Lib.hid (HJ.out _ _ _ _ HR.out.1 (grown_of (below_a wr _)) (fun r e => by cases e))
      have HU1 := Lib.hid (BlkIs.new wr 50 #[.string (str r.1), .string (str r.2)])
      have u1 := HU.out _ HB1.out
      clear hall hplen
      generalize str r.1 = s0 at *
      generalize str r.2 = s1 at *
      have HCC := Lib.hid (HC.out _ HB1.out)
      cases hf : f r with
      | false =>
        rw [hf] at HCC HF
        rw [if_neg (by simp), List.append_nil] at HF
        clear hf HYY HC
        gi_wp2_with fail
        refine ⟨trivial, ?_⟩
        refine (callsIn_wide.2 HCC.out).mono ?_
        rintro e w3 ⟨rfl, hb3⟩
        have HB3 : Hid (Below N w w3 ∧ W.heap.size ≤ w3.heap.size ∧ J pre w3) := Lib.hid ⟨HB1.out.trans (hb3.mono (by have := HU1.out.lt; have := HW.out; have := HR.out.2.2.1; omega)), by have := hb3.size; have := HU1.out.lt; have := HR.out.2.2.1; omega, HJ.out _ _ _ _ HJ1.out (grown_of hb3) (fun r e => by cases e)⟩
        clear hb3 HCC
        gi_wp2_with fail
        refine ⟨(fun f h => by cases h), ?_⟩
        gi_wp2_with fail
        go_roundw
        case rel => exact ⟨pre, k + 1, by go_num, by omega, Lib.hid ⟨HB3.out.2.2, HB3.out.1, HB3.out.2.1, by rw [HF.out]; exact HR.out.2.2.2⟩⟩
        case measure => first | (simp [intOf]; done) | (simp [intOf]; omega)
      | true =>
        rw [hf] at HCC HF
        rw [if_pos rfl] at HF
        clear hf HC
        gi_wp2_with fail
        refine ⟨trivial, ?_⟩
        refine (callsIn_wide.2 HCC.out).mono ?_
        rintro e w3 ⟨rfl, hb3⟩
        have HB3 : Hid (Below N w w3 ∧ W.heap.size ≤ w3.heap.size ∧ J pre w3) := Lib.hid ⟨HB1.out.trans (hb3.mono (by have := HU1.out.lt; have := HW.out; have := HR.out.2.2.1; omega)), by have := hb3.size; have := HU1.out.lt; have := HR.out.2.2.1; omega, HJ.out _ _ _ _ HJ1.out (grown_of hb3) (fun r e => by cases e)⟩
        have hbl3 : BlkIs w3 wr.heap.size 50 #[.string s0, .string s1] := (hb3.block _ HU1.out.lt).trans HU1.out
        have d0 := hbl3.cell 0
        have d1 := hbl3.cell 1
        have hls3 := hbl3.lt
        have hY1 := HYY.out w3 HB3.out.2.2
        clear hb3 HCC HYY hbl3
        obtain ⟨fn, tmps, assign, body, hy, hR⟩ := hY1
        gi_wp2_with fail
        refine hR.mono ?_
        rintro e W3 (⟨rfl, hJ3, hK3⟩ | ⟨rfl, hJx3⟩)
        · have H3 : Hid (J (pre ++ [r]) W3 ∧ Below N w W3 ∧ W.heap.size ≤ W3.heap.size) := Lib.hid ⟨hJ3, HB3.out.1.trans hK3, Nat.le_trans HB3.out.2.1 hK3.size⟩
          clear hJ3 hR hy hK3 d0 d1
          gi_wp2_with fail
          go_roundw
          case rel => exact ⟨pre ++ [r], k + 1, by go_num, by omega, Lib.hid ⟨H3.out.1, H3.out.2.1, H3.out.2.2, by rw [HF.out, HR.out.2.2.2]⟩⟩
          case measure => first | (simp [intOf]; done) | (simp [intOf]; omega)
        · have HPX : Hid (pre ++ [r] <+: rs.filter f) := Lib.hid (by rw [HR.out.2.2.2, ← HF.out]; exact filt_pre rs f (k + 1))
          gi_wp2_with fail
          refine bodyPost_ret (results_none rfl _ _ _) rfl ?_
          exact ⟨⟨_, rfl⟩, .inr ⟨_, HPX.out, hJx3⟩⟩
    · have hkn : k = ln := by omega
      have HE : Hid (pre = rs.filter f) := Lib.hid (by rw [HR.out.2.2.2, hkn, HLN.out, List.take_length])
      gi_wp2_with fail
      go_end0
      exact ⟨⟨_, rfl⟩, .inl ⟨pre, HE.out, HR.out.1⟩⟩
end Rt
end Go.Proofs.Ytokaifnpmhkkpaa
