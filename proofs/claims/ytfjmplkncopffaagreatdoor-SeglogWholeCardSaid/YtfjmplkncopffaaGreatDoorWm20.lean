/- SlSeqS SlKeys SlLoad SlOpen. Conditions: as stated at each. -/
import Derived.RangeFuncBox
import Derived.RangeFuncNested
import Derived.RangeFuncBound
import Derived.RangeFuncCalls
import Derived.RangeFuncLeaves
import Derived.Shelf.Abstract
import Derived.Shelf.RegionOpen
import Derived.WalkKit
import Derived.OwnWalkIn
import Derived.TacticsInMore
import Derived.LoopNIn
import Derived.LoopIn
import Derived.Maps.AppendAt
import Derived.Test.YtfjmplkncopffaaGreatDoorWm19
import Derived.Test.YtfjmplkncopffaaGreatDoorWm18
import Derived.Test.YtfjmplkncopffaaGreatDoorWm14
import Derived.Test.YtfjmplkncopffaaGreatDoorWm17
/- slices.Values and slices.Collect at names. Conditions: as stated at each. -/
namespace Go.Proofs.YtfjmplkncopffaaGreatDoor
open Go.RowKit Go.Shelf Go Go.Maps
attribute [local go_sem] Oper.semAt_some
theorem info9 : (Tryz.prog.info? 9).map (fun i => (i.zero, i.size, i.bytes)) = some (some (.string ByteArray.empty), 1, 16) := by kernel_rfl
set_option maxRecDepth 100000 in
set_option maxHeartbeats 2000000 in
/-- slices.Values's closure, for every loop body that keeps what lay below n₀. -/
theorem values1_S (F : Fence) (n : Nat) (h7 : F.fn 80) (hro : F.round = none) (hn : 1 ≤ n) (l Bs n₀ b off len cap : Nat) (zs : List ByteArray) (hreach : len * 16 ≤ 140737488351232) (hb : b < n₀) (J Jx : List ByteArray → World → Prop)
    (hY : ∀ pre x W, J pre W → pre.length < len → YieldAt F (n - 1) Tryz.prog l #[.string x] W fun e W' =>
      (e = .returned (.bool true) ∧ J (pre ++ [x]) W' ∧ Below n₀ W W') ∨ (e = .returned (.bool false) ∧ Jx (pre ++ [x]) W'))
    (W : World) (hBs : W.cell? ⟨Bs, 0, none⟩ = some (.slice (some ⟨b, off, none⟩) len cap)) (hc : ∀ j, j < len → W.cell? ⟨b, off + j, none⟩ = some (.string (zs[j]?.getD ByteArray.empty))) (h0 : J [] W) :
    CallsIn F n Tryz.prog 80 #[.func (.yield l) #[] #[], .pointer (some ⟨Bs, 0, none⟩)] W fun e W' => (∃ v, e = .returned v) ∧
      ((∃ ys, ys = upto (fun j => zs[j]?.getD ByteArray.empty) len ∧ J ys W') ∨ (∃ pre, (∃ k, k ≤ len ∧ pre = upto (fun j => zs[j]?.getD ByteArray.empty) k) ∧ Jx pre W')) := by
  refine callsIn_of_wp Tryz.func80 rfl h7 ?_ hro
  simp only [Tryz.ntmps80, List.size_toArray, List.length_cons, List.length_nil, Nat.reduceAdd, Nat.reduceSub, Array.replicate_succ, Array.replicate_zero, List.push_toArray, List.append_toArray, List.nil_append, List.cons_append]
  gi_wp2
  gi_loopw [7] (fun i wr => ∃ k : Nat, k ≤ len ∧ i = .int .i64 k ∧ J (upto (fun j => zs[j]?.getD ByteArray.empty) k) wr ∧ Below n₀ W wr)
    (fun i _ => len - (intOf i).toNat)
  case atStart => exact ⟨0, Nat.zero_le _, rfl, h0, Below.refl _ _⟩
  case round =>
    obtain ⟨k, hk, rfl, hJs, hnx⟩ := hrel
    have hcx : k < len → wr.cell? ⟨b, off + k, none⟩ = some (.string (zs[k]?.getD ByteArray.empty)) := fun h => (hnx.cell (p := ⟨b, off + k, none⟩) hb).trans (hc k h)
    by_cases hlt : k < len
    · obtain ⟨fn, tmps, assign, body, hy, hR⟩ := hY _ (zs[k]?.getD ByteArray.empty) wr hJs (by rw [upto_length]; exact hlt)
      have hcx' := hcx hlt
      gi_wp2
      refine hR.mono ?_
      rintro e W3 (⟨rfl, hJ3, hk3⟩ | ⟨rfl, hJx3⟩)
      · gi_wp2
        go_roundw
        case rel => exact ⟨k + 1, by omega, by simp, by rw [upto_succ]; exact hJ3, hnx.trans hk3⟩
        case measure => simp [intOf]; omega
      · gi_wp2
        refine bodyPost_ret (results_none rfl _ _ _) rfl ?_
        exact ⟨⟨_, rfl⟩, .inr ⟨_, ⟨k + 1, by omega, (upto_succ _ _).symm⟩, hJx3⟩⟩
    · obtain rfl : k = len := by omega
      gi_wp2
      go_end0
      exact ⟨⟨_, rfl⟩, .inl ⟨_, rfl, hJs⟩⟩
/-- the slice holds these, in a block below n₀; or it is nil and there are none. -/
def HasS (n₀ : Nat) (W : World) (sv : Value) (zs : List ByteArray) : Prop :=
  (sv = .slice none 0 0 ∧ zs = []) ∨ ∃ b off cap, sv = .slice (some ⟨b, off, none⟩) zs.length cap ∧ b < n₀ ∧ ∀ j, j < zs.length → W.cell? ⟨b, off + j, none⟩ = some (.string (zs[j]?.getD ByteArray.empty))
theorem HasS.below {n₀ : Nat} {A B : World} (h : Below n₀ A B) {sv : Value} {zs : List ByteArray} : HasS n₀ A sv zs → HasS n₀ B sv zs
  | .inl e => .inl e
  | .inr ⟨b, off, cap, e, hb, hc⟩ => .inr ⟨b, off, cap, e, hb, fun j hj => (h.cell (p := ⟨b, off + j, none⟩) hb).trans (hc j hj)⟩
set_option maxRecDepth 100000 in
set_option maxHeartbeats 1000000 in
theorem values1_nil_S (F : Fence) (n : Nat) (h7 : F.fn 80) (hro : F.round = none) (l Bs : Nat) (J : List ByteArray → World → Prop) (W : World) (hBs : W.cell? ⟨Bs, 0, none⟩ = some (.slice none 0 0)) (h0 : J [] W) :
    CallsIn F n Tryz.prog 80 #[.func (.yield l) #[] #[], .pointer (some ⟨Bs, 0, none⟩)] W fun e W' => (∃ v, e = .returned v) ∧ J [] W' := by
  refine callsIn_of_wp Tryz.func80 rfl h7 ?_ hro
  simp only [Tryz.ntmps80, List.size_toArray, List.length_cons, List.length_nil, Nat.reduceAdd, Nat.reduceSub, Array.replicate_succ, Array.replicate_zero, List.push_toArray, List.append_toArray, List.nil_append, List.cons_append]
  gi_wp2
  gi_loopw [7] (fun i wr => i = .int .i64 0 ∧ J [] wr) (fun _ _ => 0)
  case atStart => exact ⟨rfl, h0⟩
  case round =>
    obtain ⟨rfl, hJs⟩ := hrel
    gi_wp2
    go_end0
    exact ⟨⟨_, rfl⟩, hJs⟩
theorem values_S (a : Option Addr) (len cap : Nat) (w : World) :
    Calls Tryz.prog 59 #[.slice a len cap] w fun e w' => e = .returned (.func (.func 80) #[] #[.pointer (some ⟨w.heap.size, 0, none⟩)]) ∧ w' = w.alloc (.cells #[.slice a len cap] 94) := by
  have hmf : ∀ (fn : Fn) (first cap : Array Value) (w : World), (Instr.makeFunc fn first cap).run Tryz.prog w = .ok (.func fn first cap) w := fun _ _ _ _ => rfl
  go_enter Tryz.func59, Tryz.ntmps59
  go_wp2_with fail
  go_ret
  exact ⟨rfl, rfl⟩
theorem values_stops_S (F : Fence) (n : Nat) (h7 : F.fn 80) (hro : F.round = none) (hn : 1 ≤ n) (Bs n₀ : Nat) (sv : Value) (zs : List ByteArray) (hreach : zs.length * 16 ≤ 140737488351232) (w : World) (hBs : Bs < w.heap.size) (hn₀ : n₀ ≤ w.heap.size)
    (hc : w.cell? ⟨Bs, 0, none⟩ = some sv) (hI : HasS n₀ w sv zs) :
    SeqStopsK F n Tryz.prog 80 #[.pointer (some ⟨Bs, 0, none⟩)] (fun x : ByteArray => #[.string x]) (Below n₀) (fun ys => ys = zs) (fun pre => pre <+: zs) zs.length w := fun l J Jx W hW _ _ hY h0 => by
  have hc' := (hW.cell (p := ⟨Bs, 0, none⟩) hBs).trans hc
  rcases hI.below (hW.mono hn₀) with ⟨rfl, rfl⟩ | ⟨b, off, cap, rfl, hb, hcs⟩
  · exact (values1_nil_S F n h7 hro l Bs J W hc' h0).mono fun e W' ⟨he, hj⟩ => ⟨he, .inl ⟨_, rfl, hj⟩⟩
  · refine (values1_S F n h7 hro hn l Bs n₀ b off zs.length cap zs hreach hb J Jx hY W hc' hcs h0).mono ?_
    rintro e W' ⟨he, ⟨ys, rfl, hj⟩ | ⟨pre, ⟨k, hk, rfl⟩, hj⟩⟩
    · exact ⟨he, .inl ⟨_, upto_all ByteArray.empty zs, hj⟩⟩
    · exact ⟨he, .inr ⟨_, by rw [upto_take ByteArray.empty zs hk]; exact List.take_prefix _ _, hj⟩⟩
set_option maxRecDepth 100000 in
set_option maxHeartbeats 2000000 in
theorem appendSeq_S (w : World) (V : Nat) (sv : Value) (xs : List ByteArray) (hlen : xs.length ≤ 1000000000) (hV : V < w.heap.size) (hc : w.cell? ⟨V, 0, none⟩ = some sv) (hI : HasS w.heap.size w sv xs) :
    CallsIn Fence.wide 3 Tryz.prog 95 #[.slice none 0 0, .func (.func 80) #[] #[.pointer (some ⟨V, 0, none⟩)]] w fun e W' => ∃ v, e = .returned v ∧ W'.ownsRow w.heap.size 9 1 v xs.length (xs.map Value.string) ∧ Below w.heap.size w W' := by
  have h1 : 1 ≤ 3 := by omega
  obtain ⟨i0, hi, hz0, hz1, hz2⟩ := info_parts info9
  refine callsIn_of_wp_marks Tryz.func95 rfl trivial ?_ rfl
  simp only [Tryz.ntmps95, List.size_toArray, List.length_cons, List.length_nil, Nat.reduceAdd, Nat.reduceSub, Array.replicate_succ, Array.replicate_zero, List.push_toArray, List.append_toArray, List.nil_append, List.cons_append]
  gi_wp2_with fail
  have bO := Boxed.new w 94 (.slice none 0 0)
  have hB0 : Below w.heap.size w (w.alloc (.cells #[.slice none 0 0] 94)) := (Below.refl _ w).alloc (Nat.le_refl _) _
  refine wpIn_rangeFunc_ownG rfl h1 (gf := 80) (lb := #[.pointer (some ⟨V, 0, none⟩)]) rfl trivial (enters_of Tryz.func80 (by kernel_rfl) rfl)
    (values_stops_S Fence.wide 2 trivial rfl (by omega) V w.heap.size sv xs (by omega) _ (by simp; omega) (by simp) ((hB0.cell (p := ⟨V, 0, none⟩) hV).trans hc) (hI.below hB0)) belowK_t (belowK_b (by simp)) (Below.refl _ _) (fun _ => rfl)
    (fun pre W => (∃ v, Boxed W w.heap.size 94 v ∧ W.ownsRow w.heap.size 9 1 v pre.length (pre.map Value.string) ∧ (v = .slice none 0 0 ↔ pre = [])) ∧ Below w.heap.size w W)
    (fun _ _ _ => False)
    (OwnFrom.and (Own.from (holdsRow_own w.heap.size w.heap.size 94 9 1 (fun pre : List ByteArray => pre.length) (fun pre => pre.map Value.string) (fun pre v => v = .slice none 0 0 ↔ pre = [])) _) (ownFrom_below (Nat.le_refl _) (by simp)))
    (fun _ _ _ _ _ hs _ _ => hs)
    ⟨⟨_, bO, World.ownsRow_nil _ _ _ _, by simp⟩, hB0⟩
    (fun x => { tmps := #[.slice none 0 0, .func (.func 80) #[] #[.pointer (some ⟨V, 0, none⟩)], .pointer (some ⟨w.heap.size, 0, none⟩), undef, .slice none 0 0, .string x, .func (.func 80) #[] #[.pointer (some ⟨V, 0, none⟩)], .string x, undef, undef, undef, undef, undef], defers := [] }) ?assign ?body ?done ?stop
  case assign =>
    intro l x W K hK
    gi_wp2_with fail
    exact hK
  case body =>
    rintro l pre x W ⟨⟨v, hv, hrow, hnil⟩, hB⟩ hlt
    have hc := hv.cell
    gi_wp2_with (gi_at_builtin; refine wpListIn_append_own _ rfl _ _ 94 rfl w.heap.size 9 i0 (.string ByteArray.empty) 1 16 Tryz.underlying94 hi hz0 hz1 hz2 rfl (by decide) _ _ _ rfl (hrow.alloc _) ⟨W.heap.size, 0, none⟩ 1 1 [.string x] rfl rfl (cell_one_new _ _ _) (by simp [Value.oneCell']) (by unfold maxLen; omega) (by omega) (by have := hB.size; simp; omega) ?_; intro v' w1 hown' hgrow _; obtain ⟨g', cap', rfl⟩ := ownsRow_succ hown'; obtain ⟨hv1, hv2, hr2, hk2, hb2⟩ := hv.appended (by decide) hrow hB.size (Nat.le_refl _) hown' hgrow; have hc1 := hv1.cell; have hf1 := hv1.frozen)
    exact ⟨hk2.from _, hb2, ⟨_, hv2, by simpa using hr2, by simp⟩, hB.trans hb2⟩
  case done =>
    rintro D ys W hD rfl ⟨⟨v, hv, hrow, hnil⟩, hB⟩ hK
    have hc := hv.cell
    gi_wp2_with fail
    refine ⟨by simp, .inl ⟨_, _, rfl, run_takeDeferred hK, ?_⟩⟩
    exact ⟨_, results_tmp rfl _ _ _, v, rfl, ownsRow_putObj hrow _ hK rfl, hB.trans (belowK_b (w := w) (Nat.le_refl _) W D _ _ (by simp at hD; omega) hK rfl rfl)⟩
  case stop =>
    rintro D c pre W _ _ h _
    exact h.elim
theorem collect_S (w : World) (V : Nat) (sv : Value) (xs : List ByteArray) (hlen : xs.length ≤ 1000000000) (hV : V < w.heap.size) (hc : w.cell? ⟨V, 0, none⟩ = some sv) (hI : HasS w.heap.size w sv xs) :
    Calls Tryz.prog 81 #[.func (.func 80) #[] #[.pointer (some ⟨V, 0, none⟩)]] w fun e W' => ∃ v, e = .returned v ∧ W'.ownsRow w.heap.size 9 1 v xs.length (xs.map Value.string) ∧ Below w.heap.size w W' := by
  have ha := Lib.hid (callsIn_wide.1 (appendSeq_S w V sv xs hlen hV hc hI))
  go_enter Tryz.func81, Tryz.ntmps81
  go_wp2_with fail
  refine ha.out.mono ?_
  rintro e w' ⟨v, rfl, hrow, hb⟩
  obtain ⟨A, cc, rfl, _, _⟩ := own_slice hrow
  have HR := Lib.hid hrow
  have HB := Lib.hid hb
  clear hrow hb
  go_wp2_with fail
  go_ret
  exact ⟨_, rfl, HR.out, HB.out⟩
theorem has_of_own_S {W : World} {N n : Nat} {v : Value} {zs : List ByteArray} (h : W.ownsRow N 9 1 v n (zs.map Value.string)) (hn : n = zs.length) : HasS W.heap.size W v zs := by
  subst hn
  rcases h.2 with ⟨rfl, h0⟩ | ⟨g, cap, cur, rfl, hb, hh, h1, h2, h3, ht⟩
  · exact .inl ⟨rfl, List.eq_nil_of_length_eq_zero h0⟩
  · refine .inr ⟨g, 0, cap, rfl, (Array.getElem?_eq_some_iff.1 hh).1, fun j hj => ?_⟩
    rw [Nat.zero_add, cell_of_row W g j cur 9 (0, 0) hh]
    have h1 : (cur.toList.take zs.length)[j]? = (zs.map Value.string)[j]? := by
      have : cur.toList.take zs.length = zs.map Value.string := by simpa using ht
      rw [this]
    rw [List.getElem?_take_of_lt hj] at h1
    rw [← Array.getElem?_toList, h1]
    simp [hj]
end Go.Proofs.YtfjmplkncopffaaGreatDoor
/- The segments' numbers, and the names of a disk without files. Conditions: as stated at each. -/
namespace Go.Proofs.YtfjmplkncopffaaGreatDoor
open Go.RowKit Go.Shelf Go Go.Maps Go.Sort
theorem sorts64 (m : Nat) : AnyZI.SortsIn Tryz.prog Tryz.sorted64_ren Fence.wide m :=
  ⟨fun blk off cap ss W hH hblk hsz => callsIn_wide.2 (AnyM.slices_Sort_int Tryz.sort85 blk off cap ss W hH hblk hsz), fun p cap W => callsIn_wide.2 (AnyM.slices_Sort_int_none Tryz.sort85 p cap W)⟩
theorem sorts60 (m : Nat) : AnyZ.SortsIn Tryz.prog Tryz.sorted60_ren Fence.wide m :=
  ⟨fun blk off cap ss W hH hblk hsz => callsIn_wide.2 (AnyM.slices_Sort_string Tryz.sort82 blk off cap ss W hH hblk hsz), fun p cap W => callsIn_wide.2 (AnyM.slices_Sort_string_none Tryz.sort82 p cap W)⟩
theorem keys65_any (mb : Option Nat) (W : World) : Calls Tryz.prog 65 #[.map mb] W fun e w' => e = .returned (.func (.func 86) #[] #[.pointer (some ⟨W.heap.size, 0, none⟩)]) ∧ w' = W.alloc (.cells #[.map mb] 57) :=
  callsIn_wide.1 (AnyZI.keys_in Tryz.keys65 Fence.wide 5 trivial rfl mb W)
theorem keys61_any (mb : Option Nat) (W : World) : Calls Tryz.prog 61 #[.map mb] W fun e w' => e = .returned (.func (.func 83) #[] #[.pointer (some ⟨W.heap.size, 0, none⟩)]) ∧ w' = W.alloc (.cells #[.map mb] 53) :=
  callsIn_wide.1 (AnyZ.keys_in Tryz.keys61 Fence.wide 5 trivial rfl mb W)
set_option maxHeartbeats 1000000 in
theorem sorted64_any {H : Type} (b nn : Nat) (D0 : DataW H) (R : Value → Option (DataW H × List MemPlace)) (w : World) (hown : w.ownsMap Tryz.prog 3 R b nn D0) (hmax : Maps.size D0 ≤ 1000000000) :
    Calls Tryz.prog 64 #[.func (.func 86) #[] #[.pointer (some ⟨w.heap.size, 0, none⟩)]] (w.alloc (.cells #[.map (some b)] 57)) fun e w' => ∃ (v : Value) (ss : List Int), e = .returned v ∧ ss.Perm (intKeys D0) ∧
      w'.ownsRow (w.alloc (.cells #[.map (some b)] 57)).heap.size 3 1 v ss.length ((ss.mergeSort (fun x y => decide (x ≤ y))).map encZ) ∧ (v = .slice none 0 0 ↔ ss = []) ∧ Below (w.alloc (.cells #[.map (some b)] 57)).heap.size (w.alloc (.cells #[.map (some b)] 57)) w' := by
  have hbl := hown.lt
  have hseq : SeqGives Fence.wide 2 Tryz.prog 86 #[.pointer (some ⟨w.heap.size, 0, none⟩)] encZ (fun ss => ss.Perm (intKeys D0)) (Maps.size D0) (w.alloc (.cells #[.map (some b)] 57)) :=
    AnyZI.keys_gives (ρ := Tryz.keys65_ren) { Tryz.keys65 with } Fence.wide _ trivial rfl (by omega) w.heap.size b nn D0 _ (by simp) (by simp) (by
      obtain ⟨es, clock, hb, Ft, hs, hD⟩ := hown
      exact ⟨es, clock, (Below.heap_alloc _ _ b hbl).trans hb, Ft, hs, hD⟩)
  exact callsIn_wide.1 (AnyZI.sorted_in Tryz.sorted64 Fence.wide 5 trivial trivial trivial trivial rfl (by omega) (sorts64 _) (enters_of Tryz.func85 (by kernel_rfl) rfl) 86 #[.pointer (some ⟨w.heap.size, 0, none⟩)] trivial (enters_of Tryz.func86 (by kernel_rfl) rfl) _ _ (by unfold maxLen; omega) (by omega) _ hseq)
set_option maxHeartbeats 1000000 in
theorem sorted60_any {H : Type} (b nn : Nat) (D0 : DataW H) (R : Value → Option (DataW H × List MemPlace)) (w : World) (hown : w.ownsMap Tryz.prog 9 R b nn D0) (hmax : Maps.size D0 ≤ 1000000000) :
    Calls Tryz.prog 60 #[.func (.func 83) #[] #[.pointer (some ⟨w.heap.size, 0, none⟩)]] (w.alloc (.cells #[.map (some b)] 53)) fun e w' => ∃ (v : Value) (ss : List (List UInt8)), e = .returned v ∧ ss.Perm (strKeys D0) ∧
      w'.ownsRow (w.alloc (.cells #[.map (some b)] 53)).heap.size 9 1 v ss.length ((ss.mergeSort (fun x y => decide (x ≤ y))).map encStr) ∧ (v = .slice none 0 0 ↔ ss = []) ∧ Below (w.alloc (.cells #[.map (some b)] 53)).heap.size (w.alloc (.cells #[.map (some b)] 53)) w' := by
  have hbl := hown.lt
  have hseq : SeqGives Fence.wide 2 Tryz.prog 83 #[.pointer (some ⟨w.heap.size, 0, none⟩)] encStr (fun ss => ss.Perm (strKeys D0)) (Maps.size D0) (w.alloc (.cells #[.map (some b)] 53)) :=
    AnyZ.keys_gives (ρ := Tryz.keys61_ren) { Tryz.keys61 with } Fence.wide _ trivial rfl (by omega) w.heap.size b nn D0 _ (by simp) (by simp) (by
      obtain ⟨es, clock, hb, Ft, hs, hD⟩ := hown
      exact ⟨es, clock, (Below.heap_alloc _ _ b hbl).trans hb, Ft, hs, hD⟩)
  exact callsIn_wide.1 (AnyZ.sorted_in Tryz.sorted60 Fence.wide 5 trivial trivial trivial trivial rfl (by omega) (sorts60 _) (enters_of Tryz.func82 (by kernel_rfl) rfl) 83 #[.pointer (some ⟨w.heap.size, 0, none⟩)] trivial (enters_of Tryz.func83 (by kernel_rfl) rfl) _ _ (by unfold maxLen; omega) (by omega) _ hseq)
/-- the numbers from 1 on. -/
def nums (n : Nat) : List Int := (List.range n).map fun j : Nat => (j : Int) + 1
theorem nums_length (n : Nat) : (nums n).length = n := by simp [nums]
theorem nums_mem (n : Nat) (x : Int) : x ∈ nums n ↔ 1 ≤ x ∧ x ≤ n := by
  unfold nums
  rw [List.mem_map]
  constructor
  · rintro ⟨j, hj, rfl⟩
    rw [List.mem_range] at hj
    omega
  · rintro ⟨h1, h2⟩
    exact ⟨(x - 1).toNat, by rw [List.mem_range]; omega, by omega⟩
theorem nums_rising (n : Nat) : (nums n).Pairwise (fun a b => a < b) := by
  unfold nums
  rw [List.pairwise_map]
  exact List.pairwise_lt_range.imp fun h => by omega
theorem segs_perm {W : World} {G k : Nat} {D : DataW Value} {g : List (Nat × Nat)} (h : Held W Tryz.prog 3 G k D) (hg : SegD D g) : (nums g.length).Perm (intKeys D) := by
  obtain ⟨es, hD, hpw, _⟩ := World.ownsMap.entries h (int_keyed Tryz.underlying3)
  obtain ⟨es', hD', hko⟩ := World.ownsMap.keysOf h
  obtain rfl : es = es' := by rw [hD] at hD'; simpa using hD'
  subst hD
  exact perm_intKeys hpw (fun p hp => by obtain ⟨v, hv⟩ := hko p hp; obtain ⟨x, _, hx, _⟩ := Maps.keyOf_i64 Tryz.underlying3 hv; exact ⟨x, hx⟩) ((nums_rising _).imp fun h => by omega) (fun x => by rw [nums_mem]; exact (hg.1 x).symm)
theorem size_keys {H : Type} (D : DataW H) : Maps.size D = (intKeys D).length := by
  cases D <;> simp [Maps.size, intKeys]
theorem size_strs {H : Type} (D : DataW H) : Maps.size D = (strKeys D).length := by
  cases D <;> simp [Maps.size, strKeys]
theorem sort_nums (n : Nat) (ss : List Int) (h : ss.Perm (nums n)) : ss.mergeSort (fun x y => decide (x ≤ y)) = nums n := by
  have h1 := mergeSort_of_perm_i h
  have h2 : (nums n).mergeSort leI = nums n := List.mergeSort_of_pairwise ((nums_rising n).imp fun h => by simp [leI]; omega)
  exact h1.trans h2
theorem held_has {w : World} {P : Program} {k t e : TypeId} {b n : Nat} {D : DataW Value} {s : ByteArray} (h : Held w P k b n D) (hk : P.underlying k = some .string) (ht : P.underlying t = some (.map k e)) (hs : s.size ≤ maxLen) {z : Value} (hz : (zeroValue e).run P w = .ok z w) (ha : at_ D s = none) : has D (kOf s) = false := by
  obtain ⟨es, clock, hb, F, _, rfl⟩ := h
  have hkey : keyOf P k (.string s) = some (kOf s) := WideMaps.keyOf_string_mk hk hs
  rcases fit_look true (string_keyed hk) ht hz hb F hkey with ⟨_, _, hat⟩ | ⟨e0, y, _, _, _, hR, hat, _⟩
  · exact has_false_of_atKey hat
  · have hy : y = (.held e0.val, []) := by
      unfold rh at hR
      injection hR with hR
      exact hR.symm
    unfold at_ at ha
    rw [hat .nil, hy] at ha
    cases ha
theorem no_keys {W : World} {M k : Nat} {D : DataW Value} (h : MapIs W M k D) (ha : ∀ s, at_ D s = none) : strKeys D = [] := by
  have hle := strKeys_le h Tryz.underlying9
  cases hD : strKeys D with
  | nil => rfl
  | cons x r =>
    exfalso
    have hx : x ∈ strKeys D := by rw [hD]; simp
    have hl := hle x hx
    have hf := held_has (s := ⟨x.toArray⟩) h Tryz.underlying9 Tryz.underlying53 (by show x.toArray.size ≤ maxLen; simpa using hl) (zero58 W) (ha _)
    obtain ⟨es, rfl, hko⟩ := World.ownsMap.keysOf h
    obtain ⟨p, hp, hpx⟩ := List.mem_map.1 hx
    obtain ⟨v, hv⟩ := hko p hp
    obtain ⟨y, _, hy, _⟩ := Maps.keyOf_str Tryz.underlying9 hv
    rw [has_eq, List.any_eq_false] at hf
    refine hf p hp ?_
    rw [hy] at hpx ⊢
    have : y = x := hpx
    subst this
    simp [kOf, Lit.sameKey]
set_option maxHeartbeats 1000000 in
set_option maxRecDepth 20000 in
theorem numbers_L (W : World) (L Dk : Nat) (nm : ByteArray) (sz : Int) (G k : Nat) (last : Int) (dead : Bool) (g : List (Nat × Nat)) (hL : LogB W L Dk nm sz G last dead) (hG : SegM W G k g) (hl : g.length ≤ 1000000) :
    Calls Tryz.prog 39 #[.pointer (some ⟨L, 0, none⟩)] W fun e w' => ∃ V sv, e = .returned (.func (.func 84) #[] #[.pointer (some ⟨V, 0, none⟩)]) ∧ V < w'.heap.size ∧ w'.cell? ⟨V, 0, none⟩ = some sv ∧ HasI w'.heap.size w' sv (nums g.length) ∧ Below W.heap.size W w' := by
  have c3 := BlkIs.cell hL 3
  obtain ⟨D, hM, hD⟩ := hG
  have hp := segs_perm hM hD
  have hsz : Maps.size D ≤ 1000000000 := by rw [size_keys, ← hp.length_eq, nums_length]; omega
  have hso := Lib.hid (sorted64_any G k D rh W hM hsz)
  go_enter Tryz.func39, Tryz.ntmps39
  go_wp2_with (go_at_call 65; refine (keys65_any _ _).mono ?_; rintro e w' ⟨rfl, rfl⟩)
  refine hso.out.mono ?_
  rintro e w1 ⟨v, ss, rfl, hS, hrow, hnil, hbl⟩
  have hpp := hS.trans hp.symm
  rw [sort_nums _ _ hpp] at hrow
  have hlen : ss.length = (nums g.length).length := hpp.length_eq
  have hhas := has_of_own_I hrow hlen
  obtain ⟨A, cc, rfl, _, _⟩ := own_slice hrow
  have hb1 : Below W.heap.size W w1 := ((Below.refl _ W).alloc (Nat.le_refl _) _).trans (hbl.mono (by simp))
  have HH := Lib.hid hhas
  have HB := Lib.hid hb1
  clear hrow hnil hbl hS hhas hb1 hso hpp hlen hp
  go_wp2_with (go_at_call 63; refine (values_I _ _ _ _).mono ?_; rintro e w' ⟨rfl, rfl⟩)
  go_ret
  have hz := HB.out.size
  have hal := (Below.refl w1.heap.size w1).alloc (Nat.le_refl _) (.cells #[.slice A ss.length cc] 23)
  refine ⟨w1.heap.size, _, rfl, by simp, (BlkIs.new w1 23 _).cell 0, ?_, HB.out.alloc hz _⟩
  rcases HH.out.below hal with h | ⟨b, off, cap, h1, h2, h3⟩
  · exact .inl h
  · exact .inr ⟨b, off, cap, h1, by simp; omega, h3⟩
set_option maxHeartbeats 1000000 in
set_option maxRecDepth 20000 in
theorem dnames_none (W : World) (N : Nat) (Ft : Nat → Prop) (Dk k : Nat) (F : Files) (rm x lf : Int) (hS : DiskS W N Ft Dk k F rm x lf false) (hF : ∀ s, F s = none) :
    Calls Tryz.prog 33 #[.pointer (some ⟨Dk, 0, none⟩)] W fun e w' => ∃ V, e = .returned (.func (.func 80) #[] #[.pointer (some ⟨V, 0, none⟩)]) ∧ V < w'.heap.size ∧ w'.cell? ⟨V, 0, none⟩ = some (.slice none 0 0) ∧ Below W.heap.size W w' := by
  obtain ⟨M, D, hD, hM, f1, f2, hFi⟩ := hS
  have hk0 := no_keys hM (fun s => hFi.1 s (hF s))
  have hsz : Maps.size D ≤ 1000000000 := by rw [size_strs, hk0]; simp
  have hso := Lib.hid (sorted60_any M k D rh W hM hsz)
  have c0 := hD.cell 0
  go_enter Tryz.func33, Tryz.ntmps33
  go_wp2_with (go_at_call 61; refine (keys61_any _ _).mono ?_; rintro e w' ⟨rfl, rfl⟩)
  refine hso.out.mono ?_
  rintro e w1 ⟨v, ss, rfl, hS, hrow, hnil, hbl⟩
  rw [hk0] at hS
  obtain rfl : ss = [] := List.perm_nil.1 hS
  obtain rfl : v = .slice none 0 0 := hnil.2 rfl
  have hb1 : Below W.heap.size W w1 := ((Below.refl _ W).alloc (Nat.le_refl _) _).trans (hbl.mono (by simp))
  have HB := Lib.hid hb1
  clear hrow hnil hbl hS hb1 hso
  go_wp2_with (go_at_call 59; refine (values_S _ _ _ _).mono ?_; rintro e w' ⟨rfl, rfl⟩)
  go_ret
  exact ⟨w1.heap.size, rfl, by simp, (BlkIs.new w1 94 _).cell 0, HB.out.alloc HB.out.size _⟩
set_option maxHeartbeats 1000000 in
set_option maxRecDepth 20000 in
theorem names_none (W : World) (N : Nat) (Ft : Nat → Prop) (Dk k : Nat) (F : Files) (rm x lf : Int) (hS : DiskS W N Ft Dk k F rm x lf false) (hF : ∀ s, F s = none) :
    Calls Tryz.prog 74 #[.pointer (some ⟨Dk, 0, none⟩)] W fun e w' => (∃ A c, e = .returned (.slice A 0 c)) ∧ Below W.heap.size W w' := by
  have hd := Lib.hid (down_S W N Ft Dk k F rm x lf false hS)
  have hn := Lib.hid (dnames_none W N Ft Dk k F rm x lf hS hF)
  go_enter Tryz.func74, Tryz.ntmps74
  go_wp2_with (go_at_call 20; refine hd.out.mono ?_; rintro e w' ⟨rfl, rfl⟩)
  refine hn.out.mono ?_
  rintro e w1 ⟨V, rfl, h1, h2, h3⟩
  have hc := Lib.hid (collect_S w1 V _ [] (by simp) h1 h2 (.inl ⟨rfl, rfl⟩))
  go_wp2_with fail
  refine hc.out.mono ?_
  rintro e w2 ⟨v, rfl, h4, h5⟩
  obtain ⟨A, cc, rfl, _, _⟩ := own_slice h4
  clear h4
  go_wp2_with fail
  go_ret
  exact ⟨⟨_, _, rfl⟩, h3.trans (h5.mono h3.size)⟩
end Go.Proofs.YtfjmplkncopffaaGreatDoor
/- A log's load over a disk without files. Conditions: as stated at each. -/
namespace Go.Proofs.YtfjmplkncopffaaGreatDoor
open Go.RowKit Go.Shelf Go Go.Maps
attribute [local go_sem] Oper.semAt_some
theorem files_any (W : World) (L : Nat) (s : ByteArray) :
    Calls Tryz.prog 51 #[.pointer (some ⟨L, 0, none⟩), .string s] W fun e w' => e = .returned (.func (.func 73) #[] #[.pointer (some ⟨W.heap.size, 0, none⟩), .pointer (some ⟨W.heap.size + 1, 0, none⟩)]) ∧ w' = (W.alloc (.cells #[.pointer (some ⟨L, 0, none⟩)] 32)).alloc (.cells #[.string s] 9) := by
  have hmf : ∀ (fn : Fn) (first cap : Array Value) (w : World), (Instr.makeFunc fn first cap).run Tryz.prog w = .ok (.func fn first cap) w := fun _ _ _ _ => rfl
  go_enter Tryz.func51, Tryz.ntmps51
  go_wp2_with fail
  go_ret
  exact ⟨rfl, rfl⟩
theorem Below.grownNone {W W' : World} (h : Below W.heap.size W W') : W.grownBy W' none := ⟨h.os, h.tape, h.output, h.size, fun i hi _ => h.block i hi⟩
set_option maxRecDepth 100000 in
set_option maxHeartbeats 1000000 in
theorem files_none (n : Nat) (h1n : 1 ≤ n) (w : World) (B0 B1 L Dk G k : Nat) (N : Nat) (Ft : Nat → Prop) (F : Files) (rm x lf : Int) (nm : ByteArray) (sz : Int) (g : List (Nat × Nat)) (dead : Bool) (s : ByteArray) (Kp : World → World → Prop)
    (h0 : BlkIs w B0 32 #[.pointer (some ⟨L, 0, none⟩)]) (_ : BlkIs w B1 9 #[.string s]) (h : LogS w N Ft Dk k F rm x lf false L G nm sz g dead) (hF : ∀ s, F s = none) :
    SeqStopsK Fence.wide n Tryz.prog 73 #[.pointer (some ⟨B0, 0, none⟩), .pointer (some ⟨B1, 0, none⟩)] (fun x : Empty => x.elim) Kp (fun _ => True) (fun _ => False) 0 w := fun l J Jx W hW hJ _ _ hj => by
  refine callsIn_of_wp Tryz.func73 rfl trivial ?_ rfl
  have c0 := (hW.cell (p := ⟨B0, 0, none⟩) h0.lt).trans (h0.cell 0)
  have hl := h.below hW
  have cL := BlkIs.cell hl.2.1 0
  have hn := Lib.hid (names_none W N Ft Dk k F rm x lf hl.1 hF)
  simp only [Tryz.ntmps73, List.size_toArray, List.length_cons, List.length_nil, Nat.reduceAdd, Nat.reduceSub, Array.replicate_succ, Array.replicate_zero, List.push_toArray, List.append_toArray, List.nil_append, List.cons_append]
  gi_wp2_with fail
  refine ⟨trivial, ?_⟩
  refine (callsIn_wide.2 hn.out).mono ?_
  rintro e w1 ⟨⟨A, cc, rfl⟩, hb⟩
  have HJ := Lib.hid (hJ _ _ _ _ hj (Below.grownNone hb) (fun r e => by cases e))
  clear hj
  gi_wp2_with fail
  gi_loopw [13] (fun i wr => i = .int .i64 0 ∧ J [] wr) (fun _ _ => 0)
  case atStart => exact ⟨rfl, HJ.out⟩
  case round =>
    obtain ⟨rfl, hJs⟩ := hrel
    gi_wp2_with fail
    go_end0
    exact ⟨⟨_, rfl⟩, .inl ⟨[], trivial, hJs⟩⟩
theorem Tn.putObj {p : Nat → Prop} {a b : World} (h : Tn p a b) {D : Nat} (hD : p D ∨ a.heap.size ≤ D) (o : Obj) : Tn p a (b.putObj D o) :=
  ⟨h.os, h.tape, h.output, by rw [show (b.putObj D o).heap.size = b.heap.size from by simp]; exact h.size, fun i hi hp => (World.putObj_heap_other (fun e => by
    rcases hD with hD | hD
    · exact hp (e ▸ hD)
    · omega)).trans (h.block i hi hp)⟩
theorem size_putObj (W : World) (D : Nat) (o : Obj) : (W.putObj D o).heap.size = W.heap.size := by simp
set_option maxRecDepth 100000 in
set_option maxHeartbeats 2000000 in
theorem load_none (W : World) (N : Nat) (Ft : Nat → Prop) (Dk k : Nat) (F : Files) (rm x lf : Int) (L G : Nat) (nm : ByteArray) (sz : Int)
    (h : LogS W N Ft Dk k F rm x lf false L G nm sz [] false) (hlow : Low W Ft) (hF : ∀ s, F s = none) (hn : nmOk nm) (hk : k + 1 < maxLen) (hx : 0 ≤ x) (hx2 : x ≤ 100000000) (hlf : lf ≤ 9223372036854775807) (h1 : lf ≠ 1) :
    CallsIn Fence.wide 5 Tryz.prog 23 #[.pointer (some ⟨L, 0, none⟩)] W fun e w' => e = .returned (.tuple #[]) ∧ LgPost W N Ft Dk (k + 2) (F.upd (fileN nm 1) (some ([], 0))) rm x (lfA lf) false L G nm sz [(0, 0)] false w' := by
  refine callsIn_of_wp_marks Tryz.func23 rfl trivial ?_ rfl
  simp only [Tryz.ntmps23, List.size_toArray, List.length_cons, List.length_nil, Nat.reduceAdd, Nat.reduceSub, Array.replicate_succ, Array.replicate_zero, List.push_toArray, List.append_toArray, List.nil_append, List.cons_append]
  obtain ⟨m0, m1, m2, mT⟩ := three_new W 32 26 3 #[.pointer (some ⟨L, 0, none⟩)] #[.slice none 0 0] #[.int .i64 0] (fun _ => False)
  have mB := three_below W 32 26 3 #[.pointer (some ⟨L, 0, none⟩)] #[.slice none 0 0] #[.int .i64 0]
  have hlL := h.ltL
  have hlG := h.ltG
  have e73 : ∀ args w, (callFunc 73 args).run Tryz.prog w = .ok (.enter 73 args) w := enters_of Tryz.func73 (by kernel_rfl) rfl
  gi_wp2_with fail
  generalize hW3 : (((W.alloc (Obj.cells #[Value.pointer (some { block := L, off := 0 })] 32)).alloc (Obj.cells #[Value.slice none 0 0] 26)).alloc (Obj.cells #[Value.int IntKind.i64 0] 3)) = W3 at *
  have z3 : W3.heap.size = W.heap.size + 3 := by rw [← hW3]; simp
  clear hW3
  refine ⟨trivial, ?_⟩
  refine (callsIn_wide.2 (files_any W3 L _)).mono ?_
  rintro e W5 ⟨rfl, hW5⟩
  have nB : Below W3.heap.size W3 W5 := by rw [hW5]; exact ((Below.refl _ W3).alloc (Nat.le_refl _) _).alloc (by simp) _
  have n0 : BlkIs W5 W3.heap.size 32 #[.pointer (some ⟨L, 0, none⟩)] := by rw [hW5]; exact (BlkIs.new W3 32 _).alloc _
  have n1 : BlkIs W5 (W3.heap.size + 1) 9 #[.string ⟨#[]⟩] := by
    rw [hW5]
    have := BlkIs.new (W3.alloc (.cells #[.pointer (some ⟨L, 0, none⟩)] 32)) 9 #[.string ⟨#[]⟩]
    rwa [World.size_alloc] at this
  have B5 : Below W.heap.size W W5 := mB.trans (nB.mono (by omega))
  have h5 := h.below B5
  clear hW5
  rw [z3] at n0 n1
  gi_wp2_with fail
  refine wpIn_rangeFunc_ownG (α := Empty) rfl (by omega) (gf := 73) rfl trivial e73 (files_none 4 (by omega) W5 _ _ L Dk G k N Ft F rm x lf nm sz [] false _ (Below W5.heap.size) n0 n1 h5 hF) belowK_t (belowK_b (Nat.le_refl _)) (Below.refl _ _) (fun x => x.elim)
    (fun _ X => Below W5.heap.size W5 X) (fun _ _ _ => False) (ownFrom_below (Nat.le_refl _) (Nat.le_refl _)) (fun _ _ _ _ _ hs _ _ => hs) (Below.refl _ _) (fun x => x.elim) ?assign ?body ?done ?stop
  case assign => exact fun l x => x.elim
  case body => exact fun l pre x => x.elim
  case stop =>
    rintro D c pre X _ hh
    exact hh.elim
  case done =>
    rintro D1 xs X hD1 _ hX hK1
    have BX : Below W.heap.size W X := B5.trans (hX.mono B5.size)
    have x0 : BlkIs X W.heap.size 32 _ := ((nB.trans (hX.mono nB.size)).block _ m0.lt).trans m0
    have x2 : BlkIs X (W.heap.size + 1 + 1) 3 _ := ((nB.trans (hX.mono nB.size)).block _ m2.lt).trans m2
    have xc := x0.cell 0
    have hXs := hX.size
    have hK1l : D1 < X.heap.size := (Array.getElem?_eq_some_iff.1 hK1).1
    gi_wp2_with fail
    refine ⟨trivial, ?_⟩
    refine (callsIn_wide.2 (files_any X L _)).mono ?_
    rintro e X5 ⟨rfl, hX5⟩
    have pB : Below X.heap.size X X5 := by rw [hX5]; exact ((Below.refl _ X).alloc (Nat.le_refl _) _).alloc (by simp) _
    have p0 : BlkIs X5 X.heap.size 32 #[.pointer (some ⟨L, 0, none⟩)] := by rw [hX5]; exact (BlkIs.new X 32 _).alloc _
    have p1 : BlkIs X5 (X.heap.size + 1) 9 #[.string ⟨#[46, 110, 101, 119]⟩] := by
      rw [hX5]
      have := BlkIs.new (X.alloc (.cells #[.pointer (some ⟨L, 0, none⟩)] 32)) 9 #[.string ⟨#[46, 110, 101, 119]⟩]
      rwa [World.size_alloc] at this
    have BX5 : Below W.heap.size W X5 := BX.trans (pB.mono BX.size)
    clear hX5
    gi_wp2_with fail
    refine wpIn_rangeFunc_ownG (α := Empty) rfl (by omega) (gf := 73) rfl trivial e73 (files_none 4 (by omega) X5 _ _ L Dk G k N Ft F rm x lf nm sz [] false _ (Below X5.heap.size) p0 p1 (h.below BX5) hF) belowK_t (belowK_b (Nat.le_refl _)) (Below.refl _ _) (fun x => x.elim)
      (fun _ Y => Below X5.heap.size X5 Y) (fun _ _ _ => False) (ownFrom_below (Nat.le_refl _) (Nat.le_refl _)) (fun _ _ _ _ _ hs _ _ => hs) (Below.refl _ _) (fun x => x.elim) ?assign2 ?body2 ?done2 ?stop2
    case assign2 => exact fun l x => x.elim
    case body2 => exact fun l pre x => x.elim
    case stop2 =>
      rintro D c pre Y _ hh
      exact hh.elim
    case done2 =>
      rintro D2 _ Y hD2 _ hY hK2
      have BXY : Below X.heap.size X Y := pB.trans (hY.mono pB.size)
      have BY : Below W.heap.size W Y := BX.trans (BXY.mono BX.size)
      have y0 : BlkIs Y W.heap.size 32 _ := (BXY.block _ x0.lt).trans x0
      have y2 : BlkIs Y (W.heap.size + 1 + 1) 3 _ := (BXY.block _ x2.lt).trans x2
      have yk1 : Y.heap[D1]? = some (.deferred (some [])) := (BXY.block _ hK1l).trans hK1
      have yc := y0.cell 0
      have yE := h.below BY
      have yL4 : Y.cell? ⟨L, 4, none⟩ = some (.int .i64 0) := BlkIs.cell yE.2.1 4
      have hbeg : Calls Tryz.prog 53 #[.pointer (some ⟨L, 0, none⟩), .int .i64 1] Y fun e w' => e = .returned (.tuple #[]) ∧ LgPost Y N Ft Dk (k + 2) (F.upd (fileN nm 1) (some ([], 0))) rm x (lfA lf) false L G nm sz [(0, 0)] false w' :=
        begin_ok Y N Ft Dk k F rm x lf L G nm sz [] yE (by simp) hn (hF _) hk hx hx2 hlf h1
      have HB := Lib.hid hbeg
      clear hbeg
      gi_wp2_with fail
      refine ⟨trivial, ?_⟩
      refine (callsIn_wide.2 HB.out).mono ?_
      rintro e Z ⟨rfl, hZ⟩
      have zl := hY.size
      have z5 := pB.size
      have out : ∀ j, W.heap.size ≤ j → ¬ OwnL Ft L G j := fun j hj e => by
        rcases e with e | rfl | rfl
        · have := hlow j e
          omega
        · omega
        · omega
      have z2 : BlkIs Z (W.heap.size + 1 + 1) 3 _ := y2.tn hZ.2 (out _ (by omega))
      have zc := z2.cell 0
      have HZ := Lib.hid hZ
      clear hZ
      gi_wp2_with fail
      have hK2l : D2 < Y.heap.size := (Array.getElem?_eq_some_iff.1 hK2).1
      have sX := BX.size
      have sXY := BXY.size
      have s5 := B5.size
      have zK2 : Z.heap[D2]? = some (.deferred (some [])) := (HZ.out.2.block D2 hK2l (out _ (by omega))).trans hK2
      have zK1 : (Z.putObj D2 (.deferred none)).heap[D1]? = some (.deferred (some [])) := (World.putObj_heap_other (by omega)).trans ((HZ.out.2.block D1 (by omega) (out _ (by omega))).trans yk1)
      refine ⟨by simp, .inl ⟨_, _, rfl, run_takeDeferred zK2, ?_⟩⟩
      refine ⟨by simp, .inl ⟨_, _, rfl, run_takeDeferred zK1, ?_⟩⟩
      have Tf := ((Tn.refl (fun i => i = D2 ∨ i = D1) Z).putObj (.inl (.inl rfl)) (.deferred none)).putObj (.inl (.inr rfl)) (.deferred none)
      have hE := HZ.out.1.keep Tf (fun i hi e => by
        have hno : ∀ j, W.heap.size ≤ j → j < Y.heap.size → ¬ OwnL (NewFt Ft Y Z) L G j := fun j h1 h2 e => by
          rcases e with (e | ⟨e, _⟩) | e
          · exact out j h1 (.inl e)
          · omega
          · exact out j h1 (.inr e)
        rcases e with rfl | rfl
        · exact hno _ (by omega) hK2l hi
        · exact hno _ (by omega) (by omega) hi)
      exact ⟨_, results_none rfl _ _ _, rfl, LgPost.up h.2.2.2.1 hlL h.2.2.2.2 hlG BY.size Tf.size hE ((((Tn.of_below BY).trans HZ.out.2).putObj (.inr (by omega)) _).putObj (.inr (by omega)) _)⟩
end Go.Proofs.YtfjmplkncopffaaGreatDoor
/- seglog.Open over a disk without files. Conditions: as stated at each. -/
namespace Go.Proofs.YtfjmplkncopffaaGreatDoor
open Go.RowKit Go.Shelf Go Go.Maps
theorem segD_nil : SegD (.map []) [] := ⟨fun i => by simp [has]; omega, fun j c z hj => by simp at hj⟩
/-- behind Open: a log with one segment, which is empty. -/
def OpenP (W : World) (N : Nat) (Ft : Nat → Prop) (Dk k : Nat) (F : Files) (rm x lf : Int) (nm : ByteArray) (sz : Int) (e : Ending) (w' : World) : Prop :=
  ∃ L G Ft', e = .returned (.tuple #[.pointer (some ⟨L, 0, none⟩), .int .i64 0]) ∧ LogS w' N Ft' Dk (k + 2) (F.upd (fileN nm 1) (some ([], 0))) rm x (lfA lf) false L G nm sz [(0, 0)] false ∧
    Low w' Ft' ∧ (∀ i, i < W.heap.size → Ft' i → Ft i) ∧ W.heap.size ≤ L ∧ W.heap.size ≤ G ∧ Tn Ft W w'
set_option maxRecDepth 20000 in
set_option maxHeartbeats 2000000 in
theorem open_new (W : World) (N : Nat) (Ft : Nat → Prop) (Dk k : Nat) (F : Files) (rm x lf : Int) (nm : ByteArray) (sz : Int)
    (hS : DiskS W N Ft Dk k F rm x lf false) (hlow : Low W Ft) (hF : ∀ s, F s = none) (hn : nmOk nm) (hsz : 1 ≤ sz) (hk : k + 1 < maxLen) (hx : 0 ≤ x) (hx2 : x ≤ 100000000) (hlf : lf ≤ 9223372036854775807) (h1 : lf ≠ 1) :
    Calls Tryz.prog 9 #[.pointer (some ⟨Dk, 0, none⟩), .string nm, .int .i64 sz] W fun e w' => OpenP W N Ft Dk k F rm x lf nm sz e w' := by
  have hmm := @run_makeMap Tryz.prog
  have hmf : ∀ (fn : Fn) (first cap : Array Value) (w : World), (Instr.makeFunc fn first cap).run Tryz.prog w = .ok (.func fn first cap) w := fun _ _ _ _ => rfl
  have hen : ∀ args w, (callFunc 23 args).run Tryz.prog w = .ok (.enter 23 args) w := enters_of Tryz.func23 (by kernel_rfl) rfl
  have hn6 : nm.size ≤ 1000000 := by have := hn.1; omega
  have hfile : ∀ w, Calls Tryz.prog 19 #[.string nm, .int .i64 1] w fun e w' => e = .returned (.string (fileN nm 1)) ∧ Below w.heap.size w w' := fun w => file_any w nm 1 (by omega) hn6
  have hs1 := fileN_size nm 1
  have hs2 : (fileN nm 1 ++ spareB).size = nm.size + 11 := by rw [ByteArray.size_append, hs1]; rfl
  have hnm1 : ∀ w, Calls Tryz.prog 21 #[.string (fileN nm 1)] w fun e w' => e = .returned (.bool true) ∧ w = w' := fun w => by
    have := diskName_any (fileN nm 1) w (by unfold maxLen; omega)
    rwa [nameB_fileN hn 1] at this
  have hnm2 : ∀ w, Calls Tryz.prog 21 #[.string (fileN nm 1 ++ spareB)] w fun e w' => e = .returned (.bool true) ∧ w = w' := fun w => by
    have := diskName_any (fileN nm 1 ++ spareB) w (by unfold maxLen; omega)
    rwa [nameB_spare hn 1] at this
  have hcat : ¬ 9223372036854775807 < (fileN nm 1).size + 4 := by omega
  have hd := down_S W N Ft Dk k F rm x lf false hS
  unfold spareB at hnm2
  clear hs1 hs2
  go_enter Tryz.func9, Tryz.ntmps9
  have hfileB := hfile
  go_wp2_with (first
    | (go_at_call 20; refine hd.mono ?_; rintro e w' ⟨rfl, rfl⟩)
    | (go_at_call 19; refine (hfile _).mono ?_; clear hfile; rintro e w1 ⟨rfl, hb1⟩)
    | (go_at_call 19; refine (hfileB _).mono ?_; clear hfileB; rintro e w2 ⟨rfl, hb2⟩)
    | (go_at_call 21; refine (hnm1 _).mono ?_; clear hnm1; rintro e w' ⟨rfl, rfl⟩)
    | (go_at_call 21; refine (hnm2 _).mono ?_; clear hnm2; rintro e w' ⟨rfl, rfl⟩))
  have B2 : Below W.heap.size W w2 := hb1.trans (hb2.mono hb1.size)
  have z2 := B2.size
  have hL0 := BlkIs.new (w2.alloc (.map #[] 0)) 59 #[.pointer (some ⟨Dk, 0, none⟩), .string nm, .int .i64 sz, .map (some w2.heap.size), .int .i64 0, .bool false]
  rw [World.size_alloc] at hL0
  have hM0 : Held ((w2.alloc (.map #[] 0)).alloc (.cells #[.pointer (some ⟨Dk, 0, none⟩), .string nm, .int .i64 sz, .map (some w2.heap.size), .int .i64 0, .bool false] 59)) Tryz.prog 3 w2.heap.size 0 (.map []) := World.ownsMap.alloc (World.ownsMap_made w2 Tryz.prog 3 rh) _
  have B4 : Below W.heap.size W ((w2.alloc (.map #[] 0)).alloc (.cells #[.pointer (some ⟨Dk, 0, none⟩), .string nm, .int .i64 sz, .map (some w2.heap.size), .int .i64 0, .bool false] 59)) := (B2.alloc z2 _).alloc (by simp; omega) _
  have z4 : ((w2.alloc (.map #[] 0)).alloc (.cells #[.pointer (some ⟨Dk, 0, none⟩), .string nm, .int .i64 sz, .map (some w2.heap.size), .int .i64 0, .bool false] 59)).heap.size = w2.heap.size + 2 := by simp
  generalize ((w2.alloc (.map #[] 0)).alloc (.cells #[.pointer (some ⟨Dk, 0, none⟩), .string nm, .int .i64 sz, .map (some w2.heap.size), .int .i64 0, .bool false] 59)) = W4 at *
  have hLog : LogS W4 N Ft Dk k F rm x lf false (w2.heap.size + 1) w2.heap.size nm sz [] false :=
    ⟨hS.below B4, hL0, ⟨_, World.ownsMap.mono hM0 (Nat.zero_le _), segD_nil⟩, fun e => by have := hlow _ e; omega, fun e => by have := hlow _ e; omega⟩
  have B5 : Below W4.heap.size W4 (W4.alloc (.cells #[.int .i64 0] 33)) := (Below.refl _ W4).alloc (Nat.le_refl _) _
  have n5 := BlkIs.new W4 33 #[.int .i64 0]
  have hload := callsIn_wide.1 (load_none (W4.alloc (.cells #[.int .i64 0] 33)) N Ft Dk k F rm x lf (w2.heap.size + 1) w2.heap.size nm sz (hLog.below B5) (hlow.up (by have := B4.size; have := B5.size; omega)) hF hn hk hx hx2 hlf h1)
  have hcall := Lib.hid (call_m 23 (.pointer (some ⟨w2.heap.size + 1, 0, none⟩)) W4 (w2.heap.size + 1) Dk nm sz w2.heap.size 0 (fun y w' => y = 0 ∧ LgPost (W4.alloc (.cells #[.int .i64 0] 33)) N Ft Dk (k + 2) (F.upd (fileN nm 1) (some ([], 0))) rm x (lfA lf) false (w2.heap.size + 1) w2.heap.size nm sz [(0, 0)] false w') hL0 (hen _) (fun w' hq => absurd hq.1 (by decide)) (hload.mono (by
    rintro e w' ⟨rfl, hq⟩
    refine ⟨n5.tn hq.2 (fun e => ?_), .inl ⟨rfl, rfl, hq⟩⟩
    rcases e with e | e | e
    · have := hlow _ e
      omega
    · omega
    · omega)))
  clear hload
  refine hcall.out.mono ?_
  rintro e w' ⟨y, rfl, ⟨_, rfl, hq⟩ | ⟨rfl, w1, ⟨hy, _⟩, _⟩⟩
  · have HQ := Lib.hid hq
    clear hq hcall
    go_wp2_with fail
    go_ret2
    have hs5 := B5.size
    refine ⟨_, _, NewFt Ft (W4.alloc (.cells #[.int .i64 0] 33)) w', rfl, HQ.out.1, (hlow.up (by omega)).new HQ.out.2.size, fun i hi e => e.elim id (fun e => by omega), by omega, by omega, ?_⟩
    refine Tn.from_new (B4.trans (B5.mono B4.size)) HQ.out.2 (fun i hi e => ?_)
    rcases e with e | rfl | rfl
    · exact e
    · omega
    · omega
  · exact absurd hy (by decide)
end Go.Proofs.YtfjmplkncopffaaGreatDoor
