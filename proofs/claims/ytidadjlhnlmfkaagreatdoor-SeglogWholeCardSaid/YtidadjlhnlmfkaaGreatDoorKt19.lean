/- SlSeqS SlKeys SlNames SlOps. Conditions: as stated at each. -/
import Derived.RangeFuncBox
import Derived.RangeFuncNested
import Derived.RangeFuncBound
import Derived.RangeFuncCalls
import Derived.RangeFuncLeaves
import Derived.Shelf.Abstract
import Derived.Shelf.RegionOpen
import Derived.WalkKit
import Derived.OwnWalkIn
import Derived.TacticsInMore
import Derived.LoopNIn
import Derived.LoopIn
import Derived.Maps.AppendAt
import Derived.Test.YtidadjlhnlmfkaaGreatDoorKt18
import Derived.Test.YtidadjlhnlmfkaaGreatDoorKt17
import Derived.Test.YtidadjlhnlmfkaaGreatDoorKt14
/- slices.Values and slices.Collect at names. Conditions: as stated at each. -/
namespace Go.Proofs.YtidadjlhnlmfkaaGreatDoor
open Go.RowKit Go.Shelf Go Go.Maps
attribute [local go_sem] Oper.semAt_some
theorem info9 : (Tryz.prog.info? 9).map (fun i => (i.zero, i.size, i.bytes)) = some (some (.string ByteArray.empty), 1, 16) := by kernel_rfl
set_option maxRecDepth 100000 in
set_option maxHeartbeats 2000000 in
/-- slices.Values's closure, for every loop body that keeps what lay below n₀. -/
theorem values1_S (F : Fence) (n : Nat) (h7 : F.fn 81) (hro : F.round = none) (hn : 1 ≤ n) (l Bs n₀ b off len cap : Nat) (zs : List ByteArray) (hreach : len * 16 ≤ 140737488351232) (hb : b < n₀) (J Jx : List ByteArray → World → Prop)
    (hY : ∀ pre x W, J pre W → pre.length < len → YieldAt F (n - 1) Tryz.prog l #[.string x] W fun e W' =>
      (e = .returned (.bool true) ∧ J (pre ++ [x]) W' ∧ Below n₀ W W') ∨ (e = .returned (.bool false) ∧ Jx (pre ++ [x]) W'))
    (W : World) (hBs : W.cell? ⟨Bs, 0, none⟩ = some (.slice (some ⟨b, off, none⟩) len cap)) (hc : ∀ j, j < len → W.cell? ⟨b, off + j, none⟩ = some (.string (zs[j]?.getD ByteArray.empty))) (h0 : J [] W) :
    CallsIn F n Tryz.prog 81 #[.func (.yield l) #[] #[], .pointer (some ⟨Bs, 0, none⟩)] W fun e W' => (∃ v, e = .returned v) ∧
      ((∃ ys, ys = upto (fun j => zs[j]?.getD ByteArray.empty) len ∧ J ys W') ∨ (∃ pre, (∃ k, k ≤ len ∧ pre = upto (fun j => zs[j]?.getD ByteArray.empty) k) ∧ Jx pre W')) := by
  refine callsIn_of_wp Tryz.func81 rfl h7 ?_ hro
  simp only [Tryz.ntmps81, List.size_toArray, List.length_cons, List.length_nil, Nat.reduceAdd, Nat.reduceSub, Array.replicate_succ, Array.replicate_zero, List.push_toArray, List.append_toArray, List.nil_append, List.cons_append]
  gi_wp2
  gi_loopw [7] (fun i wr => ∃ k : Nat, k ≤ len ∧ i = .int .i64 k ∧ J (upto (fun j => zs[j]?.getD ByteArray.empty) k) wr ∧ Below n₀ W wr)
    (fun i _ => len - (intOf i).toNat)
  case atStart => exact ⟨0, Nat.zero_le _, rfl, h0, Below.refl _ _⟩
  case round =>
    obtain ⟨k, hk, rfl, hJs, hnx⟩ := hrel
    have hcx : k < len → wr.cell? ⟨b, off + k, none⟩ = some (.string (zs[k]?.getD ByteArray.empty)) := fun h => (hnx.cell (p := ⟨b, off + k, none⟩) hb).trans (hc k h)
    by_cases hlt : k < len
    · obtain ⟨fn, tmps, assign, body, hy, hR⟩ := hY _ (zs[k]?.getD ByteArray.empty) wr hJs (by rw [upto_length]; exact hlt)
      have hcx' := hcx hlt
      gi_wp2
      refine hR.mono ?_
      rintro e W3 (⟨rfl, hJ3, hk3⟩ | ⟨rfl, hJx3⟩)
      · gi_wp2
        go_roundw
        case rel => exact ⟨k + 1, by omega, by simp, by rw [upto_succ]; exact hJ3, hnx.trans hk3⟩
        case measure => simp [intOf]; omega
      · gi_wp2
        refine bodyPost_ret (results_none rfl _ _ _) rfl ?_
        exact ⟨⟨_, rfl⟩, .inr ⟨_, ⟨k + 1, by omega, (upto_succ _ _).symm⟩, hJx3⟩⟩
    · obtain rfl : k = len := by omega
      gi_wp2
      go_end0
      exact ⟨⟨_, rfl⟩, .inl ⟨_, rfl, hJs⟩⟩
/-- the slice holds these, in a block below n₀; or it is nil and there are none. -/
def HasS (n₀ : Nat) (W : World) (sv : Value) (zs : List ByteArray) : Prop :=
  (sv = .slice none 0 0 ∧ zs = []) ∨ ∃ b off cap, sv = .slice (some ⟨b, off, none⟩) zs.length cap ∧ b < n₀ ∧ ∀ j, j < zs.length → W.cell? ⟨b, off + j, none⟩ = some (.string (zs[j]?.getD ByteArray.empty))
theorem HasS.below {n₀ : Nat} {A B : World} (h : Below n₀ A B) {sv : Value} {zs : List ByteArray} : HasS n₀ A sv zs → HasS n₀ B sv zs
  | .inl e => .inl e
  | .inr ⟨b, off, cap, e, hb, hc⟩ => .inr ⟨b, off, cap, e, hb, fun j hj => (h.cell (p := ⟨b, off + j, none⟩) hb).trans (hc j hj)⟩
set_option maxRecDepth 100000 in
set_option maxHeartbeats 1000000 in
theorem values1_nil_S (F : Fence) (n : Nat) (h7 : F.fn 81) (hro : F.round = none) (l Bs : Nat) (J : List ByteArray → World → Prop) (W : World) (hBs : W.cell? ⟨Bs, 0, none⟩ = some (.slice none 0 0)) (h0 : J [] W) :
    CallsIn F n Tryz.prog 81 #[.func (.yield l) #[] #[], .pointer (some ⟨Bs, 0, none⟩)] W fun e W' => (∃ v, e = .returned v) ∧ J [] W' := by
  refine callsIn_of_wp Tryz.func81 rfl h7 ?_ hro
  simp only [Tryz.ntmps81, List.size_toArray, List.length_cons, List.length_nil, Nat.reduceAdd, Nat.reduceSub, Array.replicate_succ, Array.replicate_zero, List.push_toArray, List.append_toArray, List.nil_append, List.cons_append]
  gi_wp2
  gi_loopw [7] (fun i wr => i = .int .i64 0 ∧ J [] wr) (fun _ _ => 0)
  case atStart => exact ⟨rfl, h0⟩
  case round =>
    obtain ⟨rfl, hJs⟩ := hrel
    gi_wp2
    go_end0
    exact ⟨⟨_, rfl⟩, hJs⟩
theorem values_S (a : Option Addr) (len cap : Nat) (w : World) :
    Calls Tryz.prog 60 #[.slice a len cap] w fun e w' => e = .returned (.func (.func 81) #[] #[.pointer (some ⟨w.heap.size, 0, none⟩)]) ∧ w' = w.alloc (.cells #[.slice a len cap] 95) := by
  have hmf : ∀ (fn : Fn) (first cap : Array Value) (w : World), (Instr.makeFunc fn first cap).run Tryz.prog w = .ok (.func fn first cap) w := fun _ _ _ _ => rfl
  go_enter Tryz.func60, Tryz.ntmps60
  go_wp2_with fail
  go_ret
  exact ⟨rfl, rfl⟩
theorem values_stops_S (F : Fence) (n : Nat) (h7 : F.fn 81) (hro : F.round = none) (hn : 1 ≤ n) (Bs n₀ : Nat) (sv : Value) (zs : List ByteArray) (hreach : zs.length * 16 ≤ 140737488351232) (w : World) (hBs : Bs < w.heap.size) (hn₀ : n₀ ≤ w.heap.size)
    (hc : w.cell? ⟨Bs, 0, none⟩ = some sv) (hI : HasS n₀ w sv zs) :
    SeqStopsK F n Tryz.prog 81 #[.pointer (some ⟨Bs, 0, none⟩)] (fun x : ByteArray => #[.string x]) (Below n₀) (fun ys => ys = zs) (fun pre => pre <+: zs) zs.length w := fun l J Jx W hW _ _ hY h0 => by
  have hc' := (hW.cell (p := ⟨Bs, 0, none⟩) hBs).trans hc
  rcases hI.below (hW.mono hn₀) with ⟨rfl, rfl⟩ | ⟨b, off, cap, rfl, hb, hcs⟩
  · exact (values1_nil_S F n h7 hro l Bs J W hc' h0).mono fun e W' ⟨he, hj⟩ => ⟨he, .inl ⟨_, rfl, hj⟩⟩
  · refine (values1_S F n h7 hro hn l Bs n₀ b off zs.length cap zs hreach hb J Jx hY W hc' hcs h0).mono ?_
    rintro e W' ⟨he, ⟨ys, rfl, hj⟩ | ⟨pre, ⟨k, hk, rfl⟩, hj⟩⟩
    · exact ⟨he, .inl ⟨_, upto_all ByteArray.empty zs, hj⟩⟩
    · exact ⟨he, .inr ⟨_, by rw [upto_take ByteArray.empty zs hk]; exact List.take_prefix _ _, hj⟩⟩
set_option maxRecDepth 100000 in
set_option maxHeartbeats 2000000 in
theorem appendSeq_S (w : World) (V : Nat) (sv : Value) (xs : List ByteArray) (hlen : xs.length ≤ 1000000000) (hV : V < w.heap.size) (hc : w.cell? ⟨V, 0, none⟩ = some sv) (hI : HasS w.heap.size w sv xs) :
    CallsIn Fence.wide 3 Tryz.prog 96 #[.slice none 0 0, .func (.func 81) #[] #[.pointer (some ⟨V, 0, none⟩)]] w fun e W' => ∃ v, e = .returned v ∧ W'.ownsRow w.heap.size 9 1 v xs.length (xs.map Value.string) ∧ Below w.heap.size w W' := by
  have h1 : 1 ≤ 3 := by omega
  obtain ⟨i0, hi, hz0, hz1, hz2⟩ := info_parts info9
  refine callsIn_of_wp_marks Tryz.func96 rfl trivial ?_ rfl
  simp only [Tryz.ntmps96, List.size_toArray, List.length_cons, List.length_nil, Nat.reduceAdd, Nat.reduceSub, Array.replicate_succ, Array.replicate_zero, List.push_toArray, List.append_toArray, List.nil_append, List.cons_append]
  gi_wp2_with fail
  have bO := Boxed.new w 95 (.slice none 0 0)
  have hB0 : Below w.heap.size w (w.alloc (.cells #[.slice none 0 0] 95)) := (Below.refl _ w).alloc (Nat.le_refl _) _
  refine wpIn_rangeFunc_ownG rfl h1 (gf := 81) (lb := #[.pointer (some ⟨V, 0, none⟩)]) rfl trivial (enters_of Tryz.func81 (by kernel_rfl) rfl)
    (values_stops_S Fence.wide 2 trivial rfl (by omega) V w.heap.size sv xs (by omega) _ (by simp; omega) (by simp) ((hB0.cell (p := ⟨V, 0, none⟩) hV).trans hc) (hI.below hB0)) belowK_t (belowK_b (by simp)) (Below.refl _ _) (fun _ => rfl)
    (fun pre W => (∃ v, Boxed W w.heap.size 95 v ∧ W.ownsRow w.heap.size 9 1 v pre.length (pre.map Value.string) ∧ (v = .slice none 0 0 ↔ pre = [])) ∧ Below w.heap.size w W)
    (fun _ _ _ => False)
    (OwnFrom.and (Own.from (holdsRow_own w.heap.size w.heap.size 95 9 1 (fun pre : List ByteArray => pre.length) (fun pre => pre.map Value.string) (fun pre v => v = .slice none 0 0 ↔ pre = [])) _) (ownFrom_below (Nat.le_refl _) (by simp)))
    (fun _ _ _ _ _ hs _ _ => hs)
    ⟨⟨_, bO, World.ownsRow_nil _ _ _ _, by simp⟩, hB0⟩
    (fun x => { tmps := #[.slice none 0 0, .func (.func 81) #[] #[.pointer (some ⟨V, 0, none⟩)], .pointer (some ⟨w.heap.size, 0, none⟩), undef, .slice none 0 0, .string x, .func (.func 81) #[] #[.pointer (some ⟨V, 0, none⟩)], .string x, undef, undef, undef, undef, undef], defers := [] }) ?assign ?body ?done ?stop
  case assign =>
    intro l x W K hK
    gi_wp2_with fail
    exact hK
  case body =>
    rintro l pre x W ⟨⟨v, hv, hrow, hnil⟩, hB⟩ hlt
    have hc := hv.cell
    gi_wp2_with (gi_at_builtin; refine wpListIn_append_own _ rfl _ _ 95 rfl w.heap.size 9 i0 (.string ByteArray.empty) 1 16 Tryz.underlying95 hi hz0 hz1 hz2 rfl (by decide) _ _ _ rfl (hrow.alloc _) ⟨W.heap.size, 0, none⟩ 1 1 [.string x] rfl rfl (cell_one_new _ _ _) (by simp [Value.oneCell']) (by unfold maxLen; omega) (by omega) (by have := hB.size; simp; omega) ?_; intro v' w1 hown' hgrow _; obtain ⟨g', cap', rfl⟩ := ownsRow_succ hown'; obtain ⟨hv1, hv2, hr2, hk2, hb2⟩ := hv.appended (by decide) hrow hB.size (Nat.le_refl _) hown' hgrow; have hc1 := hv1.cell; have hf1 := hv1.frozen)
    exact ⟨hk2.from _, hb2, ⟨_, hv2, by simpa using hr2, by simp⟩, hB.trans hb2⟩
  case done =>
    rintro D ys W hD rfl ⟨⟨v, hv, hrow, hnil⟩, hB⟩ hK
    have hc := hv.cell
    gi_wp2_with fail
    refine ⟨by simp, .inl ⟨_, _, rfl, run_takeDeferred hK, ?_⟩⟩
    exact ⟨_, results_tmp rfl _ _ _, v, rfl, ownsRow_putObj hrow _ hK rfl, hB.trans (belowK_b (w := w) (Nat.le_refl _) W D _ _ (by simp at hD; omega) hK rfl rfl)⟩
  case stop =>
    rintro D c pre W _ _ h _
    exact h.elim
theorem collect_S (w : World) (V : Nat) (sv : Value) (xs : List ByteArray) (hlen : xs.length ≤ 1000000000) (hV : V < w.heap.size) (hc : w.cell? ⟨V, 0, none⟩ = some sv) (hI : HasS w.heap.size w sv xs) :
    Calls Tryz.prog 82 #[.func (.func 81) #[] #[.pointer (some ⟨V, 0, none⟩)]] w fun e W' => ∃ v, e = .returned v ∧ W'.ownsRow w.heap.size 9 1 v xs.length (xs.map Value.string) ∧ Below w.heap.size w W' := by
  have ha := Lib.hid (callsIn_wide.1 (appendSeq_S w V sv xs hlen hV hc hI))
  go_enter Tryz.func82, Tryz.ntmps82
  go_wp2_with fail
  refine ha.out.mono ?_
  rintro e w' ⟨v, rfl, hrow, hb⟩
  obtain ⟨A, cc, rfl, _, _⟩ := own_slice hrow
  have HR := Lib.hid hrow
  have HB := Lib.hid hb
  clear hrow hb
  go_wp2_with fail
  go_ret
  exact ⟨_, rfl, HR.out, HB.out⟩
theorem has_of_own_S {W : World} {N n : Nat} {v : Value} {zs : List ByteArray} (h : W.ownsRow N 9 1 v n (zs.map Value.string)) (hn : n = zs.length) : HasS W.heap.size W v zs := by
  subst hn
  rcases h.2 with ⟨rfl, h0⟩ | ⟨g, cap, cur, rfl, hb, hh, h1, h2, h3, ht⟩
  · exact .inl ⟨rfl, List.eq_nil_of_length_eq_zero h0⟩
  · refine .inr ⟨g, 0, cap, rfl, (Array.getElem?_eq_some_iff.1 hh).1, fun j hj => ?_⟩
    rw [Nat.zero_add, cell_of_row W g j cur 9 (0, 0) hh]
    have h1 : (cur.toList.take zs.length)[j]? = (zs.map Value.string)[j]? := by
      have : cur.toList.take zs.length = zs.map Value.string := by simpa using ht
      rw [this]
    rw [List.getElem?_take_of_lt hj] at h1
    rw [← Array.getElem?_toList, h1]
    simp [hj]
end Go.Proofs.YtidadjlhnlmfkaaGreatDoor
/- The segments' numbers, and the names of a disk without files. Conditions: as stated at each. -/
namespace Go.Proofs.YtidadjlhnlmfkaaGreatDoor
open Go.RowKit Go.Shelf Go Go.Maps Go.Sort
theorem sorts64 (m : Nat) : AnyZI.SortsIn Tryz.prog Tryz.sorted64_ren Fence.wide m :=
  ⟨fun blk off cap ss W hH hblk hsz => callsIn_wide.2 (AnyM.slices_Sort_int Tryz.sort85 blk off cap ss W hH hblk hsz), fun p cap W => callsIn_wide.2 (AnyM.slices_Sort_int_none Tryz.sort85 p cap W)⟩
theorem sorts60 (m : Nat) : AnyZ.SortsIn Tryz.prog Tryz.sorted60_ren Fence.wide m :=
  ⟨fun blk off cap ss W hH hblk hsz => callsIn_wide.2 (AnyM.slices_Sort_string Tryz.sort82 blk off cap ss W hH hblk hsz), fun p cap W => callsIn_wide.2 (AnyM.slices_Sort_string_none Tryz.sort82 p cap W)⟩
theorem keys65_any (mb : Option Nat) (W : World) : Calls Tryz.prog 66 #[.map mb] W fun e w' => e = .returned (.func (.func 87) #[] #[.pointer (some ⟨W.heap.size, 0, none⟩)]) ∧ w' = W.alloc (.cells #[.map mb] 57) :=
  callsIn_wide.1 (AnyZI.keys_in Tryz.keys65 Fence.wide 5 trivial rfl mb W)
theorem keys61_any (mb : Option Nat) (W : World) : Calls Tryz.prog 62 #[.map mb] W fun e w' => e = .returned (.func (.func 84) #[] #[.pointer (some ⟨W.heap.size, 0, none⟩)]) ∧ w' = W.alloc (.cells #[.map mb] 53) :=
  callsIn_wide.1 (AnyZ.keys_in Tryz.keys61 Fence.wide 5 trivial rfl mb W)
set_option maxHeartbeats 1000000 in
theorem sorted64_any {H : Type} (b nn : Nat) (D0 : DataW H) (R : Value → Option (DataW H × List MemPlace)) (w : World) (hown : w.ownsMap Tryz.prog 3 R b nn D0) (hmax : Maps.size D0 ≤ 1000000000) :
    Calls Tryz.prog 65 #[.func (.func 87) #[] #[.pointer (some ⟨w.heap.size, 0, none⟩)]] (w.alloc (.cells #[.map (some b)] 57)) fun e w' => ∃ (v : Value) (ss : List Int), e = .returned v ∧ ss.Perm (intKeys D0) ∧
      w'.ownsRow (w.alloc (.cells #[.map (some b)] 57)).heap.size 3 1 v ss.length ((ss.mergeSort (fun x y => decide (x ≤ y))).map encZ) ∧ (v = .slice none 0 0 ↔ ss = []) ∧ Below (w.alloc (.cells #[.map (some b)] 57)).heap.size (w.alloc (.cells #[.map (some b)] 57)) w' := by
  have hbl := hown.lt
  have hseq : SeqGives Fence.wide 2 Tryz.prog 87 #[.pointer (some ⟨w.heap.size, 0, none⟩)] encZ (fun ss => ss.Perm (intKeys D0)) (Maps.size D0) (w.alloc (.cells #[.map (some b)] 57)) :=
    AnyZI.keys_gives (ρ := Tryz.keys65_ren) { Tryz.keys65 with } Fence.wide _ trivial rfl (by omega) w.heap.size b nn D0 _ (by simp) (by simp) (by
      obtain ⟨es, clock, hb, Ft, hs, hD⟩ := hown
      exact ⟨es, clock, (Below.heap_alloc _ _ b hbl).trans hb, Ft, hs, hD⟩)
  exact callsIn_wide.1 (AnyZI.sorted_in Tryz.sorted64 Fence.wide 5 trivial trivial trivial trivial rfl (by omega) (sorts64 _) (enters_of Tryz.func86 (by kernel_rfl) rfl) 87 #[.pointer (some ⟨w.heap.size, 0, none⟩)] trivial (enters_of Tryz.func87 (by kernel_rfl) rfl) _ _ (by unfold maxLen; omega) (by omega) _ hseq)
set_option maxHeartbeats 1000000 in
theorem sorted60_any {H : Type} (b nn : Nat) (D0 : DataW H) (R : Value → Option (DataW H × List MemPlace)) (w : World) (hown : w.ownsMap Tryz.prog 9 R b nn D0) (hmax : Maps.size D0 ≤ 1000000000) :
    Calls Tryz.prog 61 #[.func (.func 84) #[] #[.pointer (some ⟨w.heap.size, 0, none⟩)]] (w.alloc (.cells #[.map (some b)] 53)) fun e w' => ∃ (v : Value) (ss : List (List UInt8)), e = .returned v ∧ ss.Perm (strKeys D0) ∧
      w'.ownsRow (w.alloc (.cells #[.map (some b)] 53)).heap.size 9 1 v ss.length ((ss.mergeSort (fun x y => decide (x ≤ y))).map encStr) ∧ (v = .slice none 0 0 ↔ ss = []) ∧ Below (w.alloc (.cells #[.map (some b)] 53)).heap.size (w.alloc (.cells #[.map (some b)] 53)) w' := by
  have hbl := hown.lt
  have hseq : SeqGives Fence.wide 2 Tryz.prog 84 #[.pointer (some ⟨w.heap.size, 0, none⟩)] encStr (fun ss => ss.Perm (strKeys D0)) (Maps.size D0) (w.alloc (.cells #[.map (some b)] 53)) :=
    AnyZ.keys_gives (ρ := Tryz.keys61_ren) { Tryz.keys61 with } Fence.wide _ trivial rfl (by omega) w.heap.size b nn D0 _ (by simp) (by simp) (by
      obtain ⟨es, clock, hb, Ft, hs, hD⟩ := hown
      exact ⟨es, clock, (Below.heap_alloc _ _ b hbl).trans hb, Ft, hs, hD⟩)
  exact callsIn_wide.1 (AnyZ.sorted_in Tryz.sorted60 Fence.wide 5 trivial trivial trivial trivial rfl (by omega) (sorts60 _) (enters_of Tryz.func83 (by kernel_rfl) rfl) 84 #[.pointer (some ⟨w.heap.size, 0, none⟩)] trivial (enters_of Tryz.func84 (by kernel_rfl) rfl) _ _ (by unfold maxLen; omega) (by omega) _ hseq)
/-- the numbers from 1 on. -/
def nums (n : Nat) : List Int := (List.range n).map fun j : Nat => (j : Int) + 1
theorem nums_length (n : Nat) : (nums n).length = n := by simp [nums]
theorem nums_mem (n : Nat) (x : Int) : x ∈ nums n ↔ 1 ≤ x ∧ x ≤ n := by
  unfold nums
  rw [List.mem_map]
  constructor
  · rintro ⟨j, hj, rfl⟩
    rw [List.mem_range] at hj
    omega
  · rintro ⟨h1, h2⟩
    exact ⟨(x - 1).toNat, by rw [List.mem_range]; omega, by omega⟩
theorem nums_rising (n : Nat) : (nums n).Pairwise (fun a b => a < b) := by
  unfold nums
  rw [List.pairwise_map]
  exact List.pairwise_lt_range.imp fun h => by omega
theorem segs_perm {W : World} {G k : Nat} {D : DataW Value} {g : List (Nat × Nat)} (h : Held W Tryz.prog 3 G k D) (hg : SegD D g) : (nums g.length).Perm (intKeys D) := by
  obtain ⟨es, hD, hpw, _⟩ := World.ownsMap.entries h (int_keyed Tryz.underlying3)
  obtain ⟨es', hD', hko⟩ := World.ownsMap.keysOf h
  obtain rfl : es = es' := by rw [hD] at hD'; simpa using hD'
  subst hD
  exact perm_intKeys hpw (fun p hp => by obtain ⟨v, hv⟩ := hko p hp; obtain ⟨x, _, hx, _⟩ := Maps.keyOf_i64 Tryz.underlying3 hv; exact ⟨x, hx⟩) ((nums_rising _).imp fun h => by omega) (fun x => by rw [nums_mem]; exact (hg.1 x).symm)
theorem size_keys {H : Type} (D : DataW H) : Maps.size D = (intKeys D).length := by
  cases D <;> simp [Maps.size, intKeys]
theorem size_strs {H : Type} (D : DataW H) : Maps.size D = (strKeys D).length := by
  cases D <;> simp [Maps.size, strKeys]
theorem sort_nums (n : Nat) (ss : List Int) (h : ss.Perm (nums n)) : ss.mergeSort (fun x y => decide (x ≤ y)) = nums n := by
  have h1 := mergeSort_of_perm_i h
  have h2 : (nums n).mergeSort leI = nums n := List.mergeSort_of_pairwise ((nums_rising n).imp fun h => by simp [leI]; omega)
  exact h1.trans h2
theorem held_has {w : World} {P : Program} {k t e : TypeId} {b n : Nat} {D : DataW Value} {s : ByteArray} (h : Held w P k b n D) (hk : P.underlying k = some .string) (ht : P.underlying t = some (.map k e)) (hs : s.size ≤ maxLen) {z : Value} (hz : (zeroValue e).run P w = .ok z w) (ha : at_ D s = none) : has D (kOf s) = false := by
  obtain ⟨es, clock, hb, F, _, rfl⟩ := h
  have hkey : keyOf P k (.string s) = some (kOf s) := WideMaps.keyOf_string_mk hk hs
  rcases fit_look true (string_keyed hk) ht hz hb F hkey with ⟨_, _, hat⟩ | ⟨e0, y, _, _, _, hR, hat, _⟩
  · exact has_false_of_atKey hat
  · have hy : y = (.held e0.val, []) := by
      unfold rh at hR
      injection hR with hR
      exact hR.symm
    unfold at_ at ha
    rw [hat .nil, hy] at ha
    cases ha
theorem no_keys {W : World} {M k : Nat} {D : DataW Value} (h : MapIs W M k D) (ha : ∀ s, at_ D s = none) : strKeys D = [] := by
  have hle := strKeys_le h Tryz.underlying9
  cases hD : strKeys D with
  | nil => rfl
  | cons x r =>
    exfalso
    have hx : x ∈ strKeys D := by rw [hD]; simp
    have hl := hle x hx
    have hf := held_has (s := ⟨x.toArray⟩) h Tryz.underlying9 Tryz.underlying53 (by show x.toArray.size ≤ maxLen; simpa using hl) (zero58 W) (ha _)
    obtain ⟨es, rfl, hko⟩ := World.ownsMap.keysOf h
    obtain ⟨p, hp, hpx⟩ := List.mem_map.1 hx
    obtain ⟨v, hv⟩ := hko p hp
    obtain ⟨y, _, hy, _⟩ := Maps.keyOf_str Tryz.underlying9 hv
    rw [has_eq, List.any_eq_false] at hf
    refine hf p hp ?_
    rw [hy] at hpx ⊢
    have : y = x := hpx
    subst this
    simp [kOf, Lit.sameKey]
set_option maxHeartbeats 1000000 in
set_option maxRecDepth 20000 in
theorem numbers_L (W : World) (L Dk : Nat) (nm : ByteArray) (sz : Int) (G k : Nat) (last : Int) (dead : Bool) (g : List (Nat × Nat)) (hL : LogB W L Dk nm sz G last dead) (hG : SegM W G k g) (hl : g.length ≤ 1000000) :
    Calls Tryz.prog 39 #[.pointer (some ⟨L, 0, none⟩)] W fun e w' => ∃ V sv, e = .returned (.func (.func 85) #[] #[.pointer (some ⟨V, 0, none⟩)]) ∧ V < w'.heap.size ∧ w'.cell? ⟨V, 0, none⟩ = some sv ∧ HasI w'.heap.size w' sv (nums g.length) ∧ Below W.heap.size W w' := by
  have c3 := BlkIs.cell hL 3
  obtain ⟨D, hM, hD⟩ := hG
  have hp := segs_perm hM hD
  have hsz : Maps.size D ≤ 1000000000 := by rw [size_keys, ← hp.length_eq, nums_length]; omega
  have hso := Lib.hid (sorted64_any G k D rh W hM hsz)
  go_enter Tryz.func39, Tryz.ntmps39
  go_wp2_with (go_at_call 66; refine (keys65_any _ _).mono ?_; rintro e w' ⟨rfl, rfl⟩)
  refine hso.out.mono ?_
  rintro e w1 ⟨v, ss, rfl, hS, hrow, hnil, hbl⟩
  have hpp := hS.trans hp.symm
  rw [sort_nums _ _ hpp] at hrow
  have hlen : ss.length = (nums g.length).length := hpp.length_eq
  have hhas := has_of_own_I hrow hlen
  obtain ⟨A, cc, rfl, _, _⟩ := own_slice hrow
  have hb1 : Below W.heap.size W w1 := ((Below.refl _ W).alloc (Nat.le_refl _) _).trans (hbl.mono (by simp))
  have HH := Lib.hid hhas
  have HB := Lib.hid hb1
  clear hrow hnil hbl hS hhas hb1 hso hpp hlen hp
  go_wp2_with (go_at_call 64; refine (values_I _ _ _ _).mono ?_; rintro e w' ⟨rfl, rfl⟩)
  go_ret
  have hz := HB.out.size
  have hal := (Below.refl w1.heap.size w1).alloc (Nat.le_refl _) (.cells #[.slice A ss.length cc] 23)
  refine ⟨w1.heap.size, _, rfl, by simp, (BlkIs.new w1 23 _).cell 0, ?_, HB.out.alloc hz _⟩
  rcases HH.out.below hal with h | ⟨b, off, cap, h1, h2, h3⟩
  · exact .inl h
  · exact .inr ⟨b, off, cap, h1, by simp; omega, h3⟩
set_option maxHeartbeats 1000000 in
set_option maxRecDepth 20000 in
theorem dnames_none (W : World) (N : Nat) (Ft : Nat → Prop) (Dk k : Nat) (F : Files) (rm x lf : Int) (hS : DiskS W N Ft Dk k F rm x lf false) (hF : ∀ s, F s = none) :
    Calls Tryz.prog 33 #[.pointer (some ⟨Dk, 0, none⟩)] W fun e w' => ∃ V, e = .returned (.func (.func 81) #[] #[.pointer (some ⟨V, 0, none⟩)]) ∧ V < w'.heap.size ∧ w'.cell? ⟨V, 0, none⟩ = some (.slice none 0 0) ∧ Below W.heap.size W w' := by
  obtain ⟨M, D, hD, hM, f1, f2, hFi⟩ := hS
  have hk0 := no_keys hM (fun s => hFi.1 s (hF s))
  have hsz : Maps.size D ≤ 1000000000 := by rw [size_strs, hk0]; simp
  have hso := Lib.hid (sorted60_any M k D rh W hM hsz)
  have c0 := hD.cell 0
  go_enter Tryz.func33, Tryz.ntmps33
  go_wp2_with (go_at_call 62; refine (keys61_any _ _).mono ?_; rintro e w' ⟨rfl, rfl⟩)
  refine hso.out.mono ?_
  rintro e w1 ⟨v, ss, rfl, hS, hrow, hnil, hbl⟩
  rw [hk0] at hS
  obtain rfl : ss = [] := List.perm_nil.1 hS
  obtain rfl : v = .slice none 0 0 := hnil.2 rfl
  have hb1 : Below W.heap.size W w1 := ((Below.refl _ W).alloc (Nat.le_refl _) _).trans (hbl.mono (by simp))
  have HB := Lib.hid hb1
  clear hrow hnil hbl hS hb1 hso
  go_wp2_with (go_at_call 60; refine (values_S _ _ _ _).mono ?_; rintro e w' ⟨rfl, rfl⟩)
  go_ret
  exact ⟨w1.heap.size, rfl, by simp, (BlkIs.new w1 95 _).cell 0, HB.out.alloc HB.out.size _⟩
set_option maxHeartbeats 1000000 in
set_option maxRecDepth 20000 in
theorem names_none (W : World) (N : Nat) (Ft : Nat → Prop) (Dk k : Nat) (F : Files) (rm x lf : Int) (hS : DiskS W N Ft Dk k F rm x lf false) (hF : ∀ s, F s = none) :
    Calls Tryz.prog 75 #[.pointer (some ⟨Dk, 0, none⟩)] W fun e w' => (∃ A c, e = .returned (.slice A 0 c)) ∧ Below W.heap.size W w' := by
  have hd := Lib.hid (down_S W N Ft Dk k F rm x lf false hS)
  have hn := Lib.hid (dnames_none W N Ft Dk k F rm x lf hS hF)
  go_enter Tryz.func75, Tryz.ntmps75
  go_wp2_with (go_at_call 20; refine hd.out.mono ?_; rintro e w' ⟨rfl, rfl⟩)
  refine hn.out.mono ?_
  rintro e w1 ⟨V, rfl, h1, h2, h3⟩
  have hc := Lib.hid (collect_S w1 V _ [] (by simp) h1 h2 (.inl ⟨rfl, rfl⟩))
  go_wp2_with fail
  refine hc.out.mono ?_
  rintro e w2 ⟨v, rfl, h4, h5⟩
  obtain ⟨A, cc, rfl, _, _⟩ := own_slice h4
  clear h4
  go_wp2_with fail
  go_ret
  exact ⟨⟨_, _, rfl⟩, h3.trans (h5.mono h3.size)⟩
end Go.Proofs.YtidadjlhnlmfkaaGreatDoor
/- The disk's names at whatever files. Conditions: as stated at each. -/
namespace Go.Proofs.YtidadjlhnlmfkaaGreatDoor
open Go.RowKit Go.Shelf Go Go.Maps Go.Sort
theorem has_of_at {D : DataW Value} {s : ByteArray} {u : Value} (ha : at_ D s = some u) : has D (kOf s) = true := by
  cases hh : has D (kOf s) with
  | true => rfl
  | false =>
    have := atKey_of_not_has hh (.nil : DataW Value)
    unfold at_ at ha
    rw [this] at ha
    cases ha
/-- the names, rising, each once. -/
def NamesOf (F : Files) (ns : List ByteArray) : Prop := ns.Nodup ∧ (∀ s, s ∈ ns ↔ F s ≠ none) ∧ ns.Pairwise (fun a b => a.data.toList ≤ b.data.toList) ∧ ∀ s ∈ ns, s.size ≤ maxLen
def toBA (l : List UInt8) : ByteArray := ⟨l.toArray⟩
theorem toBA_inj {a b : List UInt8} (h : toBA a = toBA b) : a = b := by
  unfold toBA at h
  injection h with h
  simpa using h
theorem toBA_list (s : ByteArray) : toBA s.data.toList = s := by unfold toBA; simp
theorem strKeys_mem {W : World} {M k : Nat} {D : DataW Value} (h : MapIs W M k D) (l : List UInt8) : l ∈ strKeys D ↔ has D (.string l) = true := by
  obtain ⟨es, rfl, hko⟩ := World.ownsMap.keysOf h
  rw [has_eq, List.any_eq_true]
  show l ∈ es.map (fun p => strOf p.1) ↔ _
  rw [List.mem_map]
  constructor
  · rintro ⟨p, hp, rfl⟩
    obtain ⟨v, hv⟩ := hko p hp
    obtain ⟨y, _, hy, _⟩ := Maps.keyOf_str Tryz.underlying9 hv
    exact ⟨p, hp, by rw [hy]; simp [Lit.sameKey, strOf]⟩
  · rintro ⟨p, hp, hs⟩
    obtain ⟨v, hv⟩ := hko p hp
    obtain ⟨y, _, hy, _⟩ := Maps.keyOf_str Tryz.underlying9 hv
    rw [hy] at hs
    exact ⟨p, hp, by rw [hy]; simpa [Lit.sameKey, strOf] using hs⟩
theorem strKeys_nodup {W : World} {M k : Nat} {D : DataW Value} (h : MapIs W M k D) : (strKeys D).Nodup := by
  obtain ⟨es, hD, hpw, _⟩ := World.ownsMap.entries h (string_keyed Tryz.underlying9)
  obtain ⟨es', hD', hko⟩ := World.ownsMap.keysOf h
  obtain rfl : es = es' := by rw [hD] at hD'; simpa using hD'
  subst hD
  show (es.map fun p => strOf p.1).Nodup
  refine List.pairwise_map.2 (hpw.imp_of_mem fun {p q} hp' hq' hne e => hne ?_)
  obtain ⟨v, hv⟩ := hko p hp'
  obtain ⟨a, _, ha, _⟩ := Maps.keyOf_str Tryz.underlying9 hv
  obtain ⟨v', hv'⟩ := hko q hq'
  obtain ⟨b, _, hb, _⟩ := Maps.keyOf_str Tryz.underlying9 hv'
  rw [ha, hb] at e ⊢
  have e : a = b := e
  rw [e]
theorem namesOf_keys {W : World} {N M k : Nat} {Ft : Nat → Prop} {D : DataW Value} {F : Files} (h : MapIs W M k D) (hF : FilesIs W N Ft D F) (ss : List (List UInt8)) (hp : ss.Perm (strKeys D)) :
    NamesOf F ((ss.mergeSort (fun x y => decide (x ≤ y))).map toBA) := by
  have hp2 : (ss.mergeSort (fun x y => decide (x ≤ y))).Perm (strKeys D) := (List.mergeSort_perm _ _).trans hp
  have hle := strKeys_le h Tryz.underlying9
  refine ⟨?_, fun s => ?_, ?_, fun s hs => ?_⟩
  · refine List.pairwise_map.2 (((hp2.nodup_iff).2 (strKeys_nodup h)).imp fun hne e => hne (toBA_inj e))
  · rw [List.mem_map]
    constructor
    · rintro ⟨l, hl, rfl⟩ hn
      have hk := (hp2.mem_iff).1 hl
      have hh := (strKeys_mem h l).1 hk
      have hf := held_has (s := toBA l) h Tryz.underlying9 Tryz.underlying53 (by have := hle l hk; show l.toArray.size ≤ maxLen; simpa using this) (zero58 W) (hF.1 _ hn)
      have e : kOf (toBA l) = .string l := by unfold kOf toBA; simp
      rw [e, hh] at hf
      cases hf
    · intro hn
      cases hfs : F s with
      | none => exact absurd hfs hn
      | some y =>
        obtain ⟨bs, z⟩ := y
        obtain ⟨a, c, e1, _⟩ := hF.2.1 s bs z hfs
        have hh := has_of_at e1
        exact ⟨s.data.toList, (hp2.mem_iff).2 ((strKeys_mem h _).2 hh), toBA_list s⟩
  · rw [List.pairwise_map]
    have tr : ∀ a b c : List UInt8, decide (a ≤ b) = true → decide (b ≤ c) = true → decide (a ≤ c) = true := fun a b c h1 h2 => by
      simp only [decide_eq_true_eq] at *
      exact List.le_trans h1 h2
    have to : ∀ a b : List UInt8, (decide (a ≤ b) || decide (b ≤ a)) = true := fun a b => by
      simp only [Bool.or_eq_true, decide_eq_true_eq]
      exact List.le_total a b
    exact (List.pairwise_mergeSort tr to ss).imp fun h => by
      have := of_decide_eq_true h
      simpa [toBA] using this
  · rw [List.mem_map] at hs
    obtain ⟨l, hl, rfl⟩ := hs
    have := hle l ((hp2.mem_iff).1 hl)
    show l.toArray.size ≤ maxLen
    simpa using this
set_option maxHeartbeats 1000000 in
set_option maxRecDepth 20000 in
theorem dnames_any (W : World) (N : Nat) (Ft : Nat → Prop) (Dk k : Nat) (F : Files) (rm x lf : Int) (b : Bool) (hS : DiskS W N Ft Dk k F rm x lf b) (hk : k ≤ 1000000) :
    Calls Tryz.prog 33 #[.pointer (some ⟨Dk, 0, none⟩)] W fun e w' => ∃ V sv ns, e = .returned (.func (.func 81) #[] #[.pointer (some ⟨V, 0, none⟩)]) ∧ W.heap.size ≤ V ∧ V < w'.heap.size ∧ w'.cell? ⟨V, 0, none⟩ = some sv ∧ HasS w'.heap.size w' sv ns ∧ NamesOf F ns ∧ ns.length ≤ k ∧ Below W.heap.size W w' := by
  obtain ⟨M, D, hD, hM, f1, f2, hFi⟩ := hS
  have hsk : Maps.size D ≤ k := World.ownsMap.size_le hM
  have hso := Lib.hid (sorted60_any M k D rh W hM (by omega))
  have c0 := hD.cell 0
  go_enter Tryz.func33, Tryz.ntmps33
  go_wp2_with (go_at_call 62; refine (keys61_any _ _).mono ?_; rintro e w' ⟨rfl, rfl⟩)
  refine hso.out.mono ?_
  rintro e w1 ⟨v, ss, rfl, hS, hrow, hnil, hbl⟩
  have hns := namesOf_keys hM hFi ss hS
  have hlen : ss.length ≤ k := by rw [hS.length_eq, ← size_strs]; exact hsk
  have hml : ((ss.mergeSort (fun x y => decide (x ≤ y))).map toBA).length = ss.length := by simp
  have hrow' : w1.ownsRow (W.alloc (.cells #[.map (some M)] 53)).heap.size 9 1 v ss.length (((ss.mergeSort (fun x y => decide (x ≤ y))).map toBA).map Value.string) := by
    rw [List.map_map]
    exact hrow
  have hhas := has_of_own_S hrow' hml.symm
  obtain ⟨A, cc, rfl, _, _⟩ := own_slice hrow
  have hb1 : Below W.heap.size W w1 := ((Below.refl _ W).alloc (Nat.le_refl _) _).trans (hbl.mono (by simp))
  generalize (ss.mergeSort (fun x y => decide (x ≤ y))).map toBA = ns at *
  have HH := Lib.hid hhas
  have HB := Lib.hid hb1
  have HN := Lib.hid hns
  clear hrow hrow' hnil hbl hS hhas hb1 hso hns
  go_wp2_with (go_at_call 60; refine (values_S _ _ _ _).mono ?_; rintro e w' ⟨rfl, rfl⟩)
  go_ret
  have hz := HB.out.size
  have hal := (Below.refl w1.heap.size w1).alloc (Nat.le_refl _) (.cells #[.slice A ss.length cc] 95)
  refine ⟨w1.heap.size, _, ns, rfl, hz, by simp, (BlkIs.new w1 95 _).cell 0, ?_, HN.out, by omega, HB.out.alloc hz _⟩
  rcases HH.out.below hal with h | ⟨b, off, cap, h1, h2, h3⟩
  · exact .inl h
  · exact .inr ⟨b, off, cap, h1, by simp; omega, h3⟩
set_option maxHeartbeats 1000000 in
set_option maxRecDepth 20000 in
theorem names_any (W : World) (N : Nat) (Ft : Nat → Prop) (Dk k : Nat) (F : Files) (rm x lf : Int) (hS : DiskS W N Ft Dk k F rm x lf false) (hk : k ≤ 1000000) :
    Calls Tryz.prog 75 #[.pointer (some ⟨Dk, 0, none⟩)] W fun e w' => ∃ A c ns, e = .returned (.slice A ns.length c) ∧ w'.ownsRow W.heap.size 9 1 (.slice A ns.length c) ns.length (ns.map Value.string) ∧ NamesOf F ns ∧ ns.length ≤ k ∧ Below W.heap.size W w' := by
  have hd := Lib.hid (down_S W N Ft Dk k F rm x lf false hS)
  have hn := Lib.hid (dnames_any W N Ft Dk k F rm x lf false hS hk)
  go_enter Tryz.func75, Tryz.ntmps75
  go_wp2_with (go_at_call 20; refine hd.out.mono ?_; rintro e w' ⟨rfl, rfl⟩)
  refine hn.out.mono ?_
  rintro e w1 ⟨V, sv, ns, rfl, h0, h1, h2, hH, hN, hl, h3⟩
  have hc := Lib.hid (collect_S w1 V _ ns (by omega) h1 h2 hH)
  go_wp2_with fail
  refine hc.out.mono ?_
  rintro e w2 ⟨v, rfl, h4, h5⟩
  obtain ⟨A, cc, rfl, _, _⟩ := own_slice h4
  have h6 := Lib.hid h4
  clear h4
  go_wp2_with fail
  go_ret
  exact ⟨A, cc, ns, rfl, own_more h6.out h3.size, hN, hl, h3.trans (h5.mono h3.size)⟩
end Go.Proofs.YtidadjlhnlmfkaaGreatDoor
/- A log's calls that change its disk: sync, begin, roll. Conditions: as stated at each. -/
namespace Go.Proofs.YtidadjlhnlmfkaaGreatDoor
open Go.RowKit Go.Shelf Go Go.Maps
/-- the blocks of a log and its disk. -/
def OwnL (Ft : Nat → Prop) (L G : Nat) : Nat → Prop := fun i => Ft i ∨ i = L ∨ i = G
theorem newFt_trans {Ft : Nat → Prop} {W W1 W2 : World} (h1 : W.heap.size ≤ W1.heap.size) (h2 : W1.heap.size ≤ W2.heap.size) : ∀ i, NewFt (NewFt Ft W W1) W1 W2 i → NewFt Ft W W2 i := by
  rintro i ((h | ⟨h3, h4⟩) | ⟨h3, h4⟩)
  · exact .inl h
  · exact .inr ⟨h3, by omega⟩
  · exact .inr ⟨by omega, h4⟩
theorem newFt_up {Ft : Nat → Prop} {W W1 W2 : World} (h1 : W.heap.size ≤ W1.heap.size) : ∀ i, NewFt Ft W1 W2 i → NewFt Ft W W2 i := by
  rintro i (h | ⟨h3, h4⟩)
  · exact .inl h
  · exact .inr ⟨by omega, h4⟩
theorem newFt_not {Ft : Nat → Prop} {W W1 : World} {L : Nat} (h : ¬ Ft L) (hl : L < W.heap.size) : ¬ NewFt Ft W W1 L := by
  rintro (h1 | ⟨h1, _⟩)
  · exact h h1
  · omega
section
variable {W w' : World} {N Dk k k' L G : Nat} {Ft : Nat → Prop} {F F' : Files} {rm x x' lf lf' : Int} {b b' : Bool} {nm : ByteArray} {sz : Int} {g : List (Nat × Nat)} {dead : Bool}
theorem LogS.ltL (h : LogS W N Ft Dk k F rm x lf b L G nm sz g dead) : L < W.heap.size := BlkIs.lt h.2.1
theorem LogS.ltG (h : LogS W N Ft Dk k F rm x lf b L G nm sz g dead) : G < W.heap.size := SegM.lt h.2.2.1
theorem LogS.ne (h : LogS W N Ft Dk k F rm x lf b L G nm sz g dead) : G ≠ L := SegM.not_blk h.2.2.1 h.2.1
/-- behind a call of the disk's. -/
theorem LogS.disk (h : LogS W N Ft Dk k F rm x lf b L G nm sz g dead) (hD : DiskS w' N (NewFt Ft W w') Dk k' F' rm x' lf' b') (hT : Tn Ft W w') (hk : k ≤ k') : LogS w' N (NewFt Ft W w') Dk k' F' rm x' lf' b' L G nm sz g dead :=
  ⟨hD, (hT.block L h.ltL h.2.2.2.1).trans h.2.1, (h.2.2.1.same (hT.block G h.ltG h.2.2.2.2)).mono hk, newFt_not h.2.2.2.1 h.ltL, newFt_not h.2.2.2.2 h.ltG⟩
theorem LogS.below (h : LogS W N Ft Dk k F rm x lf b L G nm sz g dead) (hB : Below W.heap.size W w') : LogS w' N Ft Dk k F rm x lf b L G nm sz g dead :=
  ⟨h.1.below hB, (hB.block L h.ltL).trans h.2.1, h.2.2.1.same (hB.block G h.ltG), h.2.2.2.1, h.2.2.2.2⟩
theorem LogS.alk (h : LogS W N Ft Dk k F rm x lf b L G nm sz g dead) (hA : Alk W w') : LogS w' N Ft Dk k F rm x lf b L G nm sz g dead :=
  h.below ⟨hA.2.1, hA.2.2.1, hA.2.2.2, by rw [hA.1]; exact Nat.le_refl _, fun i _ => by rw [hA.1]⟩
/-- others' writes. -/
theorem LogS.keep {p : Nat → Prop} (h : LogS W N Ft Dk k F rm x lf b L G nm sz g dead) (hT : Tn p W w') (hp : ∀ i, OwnL Ft L G i → ¬ p i) : LogS w' N Ft Dk k F rm x lf b L G nm sz g dead :=
  ⟨h.1.keep hT (fun i hi => hp i (.inl hi)), (hT.block L h.ltL (hp L (.inr (.inl rfl)))).trans h.2.1, h.2.2.1.same (hT.block G h.ltG (hp G (.inr (.inr rfl)))), h.2.2.2.1, h.2.2.2.2⟩
theorem LogS.more {Ft' : Nat → Prop} (h : LogS W N Ft Dk k F rm x lf b L G nm sz g dead) (hf : ∀ i, Ft i → Ft' i) (hk : k ≤ k') (h1 : ¬ Ft' L) (h2 : ¬ Ft' G) : LogS W N Ft' Dk k' F rm x lf b L G nm sz g dead :=
  ⟨h.1.more hf hk, h.2.1, h.2.2.1.mono hk, h1, h2⟩
/-- a field of the log is set. -/
theorem LogS.set {i : Nat} {v : Value} {dead' : Bool} (h : LogS W N Ft Dk k F rm x lf b L G nm sz g dead) (hv : i = 5 ∧ v = .bool dead') : LogS (W.setCell ⟨L, i, none⟩ v) N Ft Dk k F rm x lf b L G nm sz g dead' := by
  obtain ⟨rfl, rfl⟩ := hv
  have hT := (Tn.refl (fun i => i = L) W).setCell (x := ⟨L, 5, none⟩) (.inl rfl) (.bool dead')
  refine ⟨h.1.keep hT (fun i hi e => h.2.2.2.1 (by rw [← e]; exact hi)), ?_, h.2.2.1.same (Below.heap_setCell W ⟨L, 5, none⟩ _ G h.ne), h.2.2.2.1, h.2.2.2.2⟩
  have := BlkIs.put h.2.1 5 (.bool dead')
  simpa [LogB] using this
/-- the number of the last one is set, behind the map's turn. -/
theorem LogS.last {W1 : World} {g' : List (Nat × Nat)} (h : LogS W N Ft Dk k F rm x lf b L G nm sz g dead) (hg : W.grownBy W1 (some G)) (hM : SegM W1 G k' g') (hk : k ≤ k') : LogS (W1.setCell ⟨L, 4, none⟩ (.int .i64 (g'.length : Nat))) N Ft Dk k' F rm x lf b L G nm sz g' dead := by
  have hT : Tn (fun i => i = G) W W1 := (Tn.refl _ W).grown hg (fun i e => .inl (by injection e with e; exact e.symm))
  have hT2 := (Tn.mono (q := fun i => i = L ∨ i = G) hT (fun i _ e => .inr e)).setCell (x := ⟨L, 4, none⟩) (.inl (.inl rfl)) (.int .i64 (g'.length : Nat))
  have hL1 : LogB W1 L Dk nm sz G g.length dead := (hT.block L h.ltL (fun e => h.ne e.symm)).trans h.2.1
  refine ⟨(h.1.keep hT2 (fun i hi e => ?_)).more (fun _ h => h) hk, ?_, hM.same (Below.heap_setCell W1 ⟨L, 4, none⟩ _ G h.ne), h.2.2.2.1, h.2.2.2.2⟩
  · rcases e with rfl | rfl
    · exact h.2.2.2.1 hi
    · exact h.2.2.2.2 hi
  · have := BlkIs.put hL1 4 (.int .i64 (g'.length : Nat))
    simpa [LogB] using this
end
/-- behind a call that changes the disk and the log. -/
def LgPost (W : World) (N : Nat) (Ft : Nat → Prop) (Dk k : Nat) (F : Files) (rm x lf : Int) (b : Bool) (L G : Nat) (nm : ByteArray) (sz : Int) (g : List (Nat × Nat)) (dead : Bool) (w' : World) : Prop :=
  LogS w' N (NewFt Ft W w') Dk k F rm x lf b L G nm sz g dead ∧ Tn (OwnL Ft L G) W w'
theorem newFt_size {Ft : Nat → Prop} {W W1 W2 : World} (h : W2.heap.size = W1.heap.size) : NewFt Ft W W1 = NewFt Ft W W2 := by
  funext i
  unfold NewFt
  rw [h]
theorem LgPost.up {W W1 w1 w' : World} {N Dk k L G : Nat} {Ft : Nat → Prop} {F : Files} {rm x lf : Int} {b : Bool} {nm : ByteArray} {sz : Int} {g : List (Nat × Nat)} {dead : Bool}
    (hL : ¬ Ft L) (hL2 : L < W.heap.size) (hG : ¬ Ft G) (hG2 : G < W.heap.size) (hs : W.heap.size ≤ W1.heap.size) (hz : w1.heap.size ≤ w'.heap.size) (hE : LogS w' N (NewFt Ft W1 w1) Dk k F rm x lf b L G nm sz g dead) (hT : Tn (OwnL Ft L G) W w') : LgPost W N Ft Dk k F rm x lf b L G nm sz g dead w' := by
  refine ⟨hE.more (fun i hi => ?_) (Nat.le_refl _) (newFt_not hL hL2) (newFt_not hG hG2), hT⟩
  rcases hi with h | ⟨h3, h4⟩
  · exact .inl h
  · exact .inr ⟨by omega, by omega⟩
theorem OwnL.of {Ft : Nat → Prop} {L G : Nat} {W W1 : World} (h : Tn Ft W W1) : Tn (OwnL Ft L G) W W1 := h.mono fun _ _ h => .inl h
theorem size_set (W : World) (a : Addr) (v : Value) : (W.setCell a v).heap.size = W.heap.size := by simp [World.setCell]
theorem sync_ok (W : World) (N : Nat) (Ft : Nat → Prop) (Dk k : Nat) (F : Files) (s : ByteArray) (rm x lf : Int) (bs : List UInt8) (z : Nat)
    (hS : DiskS W N Ft Dk k F rm x lf false) (hb : nameB s = true) (hf : F s = some (bs, z)) (hk : k < maxLen) (hx : 0 ≤ x) (hx2 : x ≤ 100000000) (hn0 : bs.length ≤ 100000000) (hlf : lf ≤ 9223372036854775807) (h1 : lf ≠ 1) :
    Calls Tryz.prog 59 #[.pointer (some ⟨Dk, 0, none⟩), .string s] W fun e w' => e = .returned (.int .i64 0) ∧ DiskS w' N (NewFt Ft W w') Dk (k + 1) (F.upd s (some (bs, bs.length))) rm x (lfA lf) false ∧ Tn Ft W w' := by
  refine (sync_S W N Ft Dk k F s rm x lf bs z hS hb hf hk hx hx2 hn0 hlf).mono ?_
  rintro e w' ⟨rfl, hp⟩
  unfold After at hp
  rw [if_neg h1, decide_eq_false h1] at hp
  exact ⟨by rw [erA, if_neg h1], hp.1, hp.2⟩
theorem create_ok (W : World) (N : Nat) (Ft : Nat → Prop) (Dk k : Nat) (F : Files) (s : ByteArray) (rm x lf : Int)
    (hS : DiskS W N Ft Dk k F rm x lf false) (hb : nameB s = true) (hf : F s = none) (hk : k < maxLen) (hx : 0 ≤ x) (hx2 : x ≤ 100000000) (hlf : lf ≤ 9223372036854775807) (h1 : lf ≠ 1) :
    Calls Tryz.prog 71 #[.pointer (some ⟨Dk, 0, none⟩), .string s] W fun e w' => e = .returned (.int .i64 0) ∧ DiskS w' N (NewFt Ft W w') Dk (k + 1) (F.upd s (some ([], 0))) rm x (lfA lf) false ∧ Tn Ft W w' := by
  refine (create_S W N Ft Dk k F s rm x lf hS hb hf hk hx hx2 hlf).mono ?_
  rintro e w' ⟨rfl, hp⟩
  unfold Made at hp
  rw [if_neg h1, decide_eq_false h1] at hp
  exact ⟨by rw [erA, if_neg h1], hp.1, hp.2⟩
theorem append_ok (W : World) (N : Nat) (Ft : Nat → Prop) (Dk k : Nat) (F : Files) (s : ByteArray) (rm x lf : Int) (A : Option Addr) (B c : Nat) (bs : List UInt8) (z : Nat) (news : List UInt8)
    (hS : DiskS W N Ft Dk k F rm x lf false) (hb : nameB s = true) (hf : F s = some (bs, z)) (hk : k < maxLen) (hx : 0 ≤ x) (hx2 : x ≤ 100000000) (hn0 : bs.length ≤ 100000000) (hm : news.length ≤ 100000000) (hr0 : x + news.length ≤ rm)
    (hN : N ≤ W.heap.size) (hA : Bts W B A news) (hB : B ≤ W.heap.size) (hlf : lf ≤ 9223372036854775807) (h1 : lf ≠ 1) :
    Calls Tryz.prog 29 #[.pointer (some ⟨Dk, 0, none⟩), .string s, .slice A news.length c] W fun e w' => e = .returned (.int .i64 0) ∧ DiskS w' N (NewFt Ft W w') Dk (k + 1) (F.upd s (some (bs ++ news, z))) rm (x + news.length) (lfA lf) false ∧ Tn Ft W w' := by
  have h := append_S W N Ft Dk k F s rm x lf A B c news hS hb hk hx hx2 (by rw [hf]; exact hn0) hm hr0 hN hA hB hlf
  rw [hf] at h
  refine h.mono ?_
  rintro e w' ⟨rfl, hp⟩
  unfold After at hp
  rw [decide_eq_false h1] at hp
  exact ⟨by rw [erA, if_neg h1], hp.1, hp.2⟩
set_option maxHeartbeats 1600000 in
set_option maxRecDepth 20000 in
theorem lsync_ok (W : World) (N : Nat) (Ft : Nat → Prop) (Dk k : Nat) (F : Files) (rm x lf : Int) (L G : Nat) (nm : ByteArray) (sz : Int) (g : List (Nat × Nat)) (bs : List UInt8) (z : Nat)
    (h : LogS W N Ft Dk k F rm x lf false L G nm sz g false) (hl : g.length ≤ 999999) (hn : nmOk nm) (hf : F (fileN nm g.length) = some (bs, z)) (hbs : bs.length ≤ 100000000) (hk : k < maxLen) (hx : 0 ≤ x) (hx2 : x ≤ 100000000) (hlf : lf ≤ 9223372036854775807) (h1 : lf ≠ 1) :
    Calls Tryz.prog 31 #[.pointer (some ⟨L, 0, none⟩)] W fun e w' => e = .returned (.tuple #[]) ∧ LgPost W N Ft Dk (k + 1) (F.upd (fileN nm g.length) (some (bs, bs.length))) rm x (lfA lf) false L G nm sz g false w' := by
  have c0 := BlkIs.cell h.2.1 0
  have c4 := BlkIs.cell h.2.1 4
  have hlt := h.ltL
  have hn6 : nm.size ≤ 1000000 := by have := hn.1; omega
  have hnb := nameB_fileN hn g.length
  have hnL := h.2.2.2.1
  go_enter Tryz.func31, Tryz.ntmps31
  go_wp2_with fail
  have hA : Below W.heap.size W W.drew := (Below.refl _ W).drew
  have hD := h.below hA
  go_region_held3 (fun w' => w'.cell? ⟨L, 0, none⟩ = some (.pointer (some ⟨Dk, 0, none⟩)) ∧ w'.cell? ⟨L, 4, none⟩ = some (.int .i64 (g.length : Nat)))
    (first
      | go_keep
      | exact ⟨(hb1.cell (p := ⟨L, 0, none⟩) hlt).trans c0, (hb1.cell (p := ⟨L, 4, none⟩) hlt).trans c4⟩
      | exact ⟨BlkIs.cell hE.2.1 0, BlkIs.cell hE.2.1 4⟩)
    (first
      | (go_at_call 30; refine (lfile_any _ L Dk nm sz G _ false g.length hD.2.1 hl hn6).mono ?_; rintro e w1 ⟨rfl, hb1⟩)
      | (go_at_call 59; have hC := hD.below hb1; refine (sync_ok w1 N Ft Dk k F _ rm x lf bs z hC.1 hnb hf hk hx hx2 hbs hlf h1).mono ?_; rintro e w2 ⟨rfl, hD2, hT2⟩; have hE := hC.disk hD2 hT2 (Nat.le_succ k)))
  have HE := Lib.hid hE
  have hf5 := BlkIs.froz hE.2.1 5
  have c5 := BlkIs.cell hE.2.1 5
  have hB1 := hA.trans hb1
  have hT := ((Tn.of_below (p := Ft) hB1).trans hT2)
  have HT := Lib.hid (OwnL.of (L := L) (G := G) hT)
  clear hT hT2 hE hD2 hC hD
  go_wp2_with (go_at_call 26; refine (must_ok _).mono ?_; rintro e w' ⟨rfl, rfl⟩)
  go_end0
  exact ⟨rfl, LgPost.up hnL hlt h.2.2.2.2 h.ltG hB1.size (Nat.le_of_eq (size_set _ _ _).symm) (HE.out.set ⟨rfl, rfl⟩) (HT.out.setCell (.inl (.inr (.inl rfl))) _)⟩
end Go.Proofs.YtidadjlhnlmfkaaGreatDoor
