/- slices.Backward over sides. Conditions: as stated at each. -/
import Derived.Test.YtgjepkcdacgieaaDoorMkSide
namespace Go.Proofs.YtgjepkcdacgieaaDoor
open Go.RowKit Go.Shelf Go
attribute [local go_sem] Oper.semAt_some
/-- what the iterator hands out. -/
def encD (L : List (List UInt8 × Bool)) (len : Nat) (x : {i : Nat // i < len}) : Array Value := #[.int .i64 (x.1 : Int), .agg (sv (L.getD x.1 ([], false))).toArray]
set_option maxRecDepth 100000 in
set_option maxHeartbeats 2000000 in
theorem back1_D (l Bs b off len cap : Nat) (L : List (List UInt8 × Bool)) (hL : Sds L) (hlen : L.length = len) (hreach : len ≤ 100000) (Kp : World → World → Prop) (hKt : ∀ {A B C : World}, Kp A B → Kp B C → Kp A C) (J Jx : List {i : Nat // i < len} → World → Prop)
    (hY : ∀ pre x W, J pre W → pre.length < len → YieldAt Fence.wide (2 - 1) Tryd.prog l (encD L len x) W fun e W' =>
      (e = .returned (.bool true) ∧ J (pre ++ [x]) W' ∧ Kp W W') ∨ (e = .returned (.bool false) ∧ Jx (pre ++ [x]) W'))
    (W : World) (hc : ∀ W', Kp W W' → W'.cell? ⟨Bs, 0, none⟩ = some (.slice (some ⟨b, off, none⟩) len cap) ∧ W'.rangeAt b off (svs L)) (hK0 : Kp W W) (h0 : J [] W) :
    CallsIn Fence.wide 2 Tryd.prog 52 #[.func (.yield l) #[] #[], .pointer (some ⟨Bs, 0, none⟩)] W fun e W' => (∃ v, e = .returned v) ∧
      ((∃ ys, ys = downs len ∧ J ys W') ∨ (∃ pre, (∃ k, k ≤ len ∧ pre = (downs len).take k) ∧ Jx pre W')) := by
  refine callsIn_of_wp Tryd.func52 rfl trivial ?_ rfl
  simp only [Tryd.ntmps52, List.size_toArray, List.length_cons, List.length_nil, Nat.reduceAdd, Nat.reduceSub, Array.replicate_succ, Array.replicate_zero, List.push_toArray, List.append_toArray, List.nil_append, List.cons_append]
  have hBs := (hc W hK0).1
  gi_wp2
  gi_loopw [3] (fun i wr => ∃ j : Nat, j ≤ len ∧ i = .int .i64 ((j : Int) - 1) ∧ J ((downs len).take (len - j)) wr ∧ Kp W wr) (fun i _ => (intOf i + 1).toNat)
  case atStart => exact ⟨len, Nat.le_refl _, rfl, by rw [Nat.sub_self]; exact h0, hK0⟩
  case round =>
    obtain ⟨j, hj, rfl, hJs, hnx⟩ := hrel
    rcases j with _ | q
    · rw [show ((0 : Nat) : Int) - 1 = -1 from rfl]
      gi_wp2
      go_end0
      exact ⟨⟨_, rfl⟩, .inl ⟨_, rfl, by rw [Nat.sub_zero, List.take_of_length_le (by rw [downs_length]; omega)] at hJs; exact hJs⟩⟩
    · have eq1 : ((q + 1 : Nat) : Int) - 1 = (q : Int) := by omega
      rw [eq1]
      have hcell := (hc wr hnx).1
      have hr : wr.rangeAt b (off + q * 33) (sv (L.getD q ([], false))) := by
        obtain ⟨g', o', e1, _, e2⟩ := Ds.at_ (w := wr) (B := b + 1) (A := some ⟨b, off, none⟩) (L := L) ⟨hL, .inr ⟨b, off, rfl, by omega, (hc wr hnx).2⟩⟩ (k := q) (by omega)
        injection e1 with e1
        injection e1 with e3 e4
        subst e3
        subst e4
        exact e2
      have hx32 := Ds.getD hL (k := q) (by omega)
      have hq0 : (q : Int) < (len : Int) := by omega
      have hq1 : q < len := by omega
      have hq2 : (q : Int) ≤ 9223372036854775807 := by omega
      obtain ⟨fn, tmps, assign, body, hy, hR⟩ := hY _ ⟨q, hq1⟩ wr hJs (by rw [List.length_take, downs_length]; omega)
      dsimp only [encD] at hy
      have hT := downs_take len (len - (q + 1)) (by omega)
      have eT : len - (q + 1) + 1 = len - q := by omega
      have eI : (⟨len - 1 - (len - (q + 1)), by omega⟩ : {i : Nat // i < len}) = ⟨q, hq1⟩ := Subtype.ext (by show len - 1 - (len - (q + 1)) = q; omega)
      rw [eT, eI] at hT
      have HT := Lib.hid hT
      have HX := Lib.hid hx32
      clear hT eT eI eq1 hx32
      generalize L.getD q ([], false) = x at *
      gi_wp2_with (refine lin_load_mid (Wide.wide _ _) rfl 56 (.tmp 15) rfl b (off + q * 33) rfl (sv x) _ hr Tryd.underlying56 rfl (isz56s HX.out) ?_)
      refine hR.mono ?_
      rintro e W3 (⟨rfl, hJ3, hk3⟩ | ⟨rfl, hJx3⟩)
      · gi_wp2
        go_roundw
        case rel => exact ⟨q, by omega, rfl, by rw [HT.out]; exact hJ3, hKt hnx hk3⟩
        case measure => simp [intOf]
      · gi_wp2
        refine bodyPost_ret (results_none rfl _ _ _) rfl ?_
        exact ⟨⟨_, rfl⟩, .inr ⟨_, ⟨len - q, by omega, HT.out.symm⟩, hJx3⟩⟩
set_option maxRecDepth 100000 in
set_option maxHeartbeats 1000000 in
theorem back1_nil_D (l Bs len : Nat) (A : Option Addr) (cap : Nat) (h00 : len = 0) (J : List {i : Nat // i < len} → World → Prop) (W : World) (hBs : W.cell? ⟨Bs, 0, none⟩ = some (.slice A len cap)) (h0 : J [] W) :
    CallsIn Fence.wide 2 Tryd.prog 52 #[.func (.yield l) #[] #[], .pointer (some ⟨Bs, 0, none⟩)] W fun e W' => (∃ v, e = .returned v) ∧ J [] W' := by
  subst h00
  refine callsIn_of_wp Tryd.func52 rfl trivial ?_ rfl
  simp only [Tryd.ntmps52, List.size_toArray, List.length_cons, List.length_nil, Nat.reduceAdd, Nat.reduceSub, Array.replicate_succ, Array.replicate_zero, List.push_toArray, List.append_toArray, List.nil_append, List.cons_append]
  gi_wp2
  gi_loopw [3] (fun i wr => i = .int .i64 (-1) ∧ J [] wr) (fun _ _ => 0)
  case atStart => exact ⟨rfl, h0⟩
  case round =>
    obtain ⟨rfl, hJs⟩ := hrel
    gi_wp2
    go_end0
    exact ⟨⟨_, rfl⟩, hJs⟩
theorem back_D (a : Option Addr) (len cap : Nat) (w : World) :
    Calls Tryd.prog 38 #[.slice a len cap] w fun e w' => e = .returned (.func (.func 52) #[] #[.pointer (some ⟨w.heap.size, 0, none⟩)]) ∧ w' = w.alloc (.cells #[.slice a len cap] 49) := by
  have hmf : ∀ (fn : Fn) (first cap : Array Value) (w : World), (Instr.makeFunc fn first cap).run Tryd.prog w = .ok (.func fn first cap) w := fun _ _ _ _ => rfl
  go_enter Tryd.func38, Tryd.ntmps38
  go_wp2_with fail
  go_ret
  exact ⟨rfl, rfl⟩
theorem back_stops_D (Bs n₀ N len cap : Nat) (p : Nat → Prop) (A : Option Addr) (L : List (List UInt8 × Bool)) (hlen : L.length = len) (hreach : len ≤ 100000) (w : World) (hBs : Bs < n₀) (hp : ¬ p Bs) (hn₀ : n₀ ≤ w.heap.size) (hN : N ≤ n₀) (hpN : ∀ i, i < N → ¬ p i)
    (hc : w.cell? ⟨Bs, 0, none⟩ = some (.slice A len cap)) (hI : Ds w N A L) :
    SeqStopsK Fence.wide 2 Tryd.prog 52 #[.pointer (some ⟨Bs, 0, none⟩)] (encD L len) (Kq n₀ p) (fun ys => ys = downs len) (fun pre => ∃ k, k ≤ len ∧ pre = (downs len).take k) len w := fun l J Jx W hW _ _ hY h0 => by
  have hc' := (hW.cell (p := ⟨Bs, 0, none⟩) (by show Bs < w.heap.size; omega)).trans hc
  have hI' := hI.below (hW.mono (by omega))
  rcases Nat.eq_zero_or_pos len with h00 | h1
  · exact (back1_nil_D l Bs len A cap h00 J W hc' h0).mono fun e W' ⟨he, hj⟩ => ⟨he, .inl ⟨[], by subst h00; rfl, hj⟩⟩
  · obtain ⟨b, off, rfl, hb, _⟩ := hI'.at_ (k := 0) (by omega)
    rcases hI'.2 with rfl | ⟨b', off', e1, hb', hr⟩
    · simp at hlen; omega
    · injection e1 with e1
      injection e1 with e3 e4
      subst e3
      subst e4
      exact back1_D l Bs b off len cap L hI.1 hlen hreach (Kq n₀ p) Kq.trans J Jx hY W (fun W' hk => ⟨(hk.cell hBs hp).trans hc', hk.range hr (by omega) (hpN b hb')⟩) (Kq.refl W) h0
end Go.Proofs.YtgjepkcdacgieaaDoor
