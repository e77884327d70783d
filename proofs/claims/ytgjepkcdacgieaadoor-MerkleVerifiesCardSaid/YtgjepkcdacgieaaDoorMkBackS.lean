/- slices.Backward over sums. Conditions: as stated at each. -/
import Derived.Test.YtgjepkcdacgieaaDoorMkIn
import Derived.Shelf.Abstract
import Derived.Shelf.RegionOpen
import Derived.WalkKit
namespace Go.Proofs.YtgjepkcdacgieaaDoor
open Go.RowKit Go.Shelf Go
attribute [local go_sem] Oper.semAt_some
theorem lin_load_mid {F : Fence} {n : Nat} {P : Program} {ops : Array Oper} {Q : Exit → Act → World → Prop} (hF : Wide F (n - 1) P) {o : Oper} {rest : List Oper} {a : Act} {w : World} (hgd : o.guard = none) (ty : TypeId) (x : Operand) (ho : o.op = .load ty x)
    (b off : Nat) (hx : a.eval x = .pointer (some ⟨b, off, none⟩)) (cs : List Value) (d : TypeDesc) (hc : w.rangeAt b off cs)
    (hu : P.underlying ty = some d) (hd : d.isRow = true) (hi : (P.info? ty).map (·.size) = some cs.length)
    (h : wpListIn F n P ops Q rest (a.put o.dst (.agg cs.toArray)) w) : wpListIn F n P ops Q (o :: rest) a w :=
  lin_wp hF hgd (fun c hc => by (rw [ho] at hc; cases hc)) fun _ hK => wp_load_mid ty x ho b off hx cs d hc hu hd hi (hK _ _ h)
theorem lin_store {F : Fence} {n : Nat} {P : Program} {ops : Array Oper} {Q : Exit → Act → World → Prop} (hF : Wide F (n - 1) P) {o : Oper} {rest : List Oper} {a : Act} {w : World} (x y : Operand) (ty : TypeId) (g : Nat) (t : TypeId) (old cells : Array Value) (hg : BlkIs w g t old)
    (ho : o.op = .store ty x y) (hx : a.eval x = .pointer (some ⟨g, 0, none⟩)) (hy : a.eval y = .agg cells) (hgd : o.guard = none) (hdst : o.dst = none)
    (hi : (P.info? ty).map (·.size) = some cells.size) (hold : old.size = cells.size) (h1 : cells.all (·.oneCell') = true)
    (h : ∀ w', BlkIs w' g t cells → Tn (fun i => i = g) w w' → wpListIn F n P ops Q rest a w') : wpListIn F n P ops Q (o :: rest) a w :=
  lin_wp hF hgd (fun c hc => by (rw [ho] at hc; cases hc)) fun K hK => by
    have hput : a.put o.dst undef = a := by rw [hdst]; rfl
    refine wp_store_row ty x y ho g cells hx hy t old hg hi hold h1 ?_
    rw [hput]
    exact hK _ _ (h _ (tn_row hg cells).1 (tn_row hg cells).2)
/-- the indices from the last one down. -/
def downs (len : Nat) : List {i : Nat // i < len} := ((List.finRange len).map fun i => ⟨i.1, i.2⟩).reverse
theorem downs_val (len : Nat) : (downs len).map Subtype.val = (List.range len).reverse := by
  simp only [downs, List.map_reverse, List.map_map]
  congr 1
  apply List.ext_getElem
  · simp
  · intro i h1 h2
    simp
theorem downs_take (len k : Nat) (h : k < len) : (downs len).take (k + 1) = (downs len).take k ++ [⟨len - 1 - k, by omega⟩] := by
  rw [List.take_succ_eq_append_getElem (by simp [downs]; omega)]
  congr 2
  apply Subtype.ext
  have e : ((downs len).map Subtype.val)[k]? = some (len - 1 - k) := by
    rw [downs_val]
    simp [h]
  rw [List.getElem?_map, List.getElem?_eq_getElem (by simp [downs]; omega)] at e
  simpa using e
theorem downs_length (len : Nat) : (downs len).length = len := by simp [downs]
/-- what the iterator hands out. -/
def encH (L : List (List UInt8)) (len : Nat) (x : {i : Nat // i < len}) : Array Value := #[.int .i64 (x.1 : Int), .agg (bv (L.getD x.1 [])).toArray]
/-- what a round keeps: below n0 all but the blocks of p. -/
def Kq (n0 : Nat) (p : Nat → Prop) (W W' : World) : Prop := W.heap.size ≤ W'.heap.size ∧ ∀ i, i < n0 → ¬ p i → W'.heap[i]? = W.heap[i]?
theorem Kq.refl {n0 : Nat} {p : Nat → Prop} (A : World) : Kq n0 p A A := ⟨Nat.le_refl _, fun _ _ _ => rfl⟩
theorem Kq.trans {n0 : Nat} {p : Nat → Prop} {A B C : World} (h : Kq n0 p A B) (k : Kq n0 p B C) : Kq n0 p A C :=
  ⟨Nat.le_trans h.1 k.1, fun i hi hp => (k.2 i hi hp).trans (h.2 i hi hp)⟩
theorem Kq.book {n0 : Nat} {p : Nat → Prop} {w : World} (hn : n0 ≤ w.heap.size) (W : World) (l : Nat) (o o' : Obj) (hl : w.heap.size ≤ l) (_ : W.heap[l]? = some o) (_ : o.isCells = false) (_ : o.isWalk = false) : Kq n0 p W (W.putObj l o') :=
  ⟨by simp, fun i hi _ => World.putObj_heap_other (by omega)⟩
theorem Kq.of_tn {n0 : Nat} {p : Nat → Prop} {W W' : World} (h : Tn p W W') (hn : n0 ≤ W.heap.size) : Kq n0 p W W' := ⟨h.size, fun i hi hp => h.block i (by omega) hp⟩
theorem Kq.cell {n0 : Nat} {p : Nat → Prop} {W W' : World} (h : Kq n0 p W W') {b o : Nat} (hb : b < n0) (hp : ¬ p b) : W'.cell? ⟨b, o, none⟩ = W.cell? ⟨b, o, none⟩ := by
  simp [World.cell?, h.2 b hb hp]
theorem Kq.range {n0 : Nat} {p : Nat → Prop} {W W' : World} (h : Kq n0 p W W') {b o : Nat} {cs : List Value} (hr : W.rangeAt b o cs) (hb : b < n0) (hp : ¬ p b) : W'.rangeAt b o cs := fun j v hj => (h.cell hb hp).trans (hr j v hj)
theorem keeps_of_tn {n0 : Nat} {p : Nat → Prop} {X X' : World} (h : Tn p X X') (hp : ∀ i, p i → i < n0) : KeepsFrom n0 X X' :=
  ⟨h.size, fun k o hB hk _ => by rw [h.block k (Array.getElem?_eq_some_iff.1 hk).1 (fun hpk => by have := hp k hpk; omega)]; exact hk⟩
set_option maxRecDepth 100000 in
set_option maxHeartbeats 2000000 in
theorem back1_H (l Bs b off len cap : Nat) (L : List (List UInt8)) (hL : Sms L) (hlen : L.length = len) (hreach : len ≤ 100000) (Kp : World → World → Prop) (hKt : ∀ {A B C : World}, Kp A B → Kp B C → Kp A C) (J Jx : List {i : Nat // i < len} → World → Prop)
    (hY : ∀ pre x W, J pre W → pre.length < len → YieldAt Fence.wide (2 - 1) Tryd.prog l (encH L len x) W fun e W' =>
      (e = .returned (.bool true) ∧ J (pre ++ [x]) W' ∧ Kp W W') ∨ (e = .returned (.bool false) ∧ Jx (pre ++ [x]) W'))
    (W : World) (hc : ∀ W', Kp W W' → W'.cell? ⟨Bs, 0, none⟩ = some (.slice (some ⟨b, off, none⟩) len cap) ∧ W'.rangeAt b off (bv L.flatten)) (hK0 : Kp W W) (h0 : J [] W) :
    CallsIn Fence.wide 2 Tryd.prog 60 #[.func (.yield l) #[] #[], .pointer (some ⟨Bs, 0, none⟩)] W fun e W' => (∃ v, e = .returned v) ∧
      ((∃ ys, ys = downs len ∧ J ys W') ∨ (∃ pre, (∃ k, k ≤ len ∧ pre = (downs len).take k) ∧ Jx pre W')) := by
  refine callsIn_of_wp Tryd.func60 rfl trivial ?_ rfl
  simp only [Tryd.ntmps60, List.size_toArray, List.length_cons, List.length_nil, Nat.reduceAdd, Nat.reduceSub, Array.replicate_succ, Array.replicate_zero, List.push_toArray, List.append_toArray, List.nil_append, List.cons_append]
  have hBs := (hc W hK0).1
  gi_wp2
  gi_loopw [3] (fun i wr => ∃ j : Nat, j ≤ len ∧ i = .int .i64 ((j : Int) - 1) ∧ J ((downs len).take (len - j)) wr ∧ Kp W wr) (fun i _ => (intOf i + 1).toNat)
  case atStart => exact ⟨len, Nat.le_refl _, rfl, by rw [Nat.sub_self]; exact h0, hK0⟩
  case round =>
    obtain ⟨j, hj, rfl, hJs, hnx⟩ := hrel
    rcases j with _ | q
    · rw [show ((0 : Nat) : Int) - 1 = -1 from rfl]
      gi_wp2
      go_end0
      exact ⟨⟨_, rfl⟩, .inl ⟨_, rfl, by rw [Nat.sub_zero, List.take_of_length_le (by rw [downs_length]; omega)] at hJs; exact hJs⟩⟩
    · have eq1 : ((q + 1 : Nat) : Int) - 1 = (q : Int) := by omega
      rw [eq1]
      have hcell := (hc wr hnx).1
      have hr : wr.rangeAt b (off + q * 32) (bv (L.getD q [])) := by
        obtain ⟨g', o', e1, _, e2⟩ := Hs.at_ (w := wr) (B := b + 1) (A := some ⟨b, off, none⟩) (L := L) ⟨hL, .inr ⟨b, off, rfl, by omega, (hc wr hnx).2⟩⟩ (k := q) (by omega)
        injection e1 with e1
        injection e1 with e3 e4
        subst e3
        subst e4
        exact e2
      have hx32 := hL.getD (k := q) (by omega)
      have hq0 : (q : Int) < (len : Int) := by omega
      have hq1 : q < len := by omega
      have hq2 : (q : Int) ≤ 9223372036854775807 := by omega
      obtain ⟨fn, tmps, assign, body, hy, hR⟩ := hY _ ⟨q, hq1⟩ wr hJs (by rw [List.length_take, downs_length]; omega)
      dsimp only [encH] at hy
      have hT := downs_take len (len - (q + 1)) (by omega)
      have eT : len - (q + 1) + 1 = len - q := by omega
      have eI : (⟨len - 1 - (len - (q + 1)), by omega⟩ : {i : Nat // i < len}) = ⟨q, hq1⟩ := Subtype.ext (by show len - 1 - (len - (q + 1)) = q; omega)
      rw [eT, eI] at hT
      have HT := Lib.hid hT
      have HX := Lib.hid hx32
      clear hT eT eI eq1 hx32
      generalize L.getD q [] = x at *
      gi_wp2_with (refine lin_load_mid (Wide.wide _ _) rfl 26 (.tmp 15) rfl b (off + q * 32) rfl (bv x) _ hr Tryd.underlying26 rfl (isz26s HX.out) ?_)
      refine hR.mono ?_
      rintro e W3 (⟨rfl, hJ3, hk3⟩ | ⟨rfl, hJx3⟩)
      · gi_wp2
        go_roundw
        case rel => exact ⟨q, by omega, rfl, by rw [HT.out]; exact hJ3, hKt hnx hk3⟩
        case measure => simp [intOf]
      · gi_wp2
        refine bodyPost_ret (results_none rfl _ _ _) rfl ?_
        exact ⟨⟨_, rfl⟩, .inr ⟨_, ⟨len - q, by omega, HT.out.symm⟩, hJx3⟩⟩
set_option maxRecDepth 100000 in
set_option maxHeartbeats 1000000 in
theorem back1_nil_H (l Bs len : Nat) (A : Option Addr) (cap : Nat) (h00 : len = 0) (J : List {i : Nat // i < len} → World → Prop) (W : World) (hBs : W.cell? ⟨Bs, 0, none⟩ = some (.slice A len cap)) (h0 : J [] W) :
    CallsIn Fence.wide 2 Tryd.prog 60 #[.func (.yield l) #[] #[], .pointer (some ⟨Bs, 0, none⟩)] W fun e W' => (∃ v, e = .returned v) ∧ J [] W' := by
  subst h00
  refine callsIn_of_wp Tryd.func60 rfl trivial ?_ rfl
  simp only [Tryd.ntmps60, List.size_toArray, List.length_cons, List.length_nil, Nat.reduceAdd, Nat.reduceSub, Array.replicate_succ, Array.replicate_zero, List.push_toArray, List.append_toArray, List.nil_append, List.cons_append]
  gi_wp2
  gi_loopw [3] (fun i wr => i = .int .i64 (-1) ∧ J [] wr) (fun _ _ => 0)
  case atStart => exact ⟨rfl, h0⟩
  case round =>
    obtain ⟨rfl, hJs⟩ := hrel
    gi_wp2
    go_end0
    exact ⟨⟨_, rfl⟩, hJs⟩
theorem back_H (a : Option Addr) (len cap : Nat) (w : World) :
    Calls Tryd.prog 51 #[.slice a len cap] w fun e w' => e = .returned (.func (.func 60) #[] #[.pointer (some ⟨w.heap.size, 0, none⟩)]) ∧ w' = w.alloc (.cells #[.slice a len cap] 23) := by
  have hmf : ∀ (fn : Fn) (first cap : Array Value) (w : World), (Instr.makeFunc fn first cap).run Tryd.prog w = .ok (.func fn first cap) w := fun _ _ _ _ => rfl
  go_enter Tryd.func51, Tryd.ntmps51
  go_wp2_with fail
  go_ret
  exact ⟨rfl, rfl⟩
theorem back_stops_H (Bs n₀ N len cap : Nat) (p : Nat → Prop) (A : Option Addr) (L : List (List UInt8)) (hlen : L.length = len) (hreach : len ≤ 100000) (w : World) (hBs : Bs < n₀) (hp : ¬ p Bs) (hn₀ : n₀ ≤ w.heap.size) (hN : N ≤ n₀) (hpN : ∀ i, i < N → ¬ p i)
    (hc : w.cell? ⟨Bs, 0, none⟩ = some (.slice A len cap)) (hI : Hs w N A L) :
    SeqStopsK Fence.wide 2 Tryd.prog 60 #[.pointer (some ⟨Bs, 0, none⟩)] (encH L len) (Kq n₀ p) (fun ys => ys = downs len) (fun pre => ∃ k, k ≤ len ∧ pre = (downs len).take k) len w := fun l J Jx W hW _ _ hY h0 => by
  have hc' := (hW.cell (p := ⟨Bs, 0, none⟩) (by show Bs < w.heap.size; omega)).trans hc
  have hI' := hI.below (hW.mono (by omega))
  rcases Nat.eq_zero_or_pos len with h00 | h1
  · exact (back1_nil_H l Bs len A cap h00 J W hc' h0).mono fun e W' ⟨he, hj⟩ => ⟨he, .inl ⟨[], by subst h00; rfl, hj⟩⟩
  · obtain ⟨b, off, rfl, hb, _⟩ := hI'.at_ (k := 0) (by omega)
    rcases hI'.2 with rfl | ⟨b', off', e1, hb', hr⟩
    · simp at hlen; omega
    · injection e1 with e1
      injection e1 with e3 e4
      subst e3
      subst e4
      exact back1_H l Bs b off len cap L hI.1 hlen hreach (Kq n₀ p) Kq.trans J Jx hY W (fun W' hk => ⟨(hk.cell hBs hp).trans hc', hk.range hr (by omega) (hpN b hb')⟩) (Kq.refl W) h0
end Go.Proofs.YtgjepkcdacgieaaDoor
