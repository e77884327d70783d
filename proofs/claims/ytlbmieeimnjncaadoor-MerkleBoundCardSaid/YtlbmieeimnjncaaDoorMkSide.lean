/- The way down as a run from the top: plain functions, their laws. Conditions: none. -/
import Derived.Test.YtlbmieeimnjncaaDoorMkMath
import Derived.Test.YtlbmieeimnjncaaDoorMkIn
import Derived.Shelf.Abstract
import Derived.Shelf.RegionOpen
import Derived.WalkKit
namespace Go.Proofs.YtlbmieeimnjncaaDoor
set_option maxRecDepth 100000
/-- where the way goes on, and the side beside it. -/
def step1 (st : Nat × Nat × List (List UInt8 × Bool)) (s : List UInt8) : Nat × Nat × List (List UInt8 × Bool) :=
  if spl st.1 < st.2.1 then (st.1 - spl st.1, st.2.1 - spl st.1, st.2.2 ++ [(s, true)]) else (spl st.1, st.2.1, st.2.2 ++ [(s, false)])
def runs (st : Nat × Nat × List (List UInt8 × Bool)) (R : List (List UInt8)) : Nat × Nat × List (List UInt8 × Bool) := R.foldl step1 st
theorem runs_snoc (st : Nat × Nat × List (List UInt8 × Bool)) (R : List (List UInt8)) (s : List UInt8) : runs st (R ++ [s]) = step1 (runs st R) s := by simp [runs]
/-- no end on the way so far. -/
def noEnd (fin : Nat → Nat → Bool) (st : Nat × Nat × List (List UInt8 × Bool)) (R : List (List UInt8)) : Prop := ∀ k, k < R.length → fin (runs st (R.take k)).1 (runs st (R.take k)).2.1 = false
theorem noEnd_nil (fin : Nat → Nat → Bool) (st : Nat × Nat × List (List UInt8 × Bool)) : noEnd fin st [] := fun k h => by simp at h
theorem noEnd_snoc {fin : Nat → Nat → Bool} {st : Nat × Nat × List (List UInt8 × Bool)} {R : List (List UInt8)} {s : List UInt8} (h : noEnd fin st R) (h' : fin (runs st R).1 (runs st R).2.1 = false) : noEnd fin st (R ++ [s]) := fun k hk => by
  rw [List.length_append, List.length_singleton] at hk
  rcases Nat.lt_or_ge k R.length with hlt | hge
  · rw [List.take_append_of_le_length (by omega)]
    exact h k hlt
  · obtain rfl : k = R.length := by omega
    rw [List.take_left' rfl]
    exact h'
theorem noEnd_tail {fin : Nat → Nat → Bool} {st : Nat × Nat × List (List UInt8 × Bool)} {R : List (List UInt8)} {s : List UInt8} (h : noEnd fin st (s :: R)) : fin st.1 st.2.1 = false ∧ noEnd fin (step1 st s) R :=
  ⟨h 0 (by simp), fun k hk => h (k + 1) (by simp; omega)⟩
theorem apart_runs (fin : Nat → Nat → Bool) : ∀ (pre rest : List (List UInt8)) (st : Nat × Nat × List (List UInt8 × Bool)), noEnd fin st pre →
    st.2.2 ++ (apartR fin st.1 st.2.1 (pre ++ rest)).1 = (runs st pre).2.2 ++ (apartR fin (runs st pre).1 (runs st pre).2.1 rest).1 ∧
    (apartR fin st.1 st.2.1 (pre ++ rest)).2 = (apartR fin (runs st pre).1 (runs st pre).2.1 rest).2
  | [], rest, st, _ => ⟨rfl, rfl⟩
  | s :: pre, rest, st, h => by
    obtain ⟨h1, h2⟩ := noEnd_tail h
    obtain ⟨i1, i2⟩ := apart_runs fin pre rest (step1 st s) h2
    have e : runs st (s :: pre) = runs (step1 st s) pre := rfl
    rw [e, List.cons_append]
    by_cases hs : spl st.1 < st.2.1
    · rw [apartR_left h1 hs]
      rw [show step1 st s = (st.1 - spl st.1, st.2.1 - spl st.1, st.2.2 ++ [(s, true)]) by unfold step1; rw [if_pos hs]] at i1 i2 ⊢
      refine ⟨?_, i2⟩
      rw [← i1]
      simp
    · rw [apartR_right h1 (by omega)]
      rw [show step1 st s = (spl st.1, st.2.1, st.2.2 ++ [(s, false)]) by unfold step1; rw [if_neg hs]] at i1 i2 ⊢
      refine ⟨?_, i2⟩
      rw [← i1]
      simp
theorem runs_in (fin : Nat → Nat → Bool) (h1 : ∀ n m, 1 ≤ m → m ≤ n → fin n m = false → 2 ≤ n) : ∀ (R : List (List UInt8)) (st : Nat × Nat × List (List UInt8 × Bool)), 1 ≤ st.2.1 → st.2.1 ≤ st.1 → noEnd fin st R →
    1 ≤ (runs st R).2.1 ∧ (runs st R).2.1 ≤ (runs st R).1 ∧ (runs st R).1 ≤ st.1
  | [], st, a, b, _ => ⟨a, b, Nat.le_refl _⟩
  | s :: R, st, a, b, h => by
    obtain ⟨e1, e2⟩ := noEnd_tail h
    have h2 := h1 _ _ a b e1
    have h3 := spl_lt h2
    have h4 := spl_pos st.1
    have e : runs st (s :: R) = runs (step1 st s) R := rfl
    rw [e]
    by_cases hs : spl st.1 < st.2.1
    · have es : step1 st s = (st.1 - spl st.1, st.2.1 - spl st.1, st.2.2 ++ [(s, true)]) := by unfold step1; rw [if_pos hs]
      obtain ⟨i1, i2, i3⟩ := runs_in fin h1 R (step1 st s) (by rw [es]; show 1 ≤ st.2.1 - spl st.1; omega) (by rw [es]; show st.2.1 - spl st.1 ≤ st.1 - spl st.1; omega) e2
      refine ⟨i1, i2, Nat.le_trans i3 ?_⟩
      rw [es]
      show st.1 - spl st.1 ≤ st.1
      omega
    · have es : step1 st s = (spl st.1, st.2.1, st.2.2 ++ [(s, false)]) := by unfold step1; rw [if_neg hs]
      obtain ⟨i1, i2, i3⟩ := runs_in fin h1 R (step1 st s) (by rw [es]; exact a) (by rw [es]; show st.2.1 ≤ spl st.1; omega) e2
      refine ⟨i1, i2, Nat.le_trans i3 ?_⟩
      rw [es]
      show spl st.1 ≤ st.1
      omega
theorem runs_sides (R : List (List UInt8)) : ∀ (st : Nat × Nat × List (List UInt8 × Bool)), (runs st R).2.2.length = st.2.2.length + R.length ∧ ((∀ x ∈ st.2.2, x.1.length = 32) → Sms R → ∀ x ∈ (runs st R).2.2, x.1.length = 32) := by
  induction R with
  | nil => intro st; exact ⟨rfl, fun h _ => h⟩
  | cons s R ih =>
    intro st
    have e : runs st (s :: R) = runs (step1 st s) R := rfl
    rw [e]
    obtain ⟨i1, i2⟩ := ih (step1 st s)
    have hs : (step1 st s).2.2 = st.2.2 ++ [(s, true)] ∨ (step1 st s).2.2 = st.2.2 ++ [(s, false)] := by
      unfold step1
      split
      · exact .inl rfl
      · exact .inr rfl
    refine ⟨by rw [i1, List.length_cons]; rcases hs with h | h <;> rw [h] <;> simp <;> omega, fun h1 h2 => i2 (fun x hx => ?_) (fun x hx => h2 x (by simp [hx]))⟩
    rcases hs with h | h <;> rw [h, List.mem_append, List.mem_singleton] at hx <;> rcases hx with hx | rfl
    · exact h1 x hx
    · exact h2 s (by simp)
    · exact h1 x hx
    · exact h2 s (by simp)
end Go.Proofs.YtlbmieeimnjncaaDoor
/- slices.Backward over sums. Conditions: as stated at each. -/
namespace Go.Proofs.YtlbmieeimnjncaaDoor
set_option maxRecDepth 100000
open Go.RowKit Go.Shelf Go
attribute [local go_sem] Oper.semAt_some
theorem lin_load_mid {F : Fence} {n : Nat} {P : Program} {ops : Array Oper} {Q : Exit → Act → World → Prop} (hF : Wide F (n - 1) P) {o : Oper} {rest : List Oper} {a : Act} {w : World} (hgd : o.guard = none) (ty : TypeId) (x : Operand) (ho : o.op = .load ty x)
    (b off : Nat) (hx : a.eval x = .pointer (some ⟨b, off, none⟩)) (cs : List Value) (d : TypeDesc) (hc : w.rangeAt b off cs)
    (hu : P.underlying ty = some d) (hd : d.isRow = true) (hi : (P.info? ty).map (·.size) = some cs.length)
    (h : wpListIn F n P ops Q rest (a.put o.dst (.agg cs.toArray)) w) : wpListIn F n P ops Q (o :: rest) a w :=
  lin_wp hF hgd (fun c hc => by (rw [ho] at hc; cases hc)) fun _ hK => wp_load_mid ty x ho b off hx cs d hc hu hd hi (hK _ _ h)
theorem lin_store {F : Fence} {n : Nat} {P : Program} {ops : Array Oper} {Q : Exit → Act → World → Prop} (hF : Wide F (n - 1) P) {o : Oper} {rest : List Oper} {a : Act} {w : World} (x y : Operand) (ty : TypeId) (g : Nat) (t : TypeId) (old cells : Array Value) (hg : BlkIs w g t old)
    (ho : o.op = .store ty x y) (hx : a.eval x = .pointer (some ⟨g, 0, none⟩)) (hy : a.eval y = .agg cells) (hgd : o.guard = none) (hdst : o.dst = none)
    (hi : (P.info? ty).map (·.size) = some cells.size) (hold : old.size = cells.size) (h1 : cells.all (·.oneCell') = true)
    (h : ∀ w', BlkIs w' g t cells → Tn (fun i => i = g) w w' → wpListIn F n P ops Q rest a w') : wpListIn F n P ops Q (o :: rest) a w :=
  lin_wp hF hgd (fun c hc => by (rw [ho] at hc; cases hc)) fun K hK => by
    have hput : a.put o.dst undef = a := by rw [hdst]; rfl
    refine wp_store_row ty x y ho g cells hx hy t old hg hi hold h1 ?_
    rw [hput]
    exact hK _ _ (h _ (tn_row hg cells).1 (tn_row hg cells).2)
/-- the indices from the last one down. -/
def downs (len : Nat) : List {i : Nat // i < len} := ((List.finRange len).map fun i => ⟨i.1, i.2⟩).reverse
theorem downs_val (len : Nat) : (downs len).map Subtype.val = (List.range len).reverse := by
  simp only [downs, List.map_reverse, List.map_map]
  congr 1
  apply List.ext_getElem
  · simp
  · intro i h1 h2
    simp
theorem downs_take (len k : Nat) (h : k < len) : (downs len).take (k + 1) = (downs len).take k ++ [⟨len - 1 - k, by omega⟩] := by
  rw [List.take_succ_eq_append_getElem (by simp [downs]; omega)]
  congr 2
  apply Subtype.ext
  have e : ((downs len).map Subtype.val)[k]? = some (len - 1 - k) := by
    rw [downs_val]
    simp [h]
  rw [List.getElem?_map, List.getElem?_eq_getElem (by simp [downs]; omega)] at e
  simpa using e
theorem downs_length (len : Nat) : (downs len).length = len := by simp [downs]
/-- what the iterator hands out. -/
def encH (L : List (List UInt8)) (len : Nat) (x : {i : Nat // i < len}) : Array Value := #[.int .i64 (x.1 : Int), .agg (bv (L.getD x.1 [])).toArray]
/-- what a round keeps: below n0 all but the blocks of p. -/
def Kq (n0 : Nat) (p : Nat → Prop) (W W' : World) : Prop := W.heap.size ≤ W'.heap.size ∧ ∀ i, i < n0 → ¬ p i → W'.heap[i]? = W.heap[i]?
theorem Kq.refl {n0 : Nat} {p : Nat → Prop} (A : World) : Kq n0 p A A := ⟨Nat.le_refl _, fun _ _ _ => rfl⟩
theorem Kq.trans {n0 : Nat} {p : Nat → Prop} {A B C : World} (h : Kq n0 p A B) (k : Kq n0 p B C) : Kq n0 p A C :=
  ⟨Nat.le_trans h.1 k.1, fun i hi hp => (k.2 i hi hp).trans (h.2 i hi hp)⟩
theorem Kq.book {n0 : Nat} {p : Nat → Prop} {w : World} (hn : n0 ≤ w.heap.size) (W : World) (l : Nat) (o o' : Obj) (hl : w.heap.size ≤ l) (_ : W.heap[l]? = some o) (_ : o.isCells = false) (_ : o.isWalk = false) : Kq n0 p W (W.putObj l o') :=
  ⟨by simp, fun i hi _ => World.putObj_heap_other (by omega)⟩
theorem Kq.of_tn {n0 : Nat} {p : Nat → Prop} {W W' : World} (h : Tn p W W') (hn : n0 ≤ W.heap.size) : Kq n0 p W W' := ⟨h.size, fun i hi hp => h.block i (by omega) hp⟩
theorem Kq.cell {n0 : Nat} {p : Nat → Prop} {W W' : World} (h : Kq n0 p W W') {b o : Nat} (hb : b < n0) (hp : ¬ p b) : W'.cell? ⟨b, o, none⟩ = W.cell? ⟨b, o, none⟩ := by
  simp [World.cell?, h.2 b hb hp]
theorem Kq.range {n0 : Nat} {p : Nat → Prop} {W W' : World} (h : Kq n0 p W W') {b o : Nat} {cs : List Value} (hr : W.rangeAt b o cs) (hb : b < n0) (hp : ¬ p b) : W'.rangeAt b o cs := fun j v hj => (h.cell hb hp).trans (hr j v hj)
theorem keeps_of_tn {n0 : Nat} {p : Nat → Prop} {X X' : World} (h : Tn p X X') (hp : ∀ i, p i → i < n0) : KeepsFrom n0 X X' :=
  ⟨h.size, fun k o hB hk _ => by rw [h.block k (Array.getElem?_eq_some_iff.1 hk).1 (fun hpk => by have := hp k hpk; omega)]; exact hk⟩
set_option maxRecDepth 100000 in
set_option maxHeartbeats 2000000 in
theorem back1_H (l Bs b off len cap : Nat) (L : List (List UInt8)) (hL : Sms L) (hlen : L.length = len) (hreach : len ≤ 100000) (Kp : World → World → Prop) (hKt : ∀ {A B C : World}, Kp A B → Kp B C → Kp A C) (J Jx : List {i : Nat // i < len} → World → Prop)
    (hY : ∀ pre x W, J pre W → pre.length < len → YieldAt Fence.wide (2 - 1) Tryd.prog l (encH L len x) W fun e W' =>
      (e = .returned (.bool true) ∧ J (pre ++ [x]) W' ∧ Kp W W') ∨ (e = .returned (.bool false) ∧ Jx (pre ++ [x]) W'))
    (W : World) (hc : ∀ W', Kp W W' → W'.cell? ⟨Bs, 0, none⟩ = some (.slice (some ⟨b, off, none⟩) len cap) ∧ W'.rangeAt b off (bv L.flatten)) (hK0 : Kp W W) (h0 : J [] W) :
    CallsIn Fence.wide 2 Tryd.prog 29 #[.func (.yield l) #[] #[], .pointer (some ⟨Bs, 0, none⟩)] W fun e W' => (∃ v, e = .returned v) ∧
      ((∃ ys, ys = downs len ∧ J ys W') ∨ (∃ pre, (∃ k, k ≤ len ∧ pre = (downs len).take k) ∧ Jx pre W')) := by
  refine callsIn_of_wp Tryd.func29 rfl trivial ?_ rfl
  simp only [Tryd.ntmps29, List.size_toArray, List.length_cons, List.length_nil, Nat.reduceAdd, Nat.reduceSub, Array.replicate_succ, Array.replicate_zero, List.push_toArray, List.append_toArray, List.nil_append, List.cons_append]
  have hBs := (hc W hK0).1
  gi_wp2
  gi_loopw [3] (fun i wr => ∃ j : Nat, j ≤ len ∧ i = .int .i64 ((j : Int) - 1) ∧ J ((downs len).take (len - j)) wr ∧ Kp W wr) (fun i _ => (intOf i + 1).toNat)
  case atStart => exact ⟨len, Nat.le_refl _, rfl, by rw [Nat.sub_self]; exact h0, hK0⟩
  case round =>
    obtain ⟨j, hj, rfl, hJs, hnx⟩ := hrel
    rcases j with _ | q
    · rw [show ((0 : Nat) : Int) - 1 = -1 from rfl]
      gi_wp2
      go_end0
      exact ⟨⟨_, rfl⟩, .inl ⟨_, rfl, by rw [Nat.sub_zero, List.take_of_length_le (by rw [downs_length]; omega)] at hJs; exact hJs⟩⟩
    · have eq1 : ((q + 1 : Nat) : Int) - 1 = (q : Int) := by omega
      rw [eq1]
      have hcell := (hc wr hnx).1
      have hr : wr.rangeAt b (off + q * 32) (bv (L.getD q [])) := by
        obtain ⟨g', o', e1, _, e2⟩ := Hs.at_ (w := wr) (B := b + 1) (A := some ⟨b, off, none⟩) (L := L) ⟨hL, .inr ⟨b, off, rfl, by omega, (hc wr hnx).2⟩⟩ (k := q) (by omega)
        injection e1 with e1
        injection e1 with e3 e4
        subst e3
        subst e4
        exact e2
      have hx32 := hL.getD (k := q) (by omega)
      have hq0 : (q : Int) < (len : Int) := by omega
      have hq1 : q < len := by omega
      have hq2 : (q : Int) ≤ 9223372036854775807 := by omega
      obtain ⟨fn, tmps, assign, body, hy, hR⟩ := hY _ ⟨q, hq1⟩ wr hJs (by rw [List.length_take, downs_length]; omega)
      dsimp only [encH] at hy
      have hT := downs_take len (len - (q + 1)) (by omega)
      have eT : len - (q + 1) + 1 = len - q := by omega
      have eI : (⟨len - 1 - (len - (q + 1)), by omega⟩ : {i : Nat // i < len}) = ⟨q, hq1⟩ := Subtype.ext (by show len - 1 - (len - (q + 1)) = q; omega)
      rw [eT, eI] at hT
      have HT := Lib.hid hT
      have HX := Lib.hid hx32
      clear hT eT eI eq1 hx32
      generalize L.getD q [] = x at *
      gi_wp2_with (refine lin_load_mid (Wide.wide _ _) rfl 22 (.tmp 15) rfl b (off + q * 32) rfl (bv x) _ hr Tryd.underlying22 rfl (isz26s HX.out) ?_)
      refine hR.mono ?_
      rintro e W3 (⟨rfl, hJ3, hk3⟩ | ⟨rfl, hJx3⟩)
      · gi_wp2
        go_roundw
        case rel => exact ⟨q, by omega, rfl, by rw [HT.out]; exact hJ3, hKt hnx hk3⟩
        case measure => simp [intOf]
      · gi_wp2
        refine bodyPost_ret (results_none rfl _ _ _) rfl ?_
        exact ⟨⟨_, rfl⟩, .inr ⟨_, ⟨len - q, by omega, HT.out.symm⟩, hJx3⟩⟩
set_option maxRecDepth 100000 in
set_option maxHeartbeats 1000000 in
theorem back1_nil_H (l Bs len : Nat) (A : Option Addr) (cap : Nat) (h00 : len = 0) (J : List {i : Nat // i < len} → World → Prop) (W : World) (hBs : W.cell? ⟨Bs, 0, none⟩ = some (.slice A len cap)) (h0 : J [] W) :
    CallsIn Fence.wide 2 Tryd.prog 29 #[.func (.yield l) #[] #[], .pointer (some ⟨Bs, 0, none⟩)] W fun e W' => (∃ v, e = .returned v) ∧ J [] W' := by
  subst h00
  refine callsIn_of_wp Tryd.func29 rfl trivial ?_ rfl
  simp only [Tryd.ntmps29, List.size_toArray, List.length_cons, List.length_nil, Nat.reduceAdd, Nat.reduceSub, Array.replicate_succ, Array.replicate_zero, List.push_toArray, List.append_toArray, List.nil_append, List.cons_append]
  gi_wp2
  gi_loopw [3] (fun i wr => i = .int .i64 (-1) ∧ J [] wr) (fun _ _ => 0)
  case atStart => exact ⟨rfl, h0⟩
  case round =>
    obtain ⟨rfl, hJs⟩ := hrel
    gi_wp2
    go_end0
    exact ⟨⟨_, rfl⟩, hJs⟩
theorem back_H (a : Option Addr) (len cap : Nat) (w : World) :
    Calls Tryd.prog 22 #[.slice a len cap] w fun e w' => e = .returned (.func (.func 29) #[] #[.pointer (some ⟨w.heap.size, 0, none⟩)]) ∧ w' = w.alloc (.cells #[.slice a len cap] 23) := by
  have hmf : ∀ (fn : Fn) (first cap : Array Value) (w : World), (Instr.makeFunc fn first cap).run Tryd.prog w = .ok (.func fn first cap) w := fun _ _ _ _ => rfl
  go_enter Tryd.func22, Tryd.ntmps22
  go_wp2_with fail
  go_ret
  exact ⟨rfl, rfl⟩
theorem back_stops_H (Bs n₀ N len cap : Nat) (p : Nat → Prop) (A : Option Addr) (L : List (List UInt8)) (hlen : L.length = len) (hreach : len ≤ 100000) (w : World) (hBs : Bs < n₀) (hp : ¬ p Bs) (hn₀ : n₀ ≤ w.heap.size) (hN : N ≤ n₀) (hpN : ∀ i, i < N → ¬ p i)
    (hc : w.cell? ⟨Bs, 0, none⟩ = some (.slice A len cap)) (hI : Hs w N A L) :
    SeqStopsK Fence.wide 2 Tryd.prog 29 #[.pointer (some ⟨Bs, 0, none⟩)] (encH L len) (Kq n₀ p) (fun ys => ys = downs len) (fun pre => ∃ k, k ≤ len ∧ pre = (downs len).take k) len w := fun l J Jx W hW _ _ hY h0 => by
  have hc' := (hW.cell (p := ⟨Bs, 0, none⟩) (by show Bs < w.heap.size; omega)).trans hc
  have hI' := hI.below (hW.mono (by omega))
  rcases Nat.eq_zero_or_pos len with h00 | h1
  · exact (back1_nil_H l Bs len A cap h00 J W hc' h0).mono fun e W' ⟨he, hj⟩ => ⟨he, .inl ⟨[], by subst h00; rfl, hj⟩⟩
  · obtain ⟨b, off, rfl, hb, _⟩ := hI'.at_ (k := 0) (by omega)
    rcases hI'.2 with rfl | ⟨b', off', e1, hb', hr⟩
    · simp at hlen; omega
    · injection e1 with e1
      injection e1 with e3 e4
      subst e3
      subst e4
      exact back1_H l Bs b off len cap L hI.1 hlen hreach (Kq n₀ p) Kq.trans J Jx hY W (fun W' hk => ⟨(hk.cell hBs hp).trans hc', hk.range hr (by omega) (hpN b hb')⟩) (Kq.refl W) h0
end Go.Proofs.YtlbmieeimnjncaaDoor
/- Lists of sides in memory: laid, appended, gone over backwards. Conditions: as stated at each. -/
namespace Go.Proofs.YtlbmieeimnjncaaDoor
set_option maxRecDepth 100000
open Go.RowKit Go.Shelf Go
/-- a side's cells. -/
def sv (s : List UInt8 × Bool) : List Value := bv s.1 ++ [.bool s.2]
def svs (L : List (List UInt8 × Bool)) : List Value := L.flatMap sv
def Sds (L : List (List UInt8 × Bool)) : Prop := ∀ x ∈ L, x.1.length = 32
theorem Sds.nil : Sds [] := fun _ h => by cases h
theorem Sds.one {s : List UInt8} {b : Bool} (h : s.length = 32) : Sds [(s, b)] := fun y hy => by
  rw [List.mem_singleton] at hy
  rw [hy]
  exact h
theorem Sds.append {l m : List (List UInt8 × Bool)} (h : Sds l) (h' : Sds m) : Sds (l ++ m) := fun x hx => by
  rw [List.mem_append] at hx
  exact hx.elim (h x) (h' x)
theorem sv_length {s : List UInt8 × Bool} (h : s.1.length = 32) : (sv s).length = 33 := by simp [sv, bv_length, h]
theorem sv_one (s : List UInt8 × Bool) : ∀ u ∈ sv s, u.oneCell' = true := by
  intro u hu
  rw [sv, List.mem_append, List.mem_singleton] at hu
  rcases hu with hu | rfl
  · exact bv_one _ u hu
  · rfl
theorem sv_all (s : List UInt8 × Bool) : (sv s).toArray.all (·.oneCell') = true := Array.all_eq_true_iff_forall_mem.2 fun u hu => sv_one s u (by simpa using hu)
theorem svs_length : ∀ {L : List (List UInt8 × Bool)}, Sds L → (svs L).length = 33 * L.length
  | [], _ => rfl
  | x :: L, h => by
    rw [svs, List.flatMap_cons, List.length_append, sv_length (h x (by simp)), List.length_cons]
    have := svs_length (L := L) (fun y hy => h y (by simp [hy]))
    rw [svs] at this
    omega
theorem svs_append (a b : List (List UInt8 × Bool)) : svs (a ++ b) = svs a ++ svs b := by simp [svs]
theorem svs_single (s : List UInt8 × Bool) : svs [s] = sv s := by simp [svs]
theorem info56 : (Tryd.prog.info? 46).map (fun i => (i.zero, i.size, i.bytes)) = some (some (.agg (sv (List.replicate 32 0, false)).toArray), 33, 33) := by kernel_rfl
theorem isz56s {s : List UInt8 × Bool} (h : s.1.length = 32) : (Tryd.prog.info? 46).map (·.size) = some (sv s).length := by rw [sv_length h]; kernel_rfl
theorem isz56a {s : List UInt8 × Bool} (h : s.1.length = 32) : (Tryd.prog.info? 46).map (·.size) = some (sv s).toArray.size := by rw [List.size_toArray]; exact isz56s h
theorem fill_one (z : Nat) (X cs : Array Value) (hX : X.size = z) (h : cs.size = z) : Instr.fill (fun i => some (i * z, z)) cs [(0, .agg X)] = some X := by
  show (if (decide (¬ X.size = z) || decide (0 * z + X.size > cs.size)) = true then none else some (X.zipIdx.foldl (fun (cs : Array Value) (p : Value × Nat) => cs.setIfInBounds (0 * z + p.2) p.1) cs)) = _
  rw [if_neg (by simp [hX, h])]
  congr 1
  apply Array.toList_inj.1
  rw [set_all (0 * z) X cs (by omega)]
  simp [hX, ← h]
theorem run_buildD1 {s : List UInt8 × Bool} (hs : s.1.length = 32) (w : World) : (Instr.buildSlice 39 1 #[(0, .agg (sv s).toArray)]).run Tryd.prog w = .ok (.slice (some ⟨w.heap.size, 0, none⟩) 1 1) (w.alloc (.cells (sv s).toArray 46)) := by
  obtain ⟨i, hi, hz, h0, h2⟩ := info_parts info56
  have key : ∀ cs : Array Value, cs.size = 33 → Instr.fill (fun i => some (i * 33, 33)) cs [(0, Value.agg (sv s).toArray)] = some (sv s).toArray := fun cs hcs => fill_one 33 _ cs (by rw [List.size_toArray, sv_length hs]) hcs
  simp [Instr.buildSlice, Sem.run_bind, run_underlying Tryd.underlying39, sizeOf, typeInfo, hi, h0, zeroValue, hz, Value.cells]
  rw [key _ (by simp)]
  simp [newRow]
theorem run_build56_ (a0 a1 a2 a3 a4 a5 a6 a7 a8 a9 a10 a11 a12 a13 a14 a15 a16 a17 a18 a19 a20 a21 a22 a23 a24 a25 a26 a27 a28 a29 a30 a31 : UInt8) (b : Bool) (w : World) : (Instr.build 46 #[(0, .agg (bv [a0, a1, a2, a3, a4, a5, a6, a7, a8, a9, a10, a11, a12, a13, a14, a15, a16, a17, a18, a19, a20, a21, a22, a23, a24, a25, a26, a27, a28, a29, a30, a31]).toArray), (1, .bool b)]).run Tryd.prog w = .ok (.agg (sv ([a0, a1, a2, a3, a4, a5, a6, a7, a8, a9, a10, a11, a12, a13, a14, a15, a16, a17, a18, a19, a20, a21, a22, a23, a24, a25, a26, a27, a28, a29, a30, a31], b)).toArray) w := by kernel_rfl
theorem run_build56 {s : List UInt8} (b : Bool) (hs : s.length = 32) (w : World) : (Instr.build 46 #[(0, .agg (bv s).toArray), (1, .bool b)]).run Tryd.prog w = .ok (.agg (sv (s, b)).toArray) w := by
  match s, hs with
  | [a0, a1, a2, a3, a4, a5, a6, a7, a8, a9, a10, a11, a12, a13, a14, a15, a16, a17, a18, a19, a20, a21, a22, a23, a24, a25, a26, a27, a28, a29, a30, a31], _ => exact run_build56_ a0 a1 a2 a3 a4 a5 a6 a7 a8 a9 a10 a11 a12 a13 a14 a15 a16 a17 a18 a19 a20 a21 a22 a23 a24 a25 a26 a27 a28 a29 a30 a31 b w
/-- a row of sides of the call's own. -/
def OwnD (w : World) (N : Nat) (v : Value) (L : List (List UInt8 × Bool)) : Prop := Sds L ∧ w.ownsRow N 46 33 v L.length (svs L)
theorem OwnD.nil (w : World) (N : Nat) : OwnD w N (.slice none 0 0) [] := ⟨Sds.nil, World.ownsRow_nil w N 46 33⟩
theorem OwnD.kept {w w' : World} {N B : Nat} {v : Value} {L : List (List UInt8 × Bool)} (h : OwnD w N v L) (hb : Below B w w') (hB : w.heap.size ≤ B) : OwnD w' N v L := ⟨h.1, ownsRow_kept h.2 hb hB⟩
theorem OwnD.more {w : World} {N M : Nat} {v : Value} {L : List (List UInt8 × Bool)} (h : OwnD w N v L) (hM : M ≤ N) : OwnD w M v L := ⟨h.1, ownsRow_more h.2 hM⟩
theorem OwnD.low {w : World} {N : Nat} {v : Value} {L : List (List UInt8 × Bool)} (h : OwnD w N v L) : ∀ k, v.ownBlock = some k → N ≤ k := fun k hk => (h.2.lt k hk).1
theorem OwnD.slice {w : World} {N : Nat} {v : Value} {L : List (List UInt8 × Bool)} (h : OwnD w N v L) : ∃ A c, v = .slice A L.length c ∧ L.length ≤ c ∧ c ≤ maxLen := by
  rcases h.2.2 with ⟨rfl, h0⟩ | ⟨g, cap, cur, rfl, _, _, h1, h2, _⟩
  · exact ⟨none, 0, by rw [h0], by omega, Nat.zero_le _⟩
  · exact ⟨_, _, rfl, h1, h2⟩
/-- the slice at A reads as these sides. -/
def Ds (w : World) (B : Nat) (A : Option Addr) (L : List (List UInt8 × Bool)) : Prop :=
  Sds L ∧ (L = [] ∨ ∃ g o, A = some ⟨g, o, none⟩ ∧ g < B ∧ w.rangeAt g o (svs L))
theorem Ds.below {w w' : World} {B : Nat} {A : Option Addr} {L : List (List UInt8 × Bool)} (h : Ds w B A L) (hb : Below B w w') : Ds w' B A L := by
  refine ⟨h.1, ?_⟩
  rcases h.2 with e | ⟨g, o, e, hg, hr⟩
  · exact .inl e
  · exact .inr ⟨g, o, e, hg, range_below hr hb hg⟩
theorem Ds.more {w : World} {B B' : Nat} {A : Option Addr} {L : List (List UInt8 × Bool)} (h : Ds w B A L) (hB : B ≤ B') : Ds w B' A L := by
  refine ⟨h.1, ?_⟩
  rcases h.2 with e | ⟨g, o, e, hg, hr⟩
  · exact .inl e
  · exact .inr ⟨g, o, e, by omega, hr⟩
theorem Ds.at_ {w : World} {B : Nat} {A : Option Addr} {L : List (List UInt8 × Bool)} (h : Ds w B A L) {k : Nat} (hk : k < L.length) : ∃ g o, A = some ⟨g, o, none⟩ ∧ g < B ∧ w.rangeAt g (o + k * 33) (sv (L.getD k ([], false))) := by
  rcases h.2 with rfl | ⟨g, o, rfl, hg, hr⟩
  · simp at hk
  · refine ⟨g, o, rfl, hg, ?_⟩
    have e : L = L.take k ++ ([L.getD k ([], false)] ++ L.drop (k + 1)) := by
      rw [List.getD_eq_getElem?_getD, List.getElem?_eq_getElem hk]
      simp
    rw [e, svs_append, svs_append, svs_single] at hr
    refine range_sub (c := svs (L.drop (k + 1))) ?_ ?_ (a := svs (L.take k))
    · exact hr
    · rw [svs_length (fun x hx => h.1 x (List.mem_of_mem_take hx)), List.length_take]
      omega
theorem Ds.getD {L : List (List UInt8 × Bool)} (h : Sds L) {k : Nat} (hk : k < L.length) : (L.getD k ([], false)).1.length = 32 := by
  rw [List.getD_eq_getElem?_getD, List.getElem?_eq_getElem hk]
  exact h _ (List.getElem_mem hk)
theorem OwnD.ds {w : World} {N n c : Nat} {A : Option Addr} {L : List (List UInt8 × Bool)} (h : OwnD w N (.slice A n c) L) : Ds w w.heap.size A L := by
  refine ⟨h.1, ?_⟩
  rcases h.2.2 with ⟨_, h0⟩ | ⟨g, cap, cur, e, _, hh, h1, h2, h3, ht⟩
  · exact .inl (List.eq_nil_of_length_eq_zero h0)
  · injection e with e1 _ _
    refine .inr ⟨g, 0, e1, (Array.getElem?_eq_some_iff.1 hh).1, fun j v hj => ?_⟩
    rw [Nat.zero_add, cell_of_row w g j cur 46 (0, 0) hh, ← Array.getElem?_toList]
    have hlt : j < L.length * 33 := by
      have := (List.getElem?_eq_some_iff.1 hj).1
      rw [svs_length h.1] at this
      omega
    rw [← ht, List.getElem?_take_of_lt hlt] at hj
    exact hj
/-- one side more. -/
theorem run_appD {w : World} (ty : TypeId) {N : Nat} {v : Value} {L : List (List UInt8 × Bool)} {s : List UInt8 × Bool} {g o c : Nat} (hown : OwnD w N v L) (hs : s.1.length = 32) (hc : w.rangeAt g o (sv s)) (hl : L.length + 1 ≤ 1000000000) (hN : N ≤ w.heap.size) :
    ∃ v' w', (Builtin.append_ #[39, 39] ty #[v, .slice (some ⟨g, o, none⟩) 1 c]).run Tryd.prog w = .ok v' w' ∧ OwnD w' N v' (L ++ [s]) ∧ w.grownBy w' v.ownBlock := by
  obtain ⟨i, hi, hz, h0, h1⟩ := info_parts info56
  obtain ⟨v', w', hrun, h2, h3, _⟩ := run_append_own_at (P := Tryd.prog) w N 39 ty 46 i _ 33 33 Tryd.underlying39 hi hz h0 h1 (by kernel_rfl) (by omega) v L.length (svs L) hown.2 ⟨g, o, none⟩ 1 c (sv s) (by rw [sv_length hs])
    (fun j u hj => by rw [add_at]; exact hc j u hj) (sv_one s) (by unfold maxLen; omega) (by omega) hN
  refine ⟨v', w', hrun, ⟨hown.1.append (fun x hx => by rw [List.mem_singleton] at hx; rw [hx]; exact hs), ?_⟩, h3⟩
  rw [List.length_append, svs_append, svs_single]
  simpa using h2
end Go.Proofs.YtlbmieeimnjncaaDoor
/- slices.Backward over sides. Conditions: as stated at each. -/
namespace Go.Proofs.YtlbmieeimnjncaaDoor
set_option maxRecDepth 100000
open Go.RowKit Go.Shelf Go
attribute [local go_sem] Oper.semAt_some
/-- what the iterator hands out. -/
def encD (L : List (List UInt8 × Bool)) (len : Nat) (x : {i : Nat // i < len}) : Array Value := #[.int .i64 (x.1 : Int), .agg (sv (L.getD x.1 ([], false))).toArray]
set_option maxRecDepth 100000 in
set_option maxHeartbeats 2000000 in
theorem back1_D (l Bs b off len cap : Nat) (L : List (List UInt8 × Bool)) (hL : Sds L) (hlen : L.length = len) (hreach : len ≤ 100000) (Kp : World → World → Prop) (hKt : ∀ {A B C : World}, Kp A B → Kp B C → Kp A C) (J Jx : List {i : Nat // i < len} → World → Prop)
    (hY : ∀ pre x W, J pre W → pre.length < len → YieldAt Fence.wide (2 - 1) Tryd.prog l (encD L len x) W fun e W' =>
      (e = .returned (.bool true) ∧ J (pre ++ [x]) W' ∧ Kp W W') ∨ (e = .returned (.bool false) ∧ Jx (pre ++ [x]) W'))
    (W : World) (hc : ∀ W', Kp W W' → W'.cell? ⟨Bs, 0, none⟩ = some (.slice (some ⟨b, off, none⟩) len cap) ∧ W'.rangeAt b off (svs L)) (hK0 : Kp W W) (h0 : J [] W) :
    CallsIn Fence.wide 2 Tryd.prog 23 #[.func (.yield l) #[] #[], .pointer (some ⟨Bs, 0, none⟩)] W fun e W' => (∃ v, e = .returned v) ∧
      ((∃ ys, ys = downs len ∧ J ys W') ∨ (∃ pre, (∃ k, k ≤ len ∧ pre = (downs len).take k) ∧ Jx pre W')) := by
  refine callsIn_of_wp Tryd.func23 rfl trivial ?_ rfl
  simp only [Tryd.ntmps23, List.size_toArray, List.length_cons, List.length_nil, Nat.reduceAdd, Nat.reduceSub, Array.replicate_succ, Array.replicate_zero, List.push_toArray, List.append_toArray, List.nil_append, List.cons_append]
  have hBs := (hc W hK0).1
  gi_wp2
  gi_loopw [3] (fun i wr => ∃ j : Nat, j ≤ len ∧ i = .int .i64 ((j : Int) - 1) ∧ J ((downs len).take (len - j)) wr ∧ Kp W wr) (fun i _ => (intOf i + 1).toNat)
  case atStart => exact ⟨len, Nat.le_refl _, rfl, by rw [Nat.sub_self]; exact h0, hK0⟩
  case round =>
    obtain ⟨j, hj, rfl, hJs, hnx⟩ := hrel
    rcases j with _ | q
    · rw [show ((0 : Nat) : Int) - 1 = -1 from rfl]
      gi_wp2
      go_end0
      exact ⟨⟨_, rfl⟩, .inl ⟨_, rfl, by rw [Nat.sub_zero, List.take_of_length_le (by rw [downs_length]; omega)] at hJs; exact hJs⟩⟩
    · have eq1 : ((q + 1 : Nat) : Int) - 1 = (q : Int) := by omega
      rw [eq1]
      have hcell := (hc wr hnx).1
      have hr : wr.rangeAt b (off + q * 33) (sv (L.getD q ([], false))) := by
        obtain ⟨g', o', e1, _, e2⟩ := Ds.at_ (w := wr) (B := b + 1) (A := some ⟨b, off, none⟩) (L := L) ⟨hL, .inr ⟨b, off, rfl, by omega, (hc wr hnx).2⟩⟩ (k := q) (by omega)
        injection e1 with e1
        injection e1 with e3 e4
        subst e3
        subst e4
        exact e2
      have hx32 := Ds.getD hL (k := q) (by omega)
      have hq0 : (q : Int) < (len : Int) := by omega
      have hq1 : q < len := by omega
      have hq2 : (q : Int) ≤ 9223372036854775807 := by omega
      obtain ⟨fn, tmps, assign, body, hy, hR⟩ := hY _ ⟨q, hq1⟩ wr hJs (by rw [List.length_take, downs_length]; omega)
      dsimp only [encD] at hy
      have hT := downs_take len (len - (q + 1)) (by omega)
      have eT : len - (q + 1) + 1 = len - q := by omega
      have eI : (⟨len - 1 - (len - (q + 1)), by omega⟩ : {i : Nat // i < len}) = ⟨q, hq1⟩ := Subtype.ext (by show len - 1 - (len - (q + 1)) = q; omega)
      rw [eT, eI] at hT
      have HT := Lib.hid hT
      have HX := Lib.hid hx32
      clear hT eT eI eq1 hx32
      generalize L.getD q ([], false) = x at *
      gi_wp2_with (refine lin_load_mid (Wide.wide _ _) rfl 46 (.tmp 15) rfl b (off + q * 33) rfl (sv x) _ hr Tryd.underlying46 rfl (isz56s HX.out) ?_)
      refine hR.mono ?_
      rintro e W3 (⟨rfl, hJ3, hk3⟩ | ⟨rfl, hJx3⟩)
      · gi_wp2
        go_roundw
        case rel => exact ⟨q, by omega, rfl, by rw [HT.out]; exact hJ3, hKt hnx hk3⟩
        case measure => simp [intOf]
      · gi_wp2
        refine bodyPost_ret (results_none rfl _ _ _) rfl ?_
        exact ⟨⟨_, rfl⟩, .inr ⟨_, ⟨len - q, by omega, HT.out.symm⟩, hJx3⟩⟩
set_option maxRecDepth 100000 in
set_option maxHeartbeats 1000000 in
theorem back1_nil_D (l Bs len : Nat) (A : Option Addr) (cap : Nat) (h00 : len = 0) (J : List {i : Nat // i < len} → World → Prop) (W : World) (hBs : W.cell? ⟨Bs, 0, none⟩ = some (.slice A len cap)) (h0 : J [] W) :
    CallsIn Fence.wide 2 Tryd.prog 23 #[.func (.yield l) #[] #[], .pointer (some ⟨Bs, 0, none⟩)] W fun e W' => (∃ v, e = .returned v) ∧ J [] W' := by
  subst h00
  refine callsIn_of_wp Tryd.func23 rfl trivial ?_ rfl
  simp only [Tryd.ntmps23, List.size_toArray, List.length_cons, List.length_nil, Nat.reduceAdd, Nat.reduceSub, Array.replicate_succ, Array.replicate_zero, List.push_toArray, List.append_toArray, List.nil_append, List.cons_append]
  gi_wp2
  gi_loopw [3] (fun i wr => i = .int .i64 (-1) ∧ J [] wr) (fun _ _ => 0)
  case atStart => exact ⟨rfl, h0⟩
  case round =>
    obtain ⟨rfl, hJs⟩ := hrel
    gi_wp2
    go_end0
    exact ⟨⟨_, rfl⟩, hJs⟩
theorem back_D (a : Option Addr) (len cap : Nat) (w : World) :
    Calls Tryd.prog 15 #[.slice a len cap] w fun e w' => e = .returned (.func (.func 23) #[] #[.pointer (some ⟨w.heap.size, 0, none⟩)]) ∧ w' = w.alloc (.cells #[.slice a len cap] 39) := by
  have hmf : ∀ (fn : Fn) (first cap : Array Value) (w : World), (Instr.makeFunc fn first cap).run Tryd.prog w = .ok (.func fn first cap) w := fun _ _ _ _ => rfl
  go_enter Tryd.func15, Tryd.ntmps15
  go_wp2_with fail
  go_ret
  exact ⟨rfl, rfl⟩
theorem back_stops_D (Bs n₀ N len cap : Nat) (p : Nat → Prop) (A : Option Addr) (L : List (List UInt8 × Bool)) (hlen : L.length = len) (hreach : len ≤ 100000) (w : World) (hBs : Bs < n₀) (hp : ¬ p Bs) (hn₀ : n₀ ≤ w.heap.size) (hN : N ≤ n₀) (hpN : ∀ i, i < N → ¬ p i)
    (hc : w.cell? ⟨Bs, 0, none⟩ = some (.slice A len cap)) (hI : Ds w N A L) :
    SeqStopsK Fence.wide 2 Tryd.prog 23 #[.pointer (some ⟨Bs, 0, none⟩)] (encD L len) (Kq n₀ p) (fun ys => ys = downs len) (fun pre => ∃ k, k ≤ len ∧ pre = (downs len).take k) len w := fun l J Jx W hW _ _ hY h0 => by
  have hc' := (hW.cell (p := ⟨Bs, 0, none⟩) (by show Bs < w.heap.size; omega)).trans hc
  have hI' := hI.below (hW.mono (by omega))
  rcases Nat.eq_zero_or_pos len with h00 | h1
  · exact (back1_nil_D l Bs len A cap h00 J W hc' h0).mono fun e W' ⟨he, hj⟩ => ⟨he, .inl ⟨[], by subst h00; rfl, hj⟩⟩
  · obtain ⟨b, off, rfl, hb, _⟩ := hI'.at_ (k := 0) (by omega)
    rcases hI'.2 with rfl | ⟨b', off', e1, hb', hr⟩
    · simp at hlen; omega
    · injection e1 with e1
      injection e1 with e3 e4
      subst e3
      subst e4
      exact back1_D l Bs b off len cap L hI.1 hlen hreach (Kq n₀ p) Kq.trans J Jx hY W (fun W' hk => ⟨(hk.cell hBs hp).trans hc', hk.range hr (by omega) (hpN b hb')⟩) (Kq.refl W) h0
end Go.Proofs.YtlbmieeimnjncaaDoor
