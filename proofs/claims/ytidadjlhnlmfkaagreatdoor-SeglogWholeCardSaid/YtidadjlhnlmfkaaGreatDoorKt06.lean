/- FlIter FlRows FlAllParts FlAll FlSame. Conditions: as stated at each. -/
import Derived.RangeFuncNested
import Derived.RangeFuncBound
import Derived.RangeFuncCalls
import Derived.RangeFuncLeaves
import Derived.Shelf.Abstract
import Derived.Shelf.RegionOpen
import Derived.WalkKit
import Derived.OwnWalkIn
import Derived.TacticsInMore
import Derived.LoopNIn
import Derived.LoopIn
import Derived.Test.YtidadjlhnlmfkaaGreatDoorKt05
import Derived.Test.YtidadjlhnlmfkaaGreatDoorKt02
/- The iterator over records. Conditions: as stated. -/
namespace Go.Proofs.YtidadjlhnlmfkaaGreatDoor
set_option maxRecDepth 100000
open Go.RowKit Go.Shelf Go
attribute [local go_sem] Oper.semAt_some
/-- a record in memory. -/
abbrev RecAt (W : World) (B : Nat) : Type := { x : Option Addr × Nat × List UInt8 // Bts W B x.1 x.2.2 ∧ x.2.2.length ≤ x.2.1 ∧ x.2.1 ≤ maxLen ∧ x.2.2.length ≤ 1000000 }
def encR {W : World} {B : Nat} (x : RecAt W B) : Array Value := #[.slice x.1.1 x.1.2.2.length x.1.2.1]
def byR {W : World} {B : Nat} (x : RecAt W B) : List UInt8 := x.1.2.2
def oneIf : Value → Nat
  | .bool true => 1
  | _ => 0
/-- between two rounds: what has been cut off, what is left. -/
def IterSt (W : World) (B : Nat) (x3 x4 x5 : Value) (left : List (List UInt8)) : Prop :=
  (x3 = .slice none 0 0 ∧ (∃ A n c, x4 = .slice A n c) ∧ x5 = .bool false ∧ left = []) ∨
  ∃ (r1 r2 : List UInt8) (A1 : Option Addr) (c1 : Nat) (A2 : Option Addr) (c2 : Nat), x3 = .slice A1 r1.length c1 ∧ x4 = .slice A2 r2.length c2 ∧ x5 = .bool true ∧ left = r1 :: recs r2 ∧ (r2.length ≤ 100000000 ∧ r1.length ≤ 1000000) ∧
    Bts W B A1 r1 ∧ r1.length ≤ c1 ∧ c1 ≤ maxLen ∧ Bts W B A2 r2 ∧ r2.length ≤ c2 ∧ c2 ≤ maxLen
/-- what cut answers, as a state of the iterator. -/
def CutIs (W : World) (B : Nat) (l : List UInt8) (e : Ending) (w' : World) : Prop :=
  ∃ x3 x4 x5, e = .returned (.tuple #[x3, x4, x5]) ∧ IterSt W B x3 x4 x5 (recs l) ∧ sliceLen x4 + oneIf x5 < l.length + 1 ∧ ∃ m, w' = W.drewN m
theorem cut_iter (A : Option Addr) (B c : Nat) (l : List UInt8) (w : World) (hbt : Bts w B A l) (hl : l.length ≤ c) (hc : c ≤ maxLen) (hm : l.length ≤ 100000000) :
    Calls Tryz.prog 89 #[.slice A l.length c] w fun e w' => CutIs w B l e w' := by
  cases hn : cutN l with
  | none =>
    refine (cut_none A B c l w hbt hl (by omega) hn).mono ?_
    rintro e w' ⟨rfl, m, rfl⟩
    exact ⟨_, _, _, rfl, .inl ⟨rfl, ⟨_, _, _, rfl⟩, rfl, recs_none hn⟩, by simp [sliceLen, oneIf], m, rfl⟩
  | some k =>
    obtain ⟨h1, h2⟩ := cut_took hn
    refine (cut_some A B c l w k hbt hl hc (by omega) hn).mono ?_
    rintro e w' ⟨A1, c1, A2, c2, rfl, g1, g2, g3, g4, g5, g6, m, rfl⟩
    refine ⟨_, _, _, rfl, .inr ⟨_, _, A1, c1, A2, c2, rfl, rfl, rfl, recs_some hn, ⟨by omega, by have := (cutN_yes hn).2.2.1; omega⟩, g1, g2, g3, g4, g5, g6⟩, ?_, m, rfl⟩
    simp only [sliceLen, oneIf]
    omega
theorem IterSt.below {W W' : World} {B : Nat} {x3 x4 x5 : Value} {left : List (List UInt8)} (h : IterSt W B x3 x4 x5 left) (hb : Below B W W') : IterSt W' B x3 x4 x5 left := by
  rcases h with h | ⟨r1, r2, A1, c1, A2, c2, h1, h2, h3, h4, h5, h6, h7, h8, h9, h10⟩
  · exact .inl h
  · exact .inr ⟨r1, r2, A1, c1, A2, c2, h1, h2, h3, h4, h5, h6.below hb, h7, h8, h9.below hb, h10⟩
theorem drewN_grown (w : World) (n : Nat) : w.grownBy (w.drewN n) none := ⟨rfl, rfl, rfl, Nat.le_refl _, fun _ _ _ => rfl⟩
set_option maxHeartbeats 1600000 in
theorem recs_stops (n : Nat) (hn : 1 ≤ n) (w : World) (V N c : Nat) (A : Option Addr) (l : List UInt8) (hV : w.heap[V]? = some (.cells #[.slice A l.length c] 26 (0, 0))) (hb : Bts w N A l) (hN : N ≤ w.heap.size) (hl : l.length ≤ c) (hc : c ≤ maxLen) (hm : l.length ≤ 100000000) :
    SeqStopsK Fence.wide n Tryz.prog 88 #[.pointer (some ⟨V, 0, none⟩)] (encR (W := w) (B := N)) (Below N) (fun xs => xs.map byR = recs l) (fun _ => True) (l.length + 1) w := fun lp J Jx W hW hJ hJx hY h0 => by
  refine callsIn_of_wp Tryz.func88 rfl trivial ?_ rfl
  have hVl : V < w.heap.size := (Array.getElem?_eq_some_iff.1 hV).1
  have hv : W.cell? ⟨V, 0, none⟩ = some (.slice A l.length c) := (hW.cell (p := ⟨V, 0, none⟩) hVl).trans (cell_of_row w V 0 _ 26 (0, 0) hV)
  have hNW := hW.mono hN
  have hbW := hb.below hNW
  simp only [Tryz.ntmps88, List.size_toArray, List.length_cons, List.length_nil, Nat.reduceAdd, Nat.reduceSub, Array.replicate_succ, Array.replicate_zero, List.push_toArray, List.append_toArray, List.nil_append, List.cons_append]
  gi_wp2_with fail
  refine ⟨trivial, ?_⟩
  refine (callsIn_wide.2 (cut_iter _ _ _ _ _ hbW hl hc hm)).mono ?_
  rintro e w1 ⟨x3, x4, x5, rfl, hst, _, k0, rfl⟩
  have HJ := Lib.hid (hJ _ _ _ _ h0 (drewN_grown W k0) (fun r e => by cases e))
  have HK := Lib.hid (hNW.trans (drewN_below W N k0))
  have HS := Lib.hid (hst.below (drewN_below W N k0))
  clear hst h0
  generalize W.drewN k0 = w1 at *
  gi_wp2_with fail
  gi_loopw [3, 4, 5] (fun x3 x4 x5 wr => ∃ pre left, J pre wr ∧ Below N w wr ∧ IterSt wr N x3 x4 x5 left ∧ pre.map byR ++ left = recs l) (fun _ x4 x5 _ => sliceLen x4 + oneIf x5)
  case atStart => exact ⟨[], recs l, HJ.out, HK.out, HS.out, rfl⟩
  case round =>
    obtain ⟨pre, left, hj, hk, hs, he⟩ := hrel
    rcases hs with ⟨rfl, ⟨A4, n4, c4, rfl⟩, rfl, rfl⟩ | ⟨r1, r2, A1, c1, A2, c2, rfl, rfl, rfl, rfl, ⟨h5, h5'⟩, h6, h7, h8, h9, h10, h11⟩
    · have HE := Lib.hid he
      have HJ2 := Lib.hid hj
      clear he hj
      gi_wp2_with fail
      refine ⟨(fun f h => by cases h), ?_⟩
      gi_wp2_with fail
      go_end0
      exact ⟨⟨_, rfl⟩, .inl ⟨pre, by have := HE.out; rw [List.append_nil] at this; exact this, HJ2.out⟩⟩
    · have hlen : pre.length < l.length + 1 := by
        have h1 := congrArg List.length he
        have h2 := recs_len l
        simp at h1
        omega
      have g6 : Bts w N A1 r1 := Cs.keep h6 (fun p hp => (hk.cell hp).symm)
      obtain ⟨fn, tmps, assign, body, hy, hR⟩ := hY pre ⟨(A1, c1, r1), g6, h7, h8, h5'⟩ wr hj hlen
      dsimp only [encR] at hy
      have HE := Lib.hid he
      clear he hj
      gi_wp2_with fail
      refine hR.mono ?_
      rintro e W3 (⟨rfl, hJ3, hK3⟩ | ⟨rfl, hJx3⟩)
      · have HJ3 := Lib.hid hJ3
        have HK3 := Lib.hid (hk.trans hK3)
        have g9 := h9.below hK3
        clear hJ3 hR hy
        gi_wp2_with fail
        refine ⟨trivial, ?_⟩
        refine (callsIn_wide.2 (cut_iter _ _ _ _ _ g9 h10 h11 h5)).mono ?_
        rintro e w4 ⟨y3, y4, y5, rfl, hst, hms, k4, rfl⟩
        have HJ4 := Lib.hid (hJ _ _ _ _ HJ3.out (drewN_grown W3 k4) (fun r e => by cases e))
        have HK4 := Lib.hid (HK3.out.trans (drewN_below W3 N k4))
        have HS4 := Lib.hid (hst.below (drewN_below W3 N k4))
        have HM := Lib.hid hms
        clear hst hms
        generalize W3.drewN k4 = w5 at *
        gi_wp2_with fail
        go_roundw
        case rel => exact ⟨_, _, HJ4.out, HK4.out, HS4.out, by rw [← HE.out]; simp [byR]⟩
        case measure => have := HM.out; simp only [sliceLen, oneIf] at this ⊢; exact this
      · gi_wp2_with fail
        go_end0
        exact ⟨⟨_, rfl⟩, .inr ⟨_, trivial, hJx3⟩⟩
end Go.Proofs.YtidadjlhnlmfkaaGreatDoor
/- A slice of slices of bytes: the call's own; one that came in, appended. Conditions: none. -/
namespace Go.Proofs.YtidadjlhnlmfkaaGreatDoor
set_option maxRecDepth 100000
open Go.RowKit Go
theorem OwnR.nil (w : World) (N : Nat) : OwnR w N (.slice none 0 0) [] := ⟨[], World.ownsRow_nil w N 26 1, rfl, fun k r u h => by simp at h⟩
theorem OwnR.kept {w w' : World} {N B : Nat} {v : Value} {ll : List (List UInt8)} (h : OwnR w N v ll) (hb : Below B w w') (hB : w.heap.size ≤ B) : OwnR w' N v ll := by
  obtain ⟨vs, h1, h2, h3⟩ := h
  exact ⟨vs, own_kept h1 hb hB, h2, fun k r u hr hu => own_kept (h3 k r u hr hu) hb hB⟩
theorem OwnR.slice {w : World} {N : Nat} {v : Value} {ll : List (List UInt8)} (h : OwnR w N v ll) : ∃ A c, v = .slice A ll.length c ∧ ll.length ≤ c ∧ c ≤ maxLen := by
  obtain ⟨vs, h1, h2, h3⟩ := h
  exact own_slice h1
theorem OwnR.rws {w : World} {N n c : Nat} {A : Option Addr} {ll : List (List UInt8)} (h : OwnR w N (.slice A n c) ll) : Rws w w.heap.size A ll := fun k r hk => by
  obtain ⟨vs, h1, h2, h3⟩ := h
  obtain ⟨A', c', e, _⟩ := own_slice h1
  have hn : n = ll.length := by injection e
  subst hn
  have hlt : k < vs.length := by
    rw [h2]
    exact (List.getElem?_eq_some_iff.1 hk).1
  have hu : vs[k]? = some vs[k] := List.getElem?_eq_getElem hlt
  have ho := h3 k r _ hk hu
  obtain ⟨Ak, ck, ek, h4, h5⟩ := own_slice ho
  obtain ⟨ad, e1, e2, e3⟩ := Cs.of_own h1 k _ hu
  rw [ek] at e3 ho
  exact ⟨ad, Ak, ck, e1, e2, e3, h4, h5, ho.bts⟩
theorem OwnR.low {w : World} {N : Nat} {v : Value} {ll : List (List UInt8)} (h : OwnR w N v ll) : ∀ k, v.ownBlock = some k → N ≤ k := by
  obtain ⟨vs, h1, _⟩ := h
  exact fun k hk => (h1.lt k hk).1
/-- what an append of one row leaves. -/
theorem OwnR.grown {w w' : World} {N n : Nat} {v v' u : Value} {ll : List (List UInt8)} {r : List UInt8} (hu : Own5 w N u r) {vs : List Value} (hvs : w.ownsRow N 26 1 v ll.length vs) (hl : vs.length = ll.length)
    (h3 : ∀ (k : Nat) r u, ll[k]? = some r → vs[k]? = some u → Own5 w N u r) (hn : n = ll.length + 1) (h' : w'.ownsRow N 26 1 v' n (vs ++ [u])) (hg : w.grownBy w' v.ownBlock) : OwnR w' N v' (ll ++ [r]) := by
  subst hn
  refine ⟨vs ++ [u], by rw [List.length_append]; exact h', by simp [hl], fun k r' u' hr hu' => ?_⟩
  have kept : ∀ u r, Own5 w N u r → Own5 w' N u r := fun u r ho => World.ownsRow.kept ho hg (own_ne_own ho hvs (by decide))
  rcases Nat.lt_trichotomy k ll.length with hk | hk | hk
  · rw [List.getElem?_append_left hk] at hr
    rw [List.getElem?_append_left (by omega)] at hu'
    exact kept _ _ (h3 k r' u' hr hu')
  · subst hk
    rw [List.getElem?_append_right (Nat.le_refl _)] at hr
    rw [List.getElem?_append_right (by omega)] at hu'
    simp [hl] at hr hu'
    subst hr
    subst hu'
    exact kept _ _ hu
  · rw [List.getElem?_eq_none (by simp; omega)] at hr
    cases hr
theorem wp_app22 {w : World} {o : Oper} {a : Act} {K : Act → World → Prop} {Q : Exit → Act → World → Prop} (s x : Operand)
    (ho : o.op = .call { callee := .builtin .append, args := #[s, x], argTypes := #[22, 22] })
    (N : Nat) (v : Value) (ll : List (List UInt8)) (hs : a.eval s = v) (hown : OwnR w N v ll)
    (g c : Nat) (u : Value) (r : List UInt8) (hx : a.eval x = .slice (some ⟨g, 0, none⟩) 1 c) (hc : w.cell? ⟨g, 0, none⟩ = some u) (hu : Own5 w N u r) (h63 : ll.length + 1 ≤ 1000000000) (hN : N ≤ w.heap.size)
    (h : ∀ v' w', OwnR w' N v' (ll ++ [r]) → Below N w w' → K (a.put o.dst v') w') : o.wp Tryz.prog a w K Q := by
  obtain ⟨i, hi, hz, h0, h1⟩ := info_parts info22
  obtain ⟨vs, g1, g2, g3⟩ := hown
  obtain ⟨Ak, ck, e, _⟩ := own_slice hu
  have hlt : g < w.heap.size := World.block_lt_of_cell? w _ hc
  have hcs : Cs w w.heap.size (some ⟨g, 0, none⟩) [u] := fun j u' hj => by
    rcases j with _ | j
    · have : u = u' := by simpa using hj
      subst this
      exact ⟨_, rfl, hlt, hc⟩
    · simp at hj
  refine wp_app s x ho Tryz.underlying22 hi hz h0 h1 rfl hs g1 hx hcs rfl (fun u' hu' => ?_) h63 (by decide) hN fun v' w' h2 h3 => h _ _ (OwnR.grown hu g1 g2 g3 rfl h2 h3) ?_
  · have : u' = u := by simpa using hu'
    rw [this, e]
    rfl
  · exact (Below.refl N w).grown h3 hN fun k hk => (g1.lt k hk).1
theorem app22 {w : World} {ops : Array Oper} {rest : List Oper} {o : Oper} {a : Act} {Q : Exit → Act → World → Prop} (s x : Operand)
    (ho : o.op = .call { callee := .builtin .append, args := #[s, x], argTypes := #[22, 22] }) (hgd : o.guard = none)
    (N : Nat) (v : Value) (ll : List (List UInt8)) (hs : a.eval s = v) (hown : OwnR w N v ll)
    (g c : Nat) (u : Value) (r : List UInt8) (hx : a.eval x = .slice (some ⟨g, 0, none⟩) 1 c) (hc : w.cell? ⟨g, 0, none⟩ = some u) (hu : Own5 w N u r) (h63 : ll.length + 1 ≤ 1000000000) (hN : N ≤ w.heap.size)
    (h : ∀ v' w', OwnR w' N v' (ll ++ [r]) → Below N w w' → wpList Tryz.prog ops Q rest (a.put o.dst v') w') : wpList Tryz.prog ops Q (o :: rest) a w :=
  wpList_plain hgd fun _ hK => wp_app22 s x ho N v ll hs hown g c u r hx hc hu h63 hN fun v' w' h2 h3 => hK _ _ (h v' w' h2 h3)
theorem OwnR.more {w : World} {N M : Nat} {v : Value} {ll : List (List UInt8)} (h : OwnR w N v ll) (hM : M ≤ N) : OwnR w M v ll := by
  obtain ⟨vs, g1, g2, g3⟩ := h
  exact ⟨vs, own_more g1 hM, g2, fun k r u hr hu => own_more (g3 k r u hr hu) hM⟩
/-- the run of an append of one row. -/
theorem run_app22 {w : World} (ty : TypeId) (N : Nat) (v : Value) (ll : List (List UInt8)) (hown : OwnR w N v ll)
    (g c : Nat) (u : Value) (r : List UInt8) (hc : w.cell? ⟨g, 0, none⟩ = some u) (hu : Own5 w N u r) (h63 : ll.length + 1 ≤ 1000000000) (hN : N ≤ w.heap.size) :
    ∃ v' w', (Builtin.append_ #[22, 22] ty #[v, .slice (some ⟨g, 0, none⟩) 1 c]).run Tryz.prog w = .ok v' w' ∧ OwnR w' N v' (ll ++ [r]) ∧ w.grownBy w' v.ownBlock := by
  obtain ⟨i, hi, hz, h0, h1⟩ := info_parts info22
  obtain ⟨vs, g1, g2, g3⟩ := hown
  obtain ⟨Ak, ck, e, _⟩ := own_slice hu
  have hlt : g < w.heap.size := World.block_lt_of_cell? w _ hc
  have hcs : Cs w w.heap.size (some ⟨g, 0, none⟩) [u] := fun j u' hj => by
    rcases j with _ | j
    · have : u = u' := by simpa using hj
      subst this
      exact ⟨_, rfl, hlt, hc⟩
    · simp at hj
  obtain ⟨v', w', hrun, h2, h3⟩ := run_app (P := Tryz.prog) w (ty := ty) Tryz.underlying22 hi hz h0 h1 rfl g1 hcs rfl (fun u' hu' => by
    have : u' = u := by simpa using hu'
    rw [this, e]
    rfl) h63 (by decide) hN (c := c)
  exact ⟨v', w', hrun, OwnR.grown hu g1 g2 g3 rfl h2 h3, h3⟩
/-- a value that reads as a row. -/
def RowV (w : World) (B : Nat) (u : Value) (r : List UInt8) : Prop := ∃ A c, u = .slice A r.length c ∧ r.length ≤ c ∧ c ≤ maxLen ∧ Bts w B A r
/-- the values of the rows. -/
def RowVs (w : World) (B : Nat) (vs : List Value) (ll : List (List UInt8)) : Prop := vs.length = ll.length ∧ ∀ (k : Nat) r u, ll[k]? = some r → vs[k]? = some u → RowV w B u r
theorem Rws.vals {w : World} {B : Nat} {A : Option Addr} {ll : List (List UInt8)} (h : Rws w B A ll) : ∃ vs, Cs w B A vs ∧ RowVs w B vs ll := by
  have each : ∀ k, k < ll.length → ∃ u, RowV w B u (ll.getD k []) ∧ ∃ ad, A = some ad ∧ ad.block < B ∧ w.cell? (ad.add k) = some u := fun k hk => by
    obtain ⟨ad, Ak, ck, e, h1, h2, h3, h4, h5⟩ := h.at_ hk
    exact ⟨_, ⟨Ak, ck, rfl, h3, h4, h5⟩, ad, e, h1, h2⟩
  have hex : ∃ f : Nat → Value, ∀ k, k < ll.length → RowV w B (f k) (ll.getD k []) ∧ ∃ ad, A = some ad ∧ ad.block < B ∧ w.cell? (ad.add k) = some (f k) := by
    refine ⟨fun k => if hk : k < ll.length then (each k hk).choose else undef, fun k hk => ?_⟩
    dsimp only
    rw [dif_pos hk]
    exact (each k hk).choose_spec
  obtain ⟨f, hf⟩ := hex
  refine ⟨(List.range ll.length).map f, fun j u hj => ?_, by simp, fun k r u hr hu => ?_⟩
  · have hlt : j < ll.length := by
      have := (List.getElem?_eq_some_iff.1 hj).1
      simpa using this
    obtain rfl : f j = u := by simpa [hlt] using hj
    exact (hf j hlt).2
  · have hlt : k < ll.length := (List.getElem?_eq_some_iff.1 hr).1
    obtain rfl : f k = u := by simpa [hlt] using hu
    have := (hf k hlt).1
    rwa [List.getD, hr] at this
theorem RowVs.one {w : World} {B : Nat} {vs : List Value} {ll : List (List UInt8)} (h : RowVs w B vs ll) : ∀ u ∈ vs, u.oneCell' = true := by
  intro u hu
  obtain ⟨k, hk, e⟩ := List.getElem_of_mem hu
  have hk2 : k < ll.length := by rw [← h.1]; exact hk
  obtain ⟨A, c, e2, _⟩ := h.2 k ll[k] u (List.getElem?_eq_getElem hk2) (by rw [List.getElem?_eq_getElem hk, e])
  rw [e2]
  rfl
theorem RowV.below {w w' : World} {B : Nat} {u : Value} {r : List UInt8} (h : RowV w B u r) (hb : Below B w w') : RowV w' B u r := by
  obtain ⟨A, c, h1, h2, h3, h4⟩ := h
  exact ⟨A, c, h1, h2, h3, h4.below hb⟩
theorem RowVs.below {w w' : World} {B : Nat} {vs : List Value} {ll : List (List UInt8)} (h : RowVs w B vs ll) (hb : Below B w w') : RowVs w' B vs ll := ⟨h.1, fun k r u hr hu => (h.2 k r u hr hu).below hb⟩
theorem RowVs.append {w : World} {B : Nat} {vs us : List Value} {ll mm : List (List UInt8)} (h : RowVs w B vs ll) (h' : RowVs w B us mm) : RowVs w B (vs ++ us) (ll ++ mm) := by
  refine ⟨by rw [List.length_append, List.length_append, h.1, h'.1], fun k r u hr hu => ?_⟩
  by_cases hk : k < ll.length
  · rw [List.getElem?_append_left hk] at hr
    rw [List.getElem?_append_left (by rw [h.1]; exact hk)] at hu
    exact h.2 k r u hr hu
  · rw [List.getElem?_append_right (by omega)] at hr
    rw [List.getElem?_append_right (by rw [h.1]; omega), h.1] at hu
    exact h'.2 _ r u hr hu
theorem RowVs.rws {w : World} {B N c n : Nat} {A : Option Addr} {vs : List Value} {ll : List (List UInt8)} (h : RowVs w B vs ll) (hB : B ≤ w.heap.size) (ho : w.ownsRow N 26 1 (.slice A n c) n vs) : Rws w w.heap.size A ll := fun k r hk => by
  have hlt : k < vs.length := by rw [h.1]; exact (List.getElem?_eq_some_iff.1 hk).1
  have hu : vs[k]? = some vs[k] := List.getElem?_eq_getElem hlt
  obtain ⟨Ak, ck, e, h1, h2, h3⟩ := h.2 k r _ hk hu
  obtain ⟨ad, e1, e2, e3⟩ := Cs.of_own ho k _ hu
  rw [e] at e3
  exact ⟨ad, Ak, ck, e1, e2, e3, h1, h2, h3.more hB⟩
/-- rows behind rows. -/
theorem appR {w : World} {ops : Array Oper} {rest : List Oper} {o : Oper} {a : Act} {Q : Exit → Act → World → Prop} (s x : Operand)
    (ho : o.op = .call { callee := .builtin .append, args := #[s, x], argTypes := #[22, 22] }) (hw : Region.wanted o (yielded ops a.tmps) = true)
    (N : Nat) (v : Value) (vs news : List Value) (hs : a.eval s = v) (hown : w.ownsRow N 26 1 v vs.length vs)
    (B : Nat) (A : Option Addr) (n c : Nat) (hx : a.eval x = .slice A n c) (hl : news.length = n) (hr : Cs w B A news) (h1 : ∀ u ∈ news, u.oneCell' = true) (h63 : vs.length + n ≤ 1000000000) (hN : N ≤ w.heap.size)
    (h : ∀ v' w', w'.ownsRow N 26 1 v' (vs ++ news).length (vs ++ news) → w.grownBy w' v.ownBlock → wpList Tryz.prog ops Q rest (a.put o.dst v') w') : wpList Tryz.prog ops Q (o :: rest) a w := by
  obtain ⟨i, hi, hz, h0, h2⟩ := info_parts info22
  refine wpList_step fun K hK => ?_
  rw [if_pos hw]
  refine wp_app s x ho Tryz.underlying22 hi hz h0 h2 rfl hs hown hx hr hl h1 h63 (by decide) hN fun v' w' h3 h4 => hK _ _ (h _ _ ?_ h4)
  rw [List.length_append, hl]
  exact h3
end Go.Proofs.YtidadjlhnlmfkaaGreatDoor
/- What All's loop keeps. Conditions: as stated. -/
namespace Go.Proofs.YtidadjlhnlmfkaaGreatDoor
set_option maxRecDepth 100000
open Go.RowKit Go.Shelf Go
theorem OwnR.row {w w' : World} {N : Nat} {v : Value} {ll : List (List UInt8)} {row : Option Nat} (h : OwnR w N v ll) (hg : w.grownBy w' row) (hr : ∀ r, row = some r → ∃ o : Obj, w.heap[r]? = some o ∧ o.isCells = false) : OwnR w' N v ll := by
  have kept : ∀ {e : TypeId} {n : Nat} {u : Value} {xs : List Value}, w.ownsRow N e 1 u n xs → w'.ownsRow N e 1 u n xs := fun {e n u xs} h => by
    refine World.ownsRow.kept h hg ?_
    rcases h.2 with ⟨rfl, _⟩ | ⟨g, cap, cur, rfl, _, hh, _⟩
    · exact .inl rfl
    · refine .inr fun e' => ?_
      obtain ⟨o, ho, hc⟩ := hr g e'.symm
      rw [hh] at ho
      cases ho
      cases hc
  obtain ⟨vs, h1, h2, h3⟩ := h
  exact ⟨vs, kept h1, h2, fun k r u hr hu => kept (h3 k r u hr hu)⟩
/-- between two rounds: the two variables' boxes; what lay below N lies as it lay. -/
def AllI (W3 W : World) (N : Nat) (xs : List (RecAt W3 N)) (X : World) : Prop :=
  ∃ v, Boxed X N 22 v ∧ OwnR X W3.heap.size v (xs.map byR) ∧ Boxed X (N + 1) 3 (.int .i64 (took (xs.map byR) : Nat)) ∧ took (xs.map byR) ≤ 1000008 * xs.length ∧ Below N W X ∧ W3.heap.size ≤ X.heap.size
theorem allI_own (W3 W : World) (N : Nat) (h : N + 2 ≤ W3.heap.size) : OwnFrom W3.heap.size (AllI W3 W N) := by
  rintro xs X X' row ⟨v, h1, h2, h3, h4, h5, h6⟩ hg hr
  refine ⟨v, h1.kept hg (fun e => ?_), h2.row hg (fun r e => (hr r e).2), h3.kept hg (fun e => ?_), h4, h5.grown hg (by omega) (fun k e => by have := (hr k e).1; omega), Nat.le_trans h6 hg.size⟩
  · have := (hr N e.symm).1
    omega
  · have := (hr (N + 1) e.symm).1
    omega
theorem allI_nil (W3 W : World) (N : Nat) (h1 : Boxed W3 N 22 (.slice none 0 0)) (h2 : Boxed W3 (N + 1) 3 (.int .i64 0)) (h3 : Below N W W3) : AllI W3 W N [] W3 :=
  ⟨_, h1, OwnR.nil _ _, h2, by simp [took], h3, Nat.le_refl _⟩
theorem count_set (L : List Bool) : ∀ i, L.getD i true = false → (L.set i true).count false + 1 = L.count false := by
  induction L with
  | nil => intro i h; simp at h
  | cons b L ih =>
    intro i h
    cases i with
    | zero =>
      simp at h
      subst h
      simp
    | succ i =>
      have := ih i (by simpa using h)
      cases b <;> simp <;> omega
theorem any_inv {F : Fence} {n : Nat} {P : Program} {ops : Array Oper} {Q : Exit → Act → World → Prop} (I : Array Bool → Act → World → Prop)
    (hstep : ∀ L a w i o, I L a w → ops[i]? = some o → L.getD i true = false → (∀ e ∈ o.after, Region.binds .any e = true → L.getD e.on false = true) → wpOpIn F n P ops Q i (I (L.setIfInBounds i true)) a w)
    (hend : ∀ L a w, I L a w → L.size = ops.size → Region.ready .any ops L = [] → Q .normal a w) :
    ∀ (fuel : Nat) (L : Array Bool) (a : Act) (w : World), L.toList.count false ≤ fuel → L.size = ops.size → I L a w → wpAnyIn F n P .any ops Q fuel L a w := by
  intro fuel
  induction fuel with
  | zero =>
    intro L a w hc hs hI
    have hr : Region.ready .any ops L = [] := by
      cases h : Region.ready .any ops L with
      | nil => rfl
      | cons i r =>
        have hi : i ∈ Region.ready .any ops L := by rw [h]; simp
        obtain ⟨h1, _⟩ := mem_ready.1 hi
        have := count_set L.toList i (by simpa [List.getD, Array.getD_eq_getD_getElem?] using h1)
        omega
    exact ⟨hr, hend L a w hI hs hr⟩
  | succ fuel ih =>
    intro L a w hc hs hI
    refine ⟨fun hr => hend L a w hI hs hr, fun i hi => ?_⟩
    obtain ⟨h1, o, ho, h2⟩ := mem_ready.1 hi
    refine wpOpIn_mono (fun a' w' h => ih _ a' w' ?_ (by simpa using hs) h) (hstep L a w i o hI ho h1 h2)
    have := count_set L.toList i (by simpa [List.getD, Array.getD_eq_getD_getElem?] using h1)
    simp only [Array.toList_setIfInBounds]
    omega
theorem region_inv {F : Fence} {n : Nat} {P : Program} {id : Nat} {ops : Array Oper} {Q : Exit → Act → World → Prop} {a : Act} {w : World} (hm : P.follows .mixedOrders = true) (I : Array Bool → Act → World → Prop)
    (h0 : ∀ w1, w1.heap = w.heap → w1.os = w.os → w1.tape = w.tape → w1.output = w.output → I (Array.replicate ops.size false) a w1)
    (hstep : ∀ L a w i o, I L a w → ops[i]? = some o → L.getD i true = false → (∀ e ∈ o.after, Region.binds .any e = true → L.getD e.on false = true) → wpOpIn F n P ops Q i (I (L.setIfInBounds i true)) a w)
    (hend : ∀ L a w, I L a w → L.size = ops.size → Region.ready .any ops L = [] → Q .normal a w) : (Code.region id ops true).wpIn F n P Q a w :=
  wpIn_region_any hm (any_inv I hstep hend ops.size _ a _ (by simp) (by simp) (h0 _ rfl rfl rfl rfl))
theorem not_ready {ops : Array Oper} {L : Array Bool} (hr : Region.ready .any ops L = []) (i : Nat) (o : Oper) (ho : ops[i]? = some o) (hd : ∀ e ∈ o.after, Region.binds .any e = true → L.getD e.on false = true) : L.getD i true = true := by
  cases h : L.getD i true with
  | true => rfl
  | false =>
    have : i ∈ Region.ready .any ops L := mem_ready.2 ⟨h, o, ho, hd⟩
    rw [hr] at this
    cases this
theorem wpIn_app22 {F : Fence} {n : Nat} {w : World} {o : Oper} {a : Act} {K : Act → World → Prop} {Q : Exit → Act → World → Prop} (s x : Operand)
    (ho : o.op = .call { callee := .builtin .append, args := #[s, x], argTypes := #[22, 22] })
    (N : Nat) (v : Value) (ll : List (List UInt8)) (hs : a.eval s = v) (hown : OwnR w N v ll)
    (g c : Nat) (u : Value) (r : List UInt8) (hx : a.eval x = .slice (some ⟨g, 0, none⟩) 1 c) (hc : w.cell? ⟨g, 0, none⟩ = some u) (hu : Own5 w N u r) (h63 : ll.length + 1 ≤ 1000000000) (hN : N ≤ w.heap.size)
    (h : ∀ v' w', OwnR w' N v' (ll ++ [r]) → w.grownBy w' v.ownBlock → K (a.put o.dst v') w') : o.wpIn F n Tryz.prog a w K Q := by
  obtain ⟨v', w', hrun, h2, h3⟩ := run_app22 o.type N v ll hown g c u r hc hu h63 hN
  unfold Oper.wpIn
  refine ⟨?_, ?_⟩
  · simp [Oper.about, ho, resolve, Target.leads, Sem.run_pure]
  · rw [Oper.semAt_plain F _ _ (by rw [ho]; intro c hc'; cases hc')]
    simp [execOp, ho, resolve, invoke, builtin, hs, hx, hrun, Result.andThen]
    exact h _ _ h2 h3
theorem OwnR.cells {w : World} {N : Nat} {v : Value} {ll : List (List UInt8)} (h : OwnR w N v ll) : ∀ (j : Nat) (o : Obj), v.ownBlock = some j → w.heap[j]? = some o → o.isCells = true := by
  obtain ⟨vs, h1, _⟩ := h
  intro j o hj ho
  rcases h1.2 with ⟨rfl, _⟩ | ⟨g, cap, cur, rfl, _, hh, _⟩
  · simp [Value.ownBlock] at hj
  · obtain rfl : g = j := by simpa [Value.ownBlock] using hj
    rw [hh] at ho
    cases ho
    rfl
theorem keeps_below {B : Nat} {X X' : World} (h : Below X.heap.size X X') : KeepsFrom B X X' :=
  ⟨h.size, fun k _ _ hk _ => (h.block k (Array.getElem?_eq_some_iff.1 hk).1).trans hk⟩
/-- a box of another type is no row of v. -/
theorem OwnR.not_box {w : World} {N B : Nat} {t : TypeId} {v u : Value} {ll : List (List UInt8)} (h : OwnR w N v ll) (hb : Boxed w B t u) (ht : t ≠ 26) : some B ≠ v.ownBlock := by
  obtain ⟨vs, h1, _⟩ := h
  exact hb.not_row ht h1
theorem OwnR.set {w : World} {N B : Nat} {t : TypeId} {v u u' : Value} {ll : List (List UInt8)} (h : OwnR w N v ll) (hb : Boxed w B t u) (h1 : t ≠ 26) (h2 : t ≠ 5) : OwnR (w.setCell ⟨B, 0, none⟩ u') N v ll := by
  obtain ⟨vs, g1, g2, g3⟩ := h
  have kept : ∀ {e : TypeId} {n : Nat} {x : Value} {xs : List Value}, t ≠ e → w.ownsRow N e 1 x n xs → (w.setCell ⟨B, 0, none⟩ u').ownsRow N e 1 x n xs := fun hne h =>
    World.ownsRow.kept h (grownBy_setCell' w B u') (.inr (hb.not_row hne h).symm)
  exact ⟨vs, kept h1 g1, g2, fun k r x hr hx => kept h2 (g3 k r x hr hx)⟩
theorem Boxed.far {w : World} {B B' : Nat} {t : TypeId} {v : Value} (h : Boxed w B t v) (hne : B ≠ B') (u : Value) : Boxed (w.setCell ⟨B', 0, none⟩ u) B t v := h.kept (grownBy_setCell' w B' u) (fun e => hne (by injection e))
end Go.Proofs.YtidadjlhnlmfkaaGreatDoor
/- frame.All. Conditions: as stated. -/
namespace Go.Proofs.YtidadjlhnlmfkaaGreatDoor
set_option maxRecDepth 100000
open Go.RowKit Go.Shelf Go
attribute [local go_sem] Oper.semAt_some
theorem records_any (W : World) (A : Option Addr) (n c : Nat) :
    Calls Tryz.prog 67 #[.slice A n c] W fun e w' => e = .returned (.func (.func 88) #[] #[.pointer (some ⟨W.heap.size, 0, none⟩)]) ∧ w' = W.alloc (.cells #[.slice A n c] 26) := by
  go_enter Tryz.func67, Tryz.ntmps67
  go_wp2_with fail
  go_ret
  exact ⟨rfl, rfl⟩
/-- where the region of the clone and the append stands. -/
def RegA (X : World) (N n0 : Nat) (done : List (List UInt8)) (r : List UInt8) (z : Value) (A2 : Option Addr) (c2 g : Nat) (v' : Value) (b2 b3 b4 b5 : Bool) (w : World) : Prop :=
  (b4 = false ∧ b5 = false ∧ Below X.heap.size X w ∧ (b2 = true → Own5 w X.heap.size (.slice A2 r.length c2) r) ∧ (b3 = true → w.cell? ⟨g, 0, none⟩ = some (.slice A2 r.length c2))) ∨
  (b4 = true ∧ OwnR w n0 v' (done ++ [r]) ∧ KeepsFrom n0 X w ∧ Below N X w ∧ Boxed w (N + 1) 3 z ∧ ∃ t, Boxed w N 22 t ∧ (b5 = true → t = v'))
def OrdA (b0 b1 b2 b3 b4 b5 : Bool) : Prop := (b2 = true → b1 = true) ∧ (b3 = true → b2 = true) ∧ (b4 = true → b0 = true ∧ b3 = true) ∧ (b5 = true → b4 = true)
set_option maxHeartbeats 1600000 in
theorem all_in (A : Option Addr) (c : Nat) (l : List UInt8) (W : World) (hbt : Bts W W.heap.size A l) (hl : l.length ≤ c) (hc : c ≤ maxLen) (hm : l.length ≤ 100000000) :
    CallsIn Fence.wide 8 Tryz.prog 42 #[.slice A l.length c] W fun e w' => Alls W l e w' := by
  refine callsIn_of_wp_marks Tryz.func42 rfl trivial ?_ rfl
  simp only [Tryz.ntmps42, List.size_toArray, List.length_cons, List.length_nil, Nat.reduceAdd, Nat.reduceSub, Array.replicate_succ, Array.replicate_zero, List.push_toArray, List.append_toArray, List.nil_append, List.cons_append]
  gi_wp2_with fail
  refine ⟨trivial, ?_⟩
  refine (callsIn_wide.2 (records_any _ _ _ _)).mono ?_
  rintro e w' ⟨rfl, rfl⟩
  gi_wp2_with fail
  have k1 := ((Boxed.new W 22 (.slice none 0 0)).alloc (.cells #[.int .i64 0] 3)).alloc (.cells #[.slice A l.length c] 26)
  have k2 : Boxed (((W.alloc (.cells #[.slice none 0 0] 22)).alloc (.cells #[.int .i64 0] 3)).alloc (.cells #[.slice A l.length c] 26)) (W.heap.size + 1) 3 (.int .i64 0) := by
    have := (Boxed.new (W.alloc (.cells #[.slice none 0 0] 22)) 3 (.int .i64 0)).alloc (.cells #[.slice A l.length c] 26)
    rwa [World.size_alloc] at this
  have k3 : Boxed (((W.alloc (.cells #[.slice none 0 0] 22)).alloc (.cells #[.int .i64 0] 3)).alloc (.cells #[.slice A l.length c] 26)) (W.heap.size + 2) 26 (.slice A l.length c) := by
    have := Boxed.new ((W.alloc (.cells #[.slice none 0 0] 22)).alloc (.cells #[.int .i64 0] 3)) 26 (.slice A l.length c)
    rwa [World.size_alloc, World.size_alloc] at this
  have kB : Below W.heap.size W (((W.alloc (.cells #[.slice none 0 0] 22)).alloc (.cells #[.int .i64 0] 3)).alloc (.cells #[.slice A l.length c] 26)) := (((Below.refl _ W).alloc (Nat.le_refl _) _).alloc (by simp) _).alloc (by simp; omega) _
  have kz : W.heap.size + 3 = (((W.alloc (.cells #[.slice none 0 0] 22)).alloc (.cells #[.int .i64 0] 3)).alloc (.cells #[.slice A l.length c] 26)).heap.size := by simp
  generalize ((W.alloc (.cells #[.slice none 0 0] 22)).alloc (.cells #[.int .i64 0] 3)).alloc (.cells #[.slice A l.length c] 26) = W3 at *
  have kb := hbt.below kB
  have hmx : Tryz.prog.follows .mixedOrders = true := by kernel_rfl
  refine wpIn_rangeFunc_ownG rfl (by omega) (gf := 88) (lb := #[.pointer (some ⟨W.heap.size + 2, 0, none⟩)]) rfl trivial (enters_of Tryz.func88 (by kernel_rfl) rfl)
    (recs_stops 7 (by omega) W3 (W.heap.size + 2) W.heap.size c A l k3 kb (by omega) hl hc hm) belowK_t (belowK_b (by omega)) (Below.refl _ _) (fun _ => rfl)
    (AllI W3 W W.heap.size) (fun _ _ _ => False) (allI_own W3 W W.heap.size (by omega)) (fun _ _ _ _ _ hs _ _ => hs) (allI_nil W3 W W.heap.size k1 k2 kB)
    (fun x => { tmps := #[.slice A l.length c, undef, .slice none 0 0, .int .i64 0, .pointer (some ⟨W.heap.size, 0, none⟩), .pointer (some ⟨W.heap.size + 1, 0, none⟩), .slice x.1.1 x.1.2.2.length x.1.2.1, .slice A l.length c, .func (.func 88) #[] #[.pointer (some ⟨W.heap.size + 2, 0, none⟩)], .slice x.1.1 x.1.2.2.length x.1.2.1, undef, undef, undef, undef, undef, undef, undef, undef, undef, undef, undef, undef], defers := [] }) ?assign ?body ?done ?stop
  case assign =>
    intro lp x X K' hK'
    dsimp only [encR]
    gi_wp2
    exact hK'
  case body =>
    rintro lp pre ⟨⟨A1, c1, r⟩, g1, g2, g3, g4⟩ X ⟨v, b1, o1, b2, ht, hb, hz⟩ hlen
    dsimp only at g1 g2 g3 g4
    have hbX : Below W.heap.size W3 X := ⟨hb.os.trans kB.os.symm, hb.tape.trans kB.tape.symm, hb.output.trans kB.output.symm, hz, fun k hk => (hb.block k hk).trans (kB.block k hk).symm⟩
    have hx := g1.below hbX
    have hNX : W.heap.size ≤ X.heap.size := hb.size
    have l1 := b1.lt
    have l2 := b2.lt
    generalize hdone : pre.map byR = done at *
    have hdl : done.length ≤ 100000000 := by rw [← hdone]; simp; omega
    have HD := Lib.hid hdone
    have HT := Lib.hid ht
    have HO := Lib.hid o1
    clear hdone ht o1 k1 k2 k3 kb hbt
    generalize htk : took done = tk at *
    have HTK := Lib.hid htk
    clear htk
    gi_wp2_with fail
    refine region_inv hmx (fun L a w => ∃ (b0 b1 b2 b3 b4 b5 : Bool) (A2 : Option Addr) (c2 g : Nat) (v' : Value), L = #[b0, b1, b2, b3, b4, b5] ∧ a = { tmps := #[.slice A l.length c, undef, .slice none 0 0, .int .i64 0, .pointer (some ⟨W.heap.size, 0, none⟩), .pointer (some ⟨W.heap.size + 1, 0, none⟩), .slice A1 r.length c1, .slice A l.length c, .func (.func 88) #[] #[.pointer (some ⟨W.heap.size + 2, 0, none⟩)], .slice A1 r.length c1, (bif b0 then v else undef), (bif b1 then .slice A1 r.length c1 else undef), (bif b2 then .slice A2 r.length c2 else undef), (bif b3 then .slice (some ⟨g, 0, none⟩) 1 1 else undef), (bif b4 then v' else undef), undef, undef, undef, undef, undef, undef, undef], defers := [] } ∧ RegA X W.heap.size W3.heap.size done r (.int .i64 tk) A2 c2 g v' b2 b3 b4 b5 w ∧ OrdA b0 b1 b2 b3 b4 b5) ?start ?step ?fin
    case start =>
      intro w1 h1 h2 h3 h4
      exact ⟨false, false, false, false, false, false, none, 0, 0, undef, rfl, rfl, .inl ⟨rfl, rfl, ⟨h2, h3, h4, by rw [h1]; exact Nat.le_refl _, fun k _ => by rw [h1]⟩, fun h => (by cases h), fun h => (by cases h)⟩, by simp [OrdA]⟩
    case fin =>
      rintro L a w ⟨a0, a1, a2, a3, a4, a5, A2, c2, g, v', rfl, rfl, hw, _⟩ _ hr
      obtain rfl : a0 = true := not_ready hr 0 _ rfl (by simp)
      obtain rfl : a1 = true := not_ready hr 1 _ rfl (by simp)
      obtain rfl : a2 = true := not_ready hr 2 _ rfl (by simp)
      obtain rfl : a3 = true := not_ready hr 3 _ rfl (by simp)
      obtain rfl : a4 = true := not_ready hr 4 _ rfl (by simp)
      obtain rfl : a5 = true := not_ready hr 5 _ rfl (by simp)
      rcases hw with ⟨h, _⟩ | ⟨_, y1, y2, y3, y4, t, y5, y6⟩
      · cases h
      · obtain rfl := y6 rfl
        have cZ := y4.cell
        have fZ := y4.frozen
        have ht2 : (tk : Int) ≤ 200000000000000 := by have := HT.out; omega
        have hr2 : (r.length : Int) ≤ 1000000 := by omega
        gi_wp2_with fail
        have e1 : (tk : Int) + (8 + (r.length : Int)) = ((took (done ++ [r]) : Nat) : Int) := by
          rw [took_append, HTK.out, took_cons, took_nil]
          omega
        rw [e1]
        refine ⟨y2.trans ((KeepsOthers.setCell _ _ _).from _), y3.setCell (by show W.heap.size ≤ W.heap.size + 1; omega) _, ?_⟩
        have e2 : (pre ++ [(⟨(A1, c1, r), g1, g2, g3, g4⟩ : RecAt W3 W.heap.size)]).map byR = done ++ [r] := by
          rw [List.map_append, HD.out]; rfl
        refine ⟨_, Boxed.far y5 (by omega) _, ?_, ?_, ?_, hb.trans (y3.setCell (by show W.heap.size ≤ W.heap.size + 1; omega) _), ?_⟩
        · rw [e2]; exact y1.set y4 (by decide) (by decide)
        · rw [e2]; exact y4.set _
        · rw [e2, took_append, HTK.out, took_cons, took_nil, List.length_append]
          have := HT.out
          simp only [List.length_cons, List.length_nil]
          omega
        · have := y2.size
          simp only [World.setCell, Array.size_modify]
          omega
    case step =>
      rintro L a w i o ⟨a0, a1, a2, a3, a4, a5, A2, c2, g, v', rfl, rfl, hw, hord⟩ ho h1 h2
      have hi : i < 6 := (Array.getElem?_eq_some_iff.1 ho).1
      obtain rfl | rfl | rfl | rfl | rfl | rfl : i = 0 ∨ i = 1 ∨ i = 2 ∨ i = 3 ∨ i = 4 ∨ i = 5 := by omega
      · obtain rfl : a0 = false := h1
        obtain rfl := Option.some.inj ho
        obtain rfl : a4 = false := by cases a4 with | false => rfl | true => (have := (hord.2.2.1 rfl).1; cases this)
        rcases hw with ⟨_, rfl, hB, y1, y2⟩ | ⟨h, _⟩
        · have cR := (hB.cell (p := ⟨W.heap.size, 0, none⟩) l1).trans b1.cell
          refine wpOpIn_step rfl (fun K' hK' => ?_)
          go_simp
          exact hK' _ _ ⟨true, a1, a2, a3, false, false, A2, c2, g, v', rfl, rfl, .inl ⟨rfl, rfl, hB, y1, y2⟩, ⟨hord.1, hord.2.1, fun h => (by cases h), fun h => (by cases h)⟩⟩
        · cases h
      · obtain rfl : a1 = false := h1
        obtain rfl := Option.some.inj ho
        obtain rfl : a2 = false := by cases a2 with | false => rfl | true => (have := hord.1 rfl; cases this)
        obtain rfl : a3 = false := by cases a3 with | false => rfl | true => (have := hord.2.1 rfl; cases this)
        obtain rfl : a4 = false := by cases a4 with | false => rfl | true => (have := (hord.2.2.1 rfl).2; cases this)
        rcases hw with ⟨_, rfl, hB, y1, y2⟩ | ⟨h, _⟩
        · refine wpOpIn_step rfl (fun K' hK' => ?_)
          go_simp
          exact hK' _ _ ⟨a0, true, false, false, false, false, A2, c2, g, v', rfl, rfl, .inl ⟨rfl, rfl, hB, y1, y2⟩, ⟨fun _ => rfl, fun h => (by cases h), fun h => (by cases h), fun h => (by cases h)⟩⟩
        · cases h
      · obtain rfl : a2 = false := h1
        obtain rfl := Option.some.inj ho
        obtain rfl : a1 = true := h2 { on := 1, ground := .data } (by simp) rfl
        obtain rfl : a3 = false := by cases a3 with | false => rfl | true => (have := hord.2.1 rfl; cases this)
        obtain rfl : a4 = false := by cases a4 with | false => rfl | true => (have := (hord.2.2.1 rfl).2; cases this)
        rcases hw with ⟨_, rfl, hB, y1, y2⟩ | ⟨h, _⟩
        · refine wpOpIn_step rfl (fun K' hK' => ?_)
          go_simp
          refine ⟨trivial, ?_⟩
          refine (CallsIn.inRound lp (callsIn_wide.2 (clone_any _ _ _ _ w (hx.below (hB.mono hNX)) (Nat.le_trans hNX hB.size) (by omega)))).mono ?_
          rintro e w2 ⟨u, rfl, ou, hb2⟩
          obtain ⟨A3, c3, rfl, _⟩ := own_slice ou
          exact hK' _ _ ⟨a0, true, true, false, false, false, A3, c3, g, v', rfl, rfl, .inl ⟨rfl, rfl, hB.trans (hb2.mono hB.size), fun _ => own_more ou hB.size, fun h => (by cases h)⟩, ⟨fun _ => rfl, fun h => (by cases h), fun h => (by cases h), fun h => (by cases h)⟩⟩
        · cases h
      · obtain rfl : a3 = false := h1
        obtain rfl := Option.some.inj ho
        obtain rfl : a2 = true := h2 { on := 2, ground := .data } (by simp) rfl
        obtain rfl : a1 = true := hord.1 rfl
        obtain rfl : a4 = false := by cases a4 with | false => rfl | true => (have := (hord.2.2.1 rfl).2; cases this)
        rcases hw with ⟨_, rfl, hB, y1, y2⟩ | ⟨h, _⟩
        · refine wpOpIn_step rfl (fun K' hK' => ?_)
          go_simp
          have hal := (Below.refl w.heap.size w).alloc (Nat.le_refl _) (.cells #[.slice A2 r.length c2] 26)
          exact hK' _ _ ⟨a0, true, true, true, false, false, A2, c2, w.heap.size, v', rfl, rfl, .inl ⟨rfl, rfl, hB.trans (hal.mono hB.size), fun _ => own_kept (y1 rfl) hal (Nat.le_refl _), fun _ => (cell_of_row _ w.heap.size 0 #[.slice A2 r.length c2] 26 (0, 0) (heap_alloc_new w _)).trans rfl⟩, ⟨fun _ => rfl, fun _ => rfl, fun h => (by cases h), fun h => (by cases h)⟩⟩
        · cases h
      · obtain rfl : a4 = false := h1
        obtain rfl := Option.some.inj ho
        obtain rfl : a0 = true := h2 { on := 0, ground := .data } (by simp) rfl
        obtain rfl : a3 = true := h2 { on := 3, ground := .data } (by simp) rfl
        obtain rfl : a2 = true := hord.2.1 rfl
        obtain rfl : a1 = true := hord.1 rfl
        rcases hw with ⟨_, rfl, hB, y1, y2⟩ | ⟨h, _⟩
        · refine wpOpIn_step rfl (fun K' hK' => ?_)
          rw [if_pos (by simp [Region.wanted])]
          have oX := HO.out.kept hB (Nat.le_refl _)
          refine wpIn_app22 (.tmp 10) (.tmp 13) rfl W3.heap.size v done rfl oX g 1 _ r rfl (y2 rfl) (own_more (y1 rfl) hz) (by omega) (Nat.le_trans hz hB.size) ?_
          intro v9 w9 o9 g9
          have bX := (b1.kept (row := none) ⟨hB.os, hB.tape, hB.output, hB.size, fun k hk _ => hB.block k hk⟩ (by simp)).kept g9 (oX.not_box (b1.kept (row := none) ⟨hB.os, hB.tape, hB.output, hB.size, fun k hk _ => hB.block k hk⟩ (by simp)) (by decide))
          have bZ := (b2.kept (row := none) ⟨hB.os, hB.tape, hB.output, hB.size, fun k hk _ => hB.block k hk⟩ (by simp)).kept g9 (oX.not_box (b2.kept (row := none) ⟨hB.os, hB.tape, hB.output, hB.size, fun k hk _ => hB.block k hk⟩ (by simp)) (by decide))
          refine hK' _ _ ⟨true, true, true, true, true, false, A2, c2, g, v9, rfl, rfl, .inr ⟨rfl, o9, (keeps_below hB).trans ((KeepsOthers.of_grownBy g9 oX.cells).from _), (hB.mono hNX).grown g9 (Nat.le_trans hNX hB.size) (fun k hk => Nat.le_trans (by omega) (oX.low k hk)), bZ, v, bX, fun h => (by cases h)⟩, ⟨fun _ => rfl, fun _ => rfl, fun _ => ⟨rfl, rfl⟩, fun _ => rfl⟩⟩
        · cases h
      · obtain rfl : a5 = false := h1
        obtain rfl := Option.some.inj ho
        obtain rfl : a4 = true := h2 { on := 4, ground := .data } (by simp) rfl
        obtain rfl : a0 = true := (hord.2.2.1 rfl).1
        obtain rfl : a3 = true := (hord.2.2.1 rfl).2
        obtain rfl : a2 = true := hord.2.1 rfl
        obtain rfl : a1 = true := hord.1 rfl
        rcases hw with ⟨h, _⟩ | ⟨_, y1, y2, y3, y4, t, y5, y6⟩
        · cases h
        · refine wpOpIn_step rfl (fun K' hK' => ?_)
          have cR := y5.cell
          have fR := y5.frozen
          obtain ⟨A9, c9, rfl, _⟩ := y1.slice
          have e9 : (done ++ [r]).length = done.length + 1 := by simp
          rw [e9] at y1
          clear e9
          go_simp
          refine hK' _ _ ⟨true, true, true, true, true, true, A2, c2, g, _, rfl, rfl, .inr ⟨rfl, y1.set y5 (by decide) (by decide), y2.trans ((KeepsOthers.setCell _ _ _).from _), y3.setCell (Nat.le_refl _) _, Boxed.far y4 (by omega) _, _, y5.set _, fun _ => rfl⟩, ⟨fun _ => rfl, fun _ => rfl, fun _ => ⟨rfl, rfl⟩, fun _ => rfl⟩⟩
  case done =>
    rintro D xs X hD hS ⟨v, b1, o1, b2, _, hb, hz⟩ hKd
    rw [hS] at o1 b2
    have c1 := b1.cell
    have c2 := b2.cell
    have hcells := hKd
    gi_wp2
    gi_region
    all_goals gi_wp2
    refine ⟨by simp, .inl ⟨_, _, rfl, run_takeDeferred (w := X.drew) hKd, ?_⟩⟩
    have hg := grownBy_putObj' X.drew D (.deferred none)
    have hD2 : D < X.drew.heap.size := (Array.getElem?_eq_some_iff.1 hKd).1
    refine ⟨.tuple #[v, .int .i64 (took (recs l) : Nat)], by simp [results, Tryz.results42, go_sem], v, rfl, ?_, ?_⟩
    · exact (OwnR.row (w := X.drew) o1 hg (fun r e => by cases e; exact ⟨_, hKd, rfl⟩)).more (by omega)
    · exact hb.drew.grown hg hb.size (fun k e => by cases e; omega)
  case stop =>
    rintro _ _ _ _ _ _ h _
    exact h.elim
theorem all_any (A : Option Addr) (c : Nat) (l : List UInt8) (W : World) (hbt : Bts W W.heap.size A l) (hl : l.length ≤ c) (hc : c ≤ maxLen) (hm : l.length ≤ 100000000) :
    Calls Tryz.prog 42 #[.slice A l.length c] W fun e w' => Alls W l e w' := callsIn_wide.1 (all_in A c l W hbt hl hc hm)
end Go.Proofs.YtidadjlhnlmfkaaGreatDoor
/- The document's Same at lists that are alike. Conditions: as stated. -/
namespace Go.Proofs.YtidadjlhnlmfkaaGreatDoor
set_option maxRecDepth 100000
open Go.RowKit Go
set_option maxHeartbeats 800000 in
theorem same_any (A1 A2 : Option Addr) (B c1 c2 : Nat) (ll : List (List UInt8)) (w : World) (h1 : Rws w B A1 ll) (h2 : Rws w B A2 ll) (hl : ll.length ≤ maxLen) :
    Calls Tryz.prog 16 #[.slice A1 ll.length c1, .slice A2 ll.length c2] w fun e w' => e = .returned (.bool true) ∧ Below w.heap.size w w' := by
  unfold maxLen at hl
  go_enter Tryz.func16, Tryz.ntmps16
  go_wp2_with fail
  go_loopw [13] (fun i wr => ∃ k j : Nat, k ≤ ll.length ∧ i = .int .i64 k ∧ wr = w.drewN j) (fun i _ => ll.length - (intOf i).toNat)
  case atStart => exact ⟨0, 0, Nat.zero_le _, rfl, rfl⟩
  case round =>
    obtain ⟨k, j, hk, rfl, rfl⟩ := hrel
    by_cases hlt : k < ll.length
    · obtain ⟨a1, D1, d1, rfl, _, e1, _, _, b1⟩ := (h1.drewN j).at_ hlt
      obtain ⟨a2, D2, d2, rfl, _, e2, _, _, b2⟩ := (h2.drewN j).at_ hlt
      generalize hw : w.drewN j = w1 at *
      have HW := Lib.hid hw
      clear hw
      generalize ll.getD k [] = r at *
      have s1 := fun n => run_str Tryz.prog Tryz.underlying26 Tryz.underlying5 Tryz.underlying9 d1 (b1.below (drewN_below w1 B n))
      have s2 := fun n => run_str Tryz.prog Tryz.underlying26 Tryz.underlying5 Tryz.underlying9 d2 (b2.below (drewN_below w1 B n))
      have x1 : (0 : Int) ≤ (k : Int) := by omega
      have x2 : (k : Int) < (ll.length : Int) := by omega
      clear b1 b2
      go_wp2_with fail
      go_quiet (fail)
      go_wp2_with fail
      go_roundw
      case rel => exact ⟨k + 1, j + nq, by omega, by go_num, by rw [← HW.out, World.drewN_drewN]⟩
      case measure => simp [intOf]; omega
    · obtain rfl : k = ll.length := by omega
      go_wp2_with fail
      go_ret
      exact ⟨rfl, drewN_below _ _ _⟩
end Go.Proofs.YtidadjlhnlmfkaaGreatDoor
