/- Numbers in memory; what may turn, told by a block and what lies there; the heap of lists in memory. Conditions: none. -/
import Derived.Test.YtkpolakdamiiiaaPsMath
import Derived.Test.YtkpolakdamiiiaaRgKey
import Derived.RangeFuncNested
import Derived.Stop.RegionWithIn
namespace Go.Proofs.Ytkpolakdamiiiaa
set_option maxRecDepth 100000
namespace Ps
open Go.RowKit Go
/-- what may turn: whatever q names. -/
structure Tk (q : Nat → Obj → Prop) (A B : World) : Prop where
  os : B.os = A.os
  tape : B.tape = A.tape
  output : B.output = A.output
  size : A.heap.size ≤ B.heap.size
  block : ∀ i o, A.heap[i]? = some o → ¬ q i o → B.heap[i]? = some o
section
variable {q q' : Nat → Obj → Prop} {A B C : World}
theorem Tk.refl (q : Nat → Obj → Prop) (A : World) : Tk q A A := ⟨rfl, rfl, rfl, Nat.le_refl _, fun _ _ h _ => h⟩
theorem Tk.trans (h : Tk q A B) (k : Tk q B C) : Tk q A C :=
  ⟨k.os.trans h.os, k.tape.trans h.tape, k.output.trans h.output, Nat.le_trans h.size k.size, fun i o hi hq => k.block i o (h.block i o hi hq) hq⟩
theorem Tk.mono (h : Tk q A B) (hq : ∀ i o, A.heap[i]? = some o → q i o → q' i o) : Tk q' A B := ⟨h.os, h.tape, h.output, h.size, fun i o hi hn => h.block i o hi (fun e => hn (hq i o hi e))⟩
theorem Tk.of_below (h : Below A.heap.size A B) : Tk q A B := ⟨h.os, h.tape, h.output, h.size, fun i _ hi _ => (h.block i (Array.getElem?_eq_some_iff.1 hi).1).trans hi⟩
theorem Tk.alk (h : Tk q A B) (k : Alk B C) : Tk q A C := h.trans ⟨k.2.1, k.2.2.1, k.2.2.2, by rw [k.1]; exact Nat.le_refl _, fun i o hi _ => by rw [k.1]; exact hi⟩
theorem Tk.drew (h : Tk q A B) : Tk q A B.drew := h.trans ⟨rfl, rfl, rfl, Nat.le_refl _, fun _ _ hi _ => hi⟩
theorem Tk.alloc (h : Tk q A B) (o : Obj) : Tk q A (B.alloc o) := h.trans (.of_below ((Below.refl _ B).alloc (Nat.le_refl _) o))
theorem Tk.grown {row : Option Nat} (h : A.grownBy B row) (hr : ∀ g o, row = some g → A.heap[g]? = some o → q g o) : Tk q A B :=
  ⟨h.os, h.tape, h.output, h.size, fun i o hi hn => (h.block i (Array.getElem?_eq_some_iff.1 hi).1 (fun e => hn (hr i o e.symm hi))).trans hi⟩
theorem Tk.setCell {x : Addr} (v : Value) (hr : ∀ o, A.heap[x.block]? = some o → q x.block o) : Tk q A (A.setCell x v) :=
  ⟨rfl, rfl, rfl, by simp [World.setCell], fun i o hi hn => (Below.heap_setCell A x v i (by rintro rfl; exact hn (hr o hi))).trans hi⟩
theorem Tk.blk {g : Nat} {t : TypeId} {cs : Array Value} (h : Tk q A B) (hb : BlkIs A g t cs) (hn : ¬ q g (.cells cs t (0, 0))) : BlkIs B g t cs := h.block g _ hb hn
theorem Tk.cell {x : Addr} {v : Value} (h : Tk q A B) (hc : A.cell? x = some v) (hn : ∀ o, A.heap[x.block]? = some o → ¬ q x.block o) : B.cell? x = some v := by
  have hl : x.block < A.heap.size := World.block_lt_of_cell? A _ hc
  have hb := h.block x.block _ (Array.getElem?_eq_getElem hl) (hn _ (Array.getElem?_eq_getElem hl))
  rw [← Array.getElem?_eq_getElem hl] at hb
  unfold World.cell? at hc ⊢
  rw [hb]
  exact hc
theorem Tk.below {N : Nat} (h : Tk q A B) (hN : N ≤ A.heap.size) (hn : ∀ i o, i < N → ¬ q i o) : Below N A B :=
  ⟨h.os, h.tape, h.output, h.size, fun i hi => by
    have hl : i < A.heap.size := by omega
    rw [h.block i _ (Array.getElem?_eq_getElem hl) (hn i _ hi), Array.getElem?_eq_getElem hl]⟩
end
/-- numbers as cells. -/
def iv (l : List Int) : List Value := l.map (Value.int .i64)
theorem iv_length (l : List Int) : (iv l).length = l.length := by simp [iv]
theorem iv_get {l : List Int} {k : Nat} (h : k < l.length) : (iv l)[k]? = some (.int .i64 (l.getD k 0)) := by simp [iv, List.getD, h]
theorem iv_append (a b : List Int) : iv (a ++ b) = iv a ++ iv b := by simp [iv]
theorem iv_take (l : List Int) (k : Nat) : (iv l).take k = iv (l.take k) := by simp [iv]
theorem iv_drop (l : List Int) (k : Nat) : (iv l).drop k = iv (l.drop k) := by simp [iv]
theorem iv_one {l : List Int} : ∀ u ∈ iv l, u.oneCell' = true := by
  intro u hu
  obtain ⟨x, _, rfl⟩ := List.mem_map.1 hu
  rfl
/-- the slice at A reads as these numbers, below block D. -/
def Ints (w : World) (D : Nat) (A : Option Addr) (l : List Int) : Prop := Cs w D A (iv l)
section
variable {w w' : World} {D D' : Nat} {A : Option Addr} {l : List Int}
theorem Ints.at_ (h : Ints w D A l) {k : Nat} (hk : k < l.length) : ∃ ad, A = some ad ∧ ad.block < D ∧ w.cell? (ad.add k) = some (.int .i64 (l.getD k 0)) := h k _ (iv_get hk)
theorem Ints.below (h : Ints w D A l) (hb : Below D w w') : Ints w' D A l := Cs.below h hb
theorem Ints.more (h : Ints w D A l) (hD : D ≤ D') : Ints w D' A l := Cs.more h hD
theorem Ints.drop (h : Ints w D A l) {k : Nat} (c : Nat) (hc : l.length ≤ c) : Ints w D (if c = k then A else A.map (·.add (k * 1))) (l.drop k) := by
  unfold Ints; rw [← iv_drop]; exact Cs.drop h c (by rw [iv_length]; exact hc)
theorem Ints.take (h : Ints w D A l) (k : Nat) : Ints w D A (l.take k) := by unfold Ints; rw [← iv_take]; exact Cs.take h k
theorem cell_is {w : World} {a : Addr} {v : Value} (h : w.cell? a = some v) : ∃ cs t z, w.heap[a.block]? = some (.cells cs t z) := by
  unfold World.cell? at h
  rcases ho : w.heap[a.block]? with _ | o
  · simp [ho] at h
  · rw [ho] at h
    cases o <;> simp_all
theorem Cs.tk {q : Nat → Obj → Prop} {xs : List Value} (h : Cs w D A xs) (k : Tk q w w') (hq : ∀ i cs t z, i < D → ¬ q i (.cells cs t z)) : Cs w' D A xs := fun j u hj => by
  obtain ⟨ad, e, hb, hc⟩ := h j u hj
  refine ⟨ad, e, hb, k.cell hc (fun o ho => ?_)⟩
  obtain ⟨cs, t, z, h1⟩ := cell_is hc
  rw [h1] at ho
  injection ho with ho
  subst ho
  exact hq _ cs t z (by rw [blk_add]; exact hb)
theorem Ints.tk {q : Nat → Obj → Prop} (h : Ints w D A l) (k : Tk q w w') (hq : ∀ i cs t z, i < D → ¬ q i (.cells cs t z)) : Ints w' D A l := Cs.tk h k hq
end
/-- what the heap's row holds. -/
structure Rw (w : World) (D : Nat) (v : Value) (H : List E) : Prop where
  own : w.ownsRow 0 22 1 v H.length (H.map E.val)
  dat : ∀ e ∈ H, Ints w D e.a e.l ∧ e.l.length ≤ e.c
  good : Good H
/-- the heap of lists in memory: its box is block P, its row's block one of p; the lists lie below D. -/
structure Hp (w : World) (D P : Nat) (p : Nat → Prop) (H : List E) : Prop where
  ex : ∃ v, BlkIs w P 44 #[v] ∧ Rw w D v H ∧ ∀ g, v.ownBlock = some g → p g
  dp : D ≤ P
  pd : ∀ g, p g → D ≤ g
/-- what the heap turns. -/
def hq (p : Nat → Prop) (P : Nat) (i : Nat) (o : Obj) : Prop := (i = P ∨ p i) ∧ ∃ cs t z, o = .cells cs t z ∧ t ≠ 2
section
variable {w w' : World} {D P : Nat} {p : Nat → Prop} {H : List E}
theorem own_tk {q : Nat → Obj → Prop} {N n : Nat} {e : TypeId} {v : Value} {xs : List Value} (h : w.ownsRow N e 1 v n xs) (k : Tk q w w') (hq : ∀ g cs, v.ownBlock = some g → ¬ q g (.cells cs e (0, 0))) : w'.ownsRow N e 1 v n xs := by
  refine ⟨h.1, ?_⟩
  rcases h.2 with hn | ⟨g, cap, cur, rfl, hn, hh, rest⟩
  · exact .inl hn
  · exact .inr ⟨g, cap, cur, rfl, hn, k.block g _ hh (hq g cur rfl), rest⟩
theorem Rw.tk {q : Nat → Obj → Prop} {v : Value} (h : Rw w D v H) (k : Tk q w w') (hp : ∀ g cs, v.ownBlock = some g → ¬ q g (.cells cs 22 (0, 0))) (hD : ∀ i cs t z, i < D → ¬ q i (.cells cs t z)) : Rw w' D v H :=
  ⟨own_tk h.own k hp, fun e he => ⟨(h.dat e he).1.tk k hD, (h.dat e he).2⟩, h.good⟩
theorem Hp.good (h : Hp w D P p H) : Good H := by obtain ⟨v, _, h, _⟩ := h.ex; exact h.good
theorem Hp.tk {q : Nat → Obj → Prop} (h : Hp w D P p H) (k : Tk q w w') (hP : ∀ v, ¬ q P (.cells #[v] 44 (0, 0))) (hp : ∀ g cs, p g → ¬ q g (.cells cs 22 (0, 0))) (hD : ∀ i cs t z, i < D → ¬ q i (.cells cs t z)) : Hp w' D P p H := by
  obtain ⟨⟨v, h1, h2, h3⟩, h5, h6⟩ := h
  exact ⟨⟨v, k.blk h1 (hP v), h2.tk k (fun g cs hg => hp g cs (h3 g hg)) hD, h3⟩, h5, h6⟩
theorem Hp.alk (h : Hp w D P p H) (k : Alk w w') : Hp w' D P p H :=
  h.tk (q := fun _ _ => False) ((Tk.refl _ w).alk k) (fun _ h => h) (fun _ _ _ h => h) (fun _ _ _ _ _ h => h)
theorem Hp.grow (h : Hp w D P p H) (k : Below w.heap.size w w') : Hp w' D P p H :=
  h.tk (q := fun _ _ => False) (Tk.of_below k) (fun _ h => h) (fun _ _ _ h => h) (fun _ _ _ _ _ h => h)
theorem hq_low (h : Hp w D P p H) {i : Nat} {o : Obj} (hi : i < D) : ¬ hq p P i o := fun e => by
  rcases e.1 with e | e
  · have := h.dp; omega
  · have := h.pd i e; omega
theorem own_at {N n c : Nat} {A : Option Addr} {e : TypeId} {xs : List Value} (h : w.ownsRow N e 1 (.slice A n c) n xs) {k : Nat} (hk : k < n) : ∃ g u, A = some ⟨g, 0, none⟩ ∧ xs[k]? = some u ∧ w.cell? ⟨g, k, none⟩ = some u ∧ w.frozen? ⟨g, k, none⟩ = false ∧ g < w.heap.size ∧ ∃ cur, BlkIs w g e cur := by
  rcases h.2 with ⟨_, h0⟩ | ⟨g, cap, cur, hv, _, hh, h1, h2, h3, h4⟩
  · omega
  · injection hv with hv1 _ _
    have hkx : k < xs.length := by rw [h.1]; omega
    refine ⟨g, xs[k], hv1, List.getElem?_eq_getElem hkx, ?_, by simp [World.frozen?, hh], (Array.getElem?_eq_some_iff.1 hh).1, cur, hh⟩
    rw [cell_of_row w g k cur e (0, 0) hh, ← Array.getElem?_toList, ← List.getElem?_eq_getElem hkx]
    rw [← h4, List.getElem?_take_of_lt (by omega)]
theorem own_put {N n c : Nat} {g : Nat} {e : TypeId} {xs : List Value} (h : w.ownsRow N e 1 (.slice (some ⟨g, 0, none⟩) n c) n xs) (k : Nat) (u : Value) : (w.setCell ⟨g, k, none⟩ u).ownsRow N e 1 (.slice (some ⟨g, 0, none⟩) n c) n (xs.set k u) := by
  refine ⟨by rw [List.length_set]; exact h.1, .inr ?_⟩
  rcases h.2 with ⟨hv, _⟩ | ⟨g', cap, cur, hv, hb, hh, h1, h2, h3, h4⟩
  · injection hv with hv; cases hv
  · injection hv with hv1 hv2 hv3
    injection hv1 with hv1
    injection hv1 with hv1
    subst hv1; subst hv3
    exact ⟨g, c, cur.setIfInBounds k u, rfl, hb, BlkIs.put hh k u, h1, h2, by rw [Array.size_setIfInBounds]; exact h3, by rw [Array.toList_setIfInBounds, List.take_set, h4]⟩
theorem own_pop {N n c : Nat} {A : Option Addr} {e : TypeId} {xs : List Value} {u : Value} (h : w.ownsRow N e 1 (.slice A (n + 1) c) (n + 1) (xs ++ [u])) : w.ownsRow N e 1 (.slice A n c) n xs := by
  have hl : xs.length = n := by have := h.1; simp at this; omega
  refine ⟨by omega, .inr ?_⟩
  rcases h.2 with ⟨_, h0⟩ | ⟨g, cap, cur, hv, hb, hh, h1, h2, h3, h4⟩
  · omega
  · injection hv with hv1 hv2 hv3
    subst hv1; subst hv3
    refine ⟨g, c, cur, rfl, hb, hh, by omega, h2, h3, ?_⟩
    have := congrArg (List.take n) h4
    rw [List.take_take, Nat.min_eq_left (by omega), List.take_left' hl] at this
    rw [Nat.mul_one]
    exact this
end
theorem info2 : (Try.prog.info? 2).map (fun i => (i.zero, i.size, i.bytes)) = some (some (.int .i64 0), 1, 8) := by kernel_rfl
theorem infoS : (Try.prog.info? 22).map (fun i => (i.zero, i.size, i.bytes)) = some (some (.slice none 0 0), 1, 24) := by kernel_rfl
end Ps
end Go.Proofs.Ytkpolakdamiiiaa
