/- Blocks known whole, what may have turned, regions that read and end in one write: words for the disk's calls. Conditions: none. -/
import Derived.Test.YtkpolakdamiiiaaFlMem
import Derived.Test.YtkpolakdamiiiaaFlHeld
namespace Go.Proofs.Ytkpolakdamiiiaa
set_option maxRecDepth 100000
open Go.RowKit Go
/-- Block g of W is these cells of type t, and none is frozen. -/
def BlkIs (W : World) (g : Nat) (t : TypeId) (cs : Array Value) : Prop := W.heap[g]? = some (.cells cs t (0, 0))
theorem BlkIs.cell {W : World} {g : Nat} {t : TypeId} {cs : Array Value} (h : BlkIs W g t cs) (i : Nat) : W.cell? ⟨g, i, none⟩ = cs[i]? := cell_of_row W g i cs t (0, 0) h
theorem BlkIs.froz {W : World} {g : Nat} {t : TypeId} {cs : Array Value} (h : BlkIs W g t cs) (i : Nat) : W.frozen? ⟨g, i, none⟩ = false := by
  unfold BlkIs at h
  simp [World.frozen?, h]
/-- W1 is W but for what has been drawn. -/
def Alk (W W1 : World) : Prop := W1.heap = W.heap ∧ W1.os = W.os ∧ W1.tape = W.tape ∧ W1.output = W.output
theorem Alk.blk {W W1 : World} (h : Alk W W1) {g : Nat} {t : TypeId} {cs : Array Value} (hb : BlkIs W g t cs) : BlkIs W1 g t cs := by unfold BlkIs; rw [h.1]; exact hb
theorem still_tail {P : Program} {id : Nat} {Q : Exit → Act → World → Prop} {a : Act} {w : World} {l : List Oper} (n : Nat) (hm : P.follows .mixedOrders = true) (hB : Region.lexTailB .any l.toArray n = true)
    (h : ∀ w1, Alk w w1 → wpStill P l.toArray w1 (fun a' => wpList P l.toArray Q (l.drop n) a' w1) (l.take n) a) : (Code.region id l.toArray true).wp P Q a w :=
  wp_region_still_tail n hm hB (h _ ⟨rfl, rfl, rfl, rfl⟩)
/-- What may have turned: the blocks of p, and new ones. -/
structure Tn (p : Nat → Prop) (W W' : World) : Prop where
  os : W'.os = W.os
  tape : W'.tape = W.tape
  output : W'.output = W.output
  size : W.heap.size ≤ W'.heap.size
  block : ∀ i, i < W.heap.size → ¬ p i → W'.heap[i]? = W.heap[i]?
theorem Tn.refl (p : Nat → Prop) (W : World) : Tn p W W := ⟨rfl, rfl, rfl, Nat.le_refl _, fun _ _ _ => rfl⟩
theorem Tn.trans {p : Nat → Prop} {a b c : World} (h : Tn p a b) (k : Tn p b c) : Tn p a c :=
  ⟨k.os.trans h.os, k.tape.trans h.tape, k.output.trans h.output, Nat.le_trans h.size k.size, fun i hi hp => (k.block i (Nat.lt_of_lt_of_le hi h.size) hp).trans (h.block i hi hp)⟩
theorem Tn.alk {p : Nat → Prop} {a b c : World} (h : Tn p a b) (k : Alk b c) : Tn p a c :=
  h.trans ⟨k.2.1, k.2.2.1, k.2.2.2, by rw [k.1]; exact Nat.le_refl _, fun i _ _ => by rw [k.1]⟩
theorem Tn.alloc {p : Nat → Prop} {a b : World} (h : Tn p a b) (o : Obj) : Tn p a (b.alloc o) :=
  h.trans ⟨rfl, rfl, rfl, by simp, fun i hi _ => Below.heap_alloc b o i hi⟩
theorem Tn.setCell {p : Nat → Prop} {a b : World} (h : Tn p a b) {x : Addr} (hx : p x.block ∨ a.heap.size ≤ x.block) (v : Value) : Tn p a (b.setCell x v) :=
  ⟨h.os, h.tape, h.output, by have := h.size; simpa [World.setCell] using this, fun i hi hp => (Below.heap_setCell b x v i (by
    rintro rfl
    rcases hx with hx | hx
    · exact hp hx
    · omega)).trans (h.block i hi hp)⟩
theorem Tn.grown {p : Nat → Prop} {a b c : World} (h : Tn p a b) {row : Option Nat} (k : b.grownBy c row) (hr : ∀ g, row = some g → p g ∨ a.heap.size ≤ g) : Tn p a c :=
  ⟨k.os.trans h.os, k.tape.trans h.tape, k.output.trans h.output, Nat.le_trans h.size k.size, fun i hi hp => (k.block i (Nat.lt_of_lt_of_le hi h.size) (fun e => by
    rcases hr i e.symm with hx | hx
    · exact hp hx
    · omega)).trans (h.block i hi hp)⟩
theorem Tn.mono {p q : Nat → Prop} {a b : World} (h : Tn p a b) (hpq : ∀ i, i < a.heap.size → p i → q i) : Tn q a b :=
  ⟨h.os, h.tape, h.output, h.size, fun i hi hq => h.block i hi (fun hp => hq (hpq i hi hp))⟩
theorem Tn.below {p : Nat → Prop} {a b : World} (h : Tn p a b) {N : Nat} (hN : N ≤ a.heap.size) (hp : ∀ i, i < N → ¬ p i) : Below N a b :=
  ⟨h.os, h.tape, h.output, h.size, fun i hi => h.block i (by omega) (hp i hi)⟩
theorem Tn.of_below {p : Nat → Prop} {a b : World} (h : Below a.heap.size a b) : Tn p a b := ⟨h.os, h.tape, h.output, h.size, fun i hi _ => h.block i hi⟩
theorem BlkIs.lt {W : World} {g : Nat} {t : TypeId} {cs : Array Value} (h : BlkIs W g t cs) : g < W.heap.size := (Array.getElem?_eq_some_iff.1 h).1
theorem BlkIs.new (W : World) (t : TypeId) (cs : Array Value) : BlkIs (W.alloc (.cells cs t)) W.heap.size t cs := heap_alloc_new W _
theorem BlkIs.alloc {W : World} {g : Nat} {t : TypeId} {cs : Array Value} (h : BlkIs W g t cs) (o : Obj) : BlkIs (W.alloc o) g t cs := (Below.heap_alloc W o g h.lt).trans h
theorem BlkIs.put {W : World} {g : Nat} {t : TypeId} {cs : Array Value} (h : BlkIs W g t cs) (i : Nat) (u : Value) : BlkIs (W.setCell ⟨g, i, none⟩ u) g t (cs.setIfInBounds i u) := by
  unfold BlkIs at h ⊢
  simp [World.setCell, Array.getElem?_modify, h]
theorem BlkIs.far {W : World} {g : Nat} {t : TypeId} {cs : Array Value} (h : BlkIs W g t cs) {x : Addr} (hx : g ≠ x.block) (u : Value) : BlkIs (W.setCell x u) g t cs := (Below.heap_setCell W x u g hx).trans h
theorem BlkIs.tn {p : Nat → Prop} {W W' : World} {g : Nat} {t : TypeId} {cs : Array Value} (h : BlkIs W g t cs) (k : Tn p W W') (hp : ¬ p g) : BlkIs W' g t cs := (k.block g h.lt hp).trans h
theorem BlkIs.grown {W W' : World} {g : Nat} {t : TypeId} {cs : Array Value} {row : Option Nat} (h : BlkIs W g t cs) (hg : W.grownBy W' row) (hr : row ≠ some g) : BlkIs W' g t cs := (hg.block g h.lt (fun e => hr e.symm)).trans h
/-- a map's block. -/
theorem Held.lt {w : World} {P : Program} {k : TypeId} {b n : Nat} {D : DataW Value} (h : Held w P k b n D) : b < w.heap.size := World.ownsMap.lt h
theorem Held.same {w w' : World} {P : Program} {k : TypeId} {b n : Nat} {D : DataW Value} (h : Held w P k b n D) (hb : w'.heap[b]? = w.heap[b]?) : Held w' P k b n D := by
  obtain ⟨es, clock, h1, h2, h3, h4⟩ := h
  exact ⟨es, clock, hb.trans h1, h2, h3, h4⟩
theorem Held.tn {p : Nat → Prop} {w w' : World} {P : Program} {k : TypeId} {b n : Nat} {D : DataW Value} (h : Held w P k b n D) (hk : Tn p w w') (hp : ¬ p b) : Held w' P k b n D := h.same (hk.block b h.lt hp)
theorem Held.not_blk {w : World} {P : Program} {k : TypeId} {b n : Nat} {D : DataW Value} (h : Held w P k b n D) {g : Nat} {t : TypeId} {cs : Array Value} (hg : BlkIs w g t cs) : b ≠ g := by
  rintro rfl
  obtain ⟨es, clock, h1, _⟩ := h
  unfold BlkIs at hg
  rw [h1] at hg
  cases hg
end Go.Proofs.Ytkpolakdamiiiaa
