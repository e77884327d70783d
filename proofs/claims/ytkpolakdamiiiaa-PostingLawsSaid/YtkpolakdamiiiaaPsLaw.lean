/- A loop over an iterator that writes cells of its own between two rounds: what the iterator may turn is not the loop's, what the loop may turn is not the iterator's. Conditions: as stated. -/
import Derived.Test.YtkpolakdamiiiaaPsSkip
namespace Go.Proofs.Ytkpolakdamiiiaa
set_option maxRecDepth 100000
namespace Ps
open Go.RowKit Go
/-- a row of numbers. -/
def isI (o : Obj) : Prop := ∃ cs z, o = .cells cs 2 z
/-- what the iterator may turn: what was made in its call, but no rows of numbers. -/
def iq (b : Nat) (i : Nat) (o : Obj) : Prop := b ≤ i ∧ ¬ isI o
/-- what a round may turn: cells that were there when the loop began, and rows of numbers, not below D. -/
def bq (W0 D : Nat) (i : Nat) (o : Obj) : Prop := D ≤ i ∧ o.isCells = true ∧ (i < W0 ∨ isI o)
/-- the same, as the iterator sees it: the loop's own records turn too. -/
def rq (W0 D b : Nat) (i : Nat) (o : Obj) : Prop := (o.isCells = false ∧ i < b) ∨ bq W0 D i o
/-- what the loop's state bears: whatever was made since and is no row of numbers. -/
def aq (W0 : Nat) (i : Nat) (o : Obj) : Prop := W0 ≤ i ∧ ¬ isI o
/-- an iterator's contract: each element is handed to a round that goes on. -/
def GivesW {α : Type} (n : Nat) (gf : Nat) (lb : Array Value) (enc : α → Array Value) (D : Nat) (S : List α → Prop) (N : Nat) (w : World) : Prop :=
  ∀ (l W0 : Nat) (J : List α → World → Prop) (W : World), w.heap.size ≤ W0 → W0 ≤ W.heap.size → Below w.heap.size w W → (∀ s A B, J s A → Tk (iq W.heap.size) A B → J s B) →
    (∀ pre x X, J pre X → pre.length < N → YieldAt Fence.wide (n - 1) Try.prog l (enc x) X fun e Y => e = .returned (.bool true) ∧ J (pre ++ [x]) Y ∧ Tk (rq W0 D W.heap.size) X Y) → J [] W →
    CallsIn Fence.wide n Try.prog gf (#[.func (.yield l) #[] #[]] ++ lb) W fun e Y => (∃ v, e = .returned v) ∧ ∃ xs, S xs ∧ J xs Y
theorem put_aq {W0 l : Nat} {X : World} {o o' : Obj} (hl : X.heap[l]? = some o) (hW : W0 ≤ l) (ho : ¬ isI o) : Tk (aq W0) X (X.putObj l o') :=
  ⟨rfl, rfl, rfl, by simp, fun i u hi hn => by
    rcases Nat.decEq i l with h | h
    · exact (World.putObj_heap_other h).trans hi
    · subst h
      rw [hl] at hi
      injection hi with hi
      subst hi
      exact absurd ⟨hW, ho⟩ hn⟩
theorem put_rq {W0 D b l : Nat} {X : World} {o o' : Obj} (hl : X.heap[l]? = some o) (ho : o.isCells = false) (hb : l < b) : Tk (rq W0 D b) X (X.putObj l o') :=
  ⟨rfl, rfl, rfl, by simp, fun i u hi hn => by
    rcases Nat.decEq i l with h | h
    · exact (World.putObj_heap_other h).trans hi
    · subst h
      rw [hl] at hi
      injection hi with hi
      subst hi
      exact absurd (.inl ⟨ho, hb⟩) hn⟩
theorem notI {o : Obj} (h : o.isCells = false) : ¬ isI o := by
  rintro ⟨cs, z, rfl⟩
  cases h
theorem range_w {α : Type} {g : Operand} {ps : Array Tmp} {assign body : Code} {Q : Exit → Act → World → Prop} {a : Act} {w : World} {n : Nat}
    (h1 : 1 ≤ n) {gf : Nat} {lb : Array Value} (hg : a.eval g = .func (.func gf) #[] lb) (eg : ∀ args w, (callFunc gf args).run Try.prog w = .ok (.enter gf args) w)
    {enc : α → Array Value} {D : Nat} {S : List α → Prop} {N : Nat} {w0 : World} (hseq : GivesW (n - 1) gf lb enc D S N w0) (hb0 : Below w0.heap.size w0 w) (hps : ∀ x, (enc x).size = ps.size)
    (I : List α → World → Prop) (hI : ∀ s A B, I s A → Tk (aq w.heap.size) A B → I s B) (h0 : I [] w) (a₁ : α → Act)
    (hassign : ∀ (l : Nat) (x : α) (W : World) (K : Act → World → Prop), K (a₁ x) W → assign.wpIn (Fence.wide.inRound l) (n - 1 - 1) Try.prog (Exit.then K (fun _ _ _ => False)) { tmps := (ps.zip (enc x)).foldl (fun t (p, v) => t.setIfInBounds p v) a.tmps, defers := [] } W)
    (hbody : ∀ (l : Nat) (pre : List α) (x : α) (W : World), I pre W → w.heap.size ≤ W.heap.size → pre.length < N → body.wpIn (Fence.wide.inRound l) (n - 1 - 1) Try.prog (Exit.then (fun _ Y => Tk (bq w.heap.size D) W Y ∧ I (pre ++ [x]) Y) (fun _ _ _ => False)) (a₁ x) W)
    (hdone : ∀ (d : Nat) (xs : List α) (W : World), w.heap.size ≤ d → S xs → I xs W → W.heap[d]? = some (.deferred (some [])) → Q .normal { a with defers := { target := .collected d, args := #[] } :: a.defers } W) :
    (Code.rangeFunc g ps assign body).wpIn Fence.wide n Try.prog Q a w := by
  refine wpIn_rangeFunc fun fn hfn => ?_
  -- the loop's record, as it stands in a state
  obtain ⟨R, hR⟩ : ∃ R : LoopState → Obj, R = fun st => .loop { state := st, pending := none, fn, tmps := a.tmps, params := ps, assign, body, defers := w.heap.size } := ⟨_, rfl⟩
  obtain ⟨d, hd⟩ : ∃ d, w.heap.size = d := ⟨_, rfl⟩
  obtain ⟨X, hX⟩ : ∃ X, (w.alloc (.deferred (some []))).alloc (R .ready) = X := ⟨_, rfl⟩
  have hXd : X.heap[d]? = some (.deferred (some [])) := by
    rw [← hX, ← hd]
    exact (Below.heap_alloc _ _ _ (by simp)).trans (World.alloc_heap_new w _)
  have hXl : X.heap[d + 1]? = some (R .ready) := by
    rw [← hX, ← hd]
    have := World.alloc_heap_new (w.alloc (.deferred (some []))) (R .ready)
    rwa [World.size_alloc] at this
  have hXs : d + 2 = X.heap.size := by rw [← hX, ← hd]; simp
  have tX : Tk (aq d) w X := by rw [← hX]; exact ((Tk.refl _ w).alloc _).alloc _
  have bX : Below w0.heap.size w0 X := hb0.trans (by rw [← hX]; exact (((Below.refl _ w).alloc (Nat.le_refl _) _).alloc (by simp) _).mono hb0.size)
  rw [hd] at hI hbody hdone
  have cR : ∀ st, (R st).isCells = false := fun st => by rw [hR]; rfl
  have cD : (Obj.deferred (some [])).isCells = false := rfl
  refine ⟨d + 1, [{ target := .collected d, args := #[] }], X, { target := .fn (.func gf) lb, args := #[.func (.yield (d + 1)) #[] #[]] }, X, gf, #[.func (.yield (d + 1)) #[] #[]] ++ lb, X, ?_, ?_, ?_, ?_, fun _ => h1, ?_⟩
  · rw [← hX, hR, ← hd]
    exact run_enterLoop_outer _ _ _ _ _
  · simp only [resolve, hg]
    simp [go_sem]
  · intro f' hf'
    simp [Target.leads] at hf'
    subst hf'
    trivial
  · simp [invoke, go_sem, eg]
  refine (hseq (d + 1) d (fun pre Y => I pre Y ∧ Y.heap[d + 1]? = some (R .ready) ∧ Y.heap[d]? = some (.deferred (some [])) ∧ d + 2 ≤ Y.heap.size) X (by rw [← hd]; exact hb0.size) (by omega) bX ?_ ?_ ⟨hI _ _ _ h0 tX, hXl, hXd, by omega⟩).mono ?_
  · rintro s A B ⟨q1, q2, q3, q4⟩ ht
    exact ⟨hI _ _ _ q1 (ht.mono fun i o _ hq => ⟨by have := hq.1; omega, hq.2⟩), ht.block _ _ q2 (fun hq => by have := hq.1; omega), ht.block _ _ q3 (fun hq => by have := hq.1; omega), by have := ht.size; omega⟩
  · rintro pre x Y ⟨q1, q2, q3, q4⟩ hlen
    have hy := run_yield (P := Try.prog) (args := enc x) (r := { state := .ready, pending := none, fn, tmps := a.tmps, params := ps, assign, body, defers := w.heap.size }) (by rw [q2, hR]) (hps x)
    refine ⟨fn, _, assign, body, hy, roundIn_of_wpIn hfn (hassign (d + 1) x Y _ ?_)⟩
    have hbr := run_beginRound (P := Try.prog) (r := { state := .ready, pending := none, fn, tmps := a.tmps, params := ps, assign, body, defers := w.heap.size }) (by rw [q2, hR]) rfl
    refine ⟨_, hbr, ?_⟩
    have hbusy : (Obj.loop { state := .busy, pending := none, fn, tmps := a.tmps, params := ps, assign, body, defers := w.heap.size }) = R .busy := by rw [hR]
    dsimp only
    rw [hbusy]
    have e1 : (Y.putObj (d + 1) (R .busy)).heap[d + 1]? = some (R .busy) := World.putObj_heap_same (Array.getElem?_eq_some_iff.1 q2).1
    have e2 : (Y.putObj (d + 1) (R .busy)).heap[d]? = some (.deferred (some [])) := (World.putObj_heap_other (by omega)).trans q3
    refine wpIn_mono (hbody (d + 1) pre x _ (hI _ _ _ q1 (put_aq q2 (by omega) (notI (cR _)))) (by simp; omega) hlen) ?_
    rintro e a3 Z hp
    cases e with
    | normal =>
      obtain ⟨tz, iz⟩ := hp
      have z1 : Z.heap[d + 1]? = some (R .busy) := tz.block _ _ e1 (fun hq => by have := hq.2.1; rw [cR] at this; cases this)
      have z2 : Z.heap[d]? = some (.deferred (some [])) := tz.block _ _ e2 (fun hq => by have := hq.2.1; rw [cD] at this; cases this)
      have hend := run_endRound (P := Try.prog) (r := { state := .busy, pending := none, fn, tmps := a.tmps, params := ps, assign, body, defers := w.heap.size }) none (by rw [z1, hR])
      have hrdy : (Obj.loop { state := .ready, pending := none, fn, tmps := a.tmps, params := ps, assign, body, defers := w.heap.size }) = R .ready := by rw [hR]
      refine ⟨_, _, hend, rfl, ⟨?_, ?_, ?_, ?_⟩, ?_⟩
      · exact hI _ _ _ iz (put_aq z1 (by omega) (notI (cR _)))
      · exact (World.putObj_heap_same (Array.getElem?_eq_some_iff.1 z1).1).trans (by rw [← hrdy]; rfl)
      · exact (World.putObj_heap_other (by omega)).trans z2
      · have h5 := tz.size
        simp at h5 ⊢
        omega
      · exact ((put_rq q2 (cR _) (by omega)).trans (tz.mono fun i o _ hq => .inr hq)).trans (put_rq z1 (cR _) (by omega))
    | _ => exact hp.elim
  · rintro e Y ⟨⟨v, rfl⟩, xs, hS, q1, q2, q3, q4⟩
    have hend := run_endLoop (P := Try.prog) (r := { state := .ready, pending := none, fn, tmps := a.tmps, params := ps, assign, body, defers := w.heap.size }) (by rw [q2, hR]) (by simp)
    exact ⟨none, _, hend, hdone d xs _ (Nat.le_refl _) hS (hI _ _ _ q1 (put_aq q2 (by omega) (notI (cR _)))) ((World.putObj_heap_other (by omega)).trans q3)⟩
end Ps
end Go.Proofs.Ytkpolakdamiiiaa
