/- What All's loop keeps. Conditions: as stated. -/
import Derived.Test.YtidadjlhnlmfkaaGreatDoorFlIter
import Derived.Test.YtidadjlhnlmfkaaGreatDoorFlRows
namespace Go.Proofs.YtidadjlhnlmfkaaGreatDoor
set_option maxRecDepth 100000
open Go.RowKit Go.Shelf Go
theorem OwnR.row {w w' : World} {N : Nat} {v : Value} {ll : List (List UInt8)} {row : Option Nat} (h : OwnR w N v ll) (hg : w.grownBy w' row) (hr : ∀ r, row = some r → ∃ o : Obj, w.heap[r]? = some o ∧ o.isCells = false) : OwnR w' N v ll := by
  have kept : ∀ {e : TypeId} {n : Nat} {u : Value} {xs : List Value}, w.ownsRow N e 1 u n xs → w'.ownsRow N e 1 u n xs := fun {e n u xs} h => by
    refine World.ownsRow.kept h hg ?_
    rcases h.2 with ⟨rfl, _⟩ | ⟨g, cap, cur, rfl, _, hh, _⟩
    · exact .inl rfl
    · refine .inr fun e' => ?_
      obtain ⟨o, ho, hc⟩ := hr g e'.symm
      rw [hh] at ho
      cases ho
      cases hc
  obtain ⟨vs, h1, h2, h3⟩ := h
  exact ⟨vs, kept h1, h2, fun k r u hr hu => kept (h3 k r u hr hu)⟩
/-- between two rounds: the two variables' boxes; what lay below N lies as it lay. -/
def AllI (W3 W : World) (N : Nat) (xs : List (RecAt W3 N)) (X : World) : Prop :=
  ∃ v, Boxed X N 22 v ∧ OwnR X W3.heap.size v (xs.map byR) ∧ Boxed X (N + 1) 3 (.int .i64 (took (xs.map byR) : Nat)) ∧ took (xs.map byR) ≤ 1000008 * xs.length ∧ Below N W X ∧ W3.heap.size ≤ X.heap.size
theorem allI_own (W3 W : World) (N : Nat) (h : N + 2 ≤ W3.heap.size) : OwnFrom W3.heap.size (AllI W3 W N) := by
  rintro xs X X' row ⟨v, h1, h2, h3, h4, h5, h6⟩ hg hr
  refine ⟨v, h1.kept hg (fun e => ?_), h2.row hg (fun r e => (hr r e).2), h3.kept hg (fun e => ?_), h4, h5.grown hg (by omega) (fun k e => by have := (hr k e).1; omega), Nat.le_trans h6 hg.size⟩
  · have := (hr N e.symm).1
    omega
  · have := (hr (N + 1) e.symm).1
    omega
theorem allI_nil (W3 W : World) (N : Nat) (h1 : Boxed W3 N 22 (.slice none 0 0)) (h2 : Boxed W3 (N + 1) 3 (.int .i64 0)) (h3 : Below N W W3) : AllI W3 W N [] W3 :=
  ⟨_, h1, OwnR.nil _ _, h2, by simp [took], h3, Nat.le_refl _⟩
theorem count_set (L : List Bool) : ∀ i, L.getD i true = false → (L.set i true).count false + 1 = L.count false := by
  induction L with
  | nil => intro i h; simp at h
  | cons b L ih =>
    intro i h
    cases i with
    | zero =>
      simp at h
      subst h
      simp
    | succ i =>
      have := ih i (by simpa using h)
      cases b <;> simp <;> omega
theorem any_inv {F : Fence} {n : Nat} {P : Program} {ops : Array Oper} {Q : Exit → Act → World → Prop} (I : Array Bool → Act → World → Prop)
    (hstep : ∀ L a w i o, I L a w → ops[i]? = some o → L.getD i true = false → (∀ e ∈ o.after, Region.binds .any e = true → L.getD e.on false = true) → wpOpIn F n P ops Q i (I (L.setIfInBounds i true)) a w)
    (hend : ∀ L a w, I L a w → L.size = ops.size → Region.ready .any ops L = [] → Q .normal a w) :
    ∀ (fuel : Nat) (L : Array Bool) (a : Act) (w : World), L.toList.count false ≤ fuel → L.size = ops.size → I L a w → wpAnyIn F n P .any ops Q fuel L a w := by
  intro fuel
  induction fuel with
  | zero =>
    intro L a w hc hs hI
    have hr : Region.ready .any ops L = [] := by
      cases h : Region.ready .any ops L with
      | nil => rfl
      | cons i r =>
        have hi : i ∈ Region.ready .any ops L := by rw [h]; simp
        obtain ⟨h1, _⟩ := mem_ready.1 hi
        have := count_set L.toList i (by simpa [List.getD, Array.getD_eq_getD_getElem?] using h1)
        omega
    exact ⟨hr, hend L a w hI hs hr⟩
  | succ fuel ih =>
    intro L a w hc hs hI
    refine ⟨fun hr => hend L a w hI hs hr, fun i hi => ?_⟩
    obtain ⟨h1, o, ho, h2⟩ := mem_ready.1 hi
    refine wpOpIn_mono (fun a' w' h => ih _ a' w' ?_ (by simpa using hs) h) (hstep L a w i o hI ho h1 h2)
    have := count_set L.toList i (by simpa [List.getD, Array.getD_eq_getD_getElem?] using h1)
    simp only [Array.toList_setIfInBounds]
    omega
theorem region_inv {F : Fence} {n : Nat} {P : Program} {id : Nat} {ops : Array Oper} {Q : Exit → Act → World → Prop} {a : Act} {w : World} (hm : P.follows .mixedOrders = true) (I : Array Bool → Act → World → Prop)
    (h0 : ∀ w1, w1.heap = w.heap → w1.os = w.os → w1.tape = w.tape → w1.output = w.output → I (Array.replicate ops.size false) a w1)
    (hstep : ∀ L a w i o, I L a w → ops[i]? = some o → L.getD i true = false → (∀ e ∈ o.after, Region.binds .any e = true → L.getD e.on false = true) → wpOpIn F n P ops Q i (I (L.setIfInBounds i true)) a w)
    (hend : ∀ L a w, I L a w → L.size = ops.size → Region.ready .any ops L = [] → Q .normal a w) : (Code.region id ops true).wpIn F n P Q a w :=
  wpIn_region_any hm (any_inv I hstep hend ops.size _ a _ (by simp) (by simp) (h0 _ rfl rfl rfl rfl))
theorem not_ready {ops : Array Oper} {L : Array Bool} (hr : Region.ready .any ops L = []) (i : Nat) (o : Oper) (ho : ops[i]? = some o) (hd : ∀ e ∈ o.after, Region.binds .any e = true → L.getD e.on false = true) : L.getD i true = true := by
  cases h : L.getD i true with
  | true => rfl
  | false =>
    have : i ∈ Region.ready .any ops L := mem_ready.2 ⟨h, o, ho, hd⟩
    rw [hr] at this
    cases this
theorem wpIn_app22 {F : Fence} {n : Nat} {w : World} {o : Oper} {a : Act} {K : Act → World → Prop} {Q : Exit → Act → World → Prop} (s x : Operand)
    (ho : o.op = .call { callee := .builtin .append, args := #[s, x], argTypes := #[22, 22] })
    (N : Nat) (v : Value) (ll : List (List UInt8)) (hs : a.eval s = v) (hown : OwnR w N v ll)
    (g c : Nat) (u : Value) (r : List UInt8) (hx : a.eval x = .slice (some ⟨g, 0, none⟩) 1 c) (hc : w.cell? ⟨g, 0, none⟩ = some u) (hu : Own5 w N u r) (h63 : ll.length + 1 ≤ 1000000000) (hN : N ≤ w.heap.size)
    (h : ∀ v' w', OwnR w' N v' (ll ++ [r]) → w.grownBy w' v.ownBlock → K (a.put o.dst v') w') : o.wpIn F n Tryz.prog a w K Q := by
  obtain ⟨v', w', hrun, h2, h3⟩ := run_app22 o.type N v ll hown g c u r hc hu h63 hN
  unfold Oper.wpIn
  refine ⟨?_, ?_⟩
  · simp [Oper.about, ho, resolve, Target.leads, Sem.run_pure]
  · rw [Oper.semAt_plain F _ _ (by rw [ho]; intro c hc'; cases hc')]
    simp [execOp, ho, resolve, invoke, builtin, hs, hx, hrun, Result.andThen]
    exact h _ _ h2 h3
theorem OwnR.cells {w : World} {N : Nat} {v : Value} {ll : List (List UInt8)} (h : OwnR w N v ll) : ∀ (j : Nat) (o : Obj), v.ownBlock = some j → w.heap[j]? = some o → o.isCells = true := by
  obtain ⟨vs, h1, _⟩ := h
  intro j o hj ho
  rcases h1.2 with ⟨rfl, _⟩ | ⟨g, cap, cur, rfl, _, hh, _⟩
  · simp [Value.ownBlock] at hj
  · obtain rfl : g = j := by simpa [Value.ownBlock] using hj
    rw [hh] at ho
    cases ho
    rfl
theorem keeps_below {B : Nat} {X X' : World} (h : Below X.heap.size X X') : KeepsFrom B X X' :=
  ⟨h.size, fun k _ _ hk _ => (h.block k (Array.getElem?_eq_some_iff.1 hk).1).trans hk⟩
/-- a box of another type is no row of v. -/
theorem OwnR.not_box {w : World} {N B : Nat} {t : TypeId} {v u : Value} {ll : List (List UInt8)} (h : OwnR w N v ll) (hb : Boxed w B t u) (ht : t ≠ 26) : some B ≠ v.ownBlock := by
  obtain ⟨vs, h1, _⟩ := h
  exact hb.not_row ht h1
theorem OwnR.set {w : World} {N B : Nat} {t : TypeId} {v u u' : Value} {ll : List (List UInt8)} (h : OwnR w N v ll) (hb : Boxed w B t u) (h1 : t ≠ 26) (h2 : t ≠ 5) : OwnR (w.setCell ⟨B, 0, none⟩ u') N v ll := by
  obtain ⟨vs, g1, g2, g3⟩ := h
  have kept : ∀ {e : TypeId} {n : Nat} {x : Value} {xs : List Value}, t ≠ e → w.ownsRow N e 1 x n xs → (w.setCell ⟨B, 0, none⟩ u').ownsRow N e 1 x n xs := fun hne h =>
    World.ownsRow.kept h (grownBy_setCell' w B u') (.inr (hb.not_row hne h).symm)
  exact ⟨vs, kept h1 g1, g2, fun k r x hr hx => kept h2 (g3 k r x hr hx)⟩
theorem Boxed.far {w : World} {B B' : Nat} {t : TypeId} {v : Value} (h : Boxed w B t v) (hne : B ≠ B') (u : Value) : Boxed (w.setCell ⟨B', 0, none⟩ u) B t v := h.kept (grownBy_setCell' w B' u) (fun e => hne (by injection e))
end Go.Proofs.YtidadjlhnlmfkaaGreatDoor
