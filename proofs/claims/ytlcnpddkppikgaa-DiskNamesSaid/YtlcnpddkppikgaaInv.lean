/- A region in a round of a loop, whatever order its operations come up in: by one invariant on what has been done. Conditions: none. -/
import Derived.Test.YtlcnpddkppikgaaIt
namespace Go.Proofs.Ytlcnpddkppikgaa
open Go.RowKit Go.Shelf Go
theorem count_set (L : List Bool) : ∀ i, L.getD i true = false → (L.set i true).count false + 1 = L.count false := by
  induction L with
  | nil => intro i h; simp at h
  | cons b L ih =>
    intro i h
    cases i with
    | zero =>
      simp at h
      subst h
      simp
    | succ i =>
      have := ih i (by simpa using h)
      cases b <;> simp <;> omega
theorem any_inv {F : Fence} {n : Nat} {P : Program} {ops : Array Oper} {Q : Exit → Act → World → Prop} (I : Array Bool → Act → World → Prop)
    (hstep : ∀ L a w i o, I L a w → ops[i]? = some o → L.getD i true = false → (∀ e ∈ o.after, Region.binds .any e = true → L.getD e.on false = true) → wpOpIn F n P ops Q i (I (L.setIfInBounds i true)) a w)
    (hend : ∀ L a w, I L a w → L.size = ops.size → Region.ready .any ops L = [] → Q .normal a w) :
    ∀ (fuel : Nat) (L : Array Bool) (a : Act) (w : World), L.toList.count false ≤ fuel → L.size = ops.size → I L a w → wpAnyIn F n P .any ops Q fuel L a w := by
  intro fuel
  induction fuel with
  | zero =>
    intro L a w hc hs hI
    have hr : Region.ready .any ops L = [] := by
      cases h : Region.ready .any ops L with
      | nil => rfl
      | cons i r =>
        have hi : i ∈ Region.ready .any ops L := by rw [h]; simp
        obtain ⟨h1, _⟩ := mem_ready.1 hi
        have := count_set L.toList i (by simpa [List.getD, Array.getD_eq_getD_getElem?] using h1)
        omega
    exact ⟨hr, hend L a w hI hs hr⟩
  | succ fuel ih =>
    intro L a w hc hs hI
    refine ⟨fun hr => hend L a w hI hs hr, fun i hi => ?_⟩
    obtain ⟨h1, o, ho, h2⟩ := mem_ready.1 hi
    refine wpOpIn_mono (fun a' w' h => ih _ a' w' ?_ (by simpa using hs) h) (hstep L a w i o hI ho h1 h2)
    have := count_set L.toList i (by simpa [List.getD, Array.getD_eq_getD_getElem?] using h1)
    simp only [Array.toList_setIfInBounds]
    omega
theorem region_inv {F : Fence} {n : Nat} {P : Program} {id : Nat} {ops : Array Oper} {Q : Exit → Act → World → Prop} {a : Act} {w : World} (hm : P.follows .mixedOrders = true) (I : Array Bool → Act → World → Prop)
    (h0 : ∀ w1, Alk w w1 → I (Array.replicate ops.size false) a w1)
    (hstep : ∀ L a w i o, I L a w → ops[i]? = some o → L.getD i true = false → (∀ e ∈ o.after, Region.binds .any e = true → L.getD e.on false = true) → wpOpIn F n P ops Q i (I (L.setIfInBounds i true)) a w)
    (hend : ∀ L a w, I L a w → L.size = ops.size → Region.ready .any ops L = [] → Q .normal a w) : (Code.region id ops true).wpIn F n P Q a w :=
  wpIn_region_any hm (any_inv I hstep hend ops.size _ a _ (by simp) (by simp) (h0 _ ⟨rfl, rfl, rfl, rfl⟩))
theorem not_ready {ops : Array Oper} {L : Array Bool} (hr : Region.ready .any ops L = []) (i : Nat) (o : Oper) (ho : ops[i]? = some o) (hd : ∀ e ∈ o.after, Region.binds .any e = true → L.getD e.on false = true) : L.getD i true = true := by
  cases h : L.getD i true with
  | true => rfl
  | false =>
    have : i ∈ Region.ready .any ops L := mem_ready.2 ⟨h, o, ho, hd⟩
    rw [hr] at this
    cases this
end Go.Proofs.Ytlcnpddkppikgaa
