/- RgMany. Conditions: as stated at each. -/
import Derived.Deep.RegionHeld
import Derived.Test.YteapnkedpmcokaaGreatDoorRm18
/- A region in whatever order whose operations at hand each write one slot and leave what the others have found: the orders meet again. Conditions: as stated at each. -/
namespace Go.Proofs.YteapnkedpmcokaaGreatDoor
set_option maxRecDepth 100000
open Go.RowKit Go
def setT (t : Array Value) : List Nat → List Value → Array Value
  | s :: ss, x :: xs => setT (t.setIfInBounds s x) ss xs
  | _, _ => t
def setL (l : Array Bool) : List Nat → List Bool → Array Bool
  | i :: ws, b :: bs => setL (if b = true then l.setIfInBounds i true else l) ws bs
  | _, _ => l
theorem setT_comm : ∀ {ss : List Nat} {xs : List Value} {t : Array Value} {s : Nat} {v : Value}, s ∉ ss → (setT t ss xs).setIfInBounds s v = setT (t.setIfInBounds s v) ss xs
  | [], _, t, s, v, _ => by simp [setT]
  | s' :: ss, [], t, s, v, _ => by simp [setT]
  | s' :: ss, x :: xs, t, s, v, h => by
    have h1 : s' ≠ s := fun e => h (by simp [e])
    have h2 : s ∉ ss := fun e => h (by simp [e])
    rw [setT, setT_comm h2, setT, Array.setIfInBounds_comm _ _ h1]
theorem setT_set : ∀ {ss : List Nat} {xs : List Value} {t : Array Value} {k s : Nat} {v : Value}, ss.Nodup → xs.length = ss.length → ss[k]? = some s → (setT t ss xs).setIfInBounds s v = setT t ss (xs.set k v)
  | [], _, t, k, s, v, _, _, h => by simp at h
  | s' :: ss, [], t, k, s, v, _, hl, _ => by simp at hl
  | s' :: ss, x :: xs, t, 0, s, v, hn, _, h => by
    obtain rfl : s' = s := by simpa using h
    rw [List.set_cons_zero, setT, setT, setT_comm (List.nodup_cons.1 hn).1, Array.setIfInBounds_setIfInBounds]
  | s' :: ss, x :: xs, t, k + 1, s, v, hn, hl, h => by
    rw [List.set_cons_succ, setT, setT]
    exact setT_set (List.nodup_cons.1 hn).2 (by simpa using hl) (by simpa using h)
theorem setL_comm : ∀ {ws : List Nat} {bs : List Bool} {l : Array Bool} {i : Nat}, i ∉ ws → (setL l ws bs).setIfInBounds i true = setL (l.setIfInBounds i true) ws bs
  | [], _, l, i, _ => by simp [setL]
  | w :: ws, [], l, i, _ => by simp [setL]
  | w :: ws, b :: bs, l, i, h => by
    have h1 : w ≠ i := fun e => h (by simp [e])
    have h2 : i ∉ ws := fun e => h (by simp [e])
    rw [setL, setL_comm h2, setL]
    cases b
    · rfl
    · rw [if_pos rfl, if_pos rfl, Array.setIfInBounds_comm _ _ h1]
theorem setL_set : ∀ {ws : List Nat} {bs : List Bool} {l : Array Bool} {k i : Nat}, ws.Nodup → bs.length = ws.length → ws[k]? = some i → (setL l ws bs).setIfInBounds i true = setL l ws (bs.set k true)
  | [], _, l, k, i, _, _, h => by simp at h
  | w :: ws, [], l, k, i, _, hl, _ => by simp at hl
  | w :: ws, b :: bs, l, 0, i, hn, _, h => by
    obtain rfl : w = i := by simpa using h
    rw [List.set_cons_zero, setL, setL, setL_comm (List.nodup_cons.1 hn).1, if_pos rfl]
    cases b
    · rfl
    · rw [if_pos rfl, Array.setIfInBounds_setIfInBounds]
  | w :: ws, b :: bs, l, k + 1, i, hn, hl, h => by
    rw [List.set_cons_succ, setL, setL]
    exact setL_set (List.nodup_cons.1 hn).2 (by simpa using hl) (by simpa using h)
theorem setT_same (t : Array Value) : ∀ ss : List Nat, setT t ss (ss.map fun s => t.getD s undef) = t
  | [] => rfl
  | s :: ss => by
    rw [List.map_cons, setT]
    have : t.setIfInBounds s (t.getD s undef) = t := by
      apply Array.ext
      · simp
      · intro i h1 h2
        rw [Array.getElem_setIfInBounds]
        split
        · next e => subst e; simp [h2]
        · rfl
    rw [this]
    exact setT_same t ss
theorem setL_none (l : Array Bool) : ∀ (ws : List Nat), setL l ws (List.replicate ws.length false) = l
  | [] => rfl
  | w :: ws => by
    rw [List.length_cons, List.replicate_succ, setL]
    exact setL_none l ws
def boolLists : Nat → List (List Bool)
  | 0 => [[]]
  | n + 1 => (boolLists n).flatMap fun bs => [false :: bs, true :: bs]
theorem mem_boolLists : ∀ (bs : List Bool), bs ∈ boolLists bs.length
  | [] => by simp [boolLists]
  | b :: bs => by
    rw [List.length_cons, boolLists, List.mem_flatMap]
    exact ⟨bs, mem_boolLists bs, by cases b <;> simp⟩
/-- whichever of ws are done: if not all, some of the others may come up, and no other, and each only behind those that it waits for. -/
def manyB (md : Region.Mode) (ops : Array Oper) (ws : List Nat) (dep : Nat → List Nat) (l : Array Bool) : Bool := (boolLists ws.length).all fun bs => bs.all id || !(bs.zipIdx.all fun p => !p.1 || (dep p.2).all fun d => bs[d]? == some true) || (!(Region.ready md ops (setL l ws bs)).isEmpty && (Region.ready md ops (setL l ws bs)).all fun i => (List.range ws.length).any fun k => ws[k]? == some i && bs[k]? == some false && (dep k).all fun d => bs[d]? == some true)
def closed (dep : Nat → List Nat) (bs : List Bool) : Prop := ∀ k, bs[k]? = some true → ∀ d ∈ dep k, bs[d]? = some true
theorem closed_spec {dep : Nat → List Nat} {bs : List Bool} (h : closed dep bs) : (bs.zipIdx.all fun p => !p.1 || (dep p.2).all fun d => bs[d]? == some true) = true := by
  rw [List.all_eq_true]
  intro p hp
  obtain ⟨b, k⟩ := p
  have hk : bs[k]? = some b := by
    have := List.mem_zipIdx_iff_getElem?.1 hp
    simpa using this
  cases b with
  | false => rfl
  | true =>
    rw [Bool.or_eq_true]
    right
    rw [List.all_eq_true]
    intro d hd
    rw [beq_iff_eq]
    exact h k hk d hd
theorem count_set : ∀ {bs : List Bool} {k : Nat}, bs[k]? = some false → (bs.set k true).count false + 1 = bs.count false
  | [], k, h => by simp at h
  | b :: bs, 0, h => by
    obtain rfl : b = false := by simpa using h
    simp
  | b :: bs, k + 1, h => by
    have := count_set (k := k) (bs := bs) (by simpa using h)
    rw [List.set_cons_succ, List.count_cons, List.count_cons]
    omega
theorem all_of_count : ∀ {bs : List Bool}, bs.count false = 0 → bs = List.replicate bs.length true
  | [], _ => rfl
  | b :: bs, h => by
    rw [List.count_cons] at h
    cases b
    · simp at h
    · rw [List.length_cons, List.replicate_succ, ← all_of_count (bs := bs) (by simpa using h)]
section
variable {P : Program} {md : Region.Mode} {ops : Array Oper} {Q : Exit → Act → World → Prop} {S : World → Prop}
theorem wpAnyH_many (ws ss : List Nat) (dep : Nat → List Nat) (l0 : Array Bool) (t0 : Array Value) (φ : Nat → Value → World → Prop) (n : Nat)
    (hchk : manyB md ops ws dep l0 = true) (hns : ss.Nodup) (hnw : ws.Nodup) (hlen : ss.length = ws.length)
    (hop : ∀ (k i s : Nat) (xs : List Value) (w : World), ws[k]? = some i → ss[k]? = some s → xs.length = ws.length → S w → (∀ d ∈ dep k, ∀ x, xs[d]? = some x → φ d x w) → wpOp P ops Q i (fun a' w' => ∃ v, a' = ⟨(setT t0 ss xs).setIfInBounds s v, []⟩ ∧ φ k v w' ∧ S w' ∧ (∀ j x, φ j x w → φ j x w')) ⟨setT t0 ss xs, []⟩ w)
    (hend : ∀ (xs : List Value) (w : World), xs.length = ws.length → (∀ k x, xs[k]? = some x → φ k x w) → S w → wpAnyH P md ops Q S n (setL l0 ws (List.replicate ws.length true)) ⟨setT t0 ss xs, []⟩ w) :
    ∀ (f : Nat) (bs : List Bool) (xs : List Value) (w : World), bs.length = ws.length → xs.length = ws.length → bs.count false = f → closed dep bs → (∀ k x, bs[k]? = some true → xs[k]? = some x → φ k x w) → S w → wpAnyH P md ops Q S (n + f) (setL l0 ws bs) ⟨setT t0 ss xs, []⟩ w := by
  intro f
  induction f with
  | zero =>
    intro bs xs w hb hx hc hcl hφ hS
    have e := all_of_count hc
    rw [hb] at e
    rw [e]
    refine hend xs w hx (fun k x hk => hφ k x ?_ hk) hS
    rw [e]
    have : k < xs.length := (List.getElem?_eq_some_iff.1 hk).1
    simp [List.getElem?_replicate]; omega
  | succ f ih =>
    intro bs xs w hb hx hc hcl hφ hS
    have h1 := List.all_eq_true.1 hchk bs (by rw [← hb]; exact mem_boolLists bs)
    rw [closed_spec hcl, Bool.not_true, Bool.or_false, Bool.or_eq_true] at h1
    rcases h1 with h1 | h1
    · exfalso
      have : bs.count false = 0 := List.count_eq_zero.2 (fun hm => by
        have := List.all_eq_true.1 h1 false hm
        simp at this)
      omega
    · rw [Bool.and_eq_true, List.all_eq_true] at h1
      refine ⟨fun h => (by rw [h] at h1; simp at h1), fun i hi => ?_⟩
      obtain ⟨k, _, hk⟩ := List.any_eq_true.1 (h1.2 i hi)
      rw [Bool.and_eq_true, Bool.and_eq_true, beq_iff_eq, beq_iff_eq, List.all_eq_true] at hk
      obtain ⟨⟨hk1, hk2⟩, hk3⟩ := hk
      have hkl : k < ss.length := by rw [hlen]; exact (List.getElem?_eq_some_iff.1 hk1).1
      have hs : ss[k]? = some ss[k] := List.getElem?_eq_getElem hkl
      refine wpOp_mono (fun a' w' ⟨v, ha, hv, hS', hkeep⟩ => ⟨hS', ?_⟩) (hop k i ss[k] xs w hk1 hs hx hS (fun d hd x hxd => hφ d x (by simpa using hk3 d hd) hxd))
      rw [ha, setT_set hns (by rw [hx, hlen]) hs, setL_set hnw hb hk1]
      refine ih (bs.set k true) (xs.set k v) w' (by simpa using hb) (by simpa using hx) (by have := count_set (k := k) hk2; omega) (fun j hj d hd => ?_) (fun j x hj hxj => ?_) hS'
      · have up : ∀ d, bs[d]? = some true → (bs.set k true)[d]? = some true := fun d h => by
          by_cases hdk : k = d
          · subst hdk
            rw [hk2] at h
            cases h
          · rw [List.getElem?_set_ne hdk]; exact h
        by_cases hjk : k = j
        · subst hjk
          exact up d (by simpa using hk3 d hd)
        · rw [List.getElem?_set_ne hjk] at hj
          exact up d (hcl j hj d hd)
      · by_cases hjk : k = j
        · subst hjk
          rw [List.getElem?_set_self (by rw [hx]; exact (List.getElem?_eq_some_iff.1 hk1).1)] at hxj
          injection hxj with hxj
          rw [← hxj]
          exact hv
        · rw [List.getElem?_set_ne hjk] at hj hxj
          exact hkeep j x (hφ j x hj hxj)
theorem wpAnyH_joinD (ws ss : List Nat) (dep : Nat → List Nat) (l0 : Array Bool) (a : Act) (w : World) (φ : Nat → Value → World → Prop) (n : Nat) (hd : a.defers = [])
    (hchk : manyB md ops ws dep l0 = true) (hns : ss.Nodup) (hnw : ws.Nodup) (hlen : ss.length = ws.length) (hS : S w)
    (hop : ∀ (k i s : Nat) (xs : List Value) (w : World), ws[k]? = some i → ss[k]? = some s → xs.length = ws.length → S w → (∀ d ∈ dep k, ∀ x, xs[d]? = some x → φ d x w) → wpOp P ops Q i (fun a' w' => ∃ v, a' = ⟨(setT a.tmps ss xs).setIfInBounds s v, []⟩ ∧ φ k v w' ∧ S w' ∧ (∀ j x, φ j x w → φ j x w')) ⟨setT a.tmps ss xs, []⟩ w)
    (hend : ∀ (xs : List Value) (w : World), xs.length = ws.length → (∀ k x, xs[k]? = some x → φ k x w) → S w → wpAnyH P md ops Q S n (setL l0 ws (List.replicate ws.length true)) ⟨setT a.tmps ss xs, []⟩ w) :
    wpAnyH P md ops Q S (n + ws.length) l0 a w := by
  have h := wpAnyH_many ws ss dep l0 a.tmps φ n hchk hns hnw hlen hop hend ws.length (List.replicate ws.length false) (ss.map fun s => a.tmps.getD s undef) w (by simp) (by simpa using hlen) (by simp) (fun k hk => by
    rw [List.getElem?_replicate] at hk
    split at hk <;> simp at hk) (fun k x hk _ => by
    rw [List.getElem?_replicate] at hk
    split at hk <;> simp at hk) hS
  rw [setL_none, setT_same] at h
  obtain ⟨t, d⟩ := a
  subst hd
  exact h
theorem wpAnyH_join (ws ss : List Nat) (l0 : Array Bool) (a : Act) (w : World) (φ : Nat → Value → World → Prop) (n : Nat) (hd : a.defers = [])
    (hchk : manyB md ops ws (fun _ => []) l0 = true) (hns : ss.Nodup) (hnw : ws.Nodup) (hlen : ss.length = ws.length) (hS : S w)
    (hop : ∀ (k i s : Nat) (xs : List Value) (w : World), ws[k]? = some i → ss[k]? = some s → xs.length = ws.length → S w → wpOp P ops Q i (fun a' w' => ∃ v, a' = ⟨(setT a.tmps ss xs).setIfInBounds s v, []⟩ ∧ φ k v w' ∧ S w' ∧ (∀ j x, φ j x w → φ j x w')) ⟨setT a.tmps ss xs, []⟩ w)
    (hend : ∀ (xs : List Value) (w : World), xs.length = ws.length → (∀ k x, xs[k]? = some x → φ k x w) → S w → wpAnyH P md ops Q S n (setL l0 ws (List.replicate ws.length true)) ⟨setT a.tmps ss xs, []⟩ w) :
    wpAnyH P md ops Q S (n + ws.length) l0 a w :=
  wpAnyH_joinD ws ss (fun _ => []) l0 a w φ n hd hchk hns hnw hlen hS (fun k i s xs w h1 h2 h3 h4 _ => hop k i s xs w h1 h2 h3 h4) hend
end
end Go.Proofs.YteapnkedpmcokaaGreatDoor
