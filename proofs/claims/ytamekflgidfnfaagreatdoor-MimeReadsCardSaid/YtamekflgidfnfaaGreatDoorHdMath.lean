/- A message's head as plain functions on lists of bytes: lines, names, fields, what is read of a text; their laws. Conditions: none. -/
import Derived.Test.YtamekflgidfnfaaGreatDoorPaMath
import Derived.Lib.IndexMore
import Derived.Lib.SlTrimSet
namespace Go.Proofs.YtamekflgidfnfaaGreatDoor
set_option maxRecDepth 100000
namespace Hd
open Go.Proofs.YtamekflgidfnfaaGreatDoor.Pa
abbrev L := List UInt8
/-- a name, and its body. -/
abbrev F := List UInt8 × List UInt8
/-- the first line, without its end, and what stands behind it. -/
def cut2 : List UInt8 → Option (List UInt8 × List UInt8)
  | [] => none
  | x :: l => if x = 13 ∧ l.head? = some 10 then some ([], l.tail) else (cut2 l).map fun p => (x :: p.1, p.2)
/-- an end begins at j. -/
def endAt (b : List UInt8) (j : Nat) : Prop := b[j]? = some 13 ∧ b[j + 1]? = some 10
theorem head_get (l : List UInt8) : l.head? = l[0]? := by cases l <;> rfl
theorem cut2_spec : ∀ b : List UInt8, (cut2 b = none ∧ ∀ j, ¬ endAt b j) ∨ ∃ j, cut2 b = some (b.take j, b.drop (j + 2)) ∧ endAt b j ∧ ∀ k, k < j → ¬ endAt b k
  | [] => .inl ⟨rfl, fun j h => by have := h.1; simp at this⟩
  | x :: l => by
    by_cases h : x = 13 ∧ l.head? = some 10
    · right
      refine ⟨0, ?_, ⟨by rw [h.1]; rfl, by rw [← h.2, head_get]; rfl⟩, fun k hk => by omega⟩
      rw [cut2, if_pos h]
      cases l <;> rfl
    · have h0 : ¬ endAt (x :: l) 0 := fun e => h ⟨by have := e.1; simpa using this, by rw [head_get]; have := e.2; simpa using this⟩
      have hs : ∀ k, endAt (x :: l) (k + 1) ↔ endAt l k := fun k => by simp [endAt]
      rcases cut2_spec l with ⟨h1, h2⟩ | ⟨j, h1, h2, h3⟩
      · left
        refine ⟨by rw [cut2, if_neg h, h1]; rfl, fun j => ?_⟩
        cases j with
        | zero => exact h0
        | succ k => rw [hs]; exact h2 k
      · right
        refine ⟨j + 1, by rw [cut2, if_neg h, h1]; rfl, (hs j).2 h2, fun k hk => ?_⟩
        cases k with
        | zero => exact h0
        | succ k => rw [hs]; exact h3 k (by omega)
theorem endAt_lt {b : List UInt8} {j : Nat} (h : endAt b j) : j + 1 < b.length := by
  rcases Nat.lt_or_ge (j + 1) b.length with h' | h'
  · exact h'
  · have := h.2; rw [List.getElem?_eq_none h'] at this; cases this
theorem endAt_drop {b : List UInt8} {j : Nat} (h : endAt b j) : b.drop j = 13 :: 10 :: b.drop (j + 2) := by
  have hl := endAt_lt h
  have e1 : b[j] = 13 := by have := h.1; rw [List.getElem?_eq_getElem (by omega)] at this; injection this
  have e2 : b[j + 1] = 10 := by have := h.2; rw [List.getElem?_eq_getElem (by omega)] at this; injection this
  rw [List.drop_eq_getElem_cons (by omega), List.drop_eq_getElem_cons hl, e1, e2]
theorem cut2_some {b s r : List UInt8} (h : cut2 b = some (s, r)) : b = s ++ 13 :: 10 :: r ∧ endAt b s.length ∧ (∀ k, k < s.length → ¬ endAt b k) ∧ s = b.take s.length ∧ r = b.drop (s.length + 2) := by
  rcases cut2_spec b with ⟨h1, _⟩ | ⟨j, h1, h2, h3⟩
  · rw [h1] at h; cases h
  · rw [h1] at h
    injection h with h
    injection h with hs hr
    have hl := endAt_lt h2
    have hj : s.length = j := by rw [← hs]; simp; omega
    rw [hj]
    refine ⟨?_, h2, h3, hs.symm, hr.symm⟩
    rw [← hs, ← hr, ← endAt_drop h2, List.take_append_drop]
theorem cut2_len {b s r : List UInt8} (h : cut2 b = some (s, r)) : b.length = s.length + 2 + r.length := by
  have := congrArg List.length (cut2_some h).1
  simp at this
  omega
theorem cut2_at {b : List UInt8} {j : Nat} (h : endAt b j) (h' : ∀ k, k < j → ¬ endAt b k) : cut2 b = some (b.take j, b.drop (j + 2)) := by
  rcases cut2_spec b with ⟨_, h2⟩ | ⟨i, h1, h2, h3⟩
  · exact absurd h (h2 j)
  · have : i = j := by
      rcases Nat.lt_trichotomy i j with h4 | h4 | h4
      · exact absurd h2 (h' i h4)
      · exact h4
      · exact absurd h (h3 j h4)
    rw [h1, this]
theorem cut2_no {b : List UInt8} (h : ∀ j, ¬ endAt b j) : cut2 b = none := by
  rcases cut2_spec b with ⟨h1, _⟩ | ⟨j, _, h2, _⟩
  · exact h1
  · exact absurd h2 (h j)
theorem occ_end (b : List UInt8) (j : Nat) : Go.Lib.occAt b [13, 10] j = true ↔ endAt b j := by
  unfold Go.Lib.occAt endAt
  rw [List.isPrefixOf_iff_prefix]
  constructor
  · rintro ⟨t, ht⟩
    have h : ∀ k, (b.drop j)[k]? = b[j + k]? := fun k => by rw [List.getElem?_drop]
    have h0 := h 0
    have h1 := h 1
    rw [← ht] at h0 h1
    exact ⟨by simpa using h0.symm, by simpa using h1.symm⟩
  · intro h
    exact ⟨b.drop (j + 2), by rw [endAt_drop h]; rfl⟩
theorem index_cut2 (b : List UInt8) : Go.Lib.index b [13, 10] = match cut2 b with | some (s, _) => (s.length : Int) | none => -1 := by
  rcases Go.Lib.index_spec b [13, 10] with ⟨h1, h2⟩ | ⟨i, h1, h2, h3, h4⟩
  · have : cut2 b = none := cut2_no fun j h => by
      have hl := endAt_lt h
      have := h2 j (by omega)
      rw [(occ_end b j).2 h] at this
      cases this
    rw [this, h1]
  · have he := (occ_end b i).1 h3
    have : cut2 b = some (b.take i, b.drop (i + 2)) := cut2_at he fun k hk h => by
      have := h4 k hk
      rw [(occ_end b k).2 h] at this
      cases this
    rw [this, h1]
    show (i : Int) = ((b.take i).length : Int)
    rw [List.length_take]
    have := endAt_lt he
    congr 1
    omega
/-- a text without the byte 13 has no line; behind it stands the first one's end. -/
theorem cut2_13 {s : List UInt8} (h : (13 : UInt8) ∉ s) (r : List UInt8) : cut2 (s ++ 13 :: 10 :: r) = some (s, r) := by
  have hk : ∀ k, k < s.length → ¬ endAt (s ++ 13 :: 10 :: r) k := fun k hk e => by
    have := e.1
    rw [List.getElem?_append_left hk] at this
    exact h (List.mem_of_getElem? this)
  have he : endAt (s ++ 13 :: 10 :: r) s.length := by
    unfold endAt
    rw [List.getElem?_append_right (by omega), List.getElem?_append_right (by omega)]
    simp
  have := cut2_at he hk
  rw [this, List.take_left, show s.length + 2 = (s ++ [13, 10]).length by simp, show s ++ 13 :: 10 :: r = (s ++ [13, 10]) ++ r by simp, List.drop_left]
def blankB (c : UInt8) : Bool := c == 32 || c == 9
def nameB (c : UInt8) : Bool := decide (33 ≤ c.toNat ∧ c.toNat ≤ 126 ∧ c.toNat ≠ 58)
def nameS (s : List UInt8) : Bool := s.all nameB && decide (1 ≤ s.length ∧ s.length ≤ 100)
/-- without blanks at both ends. -/
def trimB (s : List UInt8) : List UInt8 := Go.Lib.trimS s [32, 9]
/-- the last field's body grows. -/
def goOnL (fs : List F) (s : List UInt8) : List F := fs.modify (fs.length - 1) fun f => (f.1, f.2 ++ s)
theorem goOnL_length (fs : List F) (s : List UInt8) : (goOnL fs s).length = fs.length := by simp [goOnL]
/-- what a field's line tells. -/
def lineF (s : List UInt8) : F := (Pa.ahead 58 s, Pa.behind 58 s)
def fieldB (s : List UInt8) : Bool := Pa.has 58 s && nameS (Pa.ahead 58 s)
/-- a head, read line by line: the fields as they stand, and what is left; none: a folded line first. -/
def run : Nat → List F → List UInt8 → Option (Option (List F × List UInt8))
  | 0, _, _ => none
  | k + 1, fs, b => match cut2 b with
    | none => some (some (fs, b))
    | some ([], r) => some (some (fs, r))
    | some (c :: s, r) =>
      if blankB c = true then (if fs = [] then some none else run k (goOnL fs (c :: s)) r)
      else if fieldB (c :: s) = true then run k (fs ++ [lineF (c :: s)]) r else some (some (fs, b))
def Run (fs : List F) (b : List UInt8) (R : Option (List F × List UInt8)) : Prop := ∃ k, run k fs b = some R
section
variable {fs : List F} {b r s : List UInt8} {c : UInt8} {R : Option (List F × List UInt8)}
theorem Run.stop (h : cut2 b = none) : Run fs b (some (fs, b)) := ⟨1, by simp [run, h]⟩
theorem Run.ends (h : cut2 b = some ([], r)) : Run fs b (some (fs, r)) := ⟨1, by simp [run, h]⟩
theorem Run.bad (h : cut2 b = some (c :: s, r)) (hc : blankB c = true) : Run [] b none := ⟨1, by simp [run, h, hc]⟩
theorem Run.fold (h : cut2 b = some (c :: s, r)) (hc : blankB c = true) (hf : fs ≠ []) (hR : Run (goOnL fs (c :: s)) r R) : Run fs b R := by
  obtain ⟨k, hk⟩ := hR
  exact ⟨k + 1, by simp [run, h, hc, hf, hk]⟩
theorem Run.field (h : cut2 b = some (c :: s, r)) (hc : blankB c = false) (hf : fieldB (c :: s) = true) (hR : Run (fs ++ [lineF (c :: s)]) r R) : Run fs b R := by
  obtain ⟨k, hk⟩ := hR
  exact ⟨k + 1, by simp [run, h, hc, hf, hk]⟩
theorem Run.plain (h : cut2 b = some (c :: s, r)) (hc : blankB c = false) (hf : fieldB (c :: s) = false) : Run fs b (some (fs, b)) := ⟨1, by simp [run, h, hc, hf]⟩
theorem Run.inv (h : Run fs b R) : (cut2 b = none ∧ R = some (fs, b)) ∨ (∃ r, cut2 b = some ([], r) ∧ R = some (fs, r)) ∨
    (∃ c s r, cut2 b = some (c :: s, r) ∧ ((blankB c = true ∧ fs = [] ∧ R = none) ∨ (blankB c = true ∧ fs ≠ [] ∧ Run (goOnL fs (c :: s)) r R) ∨
      (blankB c = false ∧ fieldB (c :: s) = true ∧ Run (fs ++ [lineF (c :: s)]) r R) ∨ (blankB c = false ∧ fieldB (c :: s) = false ∧ R = some (fs, b)))) := by
  obtain ⟨k, hk⟩ := h
  cases k with
  | zero => cases hk
  | succ k =>
    rw [run] at hk
    cases hcut : cut2 b with
    | none =>
      rw [hcut] at hk
      injection hk with hk
      exact .inl ⟨rfl, hk.symm⟩
    | some p =>
      obtain ⟨s, r⟩ := p
      rw [hcut] at hk
      cases s with
      | nil =>
        injection hk with hk
        exact .inr (.inl ⟨r, rfl, hk.symm⟩)
      | cons c s =>
        refine .inr (.inr ⟨c, s, r, rfl, ?_⟩)
        cases hc : blankB c with
        | true =>
          by_cases hf : fs = []
          · simp only [hc, if_true, if_pos hf] at hk
            injection hk with hk
            exact .inl ⟨rfl, hf, hk.symm⟩
          · simp only [hc, if_true, if_neg hf] at hk
            exact .inr (.inl ⟨rfl, hf, k, hk⟩)
        | false =>
          cases hf : fieldB (c :: s) with
          | true =>
            simp [hc, hf] at hk
            exact .inr (.inr (.inl ⟨rfl, rfl, k, hk⟩))
          | false =>
            simp [hc, hf] at hk
            exact .inr (.inr (.inr ⟨rfl, rfl, hk.symm⟩))
end
theorem run_some : ∀ (k : Nat) (fs : List F) (b : List UInt8), b.length < k → ∃ R, run k fs b = some R
  | 0, _, _, h => by omega
  | k + 1, fs, b, h => by
    rw [run]
    cases hc : cut2 b with
    | none => exact ⟨_, rfl⟩
    | some p =>
      obtain ⟨s, r⟩ := p
      have hl := cut2_len hc
      cases s with
      | nil => exact ⟨_, rfl⟩
      | cons c s =>
        simp only
        simp only [List.length_cons] at hl
        split
        · split
          · exact ⟨_, rfl⟩
          · exact run_some k _ _ (by omega)
        · split
          · exact run_some k _ _ (by omega)
          · exact ⟨_, rfl⟩
theorem Run.total (fs : List F) (b : List UInt8) : ∃ R, Run fs b R := by
  obtain ⟨R, h⟩ := run_some (b.length + 1) fs b (by omega)
  exact ⟨R, _, h⟩
theorem goOnL_ne {fs : List F} (s : List UInt8) (h : fs ≠ []) : goOnL fs s ≠ [] := fun e => by
  have := congrArg List.length e
  rw [goOnL_length] at this
  exact h (List.eq_nil_of_length_eq_zero this)
/-- none comes of no fields alone; fields are never fewer; what is left is an end of the text. -/
theorem run_facts : ∀ (k : Nat) (fs : List F) (b : List UInt8) (R : Option (List F × List UInt8)), run k fs b = some R →
    (R = none → fs = []) ∧ ∀ gs r, R = some (gs, r) → fs.length ≤ gs.length ∧ r.length ≤ b.length ∧ r = b.drop (b.length - r.length) ∧ 4 * gs.length + r.length ≤ 4 * fs.length + b.length
  | 0, _, _, _, h => by cases h
  | k + 1, fs, b, R, h => by
    have hR : Run fs b R := ⟨k + 1, h⟩
    rw [run] at h
    rcases Run.inv hR with ⟨hc, rfl⟩ | ⟨r, hc, rfl⟩ | ⟨c, s, r, hc, h1⟩
    · refine ⟨fun e => (nomatch e), fun gs r e => ?_⟩
      injection e with e
      injection e with e1 e2
      subst e1; subst e2
      exact ⟨Nat.le_refl _, Nat.le_refl _, by simp, Nat.le_refl _⟩
    · have hl := cut2_len hc
      refine ⟨fun e => (nomatch e), fun gs r' e => ?_⟩
      injection e with e
      injection e with e1 e2
      subst e1; subst e2
      have := (cut2_some hc).2.2.2.2
      refine ⟨Nat.le_refl _, by omega, ?_, by omega⟩
      rw [show b.length - r.length = 0 + 2 by simp at hl; omega]
      exact this
    · rw [hc] at h
      simp only at h
      have hl := cut2_len hc
      have hd := (cut2_some hc).2.2.2.2
      rcases h1 with ⟨_, e, rfl⟩ | ⟨h2, h3, _⟩ | ⟨h2, h3, _⟩ | ⟨_, _, rfl⟩
      · exact ⟨fun _ => e, fun gs r e => (nomatch e)⟩
      · rw [if_pos h2, if_neg h3] at h
        obtain ⟨f1, f2⟩ := run_facts k _ _ _ h
        refine ⟨fun e => absurd (f1 e) (goOnL_ne _ h3), fun gs r' e => ?_⟩
        obtain ⟨g1, g2, g3, g4⟩ := f2 gs r' e
        rw [goOnL_length] at g1 g4
        refine ⟨g1, by omega, ?_, by omega⟩
        rw [g3, hd, List.drop_drop, List.length_drop]
        congr 1
        simp [List.length_drop]
        simp at hl
        omega
      · rw [if_neg (by rw [h2]; simp), if_pos h3] at h
        obtain ⟨f1, f2⟩ := run_facts k _ _ _ h
        refine ⟨fun e => absurd (f1 e) (by simp), fun gs r' e => ?_⟩
        obtain ⟨g1, g2, g3, g4⟩ := f2 gs r' e
        rw [List.length_append, List.length_singleton] at g1 g4
        have h2 : 2 ≤ (c :: s).length := by
          unfold fieldB nameS at h3
          simp only [Bool.and_eq_true, decide_eq_true_eq] at h3
          have hm : (58 : UInt8) ∈ c :: s := by
            rcases Decidable.em ((58 : UInt8) ∈ c :: s) with h | h
            · exact h
            · rw [Pa.has_f h] at h3; exact absurd h3.1 (by simp)
          have := Pa.behind_len hm
          omega
        refine ⟨by omega, by omega, ?_, by omega⟩
        rw [g3, hd, List.drop_drop, List.length_drop]
        congr 1
        simp [List.length_drop]
        simp at hl
        omega
      · refine ⟨fun e => (nomatch e), fun gs r' e => ?_⟩
        injection e with e
        injection e with e1 e2
        subst e1; subst e2
        exact ⟨Nat.le_refl _, Nat.le_refl _, by simp, Nat.le_refl _⟩
theorem Run.none_nil {fs : List F} {b : List UInt8} (h : Run fs b none) : fs = [] := by
  obtain ⟨k, hk⟩ := h
  exact (run_facts k fs b none hk).1 rfl
theorem Run.facts {fs gs : List F} {b r : List UInt8} (h : Run fs b (some (gs, r))) : fs.length ≤ gs.length ∧ r.length ≤ b.length ∧ r = b.drop (b.length - r.length) ∧ 4 * gs.length + r.length ≤ 4 * fs.length + b.length := by
  obtain ⟨k, hk⟩ := h
  exact (run_facts k fs b _ hk).2 gs r rfl
end Hd
end Go.Proofs.YtamekflgidfnfaaGreatDoor
