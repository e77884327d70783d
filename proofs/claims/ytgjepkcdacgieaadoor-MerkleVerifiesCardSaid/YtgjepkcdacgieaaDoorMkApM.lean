/- The way down as a run from the top: plain functions, their laws. Conditions: none. -/
import Derived.Test.YtgjepkcdacgieaaDoorMkMath
namespace Go.Proofs.YtgjepkcdacgieaaDoor
/-- where the way goes on, and the side beside it. -/
def step1 (st : Nat × Nat × List (List UInt8 × Bool)) (s : List UInt8) : Nat × Nat × List (List UInt8 × Bool) :=
  if spl st.1 < st.2.1 then (st.1 - spl st.1, st.2.1 - spl st.1, st.2.2 ++ [(s, true)]) else (spl st.1, st.2.1, st.2.2 ++ [(s, false)])
def runs (st : Nat × Nat × List (List UInt8 × Bool)) (R : List (List UInt8)) : Nat × Nat × List (List UInt8 × Bool) := R.foldl step1 st
theorem runs_snoc (st : Nat × Nat × List (List UInt8 × Bool)) (R : List (List UInt8)) (s : List UInt8) : runs st (R ++ [s]) = step1 (runs st R) s := by simp [runs]
/-- no end on the way so far. -/
def noEnd (fin : Nat → Nat → Bool) (st : Nat × Nat × List (List UInt8 × Bool)) (R : List (List UInt8)) : Prop := ∀ k, k < R.length → fin (runs st (R.take k)).1 (runs st (R.take k)).2.1 = false
theorem noEnd_nil (fin : Nat → Nat → Bool) (st : Nat × Nat × List (List UInt8 × Bool)) : noEnd fin st [] := fun k h => by simp at h
theorem noEnd_snoc {fin : Nat → Nat → Bool} {st : Nat × Nat × List (List UInt8 × Bool)} {R : List (List UInt8)} {s : List UInt8} (h : noEnd fin st R) (h' : fin (runs st R).1 (runs st R).2.1 = false) : noEnd fin st (R ++ [s]) := fun k hk => by
  rw [List.length_append, List.length_singleton] at hk
  rcases Nat.lt_or_ge k R.length with hlt | hge
  · rw [List.take_append_of_le_length (by omega)]
    exact h k hlt
  · obtain rfl : k = R.length := by omega
    rw [List.take_left' rfl]
    exact h'
theorem noEnd_tail {fin : Nat → Nat → Bool} {st : Nat × Nat × List (List UInt8 × Bool)} {R : List (List UInt8)} {s : List UInt8} (h : noEnd fin st (s :: R)) : fin st.1 st.2.1 = false ∧ noEnd fin (step1 st s) R :=
  ⟨h 0 (by simp), fun k hk => h (k + 1) (by simp; omega)⟩
theorem apart_runs (fin : Nat → Nat → Bool) : ∀ (pre rest : List (List UInt8)) (st : Nat × Nat × List (List UInt8 × Bool)), noEnd fin st pre →
    st.2.2 ++ (apartR fin st.1 st.2.1 (pre ++ rest)).1 = (runs st pre).2.2 ++ (apartR fin (runs st pre).1 (runs st pre).2.1 rest).1 ∧
    (apartR fin st.1 st.2.1 (pre ++ rest)).2 = (apartR fin (runs st pre).1 (runs st pre).2.1 rest).2
  | [], rest, st, _ => ⟨rfl, rfl⟩
  | s :: pre, rest, st, h => by
    obtain ⟨h1, h2⟩ := noEnd_tail h
    obtain ⟨i1, i2⟩ := apart_runs fin pre rest (step1 st s) h2
    have e : runs st (s :: pre) = runs (step1 st s) pre := rfl
    rw [e, List.cons_append]
    by_cases hs : spl st.1 < st.2.1
    · rw [apartR_left h1 hs]
      rw [show step1 st s = (st.1 - spl st.1, st.2.1 - spl st.1, st.2.2 ++ [(s, true)]) by unfold step1; rw [if_pos hs]] at i1 i2 ⊢
      refine ⟨?_, i2⟩
      rw [← i1]
      simp
    · rw [apartR_right h1 (by omega)]
      rw [show step1 st s = (spl st.1, st.2.1, st.2.2 ++ [(s, false)]) by unfold step1; rw [if_neg hs]] at i1 i2 ⊢
      refine ⟨?_, i2⟩
      rw [← i1]
      simp
theorem runs_in (fin : Nat → Nat → Bool) (h1 : ∀ n m, 1 ≤ m → m ≤ n → fin n m = false → 2 ≤ n) : ∀ (R : List (List UInt8)) (st : Nat × Nat × List (List UInt8 × Bool)), 1 ≤ st.2.1 → st.2.1 ≤ st.1 → noEnd fin st R →
    1 ≤ (runs st R).2.1 ∧ (runs st R).2.1 ≤ (runs st R).1 ∧ (runs st R).1 ≤ st.1
  | [], st, a, b, _ => ⟨a, b, Nat.le_refl _⟩
  | s :: R, st, a, b, h => by
    obtain ⟨e1, e2⟩ := noEnd_tail h
    have h2 := h1 _ _ a b e1
    have h3 := spl_lt h2
    have h4 := spl_pos st.1
    have e : runs st (s :: R) = runs (step1 st s) R := rfl
    rw [e]
    by_cases hs : spl st.1 < st.2.1
    · have es : step1 st s = (st.1 - spl st.1, st.2.1 - spl st.1, st.2.2 ++ [(s, true)]) := by unfold step1; rw [if_pos hs]
      obtain ⟨i1, i2, i3⟩ := runs_in fin h1 R (step1 st s) (by rw [es]; show 1 ≤ st.2.1 - spl st.1; omega) (by rw [es]; show st.2.1 - spl st.1 ≤ st.1 - spl st.1; omega) e2
      refine ⟨i1, i2, Nat.le_trans i3 ?_⟩
      rw [es]
      show st.1 - spl st.1 ≤ st.1
      omega
    · have es : step1 st s = (spl st.1, st.2.1, st.2.2 ++ [(s, false)]) := by unfold step1; rw [if_neg hs]
      obtain ⟨i1, i2, i3⟩ := runs_in fin h1 R (step1 st s) (by rw [es]; exact a) (by rw [es]; show st.2.1 ≤ spl st.1; omega) e2
      refine ⟨i1, i2, Nat.le_trans i3 ?_⟩
      rw [es]
      show spl st.1 ≤ st.1
      omega
theorem runs_sides (R : List (List UInt8)) : ∀ (st : Nat × Nat × List (List UInt8 × Bool)), (runs st R).2.2.length = st.2.2.length + R.length ∧ ((∀ x ∈ st.2.2, x.1.length = 32) → Sms R → ∀ x ∈ (runs st R).2.2, x.1.length = 32) := by
  induction R with
  | nil => intro st; exact ⟨rfl, fun h _ => h⟩
  | cons s R ih =>
    intro st
    have e : runs st (s :: R) = runs (step1 st s) R := rfl
    rw [e]
    obtain ⟨i1, i2⟩ := ih (step1 st s)
    have hs : (step1 st s).2.2 = st.2.2 ++ [(s, true)] ∨ (step1 st s).2.2 = st.2.2 ++ [(s, false)] := by
      unfold step1
      split
      · exact .inl rfl
      · exact .inr rfl
    refine ⟨by rw [i1, List.length_cons]; rcases hs with h | h <;> rw [h] <;> simp <;> omega, fun h1 h2 => i2 (fun x hx => ?_) (fun x hx => h2 x (by simp [hx]))⟩
    rcases hs with h | h <;> rw [h, List.mem_append, List.mem_singleton] at hx <;> rcases hx with hx | rfl
    · exact h1 x hx
    · exact h2 s (by simp)
    · exact h1 x hx
    · exact h2 s (by simp)
end Go.Proofs.YtgjepkcdacgieaaDoor
