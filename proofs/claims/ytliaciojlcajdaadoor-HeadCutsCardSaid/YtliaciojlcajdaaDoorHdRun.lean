/- More of Run: how long bodies are. -/
import Derived.Test.YtliaciojlcajdaaDoorHdMath
namespace Go.Proofs.YtliaciojlcajdaaDoor
set_option maxRecDepth 100000
namespace Hd
open Go.RowKit Go Go.Proofs.YtliaciojlcajdaaDoor.Pa
theorem goOnL_last (fs : List F) (f : F) (s : List UInt8) : goOnL (fs ++ [f]) s = fs ++ [(f.1, f.2 ++ s)] := by
  unfold goOnL
  rw [show (fs ++ [f]).length - 1 = fs.length by simp]
  apply List.ext_getElem?
  intro i
  rw [List.getElem?_modify]
  rcases Nat.lt_trichotomy i fs.length with h | h | h
  · rw [List.getElem?_append_left h, List.getElem?_append_left h]
    have hne : fs.length ≠ i := by omega
    simp [hne]
  · subst h
    simp
  · rw [List.getElem?_eq_none (by simp; omega), List.getElem?_eq_none (by simp; omega)]
    rfl
theorem goOnL_bodies {M : Nat} {fs : List F} {s : List UInt8} (h : ∀ f ∈ fs, f.2.length + s.length ≤ M) : ∀ f ∈ goOnL fs s, f.2.length ≤ M := by
  rcases List.eq_nil_or_concat fs with h0 | ⟨l, x, h0⟩
  · subst h0
    intro f hf
    have : goOnL [] s = [] := by rfl
    rw [this] at hf
    cases hf
  · rw [List.concat_eq_append] at h0
    subst h0
    rw [goOnL_last]
    intro f hf
    rcases List.mem_append.1 hf with hf | hf
    · have := h f (List.mem_append_left _ hf); omega
    · rw [List.mem_singleton] at hf
      subst hf
      have := h x (by simp)
      rw [List.length_append]
      exact this
theorem Run.bodies : ∀ (n : Nat) (fs : List F) (b : List UInt8) (gs : List F) (r : List UInt8) (M : Nat), b.length ≤ n → Run fs b (some (gs, r)) → b.length ≤ M → (∀ f ∈ fs, f.2.length + b.length ≤ M) → ∀ f ∈ gs, f.2.length ≤ M := by
  intro n
  induction n with
  | zero =>
    intro fs b gs r M hn hr hM hf
    have hb : b = [] := List.eq_nil_of_length_eq_zero (by omega)
    subst hb
    rcases hr.inv with ⟨_, e⟩ | ⟨r', e, _⟩ | ⟨x, y, z, e, _⟩
    · injection e with e
      injection e with e1 e2
      subst e1
      intro f h
      have := hf f h; simp at this; omega
    · have := cut2_len e; simp at this; omega
    · have := cut2_len e; simp at this; omega
  | succ n ih =>
    intro fs b gs r M hn hr hM hf
    rcases hr.inv with ⟨_, e⟩ | ⟨r', _, e⟩ | ⟨x, y, z, e, hc⟩
    · injection e with e
      injection e with e1 e2
      subst e1
      intro f h
      have := hf f h; omega
    · injection e with e
      injection e with e1 e2
      subst e1
      intro f h
      have := hf f h; omega
    · have hl := cut2_len e
      rcases hc with ⟨_, _, e2⟩ | ⟨_, h3, h4⟩ | ⟨_, h3, h4⟩ | ⟨_, _, e2⟩
      · cases e2
      · refine ih _ _ _ _ M (by omega) h4 (by omega) fun f hf' => ?_
        have := goOnL_bodies (M := M - z.length) (fs := fs) (s := x :: y) (fun g hg => by have := hf g hg; omega) f hf'
        omega
      · refine ih _ _ _ _ M (by omega) h4 (by omega) fun f hf' => ?_
        rcases List.mem_append.1 hf' with hf' | hf'
        · have := hf f hf'; omega
        · rw [List.mem_singleton] at hf'
          subst hf'
          have hm : (58 : UInt8) ∈ x :: y := by
            unfold fieldB at h3
            simp only [Bool.and_eq_true] at h3
            rcases Decidable.em ((58 : UInt8) ∈ x :: y) with h | h
            · exact h
            · rw [Pa.has_f h] at h3; exact absurd h3.1 (by simp)
          have := Pa.behind_len hm
          show (Pa.behind 58 (x :: y)).length + _ ≤ M
          omega
      · injection e2 with e
        injection e with e1 e2
        subst e1
        intro f h
        have := hf f h; omega
theorem Run.short {b : List UInt8} {gs : List F} {r : List UInt8} (h : Run [] b (some (gs, r))) : ∀ f ∈ gs, f.2.length ≤ b.length :=
  Run.bodies b.length [] b gs r b.length (Nat.le_refl _) h (Nat.le_refl _) (by simp)
theorem endAt_take {b : List UInt8} {j n : Nat} (h : j + 2 ≤ n) : endAt (b.take n) j ↔ endAt b j := by
  unfold endAt
  rw [List.getElem?_take_of_lt (by omega), List.getElem?_take_of_lt (by omega)]
theorem cut2_take {b s r : List UInt8} (h : cut2 b = some (s, r)) (m : Nat) : cut2 (b.take (s.length + 2 + m)) = some (s, r.take m) := by
  obtain ⟨h1, h2, h3, h4, h5⟩ := cut2_some h
  rw [cut2_at (j := s.length) ((endAt_take (by omega)).2 h2) (fun k hk => fun e => h3 k hk ((endAt_take (by omega)).1 e))]
  rw [List.take_take, Nat.min_eq_left (by omega), ← h4, List.drop_take, ← h5]
  congr 3
  omega
/-- the text up to its fields' end gives the same fields, and nothing is left. -/
theorem Run.upto : ∀ (n : Nat) (fs : List F) (b : List UInt8) (gs : List F) (r : List UInt8), b.length ≤ n → Run fs b (some (gs, r)) → Run fs (b.take (b.length - r.length)) (some (gs, [])) := by
  intro n
  induction n with
  | zero =>
    intro fs b gs r hn hr
    have hb : b = [] := List.eq_nil_of_length_eq_zero (by omega)
    subst hb
    have := hr.facts
    have h0 : r = [] := List.eq_nil_of_length_eq_zero (by have := this.2.1; simpa using this)
    subst h0
    exact hr
  | succ n ih =>
    intro fs b gs r hn hr
    rcases hr.inv with ⟨_, e⟩ | ⟨r', hc, e⟩ | ⟨x, y, z, hc, hh⟩
    · injection e with e
      injection e with e1 e2
      subst e1; subst e2
      rw [Nat.sub_self, List.take_zero]
      exact Run.stop (by rfl)
    · injection e with e
      injection e with e1 e2
      subst e1; subst e2
      have hl := cut2_len hc
      have := cut2_take hc 0
      rw [show b.length - r.length = ([] : List UInt8).length + 2 + 0 by simp at hl ⊢; omega]
      exact Run.ends this
    · have hl := cut2_len hc
      rcases hh with ⟨_, _, e2⟩ | ⟨h2, h3, h4⟩ | ⟨h2, h3, h4⟩ | ⟨_, _, e2⟩
      · cases e2
      · have hf := h4.facts.2.1
        rw [show b.length - r.length = (x :: y).length + 2 + (z.length - r.length) by omega]
        exact Run.fold (cut2_take hc _) h2 h3 (ih _ _ _ _ (by simp at hl; omega) h4)
      · have hf := h4.facts.2.1
        rw [show b.length - r.length = (x :: y).length + 2 + (z.length - r.length) by omega]
        exact Run.field (cut2_take hc _) h2 h3 (ih _ _ _ _ (by simp at hl; omega) h4)
      · injection e2 with e
        injection e with e1 e2
        subst e1; subst e2
        rw [Nat.sub_self, List.take_zero]
        exact Run.stop (by rfl)
theorem Run.whole {b : List UInt8} {gs : List F} {r : List UInt8} (h : Run [] b (some (gs, r))) : Run [] (b.take (b.length - r.length)) (some (gs, [])) := Run.upto _ _ _ _ _ (Nat.le_refl _) h
end Hd
end Go.Proofs.YtliaciojlcajdaaDoor
