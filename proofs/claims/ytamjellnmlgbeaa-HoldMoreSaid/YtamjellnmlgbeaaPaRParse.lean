/- The document's Parse. Conditions: as stated. -/
import Derived.Test.YtamjellnmlgbeaaPaParse
namespace Go.Proofs.Ytamjellnmlgbeaa
set_option maxRecDepth 100000
namespace Pa
open Go.RowKit Go
theorem parse_nil : parseS [] = ([], [], false) := by decide
theorem parse_no {l : List UInt8} (h : l.getD 0 0 ≠ 60) : parseS l = ([], l, false) := by
  unfold parseS
  cases l with
  | nil => rfl
  | cons c t =>
    have hc : c ≠ 60 := by simpa using h
    have : ([60] : List UInt8).isPrefixOf (ahead 62 (c :: t)) = false := by
      unfold ahead
      rw [List.takeWhile_cons]
      split
      · rw [List.isPrefixOf_cons_cons]; simp [Ne.symm hc]
      · rfl
    rw [this]; simp
theorem parse_end {l : List UInt8} (h : (62 : UInt8) ∉ l) : parseS l = ([], l, false) := by
  unfold parseS; rw [has_f h]; simp
/-- the first closing sign. -/
theorem parse_hit {l : List UInt8} {k : Nat} (h0 : l.getD 0 0 = 60) (h1 : 1 ≤ k) (hk : k < l.length) (hn : (62 : UInt8) ∉ l.take k) (hc : l.getD k 0 = 62) :
    parseS l = if (decide (k = 1)) || mailS ((l.take k).drop 1) then ((l.take k).drop 1, l.drop (k + 1), true) else ([], l, false) := by
  have e : l = l.take k ++ 62 :: l.drop (k + 1) := by
    have : l[k] = 62 := by rw [← hc]; simp [List.getD, hk]
    rw [← this, ← List.drop_eq_getElem_cons hk, List.take_append_drop]
  obtain ⟨e1, e2⟩ := ahead_at (b := l.drop (k + 1)) hn
  rw [← e] at e1 e2
  have hm : (62 : UInt8) ∈ l := by rw [e]; simp
  have hp : ([60] : List UInt8).isPrefixOf (l.take k) = true := by
    cases l with
    | nil => simp at hk
    | cons c t =>
      have : c = 60 := by simpa using h0
      subst this
      obtain ⟨k', rfl⟩ : ∃ k', k = k' + 1 := ⟨k - 1, by omega⟩
      simp [List.isPrefixOf]
  have hl : ((l.take k).drop 1 == []) = decide (k = 1) := by
    rw [Bool.eq_iff_iff, decide_eq_true_eq, beq_iff_eq, ← List.length_eq_zero_iff, List.length_drop, List.length_take]
    omega
  unfold parseS
  rw [e1, e2, has_t hm, hp, hl]
  simp
theorem b62 {c : UInt8} (h : c = 62) : ((c.toNat : Int) == 62) = true := by rw [h]; rfl
theorem n62 {c : UInt8} (h : c ≠ 62) : ((c.toNat : Int) == 62) = false := by
  rw [beq_eq_false_iff_ne]; intro e; exact h (UInt8.toNat_inj.1 (show c.toNat = 62 by omega))
theorem n60 {c : UInt8} (h : c ≠ 60) : ((c.toNat : Int) == 60) = false := by
  rw [beq_eq_false_iff_ne]; intro e; exact h (UInt8.toNat_inj.1 (show c.toNat = 60 by omega))
end Pa
end Go.Proofs.Ytamjellnmlgbeaa
