/- Classes that may be, as unlike names that fit; domains of addresses that begin with an at sign; as plain lists. Conditions: none. -/
import Derived.Test.YtokaifnpmhkkpaaRtMath
namespace Go.Proofs.Ytokaifnpmhkkpaa
set_option maxRecDepth 100000
namespace Rt
open Go.Proofs.Ytokaifnpmhkkpaa.Pa
/-- a class that may not be. -/
def unfitS (c : C) : Bool := !(smallS 20 c.1 && decide (1 ≤ c.2))
def nms (l : List C) : List L := l.map (·.1)
theorem find_isNone (l : List C) (nm : L) : (findS l nm).isNone = decide (nm ∉ nms l) := by
  rw [Bool.eq_iff_iff, Option.isNone_iff_eq_none, decide_eq_true_eq]
  unfold findS nms
  rw [List.find?_eq_none]
  simp only [List.mem_map, not_exists, not_and, beq_iff_eq]
theorem find_isSome (l : List C) (nm : L) : (findS l nm).isSome = decide (nm ∈ nms l) := by
  have := find_isNone l nm
  cases hf : findS l nm with
  | none => rw [hf] at this; simpa using this
  | some c => rw [hf] at this; simpa using this
theorem cls_iff : ∀ (l pre : List C), clsS pre l = true ↔ (∀ c ∈ l, unfitS c = false) ∧ (∀ c ∈ l, c.1 ∉ nms pre) ∧ (nms l).Nodup
  | [], pre => by simp [clsS, nms]
  | c :: l, pre => by
    rw [clsS, Bool.and_eq_true, Bool.and_eq_true, Bool.and_eq_true, cls_iff l (pre ++ [c]), find_isNone, decide_eq_true_eq]
    have e1 : unfitS c = false ↔ (smallS 20 c.1 = true ∧ decide (1 ≤ c.2) = true) := by unfold unfitS; cases smallS 20 c.1 <;> cases decide (1 ≤ c.2) <;> simp
    have e2 : nms (pre ++ [c]) = nms pre ++ [c.1] := by simp [nms]
    have e3 : nms (c :: l) = c.1 :: nms l := rfl
    rw [e2, e3, List.nodup_cons]
    constructor
    · rintro ⟨⟨⟨h1, h2⟩, h3⟩, h4, h5, h6⟩
      refine ⟨fun x hx => ?_, fun x hx => ?_, fun hx => ?_, h6⟩
      · rcases List.mem_cons.1 hx with rfl | hx
        · exact e1.2 ⟨h2, h3⟩
        · exact h4 x hx
      · rcases List.mem_cons.1 hx with rfl | hx
        · exact h1
        · exact fun hn => h5 x hx (List.mem_append_left _ hn)
      · obtain ⟨y, hy, e⟩ := List.mem_map.1 hx
        exact h5 y hy (by rw [e]; exact List.mem_append_right _ (List.mem_singleton.2 rfl))
    · rintro ⟨h1, h2, h3, h4⟩
      have hc := e1.1 (h1 c (List.mem_cons_self ..))
      refine ⟨⟨⟨h2 c (List.mem_cons_self ..), hc.1⟩, hc.2⟩, fun x hx => h1 x (List.mem_cons_of_mem _ hx), fun x hx hn => ?_, h4⟩
      rcases List.mem_append.1 hn with hn | hn
      · exact h2 x (List.mem_cons_of_mem _ hx) hn
      · exact h3 (List.mem_map.2 ⟨x, hx, List.mem_singleton.1 hn⟩)
theorem cls_is (l : List C) : clsS [] l = (!(l.any unfitS) && decide (nms l).Nodup) := by
  rw [Bool.eq_iff_iff, cls_iff]
  simp only [Bool.and_eq_true, Bool.not_eq_true', decide_eq_true_eq, List.any_eq_false]
  constructor
  · rintro ⟨h1, _, h3⟩
    exact ⟨fun x hx => by rw [h1 x hx]; simp, h3⟩
  · rintro ⟨h1, h3⟩
    exact ⟨fun x hx => by simpa using h1 x hx, fun x _ => by simp [nms], h3⟩
theorem nodup_snoc {S : List L} {s : L} : (S ++ [s]).Nodup ↔ S.Nodup ∧ s ∉ S := by
  rw [List.nodup_append]
  constructor
  · rintro ⟨h1, _, h3⟩
    exact ⟨h1, fun hm => h3 s hm s (List.mem_singleton.2 rfl) rfl⟩
  · rintro ⟨h1, h2⟩
    exact ⟨h1, by simp, fun a ha b hb e => h2 (by rw [← List.mem_singleton.1 hb, ← e]; exact ha)⟩
/-- how many there are, each once, told step by step: m of the first k; m is k just if they are unlike. -/
theorem count_step {S : List L} {s : L} {m : Nat} (h1 : m ≤ S.length) (h2 : m = S.length ↔ S.Nodup) : (if s ∈ S then m else m + 1) ≤ (S ++ [s]).length ∧ ((if s ∈ S then m else m + 1) = (S ++ [s]).length ↔ (S ++ [s]).Nodup) := by
  rw [nodup_snoc, List.length_append, List.length_singleton]
  by_cases h : s ∈ S
  · rw [if_pos h]
    exact ⟨by omega, ⟨fun e => by omega, fun e => absurd h e.2⟩⟩
  · rw [if_neg h]
    exact ⟨by omega, ⟨fun e => ⟨h2.1 (by omega), h⟩, fun e => by have := h2.2 e.1; omega⟩⟩
theorem nms_take_succ {l : List C} {k : Nat} (h : k < l.length) : nms (l.take (k + 1)) = nms (l.take k) ++ [(l.getD k c0).1] := by
  unfold nms
  rw [List.take_succ_eq_append_getElem h, List.map_append, List.getD, List.getElem?_eq_getElem h]
  rfl
theorem dom_no_at {l : L} (h : domS l = true) : (64 : UInt8) ∉ l := by
  intro hm
  obtain ⟨p, hp, h6⟩ := mem_parts (y := 64) (by decide) hm
  unfold domS at h
  rw [Bool.and_eq_true, List.all_eq_true] at h
  have := h.2 p hp
  unfold labS at this
  simp only [Bool.and_eq_true, List.all_eq_true] at this
  have := this.1.1.1.1 64 h6
  revert this
  decide
theorem domOf_at {l : L} (h : (64 : UInt8) ∉ l) : domOf (64 :: l) = l.map lowB := by
  unfold domOf
  rw [show (64 :: l : L) = [] ++ 64 :: l from rfl, foldS_at h]
  exact (loc_at ((not_mem_low (by decide)).2 h)).2
theorem rule_is (l : List C) (r : R) : ruleS l r = (decide (r.2 ∈ nms l) && (domS r.1 && (domOf (64 :: r.1) == r.1))) := by
  unfold ruleS
  rw [find_isSome, Bool.and_assoc]
  congr 1
  cases hd : domS r.1 with
  | false => rfl
  | true => rw [domOf_at (dom_no_at hd)]
theorem domOf_len (a : L) : (domOf a).length ≤ a.length := by
  unfold domOf
  have := (loc_len (foldS a)).2
  rw [foldS_length] at this
  exact this
end Rt
end Go.Proofs.Ytokaifnpmhkkpaa
