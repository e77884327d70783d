/- Classes, rules, until when something is kept, as plain functions on lists; their laws. Conditions: none. -/
import Derived.Test.YtpfonpjcnpfipaaGreatDoorPaMath
namespace Go.Proofs.YtpfonpjcnpfipaaGreatDoor
set_option maxRecDepth 100000
namespace Rt
open Go.Proofs.YtpfonpjcnpfipaaGreatDoor.Pa
abbrev L := List UInt8
/-- a class: its name, how long it is kept. -/
abbrev C := List UInt8 × Int
/-- a rule: its domain, its class. -/
abbrev R := List UInt8 × List UInt8
/-- 1 to n letters a to z. -/
def smallS (n : Nat) (s : L) : Bool := s.all (fun c => decide (97 ≤ c.toNat ∧ c.toNat ≤ 122)) && decide (1 ≤ s.length ∧ s.length ≤ n)
def findS (l : List C) (nm : L) : Option C := l.find? fun c => c.1 == nm
def topT : Int := 9223372036854775807
/-- the sum, or the end of all time. -/
def untilS (at' keep : Int) : Int := if topT < at' + max keep 0 then topT else at' + max keep 0
def overS (l : List C) (nm : L) (at' now : Int) : Bool := match findS l nm with
  | some c => decide (untilS at' c.2 ≤ now)
  | none => false
/-- classes are as they may be, one behind the other: the names ahead are those of pre. -/
def clsS : List C → List C → Bool
  | _, [] => true
  | pre, c :: l => (findS pre c.1).isNone && smallS 20 c.1 && decide (1 ≤ c.2) && clsS (pre ++ [c]) l
def ruleS (l : List C) (r : R) : Bool := (findS l r.2).isSome && domS r.1 && (r.1.map lowB == r.1)
def checkS (l : List C) (rs : List R) : Bool := decide (1 ≤ l.length ∧ l.length ≤ 100 ∧ rs.length ≤ 100) && clsS [] l && rs.all (ruleS l)
/-- the domain of an address. -/
def domOf (a : L) : L := dom (foldS a)
def fitS (fr : L) (to : List L) (d : L) : Bool := domOf fr == d || to.any (fun a => domOf a == d)
def chooseS (l : List C) (rs : List R) (fr : L) (to : List L) : L := match rs.find? (fun r => fitS fr to r.1) with
  | some r => r.2
  | none => match l with
    | c :: _ => c.1
    | [] => []
theorem find_nil (nm : L) : findS [] nm = none := rfl
theorem find_some {l : List C} {nm : L} {c : C} (h : findS l nm = some c) : c ∈ l ∧ c.1 = nm := by
  unfold findS at h
  exact ⟨List.mem_of_find?_eq_some h, by have := List.find?_some h; simpa using this⟩
theorem until_le (at' keep : Int) (h1 : -9223372036854775808 ≤ at') (h2 : at' ≤ topT) (h3 : keep ≤ topT) : at' ≤ untilS at' keep ∧ untilS at' keep ≤ topT := by
  unfold untilS topT at *
  split <;> omega
theorem until_mono {a b k m : Int} (h1 : a ≤ b) (h2 : k ≤ m) : untilS a k ≤ untilS b m := by
  unfold untilS topT
  split <;> split <;> omega
/-- classes that may be are kept a second or more. -/
theorem cls_keep : ∀ (l pre : List C), clsS pre l = true → ∀ c ∈ l, 1 ≤ c.2
  | [], _, _ => fun c h => by cases h
  | x :: l, pre, h => fun c hc => by
    rw [clsS, Bool.and_eq_true, Bool.and_eq_true, Bool.and_eq_true, decide_eq_true_eq] at h
    rcases List.mem_cons.1 hc with hc | hc
    · rw [hc]; exact h.1.2
    · exact cls_keep l _ h.2 c hc
theorem over_late {l : List C} {nm : L} {a now then_ : Int} (h : overS l nm a now = true) (ht : now ≤ then_) : overS l nm a then_ = true := by
  unfold overS at *
  cases hf : findS l nm with
  | none => rw [hf] at h; cases h
  | some c =>
    rw [hf] at h
    simp only [decide_eq_true_eq] at h ⊢
    omega
theorem over_first {l : List C} {nm : L} {a now : Int} (hc : clsS [] l = true) (h : overS l nm a now = true) : a < now ∨ now = topT ∨ topT < now := by
  unfold overS at h
  cases hf : findS l nm with
  | none => rw [hf] at h; cases h
  | some c =>
    rw [hf] at h
    have hk := cls_keep l [] hc c (find_some hf).1
    simp only [decide_eq_true_eq] at h
    unfold untilS topT at h
    unfold topT at *
    split at h <;> omega
/-- what a class is that nobody made. -/
def c0 : C := ([], 0)
def r0 : R := ([], [])
theorem find_at : ∀ {l : List C} {nm : L} {k : Nat}, (∀ j, j < k → (l.getD j c0).1 ≠ nm) → k < l.length → (l.getD k c0).1 = nm → findS l nm = some (l.getD k c0)
  | [], _, k, _, h, _ => by simp at h
  | c :: l, nm, 0, _, _, h => by
    have : c.1 = nm := h
    simp [findS, this]
  | c :: l, nm, k + 1, h1, h2, h3 => by
    have hc : c.1 ≠ nm := h1 0 (Nat.zero_lt_succ _)
    have ih := find_at (l := l) (nm := nm) (k := k) (fun j hj => h1 (j + 1) (Nat.succ_lt_succ hj)) (Nat.lt_of_succ_lt_succ h2) h3
    unfold findS at ih ⊢
    rw [List.find?_cons_of_neg (by simpa using hc)]
    exact ih
theorem find_miss {l : List C} {nm : L} (h : ∀ j, j < l.length → (l.getD j c0).1 ≠ nm) : findS l nm = none := by
  unfold findS
  rw [List.find?_eq_none]
  intro c hc
  obtain ⟨i, hi, rfl⟩ := List.mem_iff_getElem.1 hc
  have := h i hi
  simpa [List.getD, hi] using this
/-- the class at k among those ahead of it. -/
def clsAt (l : List C) (k : Nat) : Bool := (findS (l.take k) (l.getD k c0).1).isNone && smallS 20 (l.getD k c0).1 && decide (1 ≤ (l.getD k c0).2)
theorem cls_step {l : List C} {k : Nat} (h : k < l.length) : clsS (l.take k) (l.drop k) = (clsAt l k && clsS (l.take (k + 1)) (l.drop (k + 1))) := by
  have e : l.getD k c0 = l[k] := by simp [List.getD, h]
  rw [List.drop_eq_getElem_cons h, clsS, clsAt, e, List.take_succ_eq_append_getElem h]
theorem cls_end (l : List C) : clsS (l.take l.length) (l.drop l.length) = true := by simp [clsS]
theorem cls_start (l : List C) : clsS [] l = clsS (l.take 0) (l.drop 0) := by simp
theorem rules_bad {l : List C} {rs : List R} {k : Nat} (h : k < rs.length) (hb : ruleS l (rs.getD k r0) = false) : rs.all (ruleS l) = false := by
  rw [Bool.eq_false_iff]
  intro ha
  rw [List.all_eq_true] at ha
  have := ha (rs.getD k r0) (by simp [List.getD, h])
  rw [hb] at this
  cases this
theorem rules_good {l : List C} {rs : List R} (h : ∀ k, k < rs.length → ruleS l (rs.getD k r0) = true) : rs.all (ruleS l) = true := by
  rw [List.all_eq_true]
  intro r hr
  obtain ⟨i, hi, rfl⟩ := List.mem_iff_getElem.1 hr
  have := h i hi
  simpa [List.getD, hi] using this
theorem rule_at : ∀ {rs : List R} {f : R → Bool} {k : Nat}, (∀ j, j < k → f (rs.getD j r0) = false) → k < rs.length → f (rs.getD k r0) = true → rs.find? f = some (rs.getD k r0)
  | [], _, k, _, h, _ => by simp at h
  | c :: l, f, 0, _, _, h => by
    have : f c = true := h
    simp [this]
  | c :: l, f, k + 1, h1, h2, h3 => by
    have hc : f c = false := h1 0 (Nat.zero_lt_succ _)
    have ih := rule_at (rs := l) (f := f) (k := k) (fun j hj => h1 (j + 1) (Nat.succ_lt_succ hj)) (Nat.lt_of_succ_lt_succ h2) h3
    rw [List.find?_cons_of_neg (by simp [hc])]
    exact ih
theorem rule_miss {rs : List R} {f : R → Bool} (h : ∀ j, j < rs.length → f (rs.getD j r0) = false) : rs.find? f = none := by
  rw [List.find?_eq_none]
  intro c hc
  obtain ⟨i, hi, rfl⟩ := List.mem_iff_getElem.1 hc
  have := h i hi
  simpa [List.getD, hi] using this
/-- the sum as the program may reckon it: no number passes the end. -/
theorem until_high {a k : Int} (hk : 0 ≤ k) (h : topT - a < k) : untilS a k = topT := by
  unfold untilS
  rw [if_pos (by omega)]
theorem until_low {a k : Int} (hk : 0 ≤ k) (h : ¬ topT - a < k) : untilS a k = a + k := by
  unfold untilS
  rw [if_neg (by omega), Int.max_eq_left hk]
theorem until_neg {a k : Int} (hk : k < 0) (ha : a ≤ topT) : untilS a k = a := by
  unfold untilS
  rw [Int.max_eq_right (by omega), if_neg (by omega)]; omega
end Rt
end Go.Proofs.YtpfonpjcnpfipaaGreatDoor
