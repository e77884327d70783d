/- Messages as bytes, as plain lists: parts put together and taken, what is encoded and decoded; each way back. Conditions: none. -/
import Derived.Test.YtpfonpjcnpfipaaGreatDoorMbMath
import Derived.Test.YtpfonpjcnpfipaaGreatDoorRtMath
namespace Go.Proofs.YtpfonpjcnpfipaaGreatDoor
set_option maxRecDepth 100000
namespace En
open Go.Proofs.YtpfonpjcnpfipaaGreatDoor.Pa
abbrev L := List UInt8
/-- a number's digits. -/
def dec (n : Nat) : L := Lib.decDigits n
/-- a part as Put writes it. -/
def partS (p : L) : L := dec p.length ++ 58 :: (p ++ [44])
def putS (l : List L) : L := l.flatMap partS
def takeS (b : L) : Option (L × L) :=
  if (58 : UInt8) ∈ b then match Mb.numS (Pa.ahead 58 b) with
    | some n => if n ≤ 1000000 ∧ n < (Pa.behind 58 b).length ∧ (Pa.behind 58 b).getD n 0 = 44 then some ((Pa.behind 58 b).take n, (Pa.behind 58 b).drop (n + 1)) else none
    | none => none
  else none
theorem dec_58 (n : Nat) : (58 : UInt8) ∉ dec n := fun h => by
  have := Mb.dec_dig n _ h
  unfold Mb.digB at this
  revert this
  decide
theorem dec_inj {a b : Nat} (h : dec a = dec b) : a = b := by
  have := congrArg Mb.valL h
  unfold dec at this
  rwa [Mb.val_dec, Mb.val_dec] at this
theorem part_form (p rest : L) : partS p ++ rest = dec p.length ++ 58 :: (p ++ 44 :: rest) := by simp [partS]
theorem ahead_part (p rest : L) : Pa.ahead 58 (partS p ++ rest) = dec p.length ∧ Pa.behind 58 (partS p ++ rest) = p ++ 44 :: rest := by
  rw [part_form]
  exact ahead_at (dec_58 _)
/-- a part that is put is taken, whatever stands behind. -/
theorem take_part {p : L} (rest : L) (h : p.length ≤ 1000000) : takeS (partS p ++ rest) = some (p, rest) := by
  have h1 := ahead_part p rest
  have hm : (58 : UInt8) ∈ partS p ++ rest := by rw [part_form]; simp
  unfold takeS
  rw [if_pos hm, h1.1, h1.2]
  have hn : Mb.numS (dec p.length) = some p.length := Mb.numS_dec (by omega)
  rw [hn]
  dsimp only
  rw [if_pos ⟨h, by simp, by simp [List.getD]⟩]
  congr 2
  · simp
  · simp
theorem take_some {b p rest : L} (h : takeS b = some (p, rest)) : b = partS p ++ rest ∧ p.length ≤ 1000000 := by
  unfold takeS at h
  split at h
  · next hm =>
    obtain ⟨hb, _⟩ := cut_at hm
    cases hn : Mb.numS (Pa.ahead 58 b) with
    | none => rw [hn] at h; cases h
    | some n =>
      rw [hn] at h
      dsimp only at h
      split at h
      · next hc =>
        obtain ⟨h1, h2, h3⟩ := hc
        have hp : (Pa.behind 58 b).take n = p := (Prod.mk.inj (Option.some.inj h)).1
        have hr : (Pa.behind 58 b).drop (n + 1) = rest := (Prod.mk.inj (Option.some.inj h)).2
        have hl : p.length = n := by rw [← hp, List.length_take]; omega
        have hd := (Mb.numS_some hn).1
        refine ⟨?_, by omega⟩
        rw [part_form, hl]
        have hbb : Pa.behind 58 b = p ++ 44 :: rest := by
          conv => lhs; rw [← List.take_append_drop n (Pa.behind 58 b), hp]
          congr 1
          rw [List.drop_eq_getElem_cons h2, hr]
          congr 1
          rw [← h3, List.getD, List.getElem?_eq_getElem h2]
          rfl
        conv => lhs; rw [hb, hd, hbb]
        rfl
      · cases h
  · cases h
theorem take_iff {b p rest : L} : takeS b = some (p, rest) ↔ b = partS p ++ rest ∧ p.length ≤ 1000000 :=
  ⟨take_some, fun ⟨e, h⟩ => by rw [e]; exact take_part rest h⟩
theorem part_ne (p : L) : partS p ≠ [] := by
  unfold partS
  intro h
  have := congrArg List.length h
  simp at this
theorem take_less {b p rest : L} (h : takeS b = some (p, rest)) : rest.length < b.length := by
  rw [(take_some h).1, List.length_append]
  have := List.length_pos_iff.2 (part_ne p)
  omega
theorem take_nil : takeS [] = none := rfl
/-- up to k parts taken from the beginning. -/
def splitS : Nat → L → List L × L
  | 0, b => ([], b)
  | k + 1, b => match takeS b with
    | none => ([], b)
    | some (p, r) => (p :: (splitS k r).1, (splitS k r).2)
theorem put_cons (p : L) (l : List L) : putS (p :: l) = partS p ++ putS l := rfl
theorem split_put : ∀ (l : List L) (k : Nat), l.length ≤ k → (∀ p ∈ l, p.length ≤ 1000000) → splitS k (putS l) = (l, [])
  | [], k, _, _ => by cases k <;> rfl
  | p :: l, 0, h, _ => by simp at h
  | p :: l, k + 1, h, hp => by
    have ih := split_put l k (by simpa using h) (fun q hq => hp q (List.mem_cons_of_mem _ hq))
    rw [splitS, put_cons, take_part _ (hp p (List.mem_cons_self ..))]
    dsimp only
    rw [ih]
theorem split_back : ∀ (k : Nat) (b : L), b = putS (splitS k b).1 ++ (splitS k b).2 ∧ (splitS k b).1.length ≤ k ∧ ∀ p ∈ (splitS k b).1, p.length ≤ 1000000
  | 0, b => ⟨rfl, Nat.le_refl _, fun p hp => by cases hp⟩
  | k + 1, b => by
    cases ht : takeS b with
    | none =>
      have e : splitS (k + 1) b = ([], b) := by rw [splitS, ht]
      rw [e]
      exact ⟨rfl, Nat.zero_le _, fun p hp => by cases hp⟩
    | some q =>
      obtain ⟨p, r⟩ := q
      have e : splitS (k + 1) b = (p :: (splitS k r).1, (splitS k r).2) := by rw [splitS, ht]
      obtain ⟨h1, h2⟩ := take_some ht
      obtain ⟨i1, i2, i3⟩ := split_back k r
      rw [e]
      refine ⟨?_, by simpa using i2, fun x hx => ?_⟩
      · rw [put_cons, List.append_assoc, ← i1]; exact h1
      · rcases List.mem_cons.1 hx with rfl | hx
        · exact h2
        · exact i3 x hx
/-- a message: its number, its class, from whom, to whom, when, its bytes. -/
structure M where
  id : Int
  cls : L
  fr : L
  tos : List L
  at_ : Int
  body : L
def envB (fr : L) (to : List L) (t : Int) : Bool := (fr.isEmpty || mailS fr) && (decide (1 ≤ to.length ∧ to.length ≤ 100) && (decide (0 ≤ t) && to.all mailS))
def checkB (m : M) : Bool := envB m.fr m.tos m.at_ && decide (m.body.length ≤ 500000)
def okB (m : M) : Bool := checkB m && (decide (1 ≤ m.id ∧ m.id ≤ 1099511627776) && Rt.smallS 20 m.cls)
def fldS (m : M) : List L := dec m.id.toNat :: m.cls :: m.fr :: dec m.at_.toNat :: dec m.tos.length :: (m.tos ++ [m.body])
def encS (m : M) : Option L := if okB m then some (putS (fldS m)) else none
theorem mail_len {a : L} (h : mailS a = true) : a.length ≤ 320 := by
  unfold mailS at h
  rw [Bool.and_eq_true, Bool.and_eq_true, decide_eq_true_eq] at h
  have h1 := h.1.1
  have h2 : (dom a).length ≤ 255 := by
    have := h.2
    unfold domS at this
    rw [Bool.and_eq_true, decide_eq_true_eq] at this
    exact this.1
  rcases last_cases a with ⟨hn, _⟩ | ⟨x, y, rfl, hy, _⟩
  · rw [(loc_no hn).1] at h1; omega
  · rw [(loc_at hy).1] at h1
    rw [(loc_at hy).2] at h2
    simp; omega
theorem ok_parts {m : M} (h : okB m = true) : (m.fr = [] ∨ mailS m.fr = true) ∧ (1 ≤ m.tos.length ∧ m.tos.length ≤ 100) ∧ 0 ≤ m.at_ ∧ (∀ a ∈ m.tos, mailS a = true) ∧ m.body.length ≤ 500000 ∧ (1 ≤ m.id ∧ m.id ≤ 1099511627776) ∧ Rt.smallS 20 m.cls = true := by
  unfold okB checkB envB at h
  simp only [Bool.and_eq_true, Bool.or_eq_true, decide_eq_true_eq, List.isEmpty_iff, List.all_eq_true] at h
  obtain ⟨⟨⟨h1, h2, h3, h4⟩, h5⟩, h6, h7⟩ := h
  exact ⟨h1, h2, h3, h4, h5, h6, h7⟩
theorem dec_len {n : Nat} (h : n < 1000000000000000000000) : (dec n).length ≤ 30 := by
  have : ∀ (k n : Nat), n < 10 ^ k → (Lib.decDigits n).length ≤ max k 1 := by
    intro k
    induction k with
    | zero =>
      intro n hn
      have : n = 0 := by simpa using hn
      subst this
      simp [Lib.decDigits]
    | succ k ih =>
      intro n hn
      rw [Lib.decDigits]
      split
      · simp
      · rw [List.length_append, List.length_singleton]
        have h1 := ih (n / 10) (by rw [Nat.pow_succ] at hn; omega)
        have : 1 ≤ k := by
          rcases Nat.eq_zero_or_pos k with h0 | h0
          · subst h0; omega
          · exact h0
        omega
  have := this 21 n h
  unfold dec
  omega
/-- what is encoded has parts that are no longer than a part may be. -/
theorem fld_len {m : M} (h : okB m = true) (ht : m.at_ ≤ 9223372036854775807) : (fldS m).length ≤ 106 ∧ 7 ≤ (fldS m).length ∧ ∀ p ∈ fldS m, p.length ≤ 1000000 := by
  obtain ⟨h1, h2, h3, h4, h5, h6, h7⟩ := ok_parts h
  refine ⟨by simp [fldS]; omega, by simp [fldS]; omega, fun p hp => ?_⟩
  unfold fldS at hp
  simp only [List.mem_cons, List.mem_append, List.not_mem_nil, or_false] at hp
  rcases hp with rfl | rfl | rfl | rfl | rfl | hp | rfl
  · have := dec_len (n := m.id.toNat) (by omega); omega
  · unfold Rt.smallS at h7
    rw [Bool.and_eq_true, decide_eq_true_eq] at h7
    omega
  · rcases h1 with h1 | h1
    · rw [h1]; simp
    · have := mail_len h1; omega
  · have := dec_len (n := m.at_.toNat) (by omega); omega
  · have := dec_len (n := m.tos.length) (by omega); omega
  · have := mail_len (h4 p hp); omega
  · omega
/-- the message that parts may be of. -/
def candS (l : List L) : M := ⟨((Mb.numS (l.getD 0 [])).getD 0 : Nat), l.getD 1 [], l.getD 2 [], (l.drop 5).dropLast, ((Mb.numS (l.getD 3 [])).getD 0 : Nat), (l.drop 5).getLastD []⟩
theorem cand_fld {m : M} (h : okB m = true) (ht : m.at_ ≤ 9223372036854775807) : candS (fldS m) = m := by
  obtain ⟨h1, h2, h3, h4, h5, h6, h7⟩ := ok_parts h
  obtain ⟨id, cls, fr, to, t, body⟩ := m
  dsimp only at *
  have e1 : Mb.numS (dec id.toNat) = some id.toNat := Mb.numS_dec (by omega)
  have e2 : Mb.numS (dec t.toNat) = some t.toNat := Mb.numS_dec (by omega)
  unfold candS fldS
  simp only [List.getD_cons_zero, List.getD_cons_succ, List.drop_succ_cons, List.drop_zero, List.dropLast_concat, e1, e2, Option.getD_some]
  congr 1
  · omega
  · omega
  · rw [List.getLastD_concat]
/-- the message whose bytes these are. -/
def decS (b : L) : Option M := if 7 ≤ (splitS 110 b).1.length ∧ (splitS 110 b).2 = [] ∧ encS (candS (splitS 110 b).1) = some b then some (candS (splitS 110 b).1) else none
theorem dec_enc {m : M} {b : L} (ht : m.at_ ≤ 9223372036854775807) (h : encS m = some b) : decS b = some m := by
  unfold encS at h
  split at h
  · next hk =>
    obtain ⟨h1, h2, h3⟩ := fld_len hk ht
    have hb : putS (fldS m) = b := Option.some.inj h
    have hs : splitS 110 b = (fldS m, []) := by rw [← hb]; exact split_put _ _ (by omega) h3
    unfold decS
    rw [hs]
    dsimp only
    rw [cand_fld hk ht]
    rw [if_pos ⟨h2, rfl, by unfold encS; rw [if_pos hk, hb]⟩]
  · cases h
theorem dec_some {m : M} {b : L} (h : decS b = some m) : encS m = some b := by
  unfold decS at h
  split at h
  · next hc => rw [← Option.some.inj h]; exact hc.2.2
  · cases h
theorem cand_at (l : List L) : 0 ≤ (candS l).at_ ∧ (candS l).at_ ≤ 9223372036854775807 := by
  unfold candS
  dsimp only
  cases hn : Mb.numS (l.getD 3 []) with
  | none => simp
  | some n =>
    have := (Mb.numS_some hn).2
    simp only [Option.getD_some]
    omega
end En
end Go.Proofs.YtpfonpjcnpfipaaGreatDoor
