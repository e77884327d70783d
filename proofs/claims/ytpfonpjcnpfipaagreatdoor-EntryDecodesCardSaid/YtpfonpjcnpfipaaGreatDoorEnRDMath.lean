/- What the document's Decode has found at its end, as plain lists. Conditions: none. -/
import Derived.Test.YtpfonpjcnpfipaaGreatDoorEnRead
namespace Go.Proofs.YtpfonpjcnpfipaaGreatDoor
set_option maxRecDepth 100000
namespace En
open Go.Proofs.YtpfonpjcnpfipaaGreatDoor.Pa
theorem split_none {k : Nat} {b : L} (h : takeS b = none) : splitS (k + 1) b = ([], b) := by rw [splitS, h]
theorem split_some {k : Nat} {b p r : L} (h : takeS b = some (p, r)) : splitS (k + 1) b = (p :: (splitS k r).1, (splitS k r).2) := by rw [splitS, h]
theorem rd_short {b : L} (h : (splitS 110 b).1.length < 7 ∨ 0 < (splitS 110 b).2.length) : decS b = none := by
  unfold decS
  rw [if_neg]
  rintro ⟨h1, h2, _⟩
  rcases h with h | h
  · omega
  · rw [h2] at h; simp at h
theorem rd_end {b : L} {l : List L} {i t : Int} (hs : splitS 110 b = (l, [])) (hi : ∀ n : Nat, Mb.numS (l.getD 0 []) = some n → i = n) (ht : ∀ n : Nat, Mb.numS (l.getD 3 []) = some n → t = n) (htb : t ≤ 9223372036854775807) :
    decS b = if encS ⟨i, l.getD 1 [], l.getD 2 [], (l.drop 5).dropLast, t, (l.drop 5).getLastD []⟩ = some b then some ⟨i, l.getD 1 [], l.getD 2 [], (l.drop 5).dropLast, t, (l.drop 5).getLastD []⟩ else none := by
  split
  · next he => exact dec_enc (m := ⟨i, l.getD 1 [], l.getD 2 [], (l.drop 5).dropLast, t, (l.drop 5).getLastD []⟩) htb he
  · next he =>
    cases hd : decS b with
    | none => rfl
    | some m =>
      exfalso
      have hm : m = candS l := by
        unfold decS at hd
        rw [hs] at hd
        split at hd
        · exact (Option.some.inj hd).symm
        · cases hd
      have hen := dec_some hd
      have hb : b = putS l := by
        have := (split_back 110 b).1
        rw [hs] at this
        simpa using this
      have hlp : ∀ p ∈ l, p.length ≤ 1000000 := by
        have := (split_back 110 b).2.2
        rw [hs] at this
        exact this
      obtain ⟨hk, h1, u, e1, e2⟩ := dec_took (ps := l) (rest := []) (b := b) ⟨by rw [List.append_nil]; exact hb, hlp⟩ hd
      have hu : u = [] := by
        cases u with
        | nil => rfl
        | cons p u =>
          have := congrArg List.length e2
          rw [put_cons, List.length_append] at this
          have := List.length_pos_iff.2 (part_ne p)
          simp at *
          omega
      rw [hu, List.append_nil] at e1
      obtain ⟨_, h2, h3, _, _, h6, _⟩ := ok_parts hk
      have n0 : Mb.numS (l.getD 0 []) = some m.id.toNat := by rw [← e1]; exact Mb.numS_dec (by omega)
      have n3 : Mb.numS (l.getD 3 []) = some m.at_.toNat := by rw [← e1]; exact Mb.numS_dec (by omega)
      have ei : i = m.id := by rw [hi _ n0]; omega
      have et : t = m.at_ := by rw [ht _ n3]; omega
      apply he
      rw [ei, et]
      rw [hm] at hen ⊢
      exact hen
theorem drop_take {l : List L} (h : 7 ≤ l.length) : (l.drop 5).dropLast = (l.drop 5).take (l.length - 6) ∧ (l.drop 5).getLastD [] = l.getD (l.length - 1) [] ∧ ∀ k, k < l.length - 6 → ((l.drop 5).dropLast).getD k [] = l.getD (5 + k) [] := by
  refine ⟨by rw [List.dropLast_eq_take, List.length_drop]; congr 1, ?_, fun k hk => ?_⟩
  · rw [List.getLastD_eq_getLast?, List.getLast?_eq_getElem?, List.length_drop, List.getElem?_drop]
    rw [show 5 + (l.length - 5 - 1) = l.length - 1 by omega]
    rfl
  · rw [List.dropLast_eq_take]
    simp only [List.getD]
    rw [List.getElem?_take_of_lt (by rw [List.length_drop]; omega), List.getElem?_drop]
end En
end Go.Proofs.YtpfonpjcnpfipaaGreatDoor
