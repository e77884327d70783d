/- Numbers and first lines as the document reads them. Conditions: none. -/
import Derived.Test.YtpfonpjcnpfipaaGreatDoorMbLet
namespace Go.Proofs.YtpfonpjcnpfipaaGreatDoor
set_option maxRecDepth 100000
namespace Mb
open Go.Proofs.YtpfonpjcnpfipaaGreatDoor.Pa
theorem num_digs {ds : L} {n : Nat} (h : numS ds = some n) : ∀ c ∈ ds, digB c := by
  rw [(numS_some h).1]
  exact dec_dig n
theorem val_app (a b : L) : valL (a ++ b) = valF (valL a) b := by unfold valL valF; rw [List.foldl_append]
theorem val_take (ds : L) (k : Nat) : valL (ds.take k) ≤ valL ds := by
  have h := val_app (ds.take k) (ds.drop k)
  rw [List.take_append_drop] at h
  rw [h]
  exact valF_le _ _
theorem val_next {ds : L} {k : Nat} (hk : k < ds.length) : valL (ds.take (k + 1)) = 10 * valL (ds.take k) + ((ds.getD k 0).toNat - 48) := by
  rw [List.take_succ_eq_append_getElem hk]
  have : ds.getD k 0 = ds[k] := by simp [List.getD, hk]
  rw [this]
  exact valF_snoc 0 _ _
theorem num_no_dig {ds : L} {k : Nat} (hk : k < ds.length) (h : ¬ digB (ds.getD k 0)) : numS ds = none := by
  cases hn : numS ds with
  | none => rfl
  | some n => exact absurd (num_digs hn _ (by simp [List.getD, hk])) h
theorem num_big {ds : L} {k : Nat} (h : 9223372036854775808 ≤ valL (ds.take k)) : numS ds = none := by
  cases hn : numS ds with
  | none => rfl
  | some n =>
    have h1 := numS_some hn
    have h2 := val_take ds k
    rw [h1.1, val_dec] at h2
    rw [h1.1] at h
    omega
theorem num_nil : numS [] = none := by
  cases hn : numS [] with
  | none => rfl
  | some n => exact absurd (numS_some hn).1.symm (dec_ne n)
theorem num_zero {ds : L} (h : ds.head? = some 48) (h' : ds ≠ [48]) : numS ds = none := by
  cases hn : numS ds with
  | none => rfl
  | some n =>
    have h1 := (numS_some hn).1
    rcases dec_head n with h2 | h2
    · rw [← h1] at h2; exact absurd h h2
    · rw [← h1] at h2; exact absurd h2 h'
theorem num_all {ds : L} (hd : ∀ c ∈ ds, digB c) (hne : ds ≠ []) (hh : ds.head? ≠ some 48 ∨ ds = [48]) (hv : valL ds < 9223372036854775808) : numS ds = some (valL ds) := by
  unfold numS
  rw [if_pos ⟨(dig_canon ds.length ds (Nat.le_refl _) hd hne hh).1, hv⟩]
theorem digs_all {ds : L} (h : ∀ k, k < ds.length → digB (ds.getD k 0)) : ∀ c ∈ ds, digB c := fun c hc => by
  obtain ⟨i, hi, rfl⟩ := List.mem_iff_getElem.1 hc
  have := h i hi
  simpa [List.getD, hi] using this
/-- a first line, taken apart. -/
theorem first_parts {f : L} {w : L} {n : Nat} (h : firstS f = some (w, n)) : ∃ a ds, f = mkL ++ (a ++ 32 :: ds) ++ [10] ∧ w = whom a ∧ ds = Lib.decDigits n ∧ n < 9223372036854775808 ∧ (a = [45] ∨ mailS a = true) := by
  unfold firstS at h
  split at h
  · rename_i hc
    obtain ⟨h1, h2, h3, h4⟩ := hc
    cases hn : numS (Pa.behind 32 (f.drop 5).dropLast) with
    | none => rw [hn] at h; cases h
    | some m =>
      rw [hn] at h
      injection h with h
      injection h with hw hm
      subst hm
      obtain ⟨e, hno⟩ := cut_at (has_iff.1 h3)
      obtain ⟨r, hr⟩ := (mark_iff f).1 h1
      obtain ⟨s, hs⟩ := (suf_iff f).1 h2
      have hd5 : f.drop 5 = r := by rw [hr]; rfl
      have hrne : r ≠ [] := by
        intro e0
        rw [hd5, e0] at h3
        simp [has] at h3
      have hlast : r = r.dropLast ++ [10] := by
        have h6 : f.getLast? = some 10 := by rw [hs]; simp
        rw [hr] at h6
        have h7 : r.getLast? = some 10 := by
          cases r with
          | nil => exact absurd rfl hrne
          | cons x t => simpa using h6
        have h8 := List.dropLast_concat_getLast hrne
        have h9 : r.getLast hrne = 10 := by
          rw [List.getLast?_eq_some_getLast hrne] at h7
          injection h7
        rw [h9] at h8
        exact h8.symm
      refine ⟨Pa.ahead 32 (f.drop 5).dropLast, Pa.behind 32 (f.drop 5).dropLast, ?_, hw.symm, (numS_some hn).1, (numS_some hn).2, h4⟩
      rw [← e, hd5, hr]
      show mkL ++ r = mkL ++ r.dropLast ++ [10]
      rw [List.append_assoc, ← hlast]
  · cases h
theorem exp_first {f : L} {w : L} {n : Nat} (h : firstS f = some (w, n)) (B : L) : (expS (w, (n : Int), B)).length = f.length + (quoteS B).length + 1 ∧ w.length ≤ f.length ∧ n < 9223372036854775808 := by
  obtain ⟨a, ds, hf, hw, hd, hn, hm⟩ := first_parts h
  have hwa := (whom_who hm).1
  have hwl : w.length ≤ a.length := by
    rw [hw]
    unfold whom
    split
    · simp
    · exact Nat.le_refl _
  refine ⟨?_, ?_, hn⟩
  · unfold expS
    simp only
    rw [hw, hwa, Lib.itoa_nonneg, ← hd, hf]
    simp
    omega
  · rw [hf]
    simp
    omega
theorem mkd_70 {x : L} (h : mkd x = true) : mark x = decide (x.head? = some 70) := by
  rcases mkd_cases h with h1 | ⟨y, rfl, _⟩
  · rw [h1]
    obtain ⟨r, rfl⟩ := (mark_iff x).1 h1
    rfl
  · rw [mark_62]
    simp
theorem mark_no_mkd {x : L} (h : mkd x = false) : mark x = false := by
  cases hm : mark x with
  | false => rfl
  | true => rw [mark_mkd hm] at h; cases h
end Mb
end Go.Proofs.YtpfonpjcnpfipaaGreatDoor
