/- First places of texts in texts, as the document looks for them. Conditions: none. -/
import Derived.Test.YtamekflgidfnfaaGreatDoorMiMath
namespace Go.Proofs.YtamekflgidfnfaaGreatDoor
set_option maxRecDepth 100000
namespace Mi
open Go.Proofs.YtamekflgidfnfaaGreatDoor.Pa
/-- the first place of s in b; -1. -/
def IdxP (s b : L) (i : Int) : Prop := (∃ k : Nat, i = k ∧ k + s.length ≤ b.length ∧ s.isPrefixOf (b.drop k) = true ∧ ∀ j, j < k → s.isPrefixOf (b.drop j) = false) ∨ (i = -1 ∧ ∀ j, s.isPrefixOf (b.drop j) = false)
theorem pre_take (s t : L) : s.isPrefixOf t = (t.take s.length == s) := by
  rw [Bool.eq_iff_iff, List.isPrefixOf_iff_prefix, beq_iff_eq, List.prefix_iff_eq_take]
  exact eq_comm
theorem pre_short {s t : L} (h : t.length < s.length) : s.isPrefixOf t = false := by
  rw [Bool.eq_false_iff, Ne, List.isPrefixOf_iff_prefix]
  intro hp
  have := hp.length_le
  omega
theorem in_drop (s b : L) : inB s b = true ↔ ∃ j, s.isPrefixOf (b.drop j) = true := by
  rw [in_iff]
  constructor
  · rintro ⟨x, y, rfl⟩
    exact ⟨x.length, by rw [List.drop_left, List.isPrefixOf_iff_prefix]; exact ⟨y, rfl⟩⟩
  · rintro ⟨j, h⟩
    rw [List.isPrefixOf_iff_prefix] at h
    obtain ⟨y, hy⟩ := h
    exact ⟨b.take j, y, by rw [hy, List.take_append_drop]⟩
theorem idx_in {s b : L} {i : Int} (h : IdxP s b i) : inB s b = decide (0 ≤ i) := by
  rcases h with ⟨k, rfl, _, h1, _⟩ | ⟨rfl, h1⟩
  · rw [(in_drop s b).2 ⟨k, h1⟩, decide_eq_true (by omega)]
  · rw [decide_eq_false (by omega), Bool.eq_false_iff]
    intro hc
    obtain ⟨j, hj⟩ := (in_drop s b).1 hc
    rw [h1 j] at hj
    cases hj
theorem cut_first : ∀ (k : Nat) (b : L), cr.isPrefixOf (b.drop k) = true → (∀ j, j < k → cr.isPrefixOf (b.drop j) = false) → cutCR b = some (b.take k, b.drop (k + 2))
  | 0, b, h, _ => by
    rw [List.drop_zero, List.isPrefixOf_iff_prefix] at h
    obtain ⟨y, rfl⟩ := h
    exact cut_cr (a := []) (by simp) y
  | k + 1, [], h, _ => by simp [cr] at h
  | k + 1, [c], h, _ => by simp [cr] at h
  | k + 1, c :: d :: b, h, hn => by
    have h0 := hn 0 (by omega)
    have hc : ¬ (c = 13 ∧ d = 10) := by
      rintro ⟨rfl, rfl⟩
      simp [cr] at h0
    have := cut_first k (d :: b) (by simpa using h) (fun j hj => by simpa using hn (j + 1) (by omega))
    rw [cutCR, if_neg hc, this]
    simp
theorem cut_none : ∀ (b : L), (∀ j, cr.isPrefixOf (b.drop j) = false) → cutCR b = none
  | [], _ => rfl
  | [c], _ => rfl
  | c :: d :: b, hn => by
    have h0 := hn 0
    have hc : ¬ (c = 13 ∧ d = 10) := by
      rintro ⟨rfl, rfl⟩
      simp [cr] at h0
    rw [cutCR, if_neg hc, cut_none (d :: b) (fun j => by simpa using hn (j + 1))]
    rfl
theorem idx_cut {b : L} {i : Int} (h : IdxP cr b i) : (∃ k : Nat, i = k ∧ k + 2 ≤ b.length ∧ cutCR b = some (b.take k, b.drop (k + 2))) ∨ (i = -1 ∧ cutCR b = none) := by
  rcases h with ⟨k, rfl, hl, h1, h2⟩ | ⟨rfl, h1⟩
  · exact .inl ⟨k, rfl, hl, cut_first k b h1 h2⟩
  · exact .inr ⟨rfl, cut_none b h1⟩
/-- chapter 11's example, and the law's. -/
def exB : L := [45, 45, 106, 111, 117, 114, 110, 97, 108, 45, 48]
theorem dec_0 : Lib.decDigits 0 = [48] := by rw [Lib.decDigits_one (by decide)]; rfl
theorem dec_1 : Lib.decDigits 1 = [49] := by rw [Lib.decDigits_one (by decide)]; rfl
theorem ex_bnd : bN exB = 1 ∧ bndS exB = [106, 111, 117, 114, 110, 97, 108, 45, 49] := by
  have h : bN exB = 1 := by
    refine bN_is (fun k hk => ?_) ?_
    · obtain rfl : k = 0 := by omega
      unfold bndN
      rw [dec_0]
      decide
    · unfold bndN
      rw [dec_1]
      decide
  refine ⟨h, ?_⟩
  unfold bndS bndN
  rw [h, dec_1]
  rfl
theorem ex_nil : bN [] = 0 ∧ bndS [] = [106, 111, 117, 114, 110, 97, 108, 45, 48] := by
  have h : bN [] = 0 := bN_is (fun k hk => absurd hk (Nat.not_lt_zero k)) (by
    unfold bndN dash
    rw [dec_0]
    decide)
  refine ⟨h, ?_⟩
  unfold bndS bndN
  rw [h, dec_0]
  rfl
theorem ex_mail : mailS [97, 64, 98] = true := by
  have h : loc ([97] ++ 64 :: [98]) = [97] ∧ dom ([97] ++ 64 :: [98]) = [98] := loc_at (by decide)
  have e : ([97, 64, 98] : L) = [97] ++ 64 :: [98] := rfl
  unfold mailS
  rw [e, h.1, h.2]
  decide
theorem ex_rep : errS ([], [[97, 64, 98]], 0) [] = 0 ∧ 100 < (repS ([], [[97, 64, 98]], 0) []).length := by
  constructor
  · refine err_0.2 ⟨?_, by simp, by simp⟩
    unfold envOk
    simp [ex_mail]
  · unfold repS headS
    simp only [List.length_append]
    have h0 : seg0.length = 59 := rfl
    have h2 : seg2.length = 36 := rfl
    have h5 : seg5.length = 32 := rfl
    omega
/-- what is refused and what is too long, by the number that is answered. -/
theorem err_cases (e : Env) (b : L) : errS e b = 0 ∨ errS e b = 2 ∨ errS e b = 110 := by
  unfold errS
  split
  · split <;> simp
  · simp
end Mi
end Go.Proofs.YtamekflgidfnfaaGreatDoor
