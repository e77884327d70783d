/- A report taken apart line by line, as the program does it; it is the same answer. Conditions: none. -/
import Derived.Test.YtamekflgidfnfaaGreatDoorMiRRep
namespace Go.Proofs.YtamekflgidfnfaaGreatDoor
set_option maxRecDepth 100000
namespace Mi
open Go.Proofs.YtamekflgidfnfaaGreatDoor.Pa
def pVER : L := [77, 73, 77, 69, 45, 86, 101, 114, 115, 105, 111, 110, 58, 32, 49, 46, 48]
def pMIX : L := [67, 111, 110, 116, 101, 110, 116, 45, 84, 121, 112, 101, 58, 32, 109, 117, 108, 116, 105, 112, 97, 114, 116, 47, 109, 105, 120, 101, 100, 59, 32, 98, 111, 117, 110, 100, 97, 114, 121, 61]
def pPLN : L := [67, 111, 110, 116, 101, 110, 116, 45, 84, 121, 112, 101, 58, 32, 116, 101, 120, 116, 47, 112, 108, 97, 105, 110]
def pSND : L := [83, 101, 110, 100, 101, 114, 58, 32]
def pRCV : L := [82, 101, 99, 101, 105, 118, 101, 100, 58, 32]
def pRCP : L := [82, 101, 99, 105, 112, 105, 101, 110, 116, 58, 32]
def pMSG : L := [67, 111, 110, 116, 101, 110, 116, 45, 84, 121, 112, 101, 58, 32, 109, 101, 115, 115, 97, 103, 101, 47, 114, 102, 99, 56, 50, 50]
/-- a line that begins so: what else it has, and what is behind it. -/
def lineS (p l : L) : Option (L × L) := match cutCR l with
  | none => none
  | some (a, t) => if p.isPrefixOf a = true then some (a.drop p.length, t) else none
theorem line_is (p : L) {a : L} (h : (13 : UInt8) ∉ p ++ a) (t : L) : lineS p (p ++ (a ++ (cr ++ t))) = some (a, t) := by
  unfold lineS
  rw [← List.append_assoc, cut_cr h t]
  simp only
  rw [if_pos (by rw [List.isPrefixOf_iff_prefix]; exact ⟨_, rfl⟩), List.drop_left]
theorem line_len {p l a t : L} (h : lineS p l = some (a, t)) : a.length + t.length + 2 ≤ l.length := by
  unfold lineS at h
  cases hc : cutCR l with
  | none => rw [hc] at h; cases h
  | some q =>
    obtain ⟨a', t'⟩ := q
    rw [hc] at h
    simp only at h
    split at h
    · injection h with h
      injection h with h1 h2
      have := congrArg List.length (cut_sound hc)
      have hcr : cr.length = 2 := rfl
      rw [List.length_append, List.length_append, hcr] at this
      rw [← h1, ← h2, List.length_drop]
      omega
    · cases h
/-- the first lines. -/
def topP (r : L) : Option (L × L) :=
  match lineS pVER r with
  | none => none
  | some (_, r1) => match lineS pMIX r1 with
    | none => none
    | some (n, r2) => match lineS [] r2 with
      | none => none
      | some (_, r3) => some (n, r3)
/-- recipients, at most so many. -/
def tosP : Nat → L → Option (List L × L)
  | 0, s => some ([], s)
  | k + 1, s => if pRCP.isPrefixOf s = true then (match lineS pRCP s with
      | none => none
      | some (t, s') => match tosP k s' with
        | none => none
        | some (l, s2) => some (t :: l, s2)) else some ([], s)
/-- the envelope's lines. -/
def envP (n r : L) : Option (Env × L) :=
  match lineS ([45, 45] ++ n) r with
  | none => none
  | some (_, r1) => match lineS pPLN r1 with
    | none => none
    | some (_, r2) => match lineS [] r2 with
      | none => none
      | some (_, r3) => match lineS pSND r3 with
        | none => none
        | some (f, r4) => match lineS pRCV r4 with
          | none => none
          | some (at_, r5) => match Lib.parseIntB 64 at_ with
            | .ok v => (match tosP 101 r5 with
              | none => none
              | some (l, r6) => some ((f, l, v), r6))
            | _ => none
/-- the message. -/
def encP (n r : L) : Option L :=
  match lineS ([45, 45] ++ n) r with
  | none => none
  | some (_, r1) => match lineS pMSG r1 with
    | none => none
    | some (_, r2) => match lineS [] r2 with
      | none => none
      | some (_, r3) => if Go.Lib.hasSuffix r3 (tailS n) = true then some (r3.take (r3.length - (tailS n).length)) else none
def progR (r : L) : Option (Env × L) :=
  match topP r with
  | none => none
  | some (n, r1) => match envP n r1 with
    | none => none
    | some (e, r2) => match encP n r2 with
      | none => none
      | some b => some (e, b)
def readM (r : L) : Option (Env × L) :=
  match progR r with
  | none => none
  | some (e, b) => if errS e b = 0 ∧ repS e b = r then some (e, b) else none
theorem tosP_is : ∀ (l : List L) (k : Nat) (r : L), (∀ t ∈ l, (13 : UInt8) ∉ t) → l.length < k → tosP k (tosS l ++ (dash ++ r)) = some (l, dash ++ r)
  | [], 0, r, _, hk => by simp at hk
  | [], k + 1, r, _, _ => by
    unfold tosP
    rw [if_neg]
    · rfl
    · unfold tosS pRCP dash
      simp
  | t :: l, 0, r, _, hk => by simp at hk
  | t :: l, k + 1, r, h, hk => by
    unfold tosP
    have he : tosS (t :: l) ++ (dash ++ r) = pRCP ++ (t ++ (cr ++ (tosS l ++ (dash ++ r)))) := by
      unfold tosS pRCP seg4
      simp
    rw [he, if_pos (by rw [List.isPrefixOf_iff_prefix]; exact ⟨_, rfl⟩), line_is pRCP (by
      intro hm
      rcases List.mem_append.1 hm with hm | hm
      · exact absurd hm (by decide)
      · exact h t (by simp) hm)]
    simp only
    rw [tosP_is l k r (fun t ht => h t (List.mem_cons_of_mem _ ht)) (by simpa using hk)]
theorem no13 {p a : L} (hp : (13 : UInt8) ∉ p) (ha : (13 : UInt8) ∉ a) : (13 : UInt8) ∉ p ++ a := fun h => (List.mem_append.1 h).elim hp ha
theorem suffix_is (a b : L) : Go.Lib.hasSuffix (a ++ b) b = true := by
  unfold Go.Lib.hasSuffix
  rw [List.isSuffixOf_iff_suffix]
  exact ⟨a, rfl⟩
theorem prog_rep {e : Env} {b : L} (h : errS e b = 0) (hv : e.2.2 < 9223372036854775808) : progR (repS e b) = some (e, b) := by
  obtain ⟨h1, h2, h3⟩ := err_0.1 h
  obtain ⟨f, l, v⟩ := e
  obtain ⟨n1, n2, n3⟩ := env_no h1
  simp only at n1 n2 n3 h2 hv
  have hb : (13 : UInt8) ∉ bndS b := bnd_13 (bN b)
  generalize hn : bndS b = n at hb
  have hd : (13 : UInt8) ∉ [45, 45] ++ n := no13 (by decide) hb
  have hr : repS (f, l, v) b = pVER ++ ([] ++ (cr ++ (pMIX ++ (n ++ (cr ++ ([] ++ ([] ++ (cr ++ (([45, 45] ++ n) ++ ([] ++ (cr ++ (pPLN ++ ([] ++ (cr ++ ([] ++ ([] ++ (cr ++ (pSND ++ (f ++ (cr ++ (pRCV ++ (Lib.itoa v ++ (cr ++ (tosS l ++ (dash ++ (n ++ (cr ++ (pMSG ++ ([] ++ (cr ++ ([] ++ ([] ++ (cr ++ (b ++ tailS n)))))))))))))))))))))))))))))))))) := by
    unfold repS headS
    rw [hn]
    unfold seg0 seg1 seg2 seg3 seg5 pVER pMIX pPLN pSND pRCV pMSG cr
    simp
  have hp : Lib.parseIntB 64 (Lib.itoa v) = .ok v := by
    rw [Lib.itoa, if_neg (by omega), Mb.parse_dec (by omega)]
    congr 1
    omega
  unfold progR
  rw [hr]
  unfold topP
  rw [line_is pVER (no13 (by decide) (by simp))]
  simp only
  rw [line_is pMIX (no13 (by decide) hb)]
  simp only
  rw [line_is [] (no13 (by decide) (by simp))]
  simp only
  unfold envP
  rw [line_is ([45, 45] ++ n) (no13 hd (by simp))]
  simp only
  rw [line_is pPLN (no13 (by decide) (by simp))]
  simp only
  rw [line_is [] (no13 (by decide) (by simp))]
  simp only
  rw [line_is pSND (no13 (by decide) n1)]
  simp only
  rw [line_is pRCV (no13 (by decide) (itoa_13 n2))]
  simp only
  rw [hp]
  simp only
  rw [tosP_is l 101 _ n3 (by omega)]
  simp only
  have hq : dash ++ (n ++ (cr ++ (pMSG ++ ([] ++ (cr ++ ([] ++ ([] ++ (cr ++ (b ++ tailS n))))))))) = ([45, 45] ++ n) ++ ([] ++ (cr ++ (pMSG ++ ([] ++ (cr ++ ([] ++ ([] ++ (cr ++ (b ++ tailS n))))))))) := by
    unfold dash
    simp
  rw [hq]
  unfold encP
  rw [line_is ([45, 45] ++ n) (no13 hd (by simp))]
  simp only
  rw [line_is pMSG (no13 (by decide) (by simp))]
  simp only
  rw [line_is [] (no13 (by decide) (by simp))]
  simp only
  rw [if_pos (suffix_is _ _), List.length_append, Nat.add_sub_cancel, List.take_left]
theorem num_lt {ds : L} {v : Nat} (h : Mb.numS ds = some v) : v < 9223372036854775808 := (Mb.numS_some h).2
theorem readS_lt {r : L} {e : Env} {b : L} (h : readS r = some (e, b)) : e.2.2 < 9223372036854775808 := by
  unfold readS at h
  cases hc : candS r with
  | none => rw [hc] at h; cases h
  | some q =>
    obtain ⟨e', n', b'⟩ := q
    rw [hc] at h
    simp only at h
    split at h
    · injection h with h
      injection h with h1 h2
      rw [← h1]
      unfold candS at hc
      split at hc
      · cases hc
      · split at hc
        · cases hc
        · split at hc
          · cases hc
          · split at hc
            · cases hc
            · split at hc
              · cases hc
              · rename_i v hv
                split at hc
                · injection hc with hc
                  injection hc with hc _
                  rw [← hc]
                  have := num_lt hv
                  show (v : Int) < _
                  omega
                · cases hc
    · cases h
theorem tosP_bounds : ∀ (k : Nat) (s : L) (l : List L) (s2 : L), tosP k s = some (l, s2) → l.length ≤ k ∧ (∀ t ∈ l, t.length ≤ s.length) ∧ s2.length ≤ s.length
  | 0, s, l, s2, h => by
    unfold tosP at h
    injection h with h
    injection h with h1 h2
    subst h1; subst h2
    exact ⟨Nat.le_refl _, fun t ht => by simp at ht, Nat.le_refl _⟩
  | k + 1, s, l, s2, h => by
    unfold tosP at h
    split at h
    · cases hl : lineS pRCP s with
      | none => rw [hl] at h; cases h
      | some q =>
        obtain ⟨t, s'⟩ := q
        have hb := line_len hl
        rw [hl] at h
        simp only at h
        cases ht : tosP k s' with
        | none => rw [ht] at h; cases h
        | some p =>
          obtain ⟨l', s3⟩ := p
          have ih := tosP_bounds k s' l' s3 ht
          rw [ht] at h
          simp only at h
          injection h with h
          injection h with h1 h2
          subst h1; subst h2
          refine ⟨by simp; omega, fun x hx => ?_, by omega⟩
          rcases List.mem_cons.1 hx with rfl | hx
          · omega
          · have := ih.2.1 x hx
            omega
    · injection h with h
      injection h with h1 h2
      subst h1; subst h2
      exact ⟨Nat.zero_le _, fun t ht => by simp at ht, Nat.le_refl _⟩
theorem envP_bounds {n r : L} {e : Env} {r2 : L} (h : envP n r = some (e, r2)) : e.1.length ≤ r.length ∧ (∀ t ∈ e.2.1, t.length ≤ r.length) ∧ e.2.1.length ≤ 101 ∧ -9223372036854775808 ≤ e.2.2 ∧ e.2.2 < 9223372036854775808 ∧ r2.length ≤ r.length := by
  unfold envP at h
  split at h
  · cases h
  · rename_i h1
    split at h
    · cases h
    · rename_i h2
      split at h
      · cases h
      · rename_i h3
        split at h
        · cases h
        · rename_i h4
          split at h
          · cases h
          · rename_i h5
            split at h
            · rename_i v hv
              split at h
              · cases h
              · rename_i h6
                injection h with h
                injection h with h7 h8
                subst h7; subst h8
                have b1 := line_len h1
                have b2 := line_len h2
                have b3 := line_len h3
                have b4 := line_len h4
                have b5 := line_len h5
                have b6 := tosP_bounds _ _ _ _ h6
                have b7 := Lib.parseIntB_bounds hv
                have hc63 : ((2 ^ (64 - 1) : Nat) : Int) = 9223372036854775808 := by decide
                rw [hc63] at b7
                refine ⟨by simp only; omega, fun t ht => ?_, b6.1, b7.1, b7.2, by omega⟩
                have := b6.2.1 t ht
                omega
            · cases h
theorem progR_lt {r : L} {e : Env} {b : L} (h : progR r = some (e, b)) : e.2.2 < 9223372036854775808 := by
  unfold progR at h
  split at h
  · cases h
  · split at h
    · cases h
    · rename_i h2
      split at h
      · cases h
      · injection h with h
        injection h with h7 _
        subst h7
        exact (envP_bounds h2).2.2.2.2.1
theorem read_same (r : L) : readM r = readS r := by
  have hb : ∀ e b, progR r = some (e, b) → e.2.2 < 9223372036854775808 := fun _ _ h => progR_lt h
  cases hm : readM r with
  | some q =>
    obtain ⟨e, b⟩ := q
    unfold readM at hm
    cases hp : progR r with
    | none => rw [hp] at hm; cases hm
    | some p =>
      obtain ⟨e', b'⟩ := p
      rw [hp] at hm
      simp only at hm
      split at hm
      · rename_i hx
        injection hm with hm
        injection hm with h1 h2
        subst h1
        subst h2
        exact (read_is hx.1 (hb _ _ hp) hx.2).symm
      · cases hm
  | none =>
    symm
    cases hr : readS r with
    | none => rfl
    | some q =>
      obtain ⟨e, b⟩ := q
      have hs := read_sound hr
      have hp := prog_rep hs.1 (readS_lt hr)
      rw [hs.2] at hp
      unfold readM at hm
      rw [hp] at hm
      simp only at hm
      rw [if_pos hs] at hm
      cases hm
end Mi
end Go.Proofs.YtamekflgidfnfaaGreatDoor
