/- Journal reports as plain functions on lists of bytes: boundaries, reports, taken apart again; that reading is the way back. Conditions: none. -/
import Derived.Test.YtamekflgidfnfaaGreatDoorMbLet
namespace Go.Proofs.YtamekflgidfnfaaGreatDoor
set_option maxRecDepth 100000
namespace Mi
open Go.Proofs.YtamekflgidfnfaaGreatDoor.Pa
abbrev L := List UInt8
/-- whether some bytes stand in others. -/
def inB (s : L) : L → Bool
  | [] => s.isEmpty
  | c :: b => s.isPrefixOf (c :: b) || inB s b
theorem in_iff (s : L) : ∀ b : L, inB s b = true ↔ ∃ x y, b = x ++ (s ++ y)
  | [] => by
    unfold inB
    constructor
    · intro h
      exact ⟨[], [], by simpa using (List.isEmpty_iff.1 h).symm⟩
    · rintro ⟨x, y, h⟩
      have := congrArg List.length h
      simp at this
      rw [List.isEmpty_iff]
      exact List.eq_nil_of_length_eq_zero (by omega)
  | c :: b => by
    unfold inB
    rw [Bool.or_eq_true, in_iff s b, List.isPrefixOf_iff_prefix]
    constructor
    · rintro (⟨y, h⟩ | ⟨x, y, h⟩)
      · exact ⟨[], y, h.symm⟩
      · exact ⟨c :: x, y, by rw [h]; rfl⟩
    · rintro ⟨x, y, h⟩
      cases x with
      | nil => exact .inl ⟨y, h.symm⟩
      | cons d x =>
        right
        injection h with _ h
        exact ⟨x, y, h⟩
/-- all that stands in some bytes. -/
def subs (b : L) : List L := (List.range (b.length + 1)).flatMap fun i => (List.range (b.length + 1)).map fun k => (b.drop i).take k
theorem sum_const (c : Nat) : ∀ l : List Nat, (l.map fun _ => c).sum = l.length * c
  | [] => by simp
  | x :: l => by
    rw [List.map_cons, List.sum_cons, sum_const c l, List.length_cons, Nat.add_mul]
    omega
theorem subs_len (b : L) : (subs b).length = (b.length + 1) * (b.length + 1) := by
  unfold subs
  rw [List.length_flatMap]
  simp only [List.length_map, List.length_range]
  rw [sum_const, List.length_range]
theorem in_subs {s b : L} (h : inB s b = true) : s ∈ subs b := by
  obtain ⟨x, y, rfl⟩ := (in_iff s b).1 h
  unfold subs
  rw [List.mem_flatMap]
  refine ⟨x.length, by rw [List.mem_range]; simp; omega, ?_⟩
  rw [List.mem_map]
  refine ⟨s.length, by rw [List.mem_range]; simp; omega, ?_⟩
  rw [List.drop_left, List.take_left]
theorem pigeon (f : Nat → L) : ∀ (m : Nat) (l : List L), (∀ i j, i < m → j < m → f i = f j → i = j) → (∀ i, i < m → f i ∈ l) → m ≤ l.length
  | 0, l, _, _ => Nat.zero_le _
  | m + 1, l, hi, hm => by
    have h := pigeon f m (l.erase (f m)) (fun i j h1 h2 e => hi i j (by omega) (by omega) e) (fun i h1 => by
      rw [List.mem_erase_of_ne (fun e => by have := hi i m (by omega) (by omega) e; omega)]
      exact hm i (by omega))
    have hl := List.length_erase_of_mem (hm m (by omega))
    have hp := List.length_pos_of_mem (hm m (by omega))
    omega
def dash : L := [45, 45]
def cr : L := [13, 10]
/-- the n-th boundary. -/
def bndN (n : Nat) : L := [106, 111, 117, 114, 110, 97, 108, 45] ++ Lib.decDigits n
theorem bnd_inj {n m : Nat} (h : bndN n = bndN m) : n = m := by
  have h1 := List.append_cancel_left h
  have h2 := congrArg Mb.valL h1
  rwa [Mb.val_dec, Mb.val_dec] at h2
theorem bnd_13 (n : Nat) : (13 : UInt8) ∉ bndN n := by
  unfold bndN
  intro h
  rcases List.mem_append.1 h with h | h
  · exact absurd h (by decide)
  · have := Mb.dec_dig n _ h
    unfold Mb.digB at this
    have : (13 : UInt8).toNat = 13 := rfl
    omega
/-- from n on, at most f steps: the first that is not there. -/
def seekN (b : L) : Nat → Nat → Nat
  | 0, n => n
  | f + 1, n => if inB (dash ++ bndN n) b then seekN b f (n + 1) else n
def bN (b : L) : Nat := seekN b ((b.length + 1) * (b.length + 1)) 0
def bndS (b : L) : L := bndN (bN b)
theorem seek_le (b : L) : ∀ f n, n ≤ seekN b f n ∧ seekN b f n ≤ n + f
  | 0, n => ⟨Nat.le_refl _, Nat.le_refl _⟩
  | f + 1, n => by
    unfold seekN
    have := seek_le b f (n + 1)
    split <;> omega
theorem seek_in (b : L) : ∀ f n k, n ≤ k → k < seekN b f n → inB (dash ++ bndN k) b = true
  | 0, n, k, h1, h2 => by unfold seekN at h2; omega
  | f + 1, n, k, h1, h2 => by
    unfold seekN at h2
    split at h2
    · rename_i hc
      rcases Nat.eq_or_lt_of_le h1 with h3 | h3
      · subst h3; exact hc
      · exact seek_in b f (n + 1) k h3 h2
    · omega
theorem seek_out (b : L) : ∀ f n, seekN b f n < n + f → inB (dash ++ bndN (seekN b f n)) b = false
  | 0, n, h => by unfold seekN at h; omega
  | f + 1, n, h => by
    unfold seekN at h ⊢
    split at h
    · rename_i hc
      rw [if_pos hc]
      exact seek_out b f (n + 1) (by omega)
    · rename_i hc
      rw [if_neg hc]
      simpa using hc
theorem bN_le (b : L) : bN b ≤ (b.length + 1) * (b.length + 1) := by
  have := (seek_le b ((b.length + 1) * (b.length + 1)) 0).2
  unfold bN
  omega
/-- all ahead of it are there; it is not. -/
theorem bN_in {b : L} {k : Nat} (h : k < bN b) : inB (dash ++ bndN k) b = true := seek_in b _ 0 k (Nat.zero_le _) h
theorem bN_out (b : L) : inB (dash ++ bndN (bN b)) b = false := by
  rcases Nat.eq_or_lt_of_le (bN_le b) with h | h
  · cases hc : inB (dash ++ bndN (bN b)) b with
    | false => rfl
    | true =>
      have hp := pigeon (fun n => dash ++ bndN n) (bN b + 1) (subs b) (fun i j _ _ e => bnd_inj (List.append_cancel_left e)) (fun i hi => in_subs (by
        rcases Nat.eq_or_lt_of_le (Nat.le_of_lt_succ hi) with h1 | h1
        · rw [h1]; exact hc
        · exact bN_in h1))
      rw [subs_len] at hp
      omega
  · exact seek_out b _ 0 (by unfold bN at h; omega)
theorem bN_is {b : L} {n : Nat} (h1 : ∀ k, k < n → inB (dash ++ bndN k) b = true) (h2 : inB (dash ++ bndN n) b = false) : bN b = n := by
  rcases Nat.lt_trichotomy (bN b) n with h | h | h
  · have := bN_out b
    rw [h1 _ h] at this
    cases this
  · exact h
  · rw [bN_in h] at h2
    cases h2
/-- who sends, to whom, when. -/
abbrev Env : Type := L × List L × Int
def envOk (e : Env) : Bool := (e.1.isEmpty || mailS e.1) && (decide (1 ≤ e.2.1.length) && (decide (0 ≤ e.2.2) && e.2.1.all mailS))
def seg0 : L := [77, 73, 77, 69, 45, 86, 101, 114, 115, 105, 111, 110, 58, 32, 49, 46, 48, 13, 10, 67, 111, 110, 116, 101, 110, 116, 45, 84, 121, 112, 101, 58, 32, 109, 117, 108, 116, 105, 112, 97, 114, 116, 47, 109, 105, 120, 101, 100, 59, 32, 98, 111, 117, 110, 100, 97, 114, 121, 61]
def seg1 : L := [13, 10, 45, 45]
def seg2 : L := [67, 111, 110, 116, 101, 110, 116, 45, 84, 121, 112, 101, 58, 32, 116, 101, 120, 116, 47, 112, 108, 97, 105, 110, 13, 10, 13, 10, 83, 101, 110, 100, 101, 114, 58, 32]
def seg3 : L := [82, 101, 99, 101, 105, 118, 101, 100, 58, 32]
def seg4 : L := [82, 101, 99, 105, 112, 105, 101, 110, 116, 58, 32]
def seg5 : L := [67, 111, 110, 116, 101, 110, 116, 45, 84, 121, 112, 101, 58, 32, 109, 101, 115, 115, 97, 103, 101, 47, 114, 102, 99, 56, 50, 50, 13, 10, 13, 10]
def tosS (l : List L) : L := l.flatMap fun t => seg4 ++ (t ++ cr)
/-- all ahead of the message; all behind it. -/
def headS (e : Env) (n : L) : L := seg0 ++ (n ++ (cr ++ ((seg1 ++ n) ++ (cr ++ (seg2 ++ (e.1 ++ (cr ++ (seg3 ++ (Lib.itoa e.2.2 ++ (cr ++ (tosS e.2.1 ++ (dash ++ (n ++ (cr ++ seg5))))))))))))))
def tailS (n : L) : L := cr ++ (dash ++ (n ++ (dash ++ cr)))
def repS (e : Env) (b : L) : L := headS e (bndS b) ++ (b ++ tailS (bndS b))
/-- the error's number. -/
def errS (e : Env) (b : L) : Nat := if envOk e = true then (if 100 < e.2.1.length ∨ 1000000 < b.length then 2 else 0) else 110
theorem err_0 {e : Env} {b : L} : errS e b = 0 ↔ envOk e = true ∧ e.2.1.length ≤ 100 ∧ b.length ≤ 1000000 := by
  unfold errS
  split
  · rename_i h
    split
    · simp; omega
    · simp [h]; omega
  · rename_i h
    simp [h]
/-- what is ahead of the first line's end, and what is behind it. -/
def cutCR : L → Option (L × L)
  | [] => none
  | [_] => none
  | c :: d :: t => if c = 13 ∧ d = 10 then some ([], t) else (cutCR (d :: t)).map fun p => (c :: p.1, p.2)
theorem cut_cr : ∀ {a : L} (_ : (13 : UInt8) ∉ a) (t : L), cutCR (a ++ (cr ++ t)) = some (a, t)
  | [], _, t => by
    show cutCR (13 :: 10 :: t) = _
    rw [cutCR, if_pos ⟨rfl, rfl⟩]
  | [c], h, t => by
    show cutCR (c :: 13 :: 10 :: t) = _
    rw [cutCR, if_neg (by rintro ⟨rfl, _⟩; simp at h)]
    have := cut_cr (a := []) (by simp) t
    rw [show (13 : UInt8) :: 10 :: t = [] ++ (cr ++ t) from rfl, this]
    rfl
  | c :: d :: a, h, t => by
    have := cut_cr (a := d :: a) (fun h' => h (List.mem_cons_of_mem _ h')) t
    show cutCR (c :: d :: (a ++ (cr ++ t))) = _
    rw [cutCR, if_neg (by rintro ⟨rfl, _⟩; simp at h)]
    rw [show d :: (a ++ (cr ++ t)) = (d :: a) ++ (cr ++ t) from rfl, this]
    rfl
theorem cut_sound : ∀ {s a t : L}, cutCR s = some (a, t) → s = a ++ (cr ++ t)
  | [], a, t, h => by simp [cutCR] at h
  | [_], a, t, h => by simp [cutCR] at h
  | c :: d :: s, a, t, h => by
    rw [cutCR] at h
    split at h
    · rename_i hc
      injection h with h
      injection h with h1 h2
      rw [← h1, ← h2, hc.1, hc.2]
      rfl
    · cases hk : cutCR (d :: s) with
      | none => rw [hk] at h; cases h
      | some p =>
        rw [hk] at h
        injection h with h
        injection h with h1 h2
        have := cut_sound (s := d :: s) (a := p.1) (t := p.2) (by rw [hk])
        rw [← h1, ← h2, this]
        rfl
/-- what stands behind a text up to a line's end, and what is behind that. -/
def afterS (what s : L) : Option (L × L) := if what.isPrefixOf s = true then cutCR (s.drop what.length) else none
theorem after_is (what : L) {a : L} (h : (13 : UInt8) ∉ a) (t : L) : afterS what (what ++ (a ++ (cr ++ t))) = some (a, t) := by
  unfold afterS
  rw [if_pos (by rw [List.isPrefixOf_iff_prefix]; exact ⟨_, rfl⟩), List.drop_left, cut_cr h t]
theorem after_sound {what s a t : L} (h : afterS what s = some (a, t)) : s = what ++ (a ++ (cr ++ t)) := by
  unfold afterS at h
  split at h
  · rename_i hp
    rw [List.isPrefixOf_iff_prefix] at hp
    obtain ⟨y, rfl⟩ := hp
    rw [List.drop_left] at h
    rw [cut_sound h]
  · cases h
/-- recipients, at most k. -/
def rcpS : Nat → L → List L
  | 0, _ => []
  | k + 1, s => match afterS seg4 s with
    | none => []
    | some (t, s') => t :: rcpS k s'
theorem rcp_is : ∀ (l : List L) (k : Nat) (r : L), (∀ t ∈ l, (13 : UInt8) ∉ t) → l.length < k → rcpS k (tosS l ++ (dash ++ r)) = l
  | [], 0, r, _, hk => by simp at hk
  | [], k + 1, r, _, _ => by
    unfold rcpS
    have : afterS seg4 (tosS [] ++ (dash ++ r)) = none := by
      unfold afterS
      rw [if_neg]
      unfold tosS seg4 dash
      simp
    rw [this]
  | t :: l, 0, r, _, hk => by simp at hk
  | t :: l, k + 1, r, h, hk => by
    unfold rcpS
    have he : tosS (t :: l) ++ (dash ++ r) = seg4 ++ (t ++ (cr ++ (tosS l ++ (dash ++ r)))) := by
      unfold tosS
      simp
    rw [he, after_is seg4 (h t (by simp))]
    simp only
    rw [rcp_is l k r (fun t ht => h t (List.mem_cons_of_mem _ ht)) (by simpa using hk)]
/-- what a report may be of. -/
def candS (r : L) : Option (Env × L × L) :=
  match afterS seg0 r with
  | none => none
  | some (n, s1) => match afterS (seg1 ++ n) s1 with
    | none => none
    | some (_, s2) => match afterS seg2 s2 with
      | none => none
      | some (f, s3) => match afterS seg3 s3 with
        | none => none
        | some (at_, s4) => match Mb.numS at_ with
          | none => none
          | some v =>
            if (headS (f, rcpS 101 s4, (v : Int)) n).length + (tailS n).length ≤ r.length then
              some ((f, rcpS 101 s4, (v : Int)), n, (r.drop (headS (f, rcpS 101 s4, (v : Int)) n).length).take (r.length - (tailS n).length - (headS (f, rcpS 101 s4, (v : Int)) n).length))
            else none
/-- a report taken apart. -/
def readS (r : L) : Option (Env × L) :=
  match candS r with
  | none => none
  | some (e, _, b) => if errS e b = 0 ∧ repS e b = r then some (e, b) else none
theorem env_no {e : Env} (h : envOk e = true) : (13 : UInt8) ∉ e.1 ∧ 0 ≤ e.2.2 ∧ ∀ t ∈ e.2.1, (13 : UInt8) ∉ t := by
  unfold envOk at h
  simp only [Bool.and_eq_true, Bool.or_eq_true, decide_eq_true_eq] at h
  obtain ⟨h1, h2, h3, h4⟩ := h
  have hm : ∀ {l : L}, mailS l = true → (13 : UInt8) ∉ l := fun h => Mb.mail_no h (by decide) (by decide) (by decide)
  refine ⟨?_, h3, fun t ht => hm (List.all_eq_true.1 h4 t ht)⟩
  rcases h1 with h1 | h1
  · rw [List.isEmpty_iff.1 h1]; simp
  · exact hm h1
theorem itoa_13 {v : Int} (h : 0 ≤ v) : (13 : UInt8) ∉ Lib.itoa v := by
  rw [Lib.itoa, if_neg (by omega)]
  intro hm
  have := Mb.dec_dig _ _ hm
  unfold Mb.digB at this
  have : (13 : UInt8).toNat = 13 := rfl
  omega
theorem cand_rep {e : Env} {b : L} (h : errS e b = 0) (hv : e.2.2 < 9223372036854775808) : candS (repS e b) = some (e, bndS b, b) := by
  obtain ⟨h1, h2, h3⟩ := err_0.1 h
  obtain ⟨f, l, v⟩ := e
  obtain ⟨n1, n2, n3⟩ := env_no h1
  simp only at n1 n2 n3 h2 hv
  have hb : (13 : UInt8) ∉ bndS b := bnd_13 (bN b)
  have hr : repS (f, l, v) b = seg0 ++ (bndS b ++ (cr ++ ((seg1 ++ bndS b) ++ ([] ++ (cr ++ (seg2 ++ (f ++ (cr ++ (seg3 ++ (Lib.itoa v ++ (cr ++ (tosS l ++ (dash ++ (bndS b ++ (cr ++ (seg5 ++ (b ++ tailS (bndS b)))))))))))))))))) := by
    unfold repS headS
    simp only [List.append_assoc, List.nil_append]
  have hn : Mb.numS (Lib.itoa v) = some v.toNat := by
    rw [Lib.itoa, if_neg (by omega)]
    exact Mb.numS_dec (by omega)
  have hvv : ((v.toNat : Nat) : Int) = v := by omega
  unfold candS
  rw [hr, after_is seg0 hb]
  simp only
  rw [after_is (seg1 ++ bndS b) (by simp)]
  simp only
  rw [after_is seg2 n1]
  simp only
  rw [after_is seg3 (itoa_13 n2)]
  simp only
  rw [hn]
  simp only
  rw [rcp_is l 101 _ n3 (by omega), hvv, ← hr]
  have hlen : (repS (f, l, v) b).length = (headS (f, l, v) (bndS b)).length + (b.length + (tailS (bndS b)).length) := by
    unfold repS
    rw [List.length_append, List.length_append]
  rw [if_pos (by omega)]
  congr 3
  rw [hlen, show (headS (f, l, v) (bndS b)).length + (b.length + (tailS (bndS b)).length) - (tailS (bndS b)).length - (headS (f, l, v) (bndS b)).length = b.length by omega]
  unfold repS
  rw [List.drop_left, List.take_left]
theorem read_rep {e : Env} {b : L} (h : errS e b = 0) (hv : e.2.2 < 9223372036854775808) : readS (repS e b) = some (e, b) := by
  unfold readS
  rw [cand_rep h hv]
  simp only
  rw [if_pos ⟨h, trivial⟩]
theorem read_sound {r : L} {e : Env} {b : L} (h : readS r = some (e, b)) : errS e b = 0 ∧ repS e b = r := by
  unfold readS at h
  cases hc : candS r with
  | none => rw [hc] at h; cases h
  | some p =>
    rw [hc] at h
    simp only at h
    split at h
    · rename_i hx
      injection h with h
      injection h with h1 h2
      rw [← h1, ← h2]
      exact hx
    · cases h
theorem rep_inj {e e' : Env} {b b' : L} (h : errS e b = 0) (h' : errS e' b' = 0) (hv : e.2.2 < 9223372036854775808) (hv' : e'.2.2 < 9223372036854775808) (he : repS e b = repS e' b') : e = e' ∧ b = b' := by
  have h1 := read_rep h hv
  rw [he, read_rep h' hv'] at h1
  injection h1 with h1
  injection h1 with h1 h2
  exact ⟨h1.symm, h2.symm⟩
theorem cand_no {r : L} (h : candS r = none) {e : Env} {b : L} (hv : e.2.2 < 9223372036854775808) (he : errS e b = 0) : repS e b ≠ r := by
  intro hr
  rw [← hr, cand_rep he hv] at h
  cases h
/-- whoever finds what a report is of has read it; whoever finds that there is none has, too. -/
theorem read_is {r : L} {e : Env} {b : L} (h : errS e b = 0) (hv : e.2.2 < 9223372036854775808) (hr : repS e b = r) : readS r = some (e, b) := by rw [← hr]; exact read_rep h hv
theorem read_no {r : L} (h : ∀ e b, errS e b = 0 → repS e b ≠ r) : readS r = none := by
  cases hr : readS r with
  | none => rfl
  | some p => exact absurd (read_sound (e := p.1) (b := p.2) hr).2 (h _ _ (read_sound (e := p.1) (b := p.2) hr).1)
end Mi
end Go.Proofs.YtamekflgidfnfaaGreatDoor
