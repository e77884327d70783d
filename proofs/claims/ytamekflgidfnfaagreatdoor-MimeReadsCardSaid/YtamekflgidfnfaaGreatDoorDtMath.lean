/- Lines that end with 13 10, what goes on the wire and comes off it, as plain functions on lists of bytes; their laws. Conditions: none. -/
import Derived.Test.YtamekflgidfnfaaGreatDoorHdMath
namespace Go.Proofs.YtamekflgidfnfaaGreatDoor
set_option maxRecDepth 100000
namespace Dt
open Go.Proofs.YtamekflgidfnfaaGreatDoor.Hd
def linesF : Nat → L → List L × L
  | 0, b => ([], b)
  | k + 1, b => match cut2 b with
    | none => ([], b)
    | some (s, r) => ((s ++ [13, 10]) :: (linesF k r).1, (linesF k r).2)
theorem linesF_enough : ∀ (k k' : Nat) (b : L), b.length ≤ k → b.length ≤ k' → linesF k b = linesF k' b
  | 0, 0, _, _, _ => rfl
  | 0, k' + 1, b, h, _ => by
    have : b = [] := List.eq_nil_of_length_eq_zero (by omega)
    subst this; rfl
  | k + 1, 0, b, _, h => by
    have : b = [] := List.eq_nil_of_length_eq_zero (by omega)
    subst this; rfl
  | k + 1, k' + 1, b, h, h' => by
    unfold linesF
    cases hc : cut2 b with
    | none => rfl
    | some p =>
      obtain ⟨s, r⟩ := p
      have hl := cut2_len hc
      simp only
      rw [linesF_enough k k' r (by omega) (by omega)]
/-- the lines, each with its end; what is left has none. -/
def lines (b : L) : List L := (linesF b.length b).1
def left (b : L) : L := (linesF b.length b).2
theorem lines_none {b : L} (h : cut2 b = none) : lines b = [] ∧ left b = b := by
  unfold lines left
  cases b with
  | nil => exact ⟨rfl, rfl⟩
  | cons x b => simp [linesF, h]
theorem lines_some {b s r : L} (h : cut2 b = some (s, r)) : lines b = (s ++ [13, 10]) :: lines r ∧ left b = left r := by
  have hl := cut2_len h
  unfold lines left
  obtain ⟨n, hn⟩ : ∃ n, b.length = n + 1 := ⟨b.length - 1, by omega⟩
  rw [hn, linesF, h]
  simp only
  rw [linesF_enough n r.length r (by omega) (by omega)]
  exact ⟨rfl, rfl⟩
/-- a line. -/
def LineB (x : L) : Prop := ∃ s, x = s ++ [13, 10] ∧ ∀ k, k < s.length → ¬ endAt x k
theorem endAt_app {a b : L} {k : Nat} (h : k + 1 < a.length) : endAt (a ++ b) k ↔ endAt a k := by
  unfold endAt
  rw [List.getElem?_append_left (by omega), List.getElem?_append_left h]
theorem cut2_line {b s r : L} (h : cut2 b = some (s, r)) : LineB (s ++ [13, 10]) := by
  obtain ⟨h1, h2, h3, _, _⟩ := cut2_some h
  refine ⟨s, rfl, fun k hk he => h3 k hk ?_⟩
  rw [h1, show s ++ 13 :: 10 :: r = (s ++ [13, 10]) ++ r by simp]
  exact (endAt_app (by simp; omega)).2 he
theorem line_cut {s : L} (h : LineB (s ++ [13, 10])) (r : L) : cut2 (s ++ [13, 10] ++ r) = some (s, r) := by
  obtain ⟨s', h1, h2⟩ := h
  have : s = s' := (List.append_inj' h1 rfl).1
  subst this
  have he : endAt (s ++ [13, 10] ++ r) s.length := by
    unfold endAt
    constructor <;> rw [List.append_assoc, List.getElem?_append_right (by omega)] <;> simp
  have := cut2_at he (fun k hk e => h2 k hk ((endAt_app (by simp; omega)).1 e))
  rw [this]
  congr 1
  rw [List.append_assoc, List.take_left, show s.length + 2 = (s ++ [13, 10]).length by simp, ← List.append_assoc, List.drop_left]
theorem lines_all {P : L → Prop} (hP : ∀ x, LineB x → P x) (b : L) : ∀ x ∈ lines b, P x := by
  suffices h : ∀ (n : Nat) (b : L), b.length ≤ n → ∀ x ∈ lines b, P x from h b.length b (Nat.le_refl _)
  intro n
  induction n with
  | zero =>
    intro b hb x hx
    have : b = [] := List.eq_nil_of_length_eq_zero (by omega)
    subst this
    cases hx
  | succ n ih =>
    intro b hb x hx
    cases hc : cut2 b with
    | none => rw [(lines_none hc).1] at hx; cases hx
    | some p =>
      obtain ⟨s, r⟩ := p
      rw [(lines_some hc).1] at hx
      have hl := cut2_len hc
      rcases List.mem_cons.1 hx with rfl | hx
      · exact hP _ (cut2_line hc)
      · exact ih r (by omega) x hx
theorem lines_line (b : L) : ∀ x ∈ lines b, LineB x := lines_all (fun _ h => h) b
theorem LineB.len {x : L} (h : LineB x) : 2 ≤ x.length := by obtain ⟨s, rfl, _⟩ := h; simp
theorem lines_cons {x : L} (h : LineB x) (r : L) : lines (x ++ r) = x :: lines r ∧ left (x ++ r) = left r := by
  have h' := h
  obtain ⟨s, rfl, _⟩ := h
  exact lines_some (line_cut h' r)
theorem lines_app : ∀ {ls : List L}, (∀ x ∈ ls, LineB x) → ∀ r : L, lines (ls.flatten ++ r) = ls ++ lines r ∧ left (ls.flatten ++ r) = left r
  | [], _, r => ⟨rfl, rfl⟩
  | x :: ls, h, r => by
    have h1 := lines_cons (h x (by simp)) (ls.flatten ++ r)
    have h2 := lines_app (fun y hy => h y (List.mem_cons_of_mem _ hy)) r
    rw [List.flatten_cons, List.append_assoc]
    exact ⟨by rw [h1.1, h2.1]; rfl, by rw [h1.2, h2.2]⟩
theorem lines_flat (b : L) : (lines b).flatten ++ left b = b ∧ cut2 (left b) = none := by
  suffices h : ∀ (n : Nat) (b : L), b.length ≤ n → (lines b).flatten ++ left b = b ∧ cut2 (left b) = none from h b.length b (Nat.le_refl _)
  intro n
  induction n with
  | zero =>
    intro b hb
    have : b = [] := List.eq_nil_of_length_eq_zero (by omega)
    subst this
    exact ⟨rfl, rfl⟩
  | succ n ih =>
    intro b hb
    cases hc : cut2 b with
    | none => rw [(lines_none hc).1, (lines_none hc).2]; exact ⟨rfl, hc⟩
    | some p =>
      obtain ⟨s, r⟩ := p
      have hl := cut2_len hc
      have := ih r (by omega)
      rw [(lines_some hc).1, (lines_some hc).2, List.flatten_cons, List.append_assoc, this.1]
      exact ⟨by rw [(cut2_some hc).1]; simp, this.2⟩
theorem lines_sum (b : L) : (lines b).flatten.length ≤ b.length := by
  have := congrArg List.length (lines_flat b).1
  rw [List.length_append] at this
  omega
theorem len_flat {x : L} : ∀ {ls : List L}, x ∈ ls → x.length ≤ ls.flatten.length
  | _ :: ls, h => by
    rw [List.flatten_cons, List.length_append]
    rcases List.mem_cons.1 h with rfl | h
    · omega
    · have := len_flat h; omega
theorem lines_len (b : L) : ∀ x ∈ lines b, x.length ≤ b.length := fun _ hx => Nat.le_trans (len_flat hx) (lines_sum b)
theorem lines_count (b : L) : (lines b).length ≤ b.length := by
  have h : ∀ ls : List L, (∀ x ∈ ls, LineB x) → ls.length ≤ ls.flatten.length := fun ls => by
    induction ls with
    | nil => intro _; simp
    | cons x ls ih =>
      intro h
      have h1 := (h x (by simp)).len
      have h2 := ih fun y hy => h y (List.mem_cons_of_mem _ hy)
      rw [List.flatten_cons, List.length_append, List.length_cons]
      omega
  exact Nat.le_trans (h _ (lines_line b)) (lines_sum b)
/-- nothing, or ended. -/
def whole (b : L) : Bool := b.isEmpty || Go.Lib.hasSuffix b [13, 10]
def close (b : L) : L := if whole b then b else b ++ [13, 10]
theorem suf_iff (b : L) : Go.Lib.hasSuffix b [13, 10] = true ↔ ∃ s, b = s ++ [13, 10] := by
  unfold Go.Lib.hasSuffix
  constructor
  · intro h
    have h := (List.isSuffixOf_iff_suffix).1 h
    obtain ⟨s, hs⟩ := h
    exact ⟨s, hs.symm⟩
  · rintro ⟨s, rfl⟩
    exact List.isSuffixOf_iff_suffix.2 ⟨s, rfl⟩
theorem whole_iff (b : L) : whole b = true ↔ b = [] ∨ ∃ s, b = s ++ [13, 10] := by
  unfold whole
  rw [Bool.or_eq_true, suf_iff, List.isEmpty_iff]
theorem close_whole (b : L) : whole (close b) = true := by
  unfold close
  split
  · assumption
  · exact (whole_iff _).2 (.inr ⟨b, rfl⟩)
theorem close_len (b : L) : b.length ≤ (close b).length ∧ (close b).length ≤ b.length + 2 := by
  unfold close
  split <;> simp
/-- of what is whole nothing is left. -/
theorem whole_left {b : L} (h : whole b = true) : left b = [] := by
  obtain ⟨h1, h2⟩ := lines_flat b
  rcases (whole_iff b).1 h with rfl | ⟨s, hs⟩
  · rfl
  · rcases Nat.lt_trichotomy (left b).length 1 with h3 | h3 | h3
    · exact List.eq_nil_of_length_eq_zero (by omega)
    · obtain ⟨x, hx⟩ : ∃ x, left b = [x] := List.length_eq_one_iff.1 h3
      exfalso
      rw [hx] at h1
      have h4 : (lines b).flatten ++ [x] = (s ++ [13]) ++ [10] := by rw [h1, hs]; simp
      have h5 := (List.append_inj' h4 rfl).1
      rcases List.eq_nil_or_concat (lines b) with h6 | ⟨ls, y, h6⟩
      · rw [h6] at h5
        have := congrArg List.length h5
        simp at this
      · have hy := lines_line b y (by rw [h6]; simp)
        obtain ⟨t, rfl, _⟩ := hy
        rw [h6] at h5
        simp only [List.concat_eq_append, List.flatten_append, List.flatten_cons, List.flatten_nil, List.append_nil] at h5
        have h7 : (ls.flatten ++ (t ++ [13])) ++ [10] = s ++ [13] := by rw [← h5]; simp
        have h8 := (List.append_inj' h7 rfl).2
        simp at h8
    · exfalso
      obtain ⟨p, hp⟩ : ∃ p, left b = p ++ [13, 10] := by
        have h4 : [13, 10] <:+ b := ⟨s, hs.symm⟩
        have h5 : left b <:+ b := ⟨_, h1⟩
        obtain ⟨p, hp⟩ := List.suffix_of_suffix_length_le h4 h5 (by simp; omega)
        exact ⟨p, hp.symm⟩
      have : cut2 (left b) ≠ none := by
        rcases cut2_spec (left b) with ⟨_, h6⟩ | ⟨j, h6, _⟩
        · exact absurd (show endAt (left b) p.length by
            unfold endAt
            rw [hp, List.getElem?_append_right (by omega), List.getElem?_append_right (by omega)]
            simp) (h6 _)
        · rw [h6]; simp
      exact this h2
theorem close_lines (b : L) : (lines (close b)).flatten = close b := by
  have := (lines_flat (close b)).1
  rw [whole_left (close_whole b), List.append_nil] at this
  exact this
/-- a line that begins with a point has another one in front; it is taken off again. -/
def dot (x : L) : L := if x.head? = some 46 then 46 :: x else x
def undot (x : L) : L := if x.head? = some 46 then x.tail else x
def wire (ls : List L) : L := ls.flatMap dot
def stuff (b : L) : L := wire (lines (close b)) ++ [46, 13, 10]
def last : L := [46, 13, 10]
/-- the lines ahead of the last one, without their points; how many bytes they are, and it. -/
def scanL : List L → Option (L × Nat)
  | [] => none
  | x :: ls => if x = last then some ([], x.length) else (scanL ls).map fun p => (undot x ++ p.1, x.length + p.2)
def texts (ls : List L) : L := ls.flatMap undot
theorem scanL_app : ∀ {pre : List L} (ls : List L), (∀ x ∈ pre, x ≠ last) → scanL (pre ++ ls) = (scanL ls).map fun p => (texts pre ++ p.1, pre.flatten.length + p.2)
  | [], ls, _ => by cases h : scanL ls <;> simp [h, texts]
  | x :: pre, ls, h => by
    rw [List.cons_append, scanL, if_neg (h x (by simp)), scanL_app ls fun y hy => h y (List.mem_cons_of_mem _ hy)]
    cases scanL ls with
    | none => rfl
    | some p => simp [texts, Nat.add_assoc]
theorem scanL_no {ls : List L} (h : ∀ x ∈ ls, x ≠ last) : scanL ls = none := by
  have := scanL_app (pre := ls) [] h
  rw [List.append_nil] at this
  rw [this]; rfl
theorem scanL_yes {pre ls : List L} (h : ∀ x ∈ pre, x ≠ last) : scanL (pre ++ last :: ls) = some (texts pre, pre.flatten.length + 3) := by
  rw [scanL_app _ h, scanL, if_pos rfl]
  simp [last]
theorem undot_len (x : L) : (undot x).length ≤ x.length := by unfold undot; split <;> simp
theorem texts_len : ∀ ls : List L, (texts ls).length ≤ ls.flatten.length
  | [] => Nat.le_refl _
  | x :: ls => by
    have h1 := undot_len x
    have h2 := texts_len ls
    unfold texts at *
    rw [List.flatMap_cons, List.flatten_cons, List.length_append, List.length_append]
    omega
theorem dot_len (x : L) : (dot x).length ≤ x.length + 1 := by unfold dot; split <;> simp
theorem wire_len : ∀ ls : List L, (wire ls).length ≤ ls.flatten.length + ls.length
  | [] => Nat.le_refl _
  | x :: ls => by
    have h1 := dot_len x
    have h2 := wire_len ls
    unfold wire at *
    rw [List.flatMap_cons, List.flatten_cons, List.length_append, List.length_append, List.length_cons]
    omega
theorem texts_snoc (ls : List L) (x : L) : texts (ls ++ [x]) = texts ls ++ undot x := by simp [texts]
theorem wire_snoc (ls : List L) (x : L) : wire (ls ++ [x]) = wire ls ++ dot x := by simp [wire]
theorem wire_take (ls : List L) (k : Nat) : (wire (ls.take k)).length ≤ (wire ls).length := by
  have : wire ls = wire (ls.take k) ++ wire (ls.drop k) := by unfold wire; rw [← List.flatMap_append, List.take_append_drop]
  rw [this, List.length_append]
  omega
theorem texts_take (ls : List L) (k : Nat) : (texts (ls.take k)).length ≤ (texts ls).length := by
  have : texts ls = texts (ls.take k) ++ texts (ls.drop k) := by unfold texts; rw [← List.flatMap_append, List.take_append_drop]
  rw [this, List.length_append]
  omega
theorem take_next {ls : List L} {k : Nat} (h : k < ls.length) : ls.take (k + 1) = ls.take k ++ [ls.getD k []] := by
  rw [List.take_succ_eq_append_getElem h]
  simp [List.getD, h]
theorem get_mem {ls : List L} {k : Nat} (h : k < ls.length) : ls.getD k [] ∈ ls := by
  have : ls.getD k [] = ls[k] := by simp [List.getD, h]
  rw [this]
  exact List.getElem_mem h
theorem dot_t {x : L} (h : x.getD 0 0 = 46) (h2 : 2 ≤ x.length) : dot x = 46 :: x ∧ undot x = x.drop 1 := by
  obtain ⟨a, y, rfl⟩ : ∃ a y, x = a :: y := by cases x with | nil => simp at h2 | cons a y => exact ⟨a, y, rfl⟩
  obtain rfl : a = 46 := h
  exact ⟨rfl, rfl⟩
theorem dot_f {x : L} (h : x.getD 0 0 ≠ 46) : dot x = x ∧ undot x = x := by
  cases x with
  | nil => exact ⟨rfl, rfl⟩
  | cons a y =>
    have h : ¬ (a :: y).head? = some 46 := fun e => h (by simpa using e)
    unfold dot undot
    rw [if_neg h, if_neg h]
    exact ⟨rfl, rfl⟩
theorem wire_bound (b : L) : (wire (lines (close b))).length ≤ 2 * b.length + 4 := by
  have h1 := wire_len (lines (close b))
  have h2 := lines_sum (close b)
  have h3 := lines_count (close b)
  have h4 := close_len b
  omega
theorem dot_line {x : L} (h : LineB x) : LineB (dot x) := by
  unfold dot
  split
  · obtain ⟨s, rfl, hs⟩ := h
    refine ⟨46 :: s, rfl, fun k hk he => ?_⟩
    cases k with
    | zero => have := he.1; simp at this
    | succ k =>
      refine hs k (by simp at hk; omega) ?_
      unfold endAt at he ⊢
      simpa using he
  · exact h
theorem last_line : LineB last := ⟨[46], rfl, fun k hk he => by
  have : k = 0 := by simp at hk; omega
  subst this
  have := he.1
  simp [last] at this⟩
theorem dot_last (x : L) : dot x ≠ last := by
  unfold dot
  split
  · rename_i h1
    intro e
    unfold last at e
    injection e with _ e
    rw [e] at h1
    cases h1
  · rename_i h1
    intro e
    rw [e] at h1
    exact h1 rfl
theorem undot_dot (x : L) : undot (dot x) = x := by
  unfold dot
  split
  · rfl
  · rename_i h; unfold undot; rw [if_neg h]
theorem wire_flat (ls : List L) : wire ls = (ls.map dot).flatten := by unfold wire; rw [List.flatMap_def]
theorem texts_map (ls : List L) : texts (ls.map dot) = ls.flatten := by
  unfold texts
  rw [List.flatMap_map, List.flatMap_def]
  congr 1
  conv => rhs; rw [← List.map_id ls]
  exact List.map_congr_left fun x _ => undot_dot x
theorem dots_line {ls : List L} (h : ∀ x ∈ ls, LineB x) : ∀ x ∈ ls.map dot, LineB x := fun x hx => by
  obtain ⟨y, hy, rfl⟩ := List.mem_map.1 hx
  exact dot_line (h y hy)
theorem dots_last (ls : List L) : ∀ x ∈ ls.map dot, x ≠ last := fun x hx => by
  obtain ⟨y, _, rfl⟩ := List.mem_map.1 hx
  exact dot_last y
/-- what goes on the wire comes off it. -/
theorem scan_back (b more : L) : scanL (lines (stuff b ++ more)) = some (close b, (stuff b).length) := by
  have h1 := dots_line (lines_line (close b))
  have h2 := lines_app h1 (last ++ more)
  have h3 := lines_cons last_line more
  have h4 : stuff b ++ more = ((lines (close b)).map dot).flatten ++ (last ++ more) := by
    unfold stuff; rw [wire_flat]; simp [last]
  rw [h4, h2.1, h3.1, scanL_yes (dots_last _), texts_map, close_lines]
  unfold stuff
  rw [wire_flat]
  simp
/-- the lines of what is cut off of lines are the first of them, fewer. -/
theorem lines_take : ∀ {ls : List L} (k : Nat), (∀ x ∈ ls, LineB x) → k < ls.flatten.length → ∃ j, j < ls.length ∧ lines (ls.flatten.take k) = ls.take j
  | [], k, _, hk => by simp at hk
  | x :: ls, k, h, hk => by
    rw [List.flatten_cons] at hk ⊢
    have hx := h x (by simp)
    rcases Nat.lt_or_ge k x.length with h1 | h1
    · refine ⟨0, by simp, ?_⟩
      rw [List.take_append_of_le_length (by omega), List.take_zero]
      refine (lines_none (cut2_no fun j he => ?_)).1
      obtain ⟨s, rfl, hs⟩ := hx
      have hl := endAt_lt he
      simp at hl h1
      refine hs j (by omega) ?_
      unfold endAt at he ⊢
      rw [List.getElem?_take_of_lt (by omega), List.getElem?_take_of_lt (by omega)] at he
      exact he
    · rw [List.length_append] at hk
      obtain ⟨j, hj, he⟩ := lines_take (k - x.length) (fun y hy => h y (List.mem_cons_of_mem _ hy)) (by omega)
      refine ⟨j + 1, by simp; omega, ?_⟩
      rw [List.take_append, List.take_of_length_le h1, (lines_cons hx _).1, he]
      rfl
theorem scan_cut (b : L) (k : Nat) (hk : k < (stuff b).length) : scanL (lines ((stuff b).take k)) = none := by
  have h1 := dots_line (lines_line (close b))
  have h4 : stuff b = ((lines (close b)).map dot ++ [last]).flatten := by
    unfold stuff; rw [wire_flat]; simp [last]
  rw [h4] at hk ⊢
  obtain ⟨j, hj, he⟩ := lines_take k (fun x hx => by
    rcases List.mem_append.1 hx with hx | hx
    · exact h1 x hx
    · rw [List.mem_singleton.1 hx]; exact last_line) hk
  rw [he]
  refine scanL_no fun x hx => dots_last (lines (close b)) x ?_
  rw [List.length_append, List.length_singleton] at hj
  rw [List.take_append_of_le_length (by omega)] at hx
  exact List.mem_of_mem_take hx
theorem stuff_len (b : L) : (stuff b).length ≤ 2 * b.length + 10 := by
  have h1 := wire_len (lines (close b))
  have h2 := lines_sum (close b)
  have h3 := lines_count (close b)
  have h4 := close_len b
  unfold stuff
  rw [List.length_append, List.length_cons, List.length_cons, List.length_cons, List.length_nil]
  omega
end Dt
end Go.Proofs.YtamekflgidfnfaaGreatDoor
