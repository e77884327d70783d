/- MbMath RtMath EnMath HoMath DgMath. Conditions: as stated at each. -/
import Derived.Test.YteapnkedpmcokaaGreatDoorRm05
import Derived.Lib.ItoaMem
import Derived.Lib.ItoaLen
import Derived.Lib.ParseIntBTie
/- Mailbox files as plain functions on lists of bytes: lines, quotes, letters written and read; their laws. Conditions: none. -/
namespace Go.Proofs.YteapnkedpmcokaaGreatDoor
set_option maxRecDepth 100000
namespace Mb
open Go.Proofs.YteapnkedpmcokaaGreatDoor.Pa
abbrev L := List UInt8
/-- the lines, each with its end if it has one. -/
def lns : L → List L
  | [] => []
  | c :: l => if c = 10 then [10] :: lns l else match lns l with
    | [] => [[c]]
    | x :: t => (c :: x) :: t
theorem lns_end : ∀ {s : L} (_ : (10 : UInt8) ∉ s) (r : L), lns (s ++ 10 :: r) = (s ++ [10]) :: lns r
  | [], _, r => by rw [List.nil_append, lns, if_pos rfl]; rfl
  | c :: s, h, r => by
    rw [List.cons_append, lns, if_neg (by intro e; exact h (by simp [e])), lns_end (fun h' => h (by simp [h']))]
    rfl
theorem lns_last : ∀ {s : L}, (10 : UInt8) ∉ s → s ≠ [] → lns s = [s]
  | [], _, h => absurd rfl h
  | [c], h, _ => by rw [lns, if_neg (by intro e; exact h (by simp [e]))]; rfl
  | c :: d :: s, h, _ => by
    rw [lns, if_neg (by intro e; exact h (by simp [e])), lns_last (s := d :: s) (fun h' => h (List.mem_cons_of_mem _ h')) (by simp)]
theorem lines_ind {P : L → Prop} (h0 : P []) (h1 : ∀ s : L, (10 : UInt8) ∉ s → s ≠ [] → P s) (h2 : ∀ s r : L, (10 : UInt8) ∉ s → P r → P (s ++ 10 :: r)) : ∀ b, P b := by
  suffices h : ∀ (n : Nat) (b : L), b.length ≤ n → P b from fun b => h b.length b (Nat.le_refl _)
  intro n
  induction n with
  | zero =>
    intro b hb
    rw [List.eq_nil_of_length_eq_zero (by omega : b.length = 0)]
    exact h0
  | succ n ih =>
    intro b hb
    by_cases hm : (10 : UInt8) ∈ b
    · obtain ⟨e, hn⟩ := cut_at hm
      have hl := behind_len hm
      rw [e]
      exact h2 _ _ hn (ih _ (by omega))
    · by_cases hb0 : b = []
      · rw [hb0]; exact h0
      · exact h1 b hm hb0
theorem lns_flat (b : L) : (lns b).flatten = b := by
  refine lines_ind (P := fun b => (lns b).flatten = b) rfl (fun s h h' => by rw [lns_last h h']; simp) (fun s r h ih => ?_) b
  rw [lns_end h, List.flatten_cons, ih]
  simp
/-- a line that has its end. -/
def Ful (x : L) : Prop := ∃ s : L, (10 : UInt8) ∉ s ∧ x = s ++ [10]
def wholeB (b : L) : Bool := b.isEmpty || Go.Lib.hasSuffix b [10]
theorem suf_iff (b : L) : Go.Lib.hasSuffix b [10] = true ↔ ∃ s, b = s ++ [10] := by
  unfold Go.Lib.hasSuffix
  rw [List.isSuffixOf_iff_suffix]
  constructor
  · rintro ⟨s, h⟩; exact ⟨s, h.symm⟩
  · rintro ⟨s, h⟩; exact ⟨s, h.symm⟩
theorem whole_iff (b : L) : wholeB b = true ↔ b = [] ∨ ∃ s, b = s ++ [10] := by
  unfold wholeB
  rw [Bool.or_eq_true, suf_iff]
  simp
theorem whole_ful (b : L) : wholeB b = true ↔ ∀ x ∈ lns b, Ful x := by
  refine lines_ind (P := fun b => wholeB b = true ↔ ∀ x ∈ lns b, Ful x) (by simp [wholeB, lns]) (fun s h h' => ?_) (fun s r h ih => ?_) b
  · rw [lns_last h h', whole_iff]
    constructor
    · rintro (e | ⟨t, rfl⟩)
      · exact absurd e h'
      · exact absurd (by simp) h
    · intro hx
      obtain ⟨t, _, e⟩ := hx s (by simp)
      exact .inr ⟨t, e⟩
  · rw [lns_end h]
    have hs : Ful (s ++ [10]) := ⟨s, h, rfl⟩
    constructor
    · intro hw x hx
      rcases List.mem_cons.1 hx with rfl | hx
      · exact hs
      · refine ih.1 ?_ x hx
        rw [whole_iff] at hw ⊢
        rcases hw with e | ⟨t, e⟩
        · simp at e
        · by_cases hr : r = []
          · exact .inl hr
          · obtain ⟨u, c, rfl⟩ : ∃ u c, r = u ++ [c] := ⟨r.dropLast, r.getLast hr, (List.dropLast_concat_getLast hr).symm⟩
            rw [show s ++ 10 :: (u ++ [c]) = (s ++ 10 :: u) ++ [c] by simp] at e
            have := (List.append_inj' e rfl).2
            exact .inr ⟨u, by rw [this]⟩
    · intro hx
      have := ih.2 (fun x hx' => hx x (List.mem_cons_of_mem _ hx'))
      rw [whole_iff] at this ⊢
      right
      rcases this with rfl | ⟨t, rfl⟩
      · exact ⟨s, rfl⟩
      · exact ⟨s ++ 10 :: t, by simp⟩
theorem lns_fulls : ∀ {ls : List L}, (∀ x ∈ ls, Ful x) → ∀ r, lns (ls.flatten ++ r) = ls ++ lns r
  | [], _, r => rfl
  | x :: ls, h, r => by
    obtain ⟨s, hs, rfl⟩ := h x (by simp)
    rw [List.flatten_cons, show s ++ [10] ++ ls.flatten ++ r = s ++ 10 :: (ls.flatten ++ r) by simp, lns_end hs, lns_fulls (fun y hy => h y (List.mem_cons_of_mem _ hy))]
    rfl
theorem lns_app {a : L} (h : wholeB a = true) (r : L) : lns (a ++ r) = lns a ++ lns r := by
  have := lns_fulls ((whole_ful a).1 h) r
  rwa [lns_flat] at this
theorem lns_cut {b : L} (h : (10 : UInt8) ∈ b) : lns b = (Pa.ahead 10 b ++ [10]) :: lns (Pa.behind 10 b) := by
  obtain ⟨e, hn⟩ := cut_at h
  generalize Pa.ahead 10 b = x at *
  generalize Pa.behind 10 b = y at *
  subst e
  exact lns_end hn y
/-- marks and quotes. -/
def mkL : L := [70, 114, 111, 109, 32]
def mark (x : L) : Bool := Go.Lib.hasPrefix x mkL
def mkd (x : L) : Bool := mark (x.dropWhile (· == 62))
def qt (x : L) : L := if mkd x then 62 :: x else x
def uq (x : L) : L := if mkd x then Go.Lib.trimPrefix x [62] else x
def quoteS (b : L) : L := (lns b).flatMap qt
def unquoteS (b : L) : L := (lns b).flatMap uq
theorem mkd_nil : mkd [] = false := by decide
theorem mkd_62 (y : L) : mkd (62 :: y) = mkd y := by simp [mkd]
theorem mkd_other {c : UInt8} (h : c ≠ 62) (y : L) : mkd (c :: y) = mark (c :: y) := by simp [mkd, h]
theorem mark_iff (x : L) : mark x = true ↔ ∃ r, x = 70 :: 114 :: 111 :: 109 :: 32 :: r := by
  unfold mark Go.Lib.hasPrefix mkL
  rw [List.isPrefixOf_iff_prefix]
  constructor
  · rintro ⟨r, h⟩; exact ⟨r, h.symm⟩
  · rintro ⟨r, h⟩; exact ⟨r, h.symm⟩
theorem mark_62 (y : L) : mark (62 :: y) = false := by
  rw [Bool.eq_false_iff]
  intro h
  obtain ⟨r, h⟩ := (mark_iff _).1 h
  injection h with h _
  exact absurd h (by decide)
theorem mark_mkd {x : L} (h : mark x = true) : mkd x = true := by
  obtain ⟨r, rfl⟩ := (mark_iff x).1 h
  rw [mkd_other (by decide)]
  exact h
theorem mkd_cases {x : L} (h : mkd x = true) : mark x = true ∨ ∃ y, x = 62 :: y ∧ mkd y = true := by
  cases x with
  | nil => rw [mkd_nil] at h; cases h
  | cons c y =>
    by_cases hc : c = 62
    · subst hc
      rw [mkd_62] at h
      exact .inr ⟨y, rfl, h⟩
    · rw [mkd_other hc] at h
      exact .inl h
theorem trim62 (y : L) : Go.Lib.trimPrefix (62 :: y) [62] = y := by simp [Go.Lib.trimPrefix, Go.Lib.hasPrefix]
theorem trim_no {x : L} (h : x.head? ≠ some 62) : Go.Lib.trimPrefix x [62] = x := by
  unfold Go.Lib.trimPrefix Go.Lib.hasPrefix
  cases x with
  | nil => rfl
  | cons c y =>
    rw [if_neg]
    intro h'
    rw [List.isPrefixOf_iff_prefix] at h'
    obtain ⟨r, h'⟩ := h'
    injection h' with h' _
    exact h (by rw [← h']; rfl)
theorem uq_qt (x : L) : uq (qt x) = x := by
  unfold qt
  split
  · rename_i h
    unfold uq
    rw [mkd_62, if_pos h, trim62]
  · rename_i h
    unfold uq
    rw [if_neg h]
theorem mark_qt (x : L) : mark (qt x) = false := by
  unfold qt
  split
  · exact mark_62 x
  · rename_i h
    rw [Bool.eq_false_iff]
    exact fun h' => h (mark_mkd h')
theorem qt_uq {x : L} (h : mark x = false) : qt (uq x) = x := by
  unfold uq
  split
  · rename_i hm
    rcases mkd_cases hm with h' | ⟨y, rfl, hy⟩
    · rw [h] at h'; cases h'
    · rw [trim62, qt, if_pos hy]
  · rename_i hm
    rw [qt, if_neg hm]
theorem mark_has {x : L} (h : mark x = true) : (70 : UInt8) ∈ x := by
  obtain ⟨r, rfl⟩ := (mark_iff x).1 h
  simp
theorem mkd_has {x : L} (h : mkd x = true) : (70 : UInt8) ∈ x := by
  have := mark_has h
  exact (List.dropWhile_sublist _).subset this
theorem uq_cases (x : L) : uq x = x ∨ ∃ y, x = 62 :: y ∧ uq x = y ∧ mkd y = true := by
  unfold uq
  split
  · rename_i hm
    rcases mkd_cases hm with h' | ⟨y, rfl, hy⟩
    · left
      obtain ⟨r, rfl⟩ := (mark_iff x).1 h'
      exact trim_no (by simp)
    · exact .inr ⟨y, rfl, trim62 y, hy⟩
  · exact .inl rfl
theorem qt_ful {x : L} (h : Ful x) : Ful (qt x) := by
  obtain ⟨s, hs, rfl⟩ := h
  unfold qt
  split
  · exact ⟨62 :: s, by simp [hs], rfl⟩
  · exact ⟨s, hs, rfl⟩
theorem uq_ful {x : L} (h : Ful x) : Ful (uq x) := by
  rcases uq_cases x with e | ⟨y, e, e', hy⟩
  · rw [e]; exact h
  · obtain ⟨s, hs, e2⟩ := h
    rw [e']
    cases s with
    | nil => rw [e2] at e; simp at e
    | cons c s =>
      rw [e, List.cons_append] at e2
      injection e2 with _ e2
      exact ⟨s, fun h => hs (by simp [h]), e2⟩
theorem qt_last {s : L} (h : (10 : UInt8) ∉ s) (h' : s ≠ []) : (10 : UInt8) ∉ qt s ∧ qt s ≠ [] := by
  unfold qt
  split
  · exact ⟨by simp [h], by simp⟩
  · exact ⟨h, h'⟩
theorem uq_last {s : L} (h : (10 : UInt8) ∉ s) (h' : s ≠ []) : (10 : UInt8) ∉ uq s ∧ uq s ≠ [] := by
  rcases uq_cases s with e | ⟨y, e, e', hy⟩
  · rw [e]; exact ⟨h, h'⟩
  · rw [e']
    refine ⟨fun hy => h (by rw [e]; exact List.mem_cons_of_mem _ hy), fun e0 => ?_⟩
    have := mkd_has hy
    rw [e0] at this
    cases this
theorem lns_map {f : L → L} (h1 : ∀ x, Ful x → Ful (f x)) (h2 : ∀ s : L, (10 : UInt8) ∉ s → s ≠ [] → (10 : UInt8) ∉ f s ∧ f s ≠ []) (b : L) : lns ((lns b).flatMap f) = (lns b).map f := by
  refine lines_ind (P := fun b => lns ((lns b).flatMap f) = (lns b).map f) rfl (fun s h h' => ?_) (fun s r h ih => ?_) b
  · rw [lns_last h h']
    simp only [List.flatMap_cons, List.flatMap_nil, List.append_nil, List.map_cons, List.map_nil]
    exact lns_last (h2 s h h').1 (h2 s h h').2
  · rw [lns_end h, List.flatMap_cons, List.map_cons]
    obtain ⟨t, ht, e⟩ := h1 _ ⟨s, h, rfl⟩
    rw [e, show t ++ [10] ++ (lns r).flatMap f = t ++ 10 :: (lns r).flatMap f by simp, lns_end ht, ih]
theorem lns_quote (b : L) : lns (quoteS b) = (lns b).map qt := lns_map (fun _ => qt_ful) (fun _ => qt_last) b
theorem lns_unquote (b : L) : lns (unquoteS b) = (lns b).map uq := lns_map (fun _ => uq_ful) (fun _ => uq_last) b
theorem unquote_quote (b : L) : unquoteS (quoteS b) = b := by
  rw [unquoteS, lns_quote, List.flatMap_map]
  have : (lns b).flatMap (fun x => uq (qt x)) = (lns b).flatten := by
    rw [List.flatten_eq_flatMap]
    congr 1
    funext x
    exact uq_qt x
  rw [this, lns_flat]
theorem map_same {f : L → L} : ∀ {ls : List L}, (∀ x ∈ ls, f x = x) → ls.flatMap f = ls.flatten
  | [], _ => rfl
  | x :: ls, h => by rw [List.flatMap_cons, List.flatten_cons, h x (by simp), map_same (fun y hy => h y (List.mem_cons_of_mem _ hy))]
theorem quote_unquote {b : L} (h : ∀ x ∈ lns b, mark x = false) : quoteS (unquoteS b) = b := by
  rw [quoteS, lns_unquote, List.flatMap_map]
  rw [map_same (f := fun x => qt (uq x)) (fun x hx => qt_uq (h x hx)), lns_flat]
theorem whole_quote {b : L} (h : wholeB b = true) : wholeB (quoteS b) = true := by
  rw [whole_ful] at h ⊢
  rw [lns_quote]
  intro x hx
  obtain ⟨y, hy, rfl⟩ := List.mem_map.1 hx
  exact qt_ful (h y hy)
theorem whole_unquote {b : L} (h : wholeB b = true) : wholeB (unquoteS b) = true := by
  rw [whole_ful] at h ⊢
  rw [lns_unquote]
  intro x hx
  obtain ⟨y, hy, rfl⟩ := List.mem_map.1 hx
  exact uq_ful (h y hy)
theorem quote_marks (b : L) : ∀ x ∈ lns (quoteS b), mark x = false := by
  rw [lns_quote]
  intro x hx
  obtain ⟨y, hy, rfl⟩ := List.mem_map.1 hx
  exact mark_qt y
/-- a text that begins with the mark has a first line that does. -/
theorem lns_mark {m : L} (h : mark m = true) : ∃ x t, lns m = x :: t ∧ mark x = true := by
  obtain ⟨r, rfl⟩ := (mark_iff m).1 h
  cases hr : lns r with
  | nil => exact ⟨[70, 114, 111, 109, 32], [], by simp [lns, hr], by decide⟩
  | cons x t => exact ⟨70 :: 114 :: 111 :: 109 :: 32 :: x, t, by simp [lns, hr], (mark_iff _).2 ⟨x, rfl⟩⟩
theorem mark_first {m x : L} {t : List L} (h : lns m = x :: t) : mark m = mark x := by
  rw [Bool.eq_iff_iff]
  constructor
  · intro h'
    obtain ⟨y, u, e, hy⟩ := lns_mark h'
    rw [h] at e
    injection e with e _
    rw [e]; exact hy
  · intro h'
    have := lns_flat m
    rw [h, List.flatten_cons] at this
    obtain ⟨r, rfl⟩ := (mark_iff x).1 h'
    rw [← this]
    exact (mark_iff _).2 ⟨_, rfl⟩
/-- no line of what is quoted begins a letter. -/
theorem quote_no (b a m : L) (h : 10 :: quoteS b = a ++ 10 :: m) : mark m = false := by
  rw [Bool.eq_false_iff]
  intro hm
  obtain ⟨x, t, e, hx⟩ := lns_mark hm
  cases a with
  | nil =>
    injection h with _ h
    have := quote_marks b x (by rw [h, e]; simp)
    rw [hx] at this
    cases this
  | cons c a =>
    rw [List.cons_append] at h
    injection h with _ h
    have hw : wholeB (a ++ [10]) = true := (whole_iff _).2 (.inr ⟨a, rfl⟩)
    have := quote_marks b x (by rw [h, show a ++ 10 :: m = (a ++ [10]) ++ m by simp, lns_app hw, e]; simp)
    rw [hx] at this
    cases this
theorem flat_len {f : L → L} {c : Nat} (h : ∀ x, (f x).length ≤ x.length + c) : ∀ ls : List L, (ls.flatMap f).length ≤ ls.flatten.length + c * ls.length
  | [] => by simp
  | x :: ls => by
    have := flat_len h ls
    have := h x
    rw [List.flatMap_cons, List.flatten_cons, List.length_append, List.length_append, List.length_cons, Nat.mul_add]
    omega
theorem lns_count (b : L) : (lns b).length ≤ b.length := by
  refine lines_ind (P := fun b => (lns b).length ≤ b.length) (Nat.le_refl _) (fun s h h' => ?_) (fun s r h ih => ?_) b
  · rw [lns_last h h']
    have := List.length_pos_iff.2 h'
    show 1 ≤ s.length
    omega
  · rw [lns_end h]
    simp
    omega
theorem qt_len (x : L) : (qt x).length ≤ x.length + 1 := by unfold qt; split <;> simp
theorem uq_len (x : L) : (uq x).length ≤ x.length := by
  rcases uq_cases x with e | ⟨y, e, e', _⟩
  · rw [e]; exact Nat.le_refl _
  · rw [e', e]; simp
theorem quote_len (b : L) : (quoteS b).length ≤ 2 * b.length := by
  have := flat_len qt_len (lns b)
  rw [lns_flat] at this
  have := lns_count b
  unfold quoteS
  omega
theorem unquote_len (b : L) : (unquoteS b).length ≤ b.length := by
  have := flat_len (c := 0) uq_len (lns b)
  rw [lns_flat] at this
  unfold unquoteS
  omega
theorem take_len (ls : List L) (k : Nat) : (ls.take k).flatten.length ≤ ls.flatten.length := by
  have := congrArg (fun l : List L => l.flatten.length) (List.take_append_drop k ls)
  simp only [List.flatten_append, List.length_append] at this
  omega
theorem mem_len {x : L} : ∀ {ls : List L}, x ∈ ls → x.length ≤ ls.flatten.length
  | y :: ls, h => by
    rcases List.mem_cons.1 h with rfl | h
    · simp
    · have := mem_len h
      rw [List.flatten_cons, List.length_append]
      omega
theorem lns_len {b x : L} (h : x ∈ lns b) : x.length ≤ b.length := by
  have := mem_len h
  rwa [lns_flat] at this
theorem lns_pos {b x : L} (h : x ∈ lns b) : 0 < x.length := by
  revert x
  refine lines_ind (P := fun b => ∀ {x : L}, x ∈ lns b → 0 < x.length) (fun {x} h => by simp [lns] at h) (fun s h h' {x} hx => ?_) (fun s r h ih {x} hx => ?_) b
  · rw [lns_last h h'] at hx
    rw [List.mem_singleton.1 hx]
    exact List.length_pos_iff.2 h'
  · rw [lns_end h] at hx
    rcases List.mem_cons.1 hx with rfl | hx
    · simp
    · exact ih hx
/-- numbers. -/
def valF (n : Nat) (ds : L) : Nat := ds.foldl (fun n c => 10 * n + (c.toNat - 48)) n
def valL (ds : L) : Nat := valF 0 ds
theorem valF_snoc (n : Nat) (ds : L) (c : UInt8) : valF n (ds ++ [c]) = 10 * valF n ds + (c.toNat - 48) := by simp [valF, List.foldl_append]
theorem valF_le : ∀ (ds : L) (n : Nat), n ≤ valF n ds
  | [], n => Nat.le_refl _
  | c :: ds, n => by
    have := valF_le ds (10 * n + (c.toNat - 48))
    show n ≤ valF (10 * n + (c.toNat - 48)) ds
    omega
def digB (c : UInt8) : Prop := 48 ≤ c.toNat ∧ c.toNat ≤ 57
theorem dig_num {u : Nat} (h : u < 10) : (UInt8.ofNat (48 + u)).toNat = 48 + u := by
  rw [UInt8.toNat_ofNat']
  omega
theorem val_dec (n : Nat) : valL (Lib.decDigits n) = n := by
  induction n using Nat.strongRecOn with
  | _ n ih =>
    rw [Lib.decDigits]
    split
    · rename_i h
      simp only [valL, valF, List.foldl_cons, List.foldl_nil, dig_num h]
      omega
    · rename_i h
      have := ih (n / 10) (by omega)
      rw [valL] at this
      rw [valL, valF_snoc, this, dig_num (Nat.mod_lt _ (by decide))]
      omega
theorem dec_dig (n : Nat) : ∀ c ∈ Lib.decDigits n, digB c := by
  induction n using Nat.strongRecOn with
  | _ n ih =>
    intro c hc
    rw [Lib.decDigits] at hc
    split at hc
    · rename_i h
      rw [List.mem_singleton.1 hc]
      unfold digB
      rw [dig_num h]
      omega
    · rename_i h
      rcases List.mem_append.1 hc with hc | hc
      · exact ih (n / 10) (by omega) c hc
      · rw [List.mem_singleton.1 hc]
        unfold digB
        rw [dig_num (Nat.mod_lt _ (by decide))]
        omega
theorem dec_ne (n : Nat) : Lib.decDigits n ≠ [] := by
  rw [Lib.decDigits]
  split <;> simp
theorem u8_of {c d : UInt8} (h : c.toNat = d.toNat) : c = d := UInt8.toNat_inj.1 h
/-- digits without noughts ahead are the numeral of what they spell. -/
theorem dig_canon : ∀ (n : Nat) (ds : L), ds.length ≤ n → (∀ c ∈ ds, digB c) → ds ≠ [] → (ds.head? ≠ some 48 ∨ ds = [48]) → Lib.decDigits (valL ds) = ds ∧ (ds.head? ≠ some 48 → 0 < valL ds)
  | 0, ds, h, _, hne, _ => absurd (List.eq_nil_of_length_eq_zero (by omega)) hne
  | n + 1, ds, hl, hd, hne, hh => by
    obtain ⟨es, c, rfl⟩ : ∃ es c, ds = es ++ [c] := ⟨ds.dropLast, ds.getLast hne, (List.dropLast_concat_getLast hne).symm⟩
    have hc := hd c (by simp)
    unfold digB at hc
    have hcc : UInt8.ofNat (48 + (c.toNat - 48)) = c := u8_of (by rw [UInt8.toNat_ofNat']; omega)
    by_cases he : es = []
    · subst he
      have hv : valL ([] ++ [c]) = c.toNat - 48 := by simp [valL, valF]
      rw [hv]
      refine ⟨?_, fun h => ?_⟩
      · rw [Lib.decDigits, dif_pos (by omega), hcc]; rfl
      · have : c.toNat ≠ 48 := fun e => h (by simp [show c = 48 from u8_of e])
        omega
    · have hh' : es.head? ≠ some 48 := by
        rcases hh with h | h
        · cases es with
          | nil => exact absurd rfl he
          | cons d es => simpa using h
        · have := congrArg List.length h
          simp at this
          exact absurd this he
      obtain ⟨i1, i2⟩ := dig_canon n es (by simp at hl; omega) (fun d hd' => hd d (by simp [hd'])) he (.inl hh')
      have hp := i2 hh'
      have hv : valL (es ++ [c]) = 10 * valL es + (c.toNat - 48) := valF_snoc 0 es c
      rw [hv]
      refine ⟨?_, fun _ => by omega⟩
      rw [Lib.decDigits, dif_neg (by omega), show (10 * valL es + (c.toNat - 48)) / 10 = valL es by omega, show (10 * valL es + (c.toNat - 48)) % 10 = c.toNat - 48 by omega, i1, hcc]
theorem dec_head (n : Nat) : (Lib.decDigits n).head? ≠ some 48 ∨ Lib.decDigits n = [48] := by
  induction n using Nat.strongRecOn with
  | _ n ih =>
    rw [Lib.decDigits]
    split
    · rename_i h
      by_cases h0 : n = 0
      · subst h0; exact .inr rfl
      · left
        intro e
        simp only [List.head?_cons, Option.some.injEq] at e
        have := congrArg UInt8.toNat e
        rw [dig_num h] at this
        have h48 : (48 : UInt8).toNat = 48 := rfl
        omega
    · rename_i h
      left
      rcases ih (n / 10) (by omega) with h1 | h1
      · cases hd : Lib.decDigits (n / 10) with
        | nil => exact absurd hd (dec_ne _)
        | cons d es => rw [hd] at h1; simpa using h1
      · have := congrArg valL h1
        rw [val_dec] at this
        have h48 : valL [48] = 0 := rfl
        omega
def numS (ds : L) : Option Nat := if Lib.decDigits (valL ds) = ds ∧ valL ds < 9223372036854775808 then some (valL ds) else none
theorem numS_dec {n : Nat} (h : n < 9223372036854775808) : numS (Lib.decDigits n) = some n := by
  unfold numS
  rw [val_dec, if_pos ⟨rfl, h⟩]
theorem numS_some {ds : L} {n : Nat} (h : numS ds = some n) : ds = Lib.decDigits n ∧ n < 9223372036854775808 := by
  unfold numS at h
  split at h
  · rename_i h'
    injection h with h
    rw [← h]
    exact ⟨h'.1.symm, h'.2⟩
  · cases h
theorem parse_digs : ∀ (l : L) (acc : Nat), (∀ c ∈ l, digB c) → valF acc l < 9223372036854775808 → Lib.parseUintM (2 ^ 64 - 1) acc l = .ok (valF acc l)
  | [], acc, _, _ => rfl
  | c :: l, acc, hd, hv => by
    have hc := hd c (by simp)
    unfold digB at hc
    have hle := valF_le l (10 * acc + (c.toNat - 48))
    have e : valF acc (c :: l) = valF (10 * acc + (c.toNat - 48)) l := rfl
    rw [e] at hv ⊢
    rw [Lib.parseUintM, if_pos hc, if_neg (by omega), if_neg (by omega), show acc * 10 + (c.toNat - 48) = 10 * acc + (c.toNat - 48) by omega]
    exact parse_digs l _ (fun d hd' => hd d (List.mem_cons_of_mem _ hd')) hv
theorem parse_dec {n : Nat} (h : n < 9223372036854775808) : Lib.parseIntB 64 (Lib.decDigits n) = .ok (n : Int) := by
  have hv := val_dec n
  have hu : Lib.parseUintB 64 (Lib.decDigits n) = .ok n := by
    unfold Lib.parseUintB
    rw [if_neg (dec_ne n), parse_digs _ 0 (dec_dig n) (by rw [show valF 0 (Lib.decDigits n) = valL (Lib.decDigits n) from rfl, hv]; exact h)]
    rw [show valF 0 (Lib.decDigits n) = valL (Lib.decDigits n) from rfl, hv]
  cases hd : Lib.decDigits n with
  | nil => exact absurd hd (dec_ne n)
  | cons c r =>
    have hc := dec_dig n c (by rw [hd]; simp)
    unfold digB at hc
    rw [Lib.parseIntB_plain 64 c r (by omega) (by omega), ← hd, hu]
    show (if (2 ^ (64 - 1) : Nat) ≤ n then Lib.NumEnd.range else .ok (n : Int)) = _
    rw [if_neg (by omega)]
/-- what ParseInt, 'no sign' and FormatInt say of digits is numS. -/
theorem num_yes {ds : L} {v : Int} (h : Lib.parseIntB 64 ds = .ok v) (h0 : 0 ≤ v) (he : Lib.itoa v = ds) : numS ds = some v.toNat := by
  have hb := (Lib.parseIntB_bounds h).2
  have hv : v.toNat < 9223372036854775808 := by
    have : ((2 ^ (64 - 1) : Nat) : Int) = 9223372036854775808 := by decide
    omega
  rw [← he, Lib.itoa, if_neg (by omega)]
  exact numS_dec hv
theorem num_no {ds : L} {v : Int} (h : Lib.parseIntB 64 ds = .ok v) (h' : ¬ (0 ≤ v ∧ Lib.itoa v = ds)) : numS ds = none := by
  cases hn : numS ds with
  | none => rfl
  | some n =>
    obtain ⟨e, hn⟩ := numS_some hn
    rw [e, parse_dec hn] at h
    injection h with h
    exact absurd ⟨by omega, by rw [← h, Lib.itoa_nonneg, e]⟩ h'
theorem num_bad {ds : L} (h : ∀ v, Lib.parseIntB 64 ds ≠ .ok v) : numS ds = none := by
  cases hn : numS ds with
  | none => rfl
  | some n =>
    obtain ⟨e, hn⟩ := numS_some hn
    exact absurd (by rw [e]; exact parse_dec hn) (h n)
end Mb
end Go.Proofs.YteapnkedpmcokaaGreatDoor
/- Classes, rules, until when something is kept, as plain functions on lists; their laws. Conditions: none. -/
namespace Go.Proofs.YteapnkedpmcokaaGreatDoor
set_option maxRecDepth 100000
namespace Rt
open Go.Proofs.YteapnkedpmcokaaGreatDoor.Pa
abbrev L := List UInt8
/-- a class: its name, how long it is kept. -/
abbrev C := List UInt8 × Int
/-- a rule: its domain, its class. -/
abbrev R := List UInt8 × List UInt8
/-- 1 to n letters a to z. -/
def smallS (n : Nat) (s : L) : Bool := s.all (fun c => decide (97 ≤ c.toNat ∧ c.toNat ≤ 122)) && decide (1 ≤ s.length ∧ s.length ≤ n)
def findS (l : List C) (nm : L) : Option C := l.find? fun c => c.1 == nm
def topT : Int := 9223372036854775807
/-- the sum, or the end of all time. -/
def untilS (at' keep : Int) : Int := if topT < at' + max keep 0 then topT else at' + max keep 0
def overS (l : List C) (nm : L) (at' now : Int) : Bool := match findS l nm with
  | some c => decide (untilS at' c.2 ≤ now)
  | none => false
/-- classes are as they may be, one behind the other: the names ahead are those of pre. -/
def clsS : List C → List C → Bool
  | _, [] => true
  | pre, c :: l => (findS pre c.1).isNone && smallS 20 c.1 && decide (1 ≤ c.2) && clsS (pre ++ [c]) l
def ruleS (l : List C) (r : R) : Bool := (findS l r.2).isSome && domS r.1 && (r.1.map lowB == r.1)
def checkS (l : List C) (rs : List R) : Bool := decide (1 ≤ l.length ∧ l.length ≤ 100 ∧ rs.length ≤ 100) && clsS [] l && rs.all (ruleS l)
/-- the domain of an address. -/
def domOf (a : L) : L := dom (foldS a)
def fitS (fr : L) (to : List L) (d : L) : Bool := domOf fr == d || to.any (fun a => domOf a == d)
def chooseS (l : List C) (rs : List R) (fr : L) (to : List L) : L := match rs.find? (fun r => fitS fr to r.1) with
  | some r => r.2
  | none => match l with
    | c :: _ => c.1
    | [] => []
theorem find_nil (nm : L) : findS [] nm = none := rfl
theorem find_some {l : List C} {nm : L} {c : C} (h : findS l nm = some c) : c ∈ l ∧ c.1 = nm := by
  unfold findS at h
  exact ⟨List.mem_of_find?_eq_some h, by have := List.find?_some h; simpa using this⟩
theorem until_le (at' keep : Int) (h1 : -9223372036854775808 ≤ at') (h2 : at' ≤ topT) (h3 : keep ≤ topT) : at' ≤ untilS at' keep ∧ untilS at' keep ≤ topT := by
  unfold untilS topT at *
  split <;> omega
theorem until_mono {a b k m : Int} (h1 : a ≤ b) (h2 : k ≤ m) : untilS a k ≤ untilS b m := by
  unfold untilS topT
  split <;> split <;> omega
/-- classes that may be are kept a second or more. -/
theorem cls_keep : ∀ (l pre : List C), clsS pre l = true → ∀ c ∈ l, 1 ≤ c.2
  | [], _, _ => fun c h => by cases h
  | x :: l, pre, h => fun c hc => by
    rw [clsS, Bool.and_eq_true, Bool.and_eq_true, Bool.and_eq_true, decide_eq_true_eq] at h
    rcases List.mem_cons.1 hc with hc | hc
    · rw [hc]; exact h.1.2
    · exact cls_keep l _ h.2 c hc
theorem over_late {l : List C} {nm : L} {a now then_ : Int} (h : overS l nm a now = true) (ht : now ≤ then_) : overS l nm a then_ = true := by
  unfold overS at *
  cases hf : findS l nm with
  | none => rw [hf] at h; cases h
  | some c =>
    rw [hf] at h
    simp only [decide_eq_true_eq] at h ⊢
    omega
theorem over_first {l : List C} {nm : L} {a now : Int} (hc : clsS [] l = true) (h : overS l nm a now = true) : a < now ∨ now = topT ∨ topT < now := by
  unfold overS at h
  cases hf : findS l nm with
  | none => rw [hf] at h; cases h
  | some c =>
    rw [hf] at h
    have hk := cls_keep l [] hc c (find_some hf).1
    simp only [decide_eq_true_eq] at h
    unfold untilS topT at h
    unfold topT at *
    split at h <;> omega
/-- what a class is that nobody made. -/
def c0 : C := ([], 0)
def r0 : R := ([], [])
theorem find_at : ∀ {l : List C} {nm : L} {k : Nat}, (∀ j, j < k → (l.getD j c0).1 ≠ nm) → k < l.length → (l.getD k c0).1 = nm → findS l nm = some (l.getD k c0)
  | [], _, k, _, h, _ => by simp at h
  | c :: l, nm, 0, _, _, h => by
    have : c.1 = nm := h
    simp [findS, this]
  | c :: l, nm, k + 1, h1, h2, h3 => by
    have hc : c.1 ≠ nm := h1 0 (Nat.zero_lt_succ _)
    have ih := find_at (l := l) (nm := nm) (k := k) (fun j hj => h1 (j + 1) (Nat.succ_lt_succ hj)) (Nat.lt_of_succ_lt_succ h2) h3
    unfold findS at ih ⊢
    rw [List.find?_cons_of_neg (by simpa using hc)]
    exact ih
theorem find_miss {l : List C} {nm : L} (h : ∀ j, j < l.length → (l.getD j c0).1 ≠ nm) : findS l nm = none := by
  unfold findS
  rw [List.find?_eq_none]
  intro c hc
  obtain ⟨i, hi, rfl⟩ := List.mem_iff_getElem.1 hc
  have := h i hi
  simpa [List.getD, hi] using this
/-- the class at k among those ahead of it. -/
def clsAt (l : List C) (k : Nat) : Bool := (findS (l.take k) (l.getD k c0).1).isNone && smallS 20 (l.getD k c0).1 && decide (1 ≤ (l.getD k c0).2)
theorem cls_step {l : List C} {k : Nat} (h : k < l.length) : clsS (l.take k) (l.drop k) = (clsAt l k && clsS (l.take (k + 1)) (l.drop (k + 1))) := by
  have e : l.getD k c0 = l[k] := by simp [List.getD, h]
  rw [List.drop_eq_getElem_cons h, clsS, clsAt, e, List.take_succ_eq_append_getElem h]
theorem cls_end (l : List C) : clsS (l.take l.length) (l.drop l.length) = true := by simp [clsS]
theorem cls_start (l : List C) : clsS [] l = clsS (l.take 0) (l.drop 0) := by simp
theorem rules_bad {l : List C} {rs : List R} {k : Nat} (h : k < rs.length) (hb : ruleS l (rs.getD k r0) = false) : rs.all (ruleS l) = false := by
  rw [Bool.eq_false_iff]
  intro ha
  rw [List.all_eq_true] at ha
  have := ha (rs.getD k r0) (by simp [List.getD, h])
  rw [hb] at this
  cases this
theorem rules_good {l : List C} {rs : List R} (h : ∀ k, k < rs.length → ruleS l (rs.getD k r0) = true) : rs.all (ruleS l) = true := by
  rw [List.all_eq_true]
  intro r hr
  obtain ⟨i, hi, rfl⟩ := List.mem_iff_getElem.1 hr
  have := h i hi
  simpa [List.getD, hi] using this
theorem rule_at : ∀ {rs : List R} {f : R → Bool} {k : Nat}, (∀ j, j < k → f (rs.getD j r0) = false) → k < rs.length → f (rs.getD k r0) = true → rs.find? f = some (rs.getD k r0)
  | [], _, k, _, h, _ => by simp at h
  | c :: l, f, 0, _, _, h => by
    have : f c = true := h
    simp [this]
  | c :: l, f, k + 1, h1, h2, h3 => by
    have hc : f c = false := h1 0 (Nat.zero_lt_succ _)
    have ih := rule_at (rs := l) (f := f) (k := k) (fun j hj => h1 (j + 1) (Nat.succ_lt_succ hj)) (Nat.lt_of_succ_lt_succ h2) h3
    rw [List.find?_cons_of_neg (by simp [hc])]
    exact ih
theorem rule_miss {rs : List R} {f : R → Bool} (h : ∀ j, j < rs.length → f (rs.getD j r0) = false) : rs.find? f = none := by
  rw [List.find?_eq_none]
  intro c hc
  obtain ⟨i, hi, rfl⟩ := List.mem_iff_getElem.1 hc
  have := h i hi
  simpa [List.getD, hi] using this
/-- the sum as the program may reckon it: no number passes the end. -/
theorem until_high {a k : Int} (hk : 0 ≤ k) (h : topT - a < k) : untilS a k = topT := by
  unfold untilS
  rw [if_pos (by omega)]
theorem until_low {a k : Int} (hk : 0 ≤ k) (h : ¬ topT - a < k) : untilS a k = a + k := by
  unfold untilS
  rw [if_neg (by omega), Int.max_eq_left hk]
theorem until_neg {a k : Int} (hk : k < 0) (ha : a ≤ topT) : untilS a k = a := by
  unfold untilS
  rw [Int.max_eq_right (by omega), if_neg (by omega)]; omega
end Rt
end Go.Proofs.YteapnkedpmcokaaGreatDoor
/- Messages as bytes, as plain lists: parts put together and taken, what is encoded and decoded; each way back. Conditions: none. -/
namespace Go.Proofs.YteapnkedpmcokaaGreatDoor
set_option maxRecDepth 100000
namespace En
open Go.Proofs.YteapnkedpmcokaaGreatDoor.Pa
abbrev L := List UInt8
/-- a number's digits. -/
def dec (n : Nat) : L := Lib.decDigits n
/-- a part as Put writes it. -/
def partS (p : L) : L := dec p.length ++ 58 :: (p ++ [44])
def putS (l : List L) : L := l.flatMap partS
def takeS (b : L) : Option (L × L) :=
  if (58 : UInt8) ∈ b then match Mb.numS (Pa.ahead 58 b) with
    | some n => if n ≤ 1000000 ∧ n < (Pa.behind 58 b).length ∧ (Pa.behind 58 b).getD n 0 = 44 then some ((Pa.behind 58 b).take n, (Pa.behind 58 b).drop (n + 1)) else none
    | none => none
  else none
theorem dec_58 (n : Nat) : (58 : UInt8) ∉ dec n := fun h => by
  have := Mb.dec_dig n _ h
  unfold Mb.digB at this
  revert this
  decide
theorem dec_inj {a b : Nat} (h : dec a = dec b) : a = b := by
  have := congrArg Mb.valL h
  unfold dec at this
  rwa [Mb.val_dec, Mb.val_dec] at this
theorem part_form (p rest : L) : partS p ++ rest = dec p.length ++ 58 :: (p ++ 44 :: rest) := by simp [partS]
theorem ahead_part (p rest : L) : Pa.ahead 58 (partS p ++ rest) = dec p.length ∧ Pa.behind 58 (partS p ++ rest) = p ++ 44 :: rest := by
  rw [part_form]
  exact ahead_at (dec_58 _)
/-- a part that is put is taken, whatever stands behind. -/
theorem take_part {p : L} (rest : L) (h : p.length ≤ 1000000) : takeS (partS p ++ rest) = some (p, rest) := by
  have h1 := ahead_part p rest
  have hm : (58 : UInt8) ∈ partS p ++ rest := by rw [part_form]; simp
  unfold takeS
  rw [if_pos hm, h1.1, h1.2]
  have hn : Mb.numS (dec p.length) = some p.length := Mb.numS_dec (by omega)
  rw [hn]
  dsimp only
  rw [if_pos ⟨h, by simp, by simp [List.getD]⟩]
  congr 2
  · simp
  · simp
theorem take_some {b p rest : L} (h : takeS b = some (p, rest)) : b = partS p ++ rest ∧ p.length ≤ 1000000 := by
  unfold takeS at h
  split at h
  · next hm =>
    obtain ⟨hb, _⟩ := cut_at hm
    cases hn : Mb.numS (Pa.ahead 58 b) with
    | none => rw [hn] at h; cases h
    | some n =>
      rw [hn] at h
      dsimp only at h
      split at h
      · next hc =>
        obtain ⟨h1, h2, h3⟩ := hc
        have hp : (Pa.behind 58 b).take n = p := (Prod.mk.inj (Option.some.inj h)).1
        have hr : (Pa.behind 58 b).drop (n + 1) = rest := (Prod.mk.inj (Option.some.inj h)).2
        have hl : p.length = n := by rw [← hp, List.length_take]; omega
        have hd := (Mb.numS_some hn).1
        refine ⟨?_, by omega⟩
        rw [part_form, hl]
        have hbb : Pa.behind 58 b = p ++ 44 :: rest := by
          conv => lhs; rw [← List.take_append_drop n (Pa.behind 58 b), hp]
          congr 1
          rw [List.drop_eq_getElem_cons h2, hr]
          congr 1
          rw [← h3, List.getD, List.getElem?_eq_getElem h2]
          rfl
        conv => lhs; rw [hb, hd, hbb]
        rfl
      · cases h
  · cases h
theorem take_iff {b p rest : L} : takeS b = some (p, rest) ↔ b = partS p ++ rest ∧ p.length ≤ 1000000 :=
  ⟨take_some, fun ⟨e, h⟩ => by rw [e]; exact take_part rest h⟩
theorem part_ne (p : L) : partS p ≠ [] := by
  unfold partS
  intro h
  have := congrArg List.length h
  simp at this
theorem take_less {b p rest : L} (h : takeS b = some (p, rest)) : rest.length < b.length := by
  rw [(take_some h).1, List.length_append]
  have := List.length_pos_iff.2 (part_ne p)
  omega
theorem take_nil : takeS [] = none := rfl
/-- up to k parts taken from the beginning. -/
def splitS : Nat → L → List L × L
  | 0, b => ([], b)
  | k + 1, b => match takeS b with
    | none => ([], b)
    | some (p, r) => (p :: (splitS k r).1, (splitS k r).2)
theorem put_cons (p : L) (l : List L) : putS (p :: l) = partS p ++ putS l := rfl
theorem split_put : ∀ (l : List L) (k : Nat), l.length ≤ k → (∀ p ∈ l, p.length ≤ 1000000) → splitS k (putS l) = (l, [])
  | [], k, _, _ => by cases k <;> rfl
  | p :: l, 0, h, _ => by simp at h
  | p :: l, k + 1, h, hp => by
    have ih := split_put l k (by simpa using h) (fun q hq => hp q (List.mem_cons_of_mem _ hq))
    rw [splitS, put_cons, take_part _ (hp p (List.mem_cons_self ..))]
    dsimp only
    rw [ih]
theorem split_back : ∀ (k : Nat) (b : L), b = putS (splitS k b).1 ++ (splitS k b).2 ∧ (splitS k b).1.length ≤ k ∧ ∀ p ∈ (splitS k b).1, p.length ≤ 1000000
  | 0, b => ⟨rfl, Nat.le_refl _, fun p hp => by cases hp⟩
  | k + 1, b => by
    cases ht : takeS b with
    | none =>
      have e : splitS (k + 1) b = ([], b) := by rw [splitS, ht]
      rw [e]
      exact ⟨rfl, Nat.zero_le _, fun p hp => by cases hp⟩
    | some q =>
      obtain ⟨p, r⟩ := q
      have e : splitS (k + 1) b = (p :: (splitS k r).1, (splitS k r).2) := by rw [splitS, ht]
      obtain ⟨h1, h2⟩ := take_some ht
      obtain ⟨i1, i2, i3⟩ := split_back k r
      rw [e]
      refine ⟨?_, by simpa using i2, fun x hx => ?_⟩
      · rw [put_cons, List.append_assoc, ← i1]; exact h1
      · rcases List.mem_cons.1 hx with rfl | hx
        · exact h2
        · exact i3 x hx
/-- a message: its number, its class, from whom, to whom, when, its bytes. -/
structure M where
  id : Int
  cls : L
  fr : L
  tos : List L
  at_ : Int
  body : L
def envB (fr : L) (to : List L) (t : Int) : Bool := (fr.isEmpty || mailS fr) && (decide (1 ≤ to.length ∧ to.length ≤ 100) && (decide (0 ≤ t) && to.all mailS))
def checkB (m : M) : Bool := envB m.fr m.tos m.at_ && decide (m.body.length ≤ 500000)
def okB (m : M) : Bool := checkB m && (decide (1 ≤ m.id ∧ m.id ≤ 1099511627776) && Rt.smallS 20 m.cls)
def fldS (m : M) : List L := dec m.id.toNat :: m.cls :: m.fr :: dec m.at_.toNat :: dec m.tos.length :: (m.tos ++ [m.body])
def encS (m : M) : Option L := if okB m then some (putS (fldS m)) else none
theorem mail_len {a : L} (h : mailS a = true) : a.length ≤ 320 := by
  unfold mailS at h
  rw [Bool.and_eq_true, Bool.and_eq_true, decide_eq_true_eq] at h
  have h1 := h.1.1
  have h2 : (dom a).length ≤ 255 := by
    have := h.2
    unfold domS at this
    rw [Bool.and_eq_true, decide_eq_true_eq] at this
    exact this.1
  rcases last_cases a with ⟨hn, _⟩ | ⟨x, y, rfl, hy, _⟩
  · rw [(loc_no hn).1] at h1; omega
  · rw [(loc_at hy).1] at h1
    rw [(loc_at hy).2] at h2
    simp; omega
theorem ok_parts {m : M} (h : okB m = true) : (m.fr = [] ∨ mailS m.fr = true) ∧ (1 ≤ m.tos.length ∧ m.tos.length ≤ 100) ∧ 0 ≤ m.at_ ∧ (∀ a ∈ m.tos, mailS a = true) ∧ m.body.length ≤ 500000 ∧ (1 ≤ m.id ∧ m.id ≤ 1099511627776) ∧ Rt.smallS 20 m.cls = true := by
  unfold okB checkB envB at h
  simp only [Bool.and_eq_true, Bool.or_eq_true, decide_eq_true_eq, List.isEmpty_iff, List.all_eq_true] at h
  obtain ⟨⟨⟨h1, h2, h3, h4⟩, h5⟩, h6, h7⟩ := h
  exact ⟨h1, h2, h3, h4, h5, h6, h7⟩
theorem dec_len {n : Nat} (h : n < 1000000000000000000000) : (dec n).length ≤ 30 := by
  have : ∀ (k n : Nat), n < 10 ^ k → (Lib.decDigits n).length ≤ max k 1 := by
    intro k
    induction k with
    | zero =>
      intro n hn
      have : n = 0 := by simpa using hn
      subst this
      simp [Lib.decDigits]
    | succ k ih =>
      intro n hn
      rw [Lib.decDigits]
      split
      · simp
      · rw [List.length_append, List.length_singleton]
        have h1 := ih (n / 10) (by rw [Nat.pow_succ] at hn; omega)
        have : 1 ≤ k := by
          rcases Nat.eq_zero_or_pos k with h0 | h0
          · subst h0; omega
          · exact h0
        omega
  have := this 21 n h
  unfold dec
  omega
/-- what is encoded has parts that are no longer than a part may be. -/
theorem fld_len {m : M} (h : okB m = true) (ht : m.at_ ≤ 9223372036854775807) : (fldS m).length ≤ 106 ∧ 7 ≤ (fldS m).length ∧ ∀ p ∈ fldS m, p.length ≤ 1000000 := by
  obtain ⟨h1, h2, h3, h4, h5, h6, h7⟩ := ok_parts h
  refine ⟨by simp [fldS]; omega, by simp [fldS]; omega, fun p hp => ?_⟩
  unfold fldS at hp
  simp only [List.mem_cons, List.mem_append, List.not_mem_nil, or_false] at hp
  rcases hp with rfl | rfl | rfl | rfl | rfl | hp | rfl
  · have := dec_len (n := m.id.toNat) (by omega); omega
  · unfold Rt.smallS at h7
    rw [Bool.and_eq_true, decide_eq_true_eq] at h7
    omega
  · rcases h1 with h1 | h1
    · rw [h1]; simp
    · have := mail_len h1; omega
  · have := dec_len (n := m.at_.toNat) (by omega); omega
  · have := dec_len (n := m.tos.length) (by omega); omega
  · have := mail_len (h4 p hp); omega
  · omega
/-- the message that parts may be of. -/
def candS (l : List L) : M := ⟨((Mb.numS (l.getD 0 [])).getD 0 : Nat), l.getD 1 [], l.getD 2 [], (l.drop 5).dropLast, ((Mb.numS (l.getD 3 [])).getD 0 : Nat), (l.drop 5).getLastD []⟩
theorem cand_fld {m : M} (h : okB m = true) (ht : m.at_ ≤ 9223372036854775807) : candS (fldS m) = m := by
  obtain ⟨h1, h2, h3, h4, h5, h6, h7⟩ := ok_parts h
  obtain ⟨id, cls, fr, to, t, body⟩ := m
  dsimp only at *
  have e1 : Mb.numS (dec id.toNat) = some id.toNat := Mb.numS_dec (by omega)
  have e2 : Mb.numS (dec t.toNat) = some t.toNat := Mb.numS_dec (by omega)
  unfold candS fldS
  simp only [List.getD_cons_zero, List.getD_cons_succ, List.drop_succ_cons, List.drop_zero, List.dropLast_concat, e1, e2, Option.getD_some]
  congr 1
  · omega
  · omega
  · rw [List.getLastD_concat]
/-- the message whose bytes these are. -/
def decS (b : L) : Option M := if 7 ≤ (splitS 110 b).1.length ∧ (splitS 110 b).2 = [] ∧ encS (candS (splitS 110 b).1) = some b then some (candS (splitS 110 b).1) else none
theorem dec_enc {m : M} {b : L} (ht : m.at_ ≤ 9223372036854775807) (h : encS m = some b) : decS b = some m := by
  unfold encS at h
  split at h
  · next hk =>
    obtain ⟨h1, h2, h3⟩ := fld_len hk ht
    have hb : putS (fldS m) = b := Option.some.inj h
    have hs : splitS 110 b = (fldS m, []) := by rw [← hb]; exact split_put _ _ (by omega) h3
    unfold decS
    rw [hs]
    dsimp only
    rw [cand_fld hk ht]
    rw [if_pos ⟨h2, rfl, by unfold encS; rw [if_pos hk, hb]⟩]
  · cases h
theorem dec_some {m : M} {b : L} (h : decS b = some m) : encS m = some b := by
  unfold decS at h
  split at h
  · next hc => rw [← Option.some.inj h]; exact hc.2.2
  · cases h
theorem cand_at (l : List L) : 0 ≤ (candS l).at_ ∧ (candS l).at_ ≤ 9223372036854775807 := by
  unfold candS
  dsimp only
  cases hn : Mb.numS (l.getD 3 []) with
  | none => simp
  | some n =>
    have := (Mb.numS_some hn).2
    simp only [Option.getD_some]
    omega
end En
end Go.Proofs.YteapnkedpmcokaaGreatDoor
/- Holds as plain lists: one more, one less, whom they cover; the laws of more and less. Conditions: none. -/
namespace Go.Proofs.YteapnkedpmcokaaGreatDoor
set_option maxRecDepth 100000
namespace Ho
open Go.Proofs.YteapnkedpmcokaaGreatDoor.Pa
abbrev L := List UInt8
/-- a hold: its name, whose. -/
abbrev H := List UInt8 × List UInt8
/-- a byte of a name. -/
def nmB (c : UInt8) : Bool := decide (97 ≤ c.toNat ∧ c.toNat ≤ 122) || decide (48 ≤ c.toNat ∧ c.toNat ≤ 57) || decide (c.toNat = 45)
def holdS (h : H) : Bool := h.1.all nmB && decide (1 ≤ h.1.length ∧ h.1.length ≤ 30) && (h.2 == [] || mailS h.2)
def hasN (l : List H) (nm : L) : Bool := l.any fun x => x.1 == nm
/-- one more: the error's number; what is answered. -/
def placeE (l : List H) (h : H) : Int := if holdS h && !hasN l h.1 then (if 100 ≤ l.length then 2 else 0) else 140
def placeS (l : List H) (h : H) : List H := if placeE l h = 0 then l ++ [h] else []
/-- one less: the first of that name left out. -/
def liftL : List H → L → List H
  | [], _ => []
  | x :: l, nm => if x.1 == nm then l else x :: liftL l nm
def liftE (l : List H) (nm : L) : Int := if hasN l nm then 0 else 3
def liftS (l : List H) (nm : L) : List H := if hasN l nm then liftL l nm else []
/-- whether a hold keeps an envelope. -/
def covB (h : H) (fr : L) (to : List L) : Bool := h.2 == [] || foldS fr == foldS h.2 || to.any (fun a => foldS a == foldS h.2)
def covS (l : List H) (fr : L) (to : List L) : Bool := l.any fun h => covB h fr to
theorem place_ok {l : List H} {h : H} (hp : placeE l h = 0) : holdS h = true ∧ hasN l h.1 = false ∧ l.length < 100 := by
  unfold placeE at hp
  split at hp
  · next hc =>
    rw [Bool.and_eq_true, Bool.not_eq_true'] at hc
    split at hp
    · cases hp
    · exact ⟨hc.1, hc.2, by omega⟩
  · cases hp
theorem lift_behind : ∀ {l : List H} {h : H}, hasN l h.1 = false → liftL (l ++ [h]) h.1 = l
  | [], h, _ => by simp [liftL]
  | x :: l, h, hn => by
    have h1 : (x.1 == h.1) = false ∧ hasN l h.1 = false := by
      unfold hasN at hn ⊢
      rw [List.any_cons, Bool.or_eq_false_iff] at hn
      exact hn
    rw [List.cons_append, liftL, h1.1, lift_behind h1.2]
    rfl
theorem has_behind (l : List H) (h : H) : hasN (l ++ [h]) h.1 = true := by simp [hasN]
/-- what is placed and lifted again leaves all as it was. -/
theorem lift_place {l : List H} {h : H} (hp : placeE l h = 0) : liftE (placeS l h) h.1 = 0 ∧ liftS (placeS l h) h.1 = l := by
  have hn := (place_ok hp).2.1
  unfold placeS liftE liftS
  rw [if_pos hp, if_pos (has_behind l h), if_pos (has_behind l h)]
  exact ⟨rfl, lift_behind hn⟩
/-- one more uncovers nothing. -/
theorem cov_more {l : List H} {h : H} {fr : L} {to : List L} (hp : placeE l h = 0) (hc : covS l fr to = true) : covS (placeS l h) fr to = true := by
  unfold placeS
  rw [if_pos hp]
  unfold covS at hc ⊢
  rw [List.any_append, hc, Bool.true_or]
theorem lift_sub : ∀ {l : List H} {nm : L} {x : H}, x ∈ liftL l nm → x ∈ l
  | [], _, x, h => by cases h
  | y :: l, nm, x, h => by
    rw [liftL] at h
    split at h
    · exact List.mem_cons_of_mem _ h
    · rcases List.mem_cons.1 h with rfl | h
      · exact List.mem_cons_self ..
      · exact List.mem_cons_of_mem _ (lift_sub h)
/-- one less covers nothing anew. -/
theorem cov_less {l : List H} {nm : L} {fr : L} {to : List L} (hc : covS (liftS l nm) fr to = true) : covS l fr to = true := by
  unfold liftS at hc
  split at hc
  · unfold covS at hc ⊢
    rw [List.any_eq_true] at hc ⊢
    obtain ⟨x, hx, hb⟩ := hc
    exact ⟨x, lift_sub hx, hb⟩
  · cases hc
theorem lift_length : ∀ {l : List H} {nm : L}, hasN l nm = true → (liftL l nm).length + 1 = l.length
  | [], _, h => by cases h
  | x :: l, nm, h => by
    rw [liftL]
    cases hx : (x.1 == nm) with
    | true => rfl
    | false =>
      have : hasN l nm = true := by
        unfold hasN at h ⊢
        rw [List.any_cons, hx, Bool.false_or] at h
        exact h
      have ih := lift_length this
      simp only [Bool.false_eq_true, if_false, List.length_cons]
      omega
/-- the first of that name at k: what stands ahead of it and behind. -/
theorem lift_at : ∀ {l : List H} {nm : L} {k : Nat}, (∀ j, j < k → ((l.getD j ([], [])).1 == nm) = false) → k < l.length → ((l.getD k ([], [])).1 == nm) = true → hasN l nm = true ∧ liftL l nm = l.take k ++ l.drop (k + 1)
  | [], _, k, _, h, _ => by simp at h
  | x :: l, nm, 0, _, _, h => by
    have hx : (x.1 == nm) = true := h
    refine ⟨?_, ?_⟩
    · unfold hasN
      rw [List.any_cons, hx]; rfl
    · rw [liftL, hx]; rfl
  | x :: l, nm, k + 1, h1, h2, h3 => by
    have hx : (x.1 == nm) = false := h1 0 (Nat.zero_lt_succ _)
    obtain ⟨i1, i2⟩ := lift_at (l := l) (nm := nm) (k := k) (fun j hj => h1 (j + 1) (Nat.succ_lt_succ hj)) (Nat.lt_of_succ_lt_succ h2) h3
    refine ⟨?_, ?_⟩
    · unfold hasN at i1 ⊢
      rw [List.any_cons, i1, Bool.or_true]
    · rw [liftL, hx, i2]; rfl
theorem has_miss {l : List H} {nm : L} (h : ∀ j, j < l.length → ((l.getD j ([], [])).1 == nm) = false) : hasN l nm = false := by
  unfold hasN
  rw [List.any_eq_false]
  intro x hx
  obtain ⟨i, hi, rfl⟩ := List.mem_iff_getElem.1 hx
  have := h i hi
  simpa [List.getD, hi] using this
theorem has_hit {l : List H} {nm : L} {k : Nat} (hk : k < l.length) (h : ((l.getD k ([], [])).1 == nm) = true) : hasN l nm = true := by
  unfold hasN
  rw [List.any_eq_true]
  exact ⟨l.getD k ([], []), by simp [List.getD, hk], h⟩
theorem cov_hit {l : List H} {fr : L} {to : List L} {k : Nat} (hk : k < l.length) (h : covB (l.getD k ([], [])) fr to = true) : covS l fr to = true := by
  unfold covS
  rw [List.any_eq_true]
  exact ⟨l.getD k ([], []), by simp [List.getD, hk], h⟩
theorem cov_miss {l : List H} {fr : L} {to : List L} (h : ∀ j, j < l.length → covB (l.getD j ([], [])) fr to = false) : covS l fr to = false := by
  unfold covS
  rw [List.any_eq_false]
  intro x hx
  obtain ⟨i, hi, rfl⟩ := List.mem_iff_getElem.1 hx
  have := h i hi
  simpa [List.getD, hi] using this
end Ho
end Go.Proofs.YteapnkedpmcokaaGreatDoor
/- SHA-256 as plain functions on numbers and lists; their laws. Conditions: none. -/
namespace Go.Proofs.YteapnkedpmcokaaGreatDoor
set_option maxRecDepth 100000
/-- turned right by n. -/
def rotr (n x : Nat) : Nat := x / 2 ^ n ||| x * 2 ^ (32 - n) % 4294967296
def add32 (a b : Nat) : Nat := (a + b) % 4294967296
def rot3 (i j k x : Nat) : Nat := rotr i x ^^^ rotr j x ^^^ rotr k x
def sh3 (i j k x : Nat) : Nat := rotr i x ^^^ rotr j x ^^^ x / 2 ^ k
/-- the four bytes at place i as a number, the highest ahead. -/
def be4 (l : List UInt8) (i : Nat) : Nat := (l.getD i 0).toNat * 16777216 + (l.getD (i + 1) 0).toNat * 65536 + (l.getD (i + 2) 0).toNat * 256 + (l.getD (i + 3) 0).toNat
/-- the words of a block. -/
def nextW (blk : List UInt8) (w : List Nat) : Nat :=
  if w.length < 16 then be4 blk (4 * w.length)
  else add32 (add32 (add32 (sh3 17 19 10 (w.getD (w.length - 2) 0)) (w.getD (w.length - 7) 0)) (sh3 7 18 3 (w.getD (w.length - 15) 0))) (w.getD (w.length - 16) 0)
def wstep (blk : List UInt8) (w : List Nat) : List Nat := w ++ [nextW blk w]
def wl (blk : List UInt8) : Nat → List Nat
  | 0 => []
  | k + 1 => wstep blk (wl blk k)
structure S8 where
  (a b c d e f g h : Nat)
def S8.l (s : S8) : List Nat := [s.a, s.b, s.c, s.d, s.e, s.f, s.g, s.h]
def S8.ok (s : S8) : Prop := s.a < 4294967296 ∧ s.b < 4294967296 ∧ s.c < 4294967296 ∧ s.d < 4294967296 ∧ s.e < 4294967296 ∧ s.f < 4294967296 ∧ s.g < 4294967296 ∧ s.h < 4294967296
def kk : List Nat := [1116352408, 1899447441, 3049323471, 3921009573, 961987163, 1508970993, 2453635748, 2870763221, 3624381080, 310598401, 607225278, 1426881987, 1925078388, 2162078206, 2614888103, 3248222580, 3835390401, 4022224774, 264347078, 604807628, 770255983, 1249150122, 1555081692, 1996064986, 2554220882, 2821834349, 2952996808, 3210313671, 3336571891, 3584528711, 113926993, 338241895, 666307205, 773529912, 1294757372, 1396182291, 1695183700, 1986661051, 2177026350, 2456956037, 2730485921, 2820302411, 3259730800, 3345764771, 3516065817, 3600352804, 4094571909, 275423344, 430227734, 506948616, 659060556, 883997877, 958139571, 1322822218, 1537002063, 1747873779, 1955562222, 2024104815, 2227730452, 2361852424, 2428436474, 2756734187, 3204031479, 3329325298]
def chf (e f g : Nat) : Nat := (e &&& f) ||| ((4294967295 ^^^ e) &&& g)
def maj (a b c : Nat) : Nat := ((a &&& b) ||| (a &&& c)) ||| (b &&& c)
def tee (s : S8) (k w : Nat) : Nat := add32 (add32 (add32 (add32 s.h (rot3 6 11 25 s.e)) (chf s.e s.f s.g)) k) w
def rnd (s : S8) (k w : Nat) : S8 := ⟨add32 (add32 (tee s k w) (rot3 2 13 22 s.a)) (maj s.a s.b s.c), s.a, s.b, s.c, add32 s.d (tee s k w), s.e, s.f, s.g⟩
def rnds (blk : List UInt8) (s : S8) : Nat → S8
  | 0 => s
  | k + 1 => rnd (rnds blk s k) (kk.getD k 0) ((wl blk 64).getD k 0)
def sum8 (s r : S8) : S8 := ⟨add32 s.a r.a, add32 s.b r.b, add32 s.c r.c, add32 s.d r.d, add32 s.e r.e, add32 s.f r.f, add32 s.g r.g, add32 s.h r.h⟩
def mix (s : S8) (blk : List UInt8) : S8 := sum8 s (rnds blk s 64)
def init8 : S8 := ⟨1779033703, 3144134277, 1013904242, 2773480762, 1359893119, 2600822924, 528734635, 1541459225⟩
/-- the words behind the first k blocks. -/
def wsN (m : List UInt8) : Nat → S8
  | 0 => init8
  | k + 1 => mix (wsN m k) ((m.drop (64 * k)).take 64)
/-- a number's lowest n bytes, the highest ahead. -/
def hib (x : Nat) : Nat → List UInt8
  | 0 => []
  | n + 1 => UInt8.ofNat (x / 256 ^ n) :: hib x n
/-- what stands behind a text of n bytes. -/
def padding (n : Nat) : List UInt8 := 128 :: (List.replicate ((119 - n % 64) % 64) 0 ++ hib (8 * n) 8)
def padded (m : List UInt8) : List UInt8 := m ++ padding m.length
/-- the sum. -/
def sha (m : List UInt8) : List UInt8 := (wsN (padded m) ((padded m).length / 64)).l.flatMap fun w => hib w 4
theorem add32_lt (a b : Nat) : add32 a b < 4294967296 := Nat.mod_lt _ (by decide)
theorem add32_comm (a b : Nat) : add32 a b = add32 b a := by unfold add32; rw [Nat.add_comm]
theorem add32_assoc (a b c : Nat) : add32 (add32 a b) c = add32 a (add32 b c) := by unfold add32; omega
theorem or_lt {a b : Nat} (ha : a < 4294967296) (hb : b < 4294967296) : a ||| b < 4294967296 := Nat.or_lt_two_pow (n := 32) ha hb
theorem and_lt {a : Nat} (b : Nat) (ha : a < 4294967296) : a &&& b < 4294967296 := Nat.lt_of_le_of_lt Nat.and_le_left ha
theorem xor_lt' {a b : Nat} (ha : a < 4294967296) (hb : b < 4294967296) : a ^^^ b < 4294967296 := Nat.xor_lt_two_pow (n := 32) ha hb
theorem rotr_lt (n : Nat) {x : Nat} (h : x < 4294967296) : rotr n x < 4294967296 := or_lt (Nat.lt_of_le_of_lt (Nat.div_le_self _ _) h) (Nat.mod_lt _ (by decide))
theorem rot3_lt (i j k : Nat) {x : Nat} (h : x < 4294967296) : rot3 i j k x < 4294967296 := xor_lt' (xor_lt' (rotr_lt i h) (rotr_lt j h)) (rotr_lt k h)
theorem sh3_lt (i j k : Nat) {x : Nat} (h : x < 4294967296) : sh3 i j k x < 4294967296 := xor_lt' (xor_lt' (rotr_lt i h) (rotr_lt j h)) (Nat.lt_of_le_of_lt (Nat.div_le_self _ _) h)
theorem be4_lt (l : List UInt8) (i : Nat) : be4 l i < 4294967296 := by
  unfold be4
  have h0 := (l.getD i 0).toNat_lt
  have h1 := (l.getD (i + 1) 0).toNat_lt
  have h2 := (l.getD (i + 2) 0).toNat_lt
  have h3 := (l.getD (i + 3) 0).toNat_lt
  omega
theorem nextW_lt (blk : List UInt8) (w : List Nat) : nextW blk w < 4294967296 := by
  unfold nextW
  split
  · exact be4_lt _ _
  · exact add32_lt _ _
theorem wl_length (blk : List UInt8) : ∀ k, (wl blk k).length = k
  | 0 => rfl
  | k + 1 => by rw [wl, wstep, List.length_append, wl_length blk k]; rfl
theorem wl_lt (blk : List UInt8) : ∀ k, ∀ x ∈ wl blk k, x < 4294967296
  | 0, x, h => by cases h
  | k + 1, x, h => by
    rw [wl, wstep, List.mem_append] at h
    rcases h with h | h
    · exact wl_lt blk k x h
    · rw [List.mem_singleton] at h
      subst h
      exact nextW_lt _ _
theorem getD_lt {w : List Nat} (h : ∀ x ∈ w, x < 4294967296) (i : Nat) : w.getD i 0 < 4294967296 := by
  rw [List.getD_eq_getElem?_getD]
  cases hi : w[i]? with
  | none => simp
  | some x => exact h x (List.mem_of_getElem? hi)
theorem wl_getD_lt (blk : List UInt8) (k i : Nat) : (wl blk k).getD i 0 < 4294967296 := getD_lt (wl_lt blk k) i
theorem kk_lt (i : Nat) : kk.getD i 0 < 4294967296 := getD_lt (by decide) i
theorem chf_lt {e f g : Nat} (he : e < 4294967296) (_ : f < 4294967296) : chf e f g < 4294967296 := or_lt (and_lt _ he) (and_lt _ (xor_lt' (by decide) he))
theorem maj_lt {a b c : Nat} (ha : a < 4294967296) (hb : b < 4294967296) : maj a b c < 4294967296 := or_lt (or_lt (and_lt _ ha) (and_lt _ ha)) (and_lt _ hb)
theorem tee_lt (s : S8) (k w : Nat) : tee s k w < 4294967296 := add32_lt _ _
theorem rnd_ok {s : S8} (h : s.ok) (k w : Nat) : (rnd s k w).ok := by
  obtain ⟨h0, h1, h2, h3, h4, h5, h6, h7⟩ := h
  exact ⟨add32_lt _ _, h0, h1, h2, add32_lt _ _, h4, h5, h6⟩
theorem rnds_ok (blk : List UInt8) {s : S8} (h : s.ok) : ∀ k, (rnds blk s k).ok
  | 0 => h
  | k + 1 => rnd_ok (rnds_ok blk h k) _ _
theorem sum8_ok (s r : S8) : (sum8 s r).ok := ⟨add32_lt _ _, add32_lt _ _, add32_lt _ _, add32_lt _ _, add32_lt _ _, add32_lt _ _, add32_lt _ _, add32_lt _ _⟩
theorem mix_ok (s : S8) (blk : List UInt8) : (mix s blk).ok := sum8_ok _ _
theorem init8_ok : init8.ok := by unfold init8 S8.ok; decide
theorem wsN_ok (m : List UInt8) : ∀ k, (wsN m k).ok
  | 0 => init8_ok
  | _ + 1 => mix_ok _ _
theorem S8.ok_l {s : S8} (h : s.ok) : ∀ x ∈ s.l, x < 4294967296 := by
  obtain ⟨h0, h1, h2, h3, h4, h5, h6, h7⟩ := h
  intro x hx
  simp only [S8.l, List.mem_cons, List.not_mem_nil, or_false] at hx
  omega
theorem S8.length (s : S8) : s.l.length = 8 := rfl
theorem wsN_append (m r : List UInt8) : ∀ k, 64 * k ≤ m.length → wsN (m ++ r) k = wsN m k
  | 0, _ => rfl
  | k + 1, h => by
    rw [wsN, wsN, wsN_append m r k (by omega)]
    congr 1
    rw [List.drop_append_of_le_length (by omega), List.take_append_of_le_length (by rw [List.length_drop]; omega)]
theorem hib_length (x : Nat) : ∀ n, (hib x n).length = n
  | 0 => rfl
  | n + 1 => by rw [hib, List.length_cons, hib_length x n]
theorem padding_length (n : Nat) : (padding n).length = 9 + (119 - n % 64) % 64 := by simp [padding, hib_length]; omega
theorem padded_length (m : List UInt8) : (padded m).length = m.length + 9 + (119 - m.length % 64) % 64 := by rw [padded, List.length_append, padding_length]; omega
theorem padded_mod (m : List UInt8) : (padded m).length % 64 = 0 := by rw [padded_length]; omega
theorem sha_length (m : List UInt8) : (sha m).length = 32 := by simp [sha, S8.l, hib_length]
end Go.Proofs.YteapnkedpmcokaaGreatDoor
