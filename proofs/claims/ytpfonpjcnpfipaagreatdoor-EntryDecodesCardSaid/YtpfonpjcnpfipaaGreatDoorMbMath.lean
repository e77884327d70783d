/- Mailbox files as plain functions on lists of bytes: lines, quotes, letters written and read; their laws. Conditions: none. -/
import Derived.Test.YtpfonpjcnpfipaaGreatDoorPaMath
import Derived.Lib.ItoaMem
import Derived.Lib.ItoaLen
import Derived.Lib.ParseIntBTie
namespace Go.Proofs.YtpfonpjcnpfipaaGreatDoor
set_option maxRecDepth 100000
namespace Mb
open Go.Proofs.YtpfonpjcnpfipaaGreatDoor.Pa
abbrev L := List UInt8
/-- the lines, each with its end if it has one. -/
def lns : L → List L
  | [] => []
  | c :: l => if c = 10 then [10] :: lns l else match lns l with
    | [] => [[c]]
    | x :: t => (c :: x) :: t
theorem lns_end : ∀ {s : L} (_ : (10 : UInt8) ∉ s) (r : L), lns (s ++ 10 :: r) = (s ++ [10]) :: lns r
  | [], _, r => by rw [List.nil_append, lns, if_pos rfl]; rfl
  | c :: s, h, r => by
    rw [List.cons_append, lns, if_neg (by intro e; exact h (by simp [e])), lns_end (fun h' => h (by simp [h']))]
    rfl
theorem lns_last : ∀ {s : L}, (10 : UInt8) ∉ s → s ≠ [] → lns s = [s]
  | [], _, h => absurd rfl h
  | [c], h, _ => by rw [lns, if_neg (by intro e; exact h (by simp [e]))]; rfl
  | c :: d :: s, h, _ => by
    rw [lns, if_neg (by intro e; exact h (by simp [e])), lns_last (s := d :: s) (fun h' => h (List.mem_cons_of_mem _ h')) (by simp)]
theorem lines_ind {P : L → Prop} (h0 : P []) (h1 : ∀ s : L, (10 : UInt8) ∉ s → s ≠ [] → P s) (h2 : ∀ s r : L, (10 : UInt8) ∉ s → P r → P (s ++ 10 :: r)) : ∀ b, P b := by
  suffices h : ∀ (n : Nat) (b : L), b.length ≤ n → P b from fun b => h b.length b (Nat.le_refl _)
  intro n
  induction n with
  | zero =>
    intro b hb
    rw [List.eq_nil_of_length_eq_zero (by omega : b.length = 0)]
    exact h0
  | succ n ih =>
    intro b hb
    by_cases hm : (10 : UInt8) ∈ b
    · obtain ⟨e, hn⟩ := cut_at hm
      have hl := behind_len hm
      rw [e]
      exact h2 _ _ hn (ih _ (by omega))
    · by_cases hb0 : b = []
      · rw [hb0]; exact h0
      · exact h1 b hm hb0
theorem lns_flat (b : L) : (lns b).flatten = b := by
  refine lines_ind (P := fun b => (lns b).flatten = b) rfl (fun s h h' => by rw [lns_last h h']; simp) (fun s r h ih => ?_) b
  rw [lns_end h, List.flatten_cons, ih]
  simp
/-- a line that has its end. -/
def Ful (x : L) : Prop := ∃ s : L, (10 : UInt8) ∉ s ∧ x = s ++ [10]
def wholeB (b : L) : Bool := b.isEmpty || Go.Lib.hasSuffix b [10]
theorem suf_iff (b : L) : Go.Lib.hasSuffix b [10] = true ↔ ∃ s, b = s ++ [10] := by
  unfold Go.Lib.hasSuffix
  rw [List.isSuffixOf_iff_suffix]
  constructor
  · rintro ⟨s, h⟩; exact ⟨s, h.symm⟩
  · rintro ⟨s, h⟩; exact ⟨s, h.symm⟩
theorem whole_iff (b : L) : wholeB b = true ↔ b = [] ∨ ∃ s, b = s ++ [10] := by
  unfold wholeB
  rw [Bool.or_eq_true, suf_iff]
  simp
theorem whole_ful (b : L) : wholeB b = true ↔ ∀ x ∈ lns b, Ful x := by
  refine lines_ind (P := fun b => wholeB b = true ↔ ∀ x ∈ lns b, Ful x) (by simp [wholeB, lns]) (fun s h h' => ?_) (fun s r h ih => ?_) b
  · rw [lns_last h h', whole_iff]
    constructor
    · rintro (e | ⟨t, rfl⟩)
      · exact absurd e h'
      · exact absurd (by simp) h
    · intro hx
      obtain ⟨t, _, e⟩ := hx s (by simp)
      exact .inr ⟨t, e⟩
  · rw [lns_end h]
    have hs : Ful (s ++ [10]) := ⟨s, h, rfl⟩
    constructor
    · intro hw x hx
      rcases List.mem_cons.1 hx with rfl | hx
      · exact hs
      · refine ih.1 ?_ x hx
        rw [whole_iff] at hw ⊢
        rcases hw with e | ⟨t, e⟩
        · simp at e
        · by_cases hr : r = []
          · exact .inl hr
          · obtain ⟨u, c, rfl⟩ : ∃ u c, r = u ++ [c] := ⟨r.dropLast, r.getLast hr, (List.dropLast_concat_getLast hr).symm⟩
            rw [show s ++ 10 :: (u ++ [c]) = (s ++ 10 :: u) ++ [c] by simp] at e
            have := (List.append_inj' e rfl).2
            exact .inr ⟨u, by rw [this]⟩
    · intro hx
      have := ih.2 (fun x hx' => hx x (List.mem_cons_of_mem _ hx'))
      rw [whole_iff] at this ⊢
      right
      rcases this with rfl | ⟨t, rfl⟩
      · exact ⟨s, rfl⟩
      · exact ⟨s ++ 10 :: t, by simp⟩
theorem lns_fulls : ∀ {ls : List L}, (∀ x ∈ ls, Ful x) → ∀ r, lns (ls.flatten ++ r) = ls ++ lns r
  | [], _, r => rfl
  | x :: ls, h, r => by
    obtain ⟨s, hs, rfl⟩ := h x (by simp)
    rw [List.flatten_cons, show s ++ [10] ++ ls.flatten ++ r = s ++ 10 :: (ls.flatten ++ r) by simp, lns_end hs, lns_fulls (fun y hy => h y (List.mem_cons_of_mem _ hy))]
    rfl
theorem lns_app {a : L} (h : wholeB a = true) (r : L) : lns (a ++ r) = lns a ++ lns r := by
  have := lns_fulls ((whole_ful a).1 h) r
  rwa [lns_flat] at this
theorem lns_cut {b : L} (h : (10 : UInt8) ∈ b) : lns b = (Pa.ahead 10 b ++ [10]) :: lns (Pa.behind 10 b) := by
  obtain ⟨e, hn⟩ := cut_at h
  generalize Pa.ahead 10 b = x at *
  generalize Pa.behind 10 b = y at *
  subst e
  exact lns_end hn y
/-- marks and quotes. -/
def mkL : L := [70, 114, 111, 109, 32]
def mark (x : L) : Bool := Go.Lib.hasPrefix x mkL
def mkd (x : L) : Bool := mark (x.dropWhile (· == 62))
def qt (x : L) : L := if mkd x then 62 :: x else x
def uq (x : L) : L := if mkd x then Go.Lib.trimPrefix x [62] else x
def quoteS (b : L) : L := (lns b).flatMap qt
def unquoteS (b : L) : L := (lns b).flatMap uq
theorem mkd_nil : mkd [] = false := by decide
theorem mkd_62 (y : L) : mkd (62 :: y) = mkd y := by simp [mkd]
theorem mkd_other {c : UInt8} (h : c ≠ 62) (y : L) : mkd (c :: y) = mark (c :: y) := by simp [mkd, h]
theorem mark_iff (x : L) : mark x = true ↔ ∃ r, x = 70 :: 114 :: 111 :: 109 :: 32 :: r := by
  unfold mark Go.Lib.hasPrefix mkL
  rw [List.isPrefixOf_iff_prefix]
  constructor
  · rintro ⟨r, h⟩; exact ⟨r, h.symm⟩
  · rintro ⟨r, h⟩; exact ⟨r, h.symm⟩
theorem mark_62 (y : L) : mark (62 :: y) = false := by
  rw [Bool.eq_false_iff]
  intro h
  obtain ⟨r, h⟩ := (mark_iff _).1 h
  injection h with h _
  exact absurd h (by decide)
theorem mark_mkd {x : L} (h : mark x = true) : mkd x = true := by
  obtain ⟨r, rfl⟩ := (mark_iff x).1 h
  rw [mkd_other (by decide)]
  exact h
theorem mkd_cases {x : L} (h : mkd x = true) : mark x = true ∨ ∃ y, x = 62 :: y ∧ mkd y = true := by
  cases x with
  | nil => rw [mkd_nil] at h; cases h
  | cons c y =>
    by_cases hc : c = 62
    · subst hc
      rw [mkd_62] at h
      exact .inr ⟨y, rfl, h⟩
    · rw [mkd_other hc] at h
      exact .inl h
theorem trim62 (y : L) : Go.Lib.trimPrefix (62 :: y) [62] = y := by simp [Go.Lib.trimPrefix, Go.Lib.hasPrefix]
theorem trim_no {x : L} (h : x.head? ≠ some 62) : Go.Lib.trimPrefix x [62] = x := by
  unfold Go.Lib.trimPrefix Go.Lib.hasPrefix
  cases x with
  | nil => rfl
  | cons c y =>
    rw [if_neg]
    intro h'
    rw [List.isPrefixOf_iff_prefix] at h'
    obtain ⟨r, h'⟩ := h'
    injection h' with h' _
    exact h (by rw [← h']; rfl)
theorem uq_qt (x : L) : uq (qt x) = x := by
  unfold qt
  split
  · rename_i h
    unfold uq
    rw [mkd_62, if_pos h, trim62]
  · rename_i h
    unfold uq
    rw [if_neg h]
theorem mark_qt (x : L) : mark (qt x) = false := by
  unfold qt
  split
  · exact mark_62 x
  · rename_i h
    rw [Bool.eq_false_iff]
    exact fun h' => h (mark_mkd h')
theorem qt_uq {x : L} (h : mark x = false) : qt (uq x) = x := by
  unfold uq
  split
  · rename_i hm
    rcases mkd_cases hm with h' | ⟨y, rfl, hy⟩
    · rw [h] at h'; cases h'
    · rw [trim62, qt, if_pos hy]
  · rename_i hm
    rw [qt, if_neg hm]
theorem mark_has {x : L} (h : mark x = true) : (70 : UInt8) ∈ x := by
  obtain ⟨r, rfl⟩ := (mark_iff x).1 h
  simp
theorem mkd_has {x : L} (h : mkd x = true) : (70 : UInt8) ∈ x := by
  have := mark_has h
  exact (List.dropWhile_sublist _).subset this
theorem uq_cases (x : L) : uq x = x ∨ ∃ y, x = 62 :: y ∧ uq x = y ∧ mkd y = true := by
  unfold uq
  split
  · rename_i hm
    rcases mkd_cases hm with h' | ⟨y, rfl, hy⟩
    · left
      obtain ⟨r, rfl⟩ := (mark_iff x).1 h'
      exact trim_no (by simp)
    · exact .inr ⟨y, rfl, trim62 y, hy⟩
  · exact .inl rfl
theorem qt_ful {x : L} (h : Ful x) : Ful (qt x) := by
  obtain ⟨s, hs, rfl⟩ := h
  unfold qt
  split
  · exact ⟨62 :: s, by simp [hs], rfl⟩
  · exact ⟨s, hs, rfl⟩
theorem uq_ful {x : L} (h : Ful x) : Ful (uq x) := by
  rcases uq_cases x with e | ⟨y, e, e', hy⟩
  · rw [e]; exact h
  · obtain ⟨s, hs, e2⟩ := h
    rw [e']
    cases s with
    | nil => rw [e2] at e; simp at e
    | cons c s =>
      rw [e, List.cons_append] at e2
      injection e2 with _ e2
      exact ⟨s, fun h => hs (by simp [h]), e2⟩
theorem qt_last {s : L} (h : (10 : UInt8) ∉ s) (h' : s ≠ []) : (10 : UInt8) ∉ qt s ∧ qt s ≠ [] := by
  unfold qt
  split
  · exact ⟨by simp [h], by simp⟩
  · exact ⟨h, h'⟩
theorem uq_last {s : L} (h : (10 : UInt8) ∉ s) (h' : s ≠ []) : (10 : UInt8) ∉ uq s ∧ uq s ≠ [] := by
  rcases uq_cases s with e | ⟨y, e, e', hy⟩
  · rw [e]; exact ⟨h, h'⟩
  · rw [e']
    refine ⟨fun hy => h (by rw [e]; exact List.mem_cons_of_mem _ hy), fun e0 => ?_⟩
    have := mkd_has hy
    rw [e0] at this
    cases this
theorem lns_map {f : L → L} (h1 : ∀ x, Ful x → Ful (f x)) (h2 : ∀ s : L, (10 : UInt8) ∉ s → s ≠ [] → (10 : UInt8) ∉ f s ∧ f s ≠ []) (b : L) : lns ((lns b).flatMap f) = (lns b).map f := by
  refine lines_ind (P := fun b => lns ((lns b).flatMap f) = (lns b).map f) rfl (fun s h h' => ?_) (fun s r h ih => ?_) b
  · rw [lns_last h h']
    simp only [List.flatMap_cons, List.flatMap_nil, List.append_nil, List.map_cons, List.map_nil]
    exact lns_last (h2 s h h').1 (h2 s h h').2
  · rw [lns_end h, List.flatMap_cons, List.map_cons]
    obtain ⟨t, ht, e⟩ := h1 _ ⟨s, h, rfl⟩
    rw [e, show t ++ [10] ++ (lns r).flatMap f = t ++ 10 :: (lns r).flatMap f by simp, lns_end ht, ih]
theorem lns_quote (b : L) : lns (quoteS b) = (lns b).map qt := lns_map (fun _ => qt_ful) (fun _ => qt_last) b
theorem lns_unquote (b : L) : lns (unquoteS b) = (lns b).map uq := lns_map (fun _ => uq_ful) (fun _ => uq_last) b
theorem unquote_quote (b : L) : unquoteS (quoteS b) = b := by
  rw [unquoteS, lns_quote, List.flatMap_map]
  have : (lns b).flatMap (fun x => uq (qt x)) = (lns b).flatten := by
    rw [List.flatten_eq_flatMap]
    congr 1
    funext x
    exact uq_qt x
  rw [this, lns_flat]
theorem map_same {f : L → L} : ∀ {ls : List L}, (∀ x ∈ ls, f x = x) → ls.flatMap f = ls.flatten
  | [], _ => rfl
  | x :: ls, h => by rw [List.flatMap_cons, List.flatten_cons, h x (by simp), map_same (fun y hy => h y (List.mem_cons_of_mem _ hy))]
theorem quote_unquote {b : L} (h : ∀ x ∈ lns b, mark x = false) : quoteS (unquoteS b) = b := by
  rw [quoteS, lns_unquote, List.flatMap_map]
  rw [map_same (f := fun x => qt (uq x)) (fun x hx => qt_uq (h x hx)), lns_flat]
theorem whole_quote {b : L} (h : wholeB b = true) : wholeB (quoteS b) = true := by
  rw [whole_ful] at h ⊢
  rw [lns_quote]
  intro x hx
  obtain ⟨y, hy, rfl⟩ := List.mem_map.1 hx
  exact qt_ful (h y hy)
theorem whole_unquote {b : L} (h : wholeB b = true) : wholeB (unquoteS b) = true := by
  rw [whole_ful] at h ⊢
  rw [lns_unquote]
  intro x hx
  obtain ⟨y, hy, rfl⟩ := List.mem_map.1 hx
  exact uq_ful (h y hy)
theorem quote_marks (b : L) : ∀ x ∈ lns (quoteS b), mark x = false := by
  rw [lns_quote]
  intro x hx
  obtain ⟨y, hy, rfl⟩ := List.mem_map.1 hx
  exact mark_qt y
/-- a text that begins with the mark has a first line that does. -/
theorem lns_mark {m : L} (h : mark m = true) : ∃ x t, lns m = x :: t ∧ mark x = true := by
  obtain ⟨r, rfl⟩ := (mark_iff m).1 h
  cases hr : lns r with
  | nil => exact ⟨[70, 114, 111, 109, 32], [], by simp [lns, hr], by decide⟩
  | cons x t => exact ⟨70 :: 114 :: 111 :: 109 :: 32 :: x, t, by simp [lns, hr], (mark_iff _).2 ⟨x, rfl⟩⟩
theorem mark_first {m x : L} {t : List L} (h : lns m = x :: t) : mark m = mark x := by
  rw [Bool.eq_iff_iff]
  constructor
  · intro h'
    obtain ⟨y, u, e, hy⟩ := lns_mark h'
    rw [h] at e
    injection e with e _
    rw [e]; exact hy
  · intro h'
    have := lns_flat m
    rw [h, List.flatten_cons] at this
    obtain ⟨r, rfl⟩ := (mark_iff x).1 h'
    rw [← this]
    exact (mark_iff _).2 ⟨_, rfl⟩
/-- no line of what is quoted begins a letter. -/
theorem quote_no (b a m : L) (h : 10 :: quoteS b = a ++ 10 :: m) : mark m = false := by
  rw [Bool.eq_false_iff]
  intro hm
  obtain ⟨x, t, e, hx⟩ := lns_mark hm
  cases a with
  | nil =>
    injection h with _ h
    have := quote_marks b x (by rw [h, e]; simp)
    rw [hx] at this
    cases this
  | cons c a =>
    rw [List.cons_append] at h
    injection h with _ h
    have hw : wholeB (a ++ [10]) = true := (whole_iff _).2 (.inr ⟨a, rfl⟩)
    have := quote_marks b x (by rw [h, show a ++ 10 :: m = (a ++ [10]) ++ m by simp, lns_app hw, e]; simp)
    rw [hx] at this
    cases this
theorem flat_len {f : L → L} {c : Nat} (h : ∀ x, (f x).length ≤ x.length + c) : ∀ ls : List L, (ls.flatMap f).length ≤ ls.flatten.length + c * ls.length
  | [] => by simp
  | x :: ls => by
    have := flat_len h ls
    have := h x
    rw [List.flatMap_cons, List.flatten_cons, List.length_append, List.length_append, List.length_cons, Nat.mul_add]
    omega
theorem lns_count (b : L) : (lns b).length ≤ b.length := by
  refine lines_ind (P := fun b => (lns b).length ≤ b.length) (Nat.le_refl _) (fun s h h' => ?_) (fun s r h ih => ?_) b
  · rw [lns_last h h']
    have := List.length_pos_iff.2 h'
    show 1 ≤ s.length
    omega
  · rw [lns_end h]
    simp
    omega
theorem qt_len (x : L) : (qt x).length ≤ x.length + 1 := by unfold qt; split <;> simp
theorem uq_len (x : L) : (uq x).length ≤ x.length := by
  rcases uq_cases x with e | ⟨y, e, e', _⟩
  · rw [e]; exact Nat.le_refl _
  · rw [e', e]; simp
theorem quote_len (b : L) : (quoteS b).length ≤ 2 * b.length := by
  have := flat_len qt_len (lns b)
  rw [lns_flat] at this
  have := lns_count b
  unfold quoteS
  omega
theorem unquote_len (b : L) : (unquoteS b).length ≤ b.length := by
  have := flat_len (c := 0) uq_len (lns b)
  rw [lns_flat] at this
  unfold unquoteS
  omega
theorem take_len (ls : List L) (k : Nat) : (ls.take k).flatten.length ≤ ls.flatten.length := by
  have := congrArg (fun l : List L => l.flatten.length) (List.take_append_drop k ls)
  simp only [List.flatten_append, List.length_append] at this
  omega
theorem mem_len {x : L} : ∀ {ls : List L}, x ∈ ls → x.length ≤ ls.flatten.length
  | y :: ls, h => by
    rcases List.mem_cons.1 h with rfl | h
    · simp
    · have := mem_len h
      rw [List.flatten_cons, List.length_append]
      omega
theorem lns_len {b x : L} (h : x ∈ lns b) : x.length ≤ b.length := by
  have := mem_len h
  rwa [lns_flat] at this
theorem lns_pos {b x : L} (h : x ∈ lns b) : 0 < x.length := by
  revert x
  refine lines_ind (P := fun b => ∀ {x : L}, x ∈ lns b → 0 < x.length) (fun {x} h => by simp [lns] at h) (fun s h h' {x} hx => ?_) (fun s r h ih {x} hx => ?_) b
  · rw [lns_last h h'] at hx
    rw [List.mem_singleton.1 hx]
    exact List.length_pos_iff.2 h'
  · rw [lns_end h] at hx
    rcases List.mem_cons.1 hx with rfl | hx
    · simp
    · exact ih hx
/-- numbers. -/
def valF (n : Nat) (ds : L) : Nat := ds.foldl (fun n c => 10 * n + (c.toNat - 48)) n
def valL (ds : L) : Nat := valF 0 ds
theorem valF_snoc (n : Nat) (ds : L) (c : UInt8) : valF n (ds ++ [c]) = 10 * valF n ds + (c.toNat - 48) := by simp [valF, List.foldl_append]
theorem valF_le : ∀ (ds : L) (n : Nat), n ≤ valF n ds
  | [], n => Nat.le_refl _
  | c :: ds, n => by
    have := valF_le ds (10 * n + (c.toNat - 48))
    show n ≤ valF (10 * n + (c.toNat - 48)) ds
    omega
def digB (c : UInt8) : Prop := 48 ≤ c.toNat ∧ c.toNat ≤ 57
theorem dig_num {u : Nat} (h : u < 10) : (UInt8.ofNat (48 + u)).toNat = 48 + u := by
  rw [UInt8.toNat_ofNat']
  omega
theorem val_dec (n : Nat) : valL (Lib.decDigits n) = n := by
  induction n using Nat.strongRecOn with
  | _ n ih =>
    rw [Lib.decDigits]
    split
    · rename_i h
      simp only [valL, valF, List.foldl_cons, List.foldl_nil, dig_num h]
      omega
    · rename_i h
      have := ih (n / 10) (by omega)
      rw [valL] at this
      rw [valL, valF_snoc, this, dig_num (Nat.mod_lt _ (by decide))]
      omega
theorem dec_dig (n : Nat) : ∀ c ∈ Lib.decDigits n, digB c := by
  induction n using Nat.strongRecOn with
  | _ n ih =>
    intro c hc
    rw [Lib.decDigits] at hc
    split at hc
    · rename_i h
      rw [List.mem_singleton.1 hc]
      unfold digB
      rw [dig_num h]
      omega
    · rename_i h
      rcases List.mem_append.1 hc with hc | hc
      · exact ih (n / 10) (by omega) c hc
      · rw [List.mem_singleton.1 hc]
        unfold digB
        rw [dig_num (Nat.mod_lt _ (by decide))]
        omega
theorem dec_ne (n : Nat) : Lib.decDigits n ≠ [] := by
  rw [Lib.decDigits]
  split <;> simp
theorem u8_of {c d : UInt8} (h : c.toNat = d.toNat) : c = d := UInt8.toNat_inj.1 h
/-- digits without noughts ahead are the numeral of what they spell. -/
theorem dig_canon : ∀ (n : Nat) (ds : L), ds.length ≤ n → (∀ c ∈ ds, digB c) → ds ≠ [] → (ds.head? ≠ some 48 ∨ ds = [48]) → Lib.decDigits (valL ds) = ds ∧ (ds.head? ≠ some 48 → 0 < valL ds)
  | 0, ds, h, _, hne, _ => absurd (List.eq_nil_of_length_eq_zero (by omega)) hne
  | n + 1, ds, hl, hd, hne, hh => by
    obtain ⟨es, c, rfl⟩ : ∃ es c, ds = es ++ [c] := ⟨ds.dropLast, ds.getLast hne, (List.dropLast_concat_getLast hne).symm⟩
    have hc := hd c (by simp)
    unfold digB at hc
    have hcc : UInt8.ofNat (48 + (c.toNat - 48)) = c := u8_of (by rw [UInt8.toNat_ofNat']; omega)
    by_cases he : es = []
    · subst he
      have hv : valL ([] ++ [c]) = c.toNat - 48 := by simp [valL, valF]
      rw [hv]
      refine ⟨?_, fun h => ?_⟩
      · rw [Lib.decDigits, dif_pos (by omega), hcc]; rfl
      · have : c.toNat ≠ 48 := fun e => h (by simp [show c = 48 from u8_of e])
        omega
    · have hh' : es.head? ≠ some 48 := by
        rcases hh with h | h
        · cases es with
          | nil => exact absurd rfl he
          | cons d es => simpa using h
        · have := congrArg List.length h
          simp at this
          exact absurd this he
      obtain ⟨i1, i2⟩ := dig_canon n es (by simp at hl; omega) (fun d hd' => hd d (by simp [hd'])) he (.inl hh')
      have hp := i2 hh'
      have hv : valL (es ++ [c]) = 10 * valL es + (c.toNat - 48) := valF_snoc 0 es c
      rw [hv]
      refine ⟨?_, fun _ => by omega⟩
      rw [Lib.decDigits, dif_neg (by omega), show (10 * valL es + (c.toNat - 48)) / 10 = valL es by omega, show (10 * valL es + (c.toNat - 48)) % 10 = c.toNat - 48 by omega, i1, hcc]
theorem dec_head (n : Nat) : (Lib.decDigits n).head? ≠ some 48 ∨ Lib.decDigits n = [48] := by
  induction n using Nat.strongRecOn with
  | _ n ih =>
    rw [Lib.decDigits]
    split
    · rename_i h
      by_cases h0 : n = 0
      · subst h0; exact .inr rfl
      · left
        intro e
        simp only [List.head?_cons, Option.some.injEq] at e
        have := congrArg UInt8.toNat e
        rw [dig_num h] at this
        have h48 : (48 : UInt8).toNat = 48 := rfl
        omega
    · rename_i h
      left
      rcases ih (n / 10) (by omega) with h1 | h1
      · cases hd : Lib.decDigits (n / 10) with
        | nil => exact absurd hd (dec_ne _)
        | cons d es => rw [hd] at h1; simpa using h1
      · have := congrArg valL h1
        rw [val_dec] at this
        have h48 : valL [48] = 0 := rfl
        omega
def numS (ds : L) : Option Nat := if Lib.decDigits (valL ds) = ds ∧ valL ds < 9223372036854775808 then some (valL ds) else none
theorem numS_dec {n : Nat} (h : n < 9223372036854775808) : numS (Lib.decDigits n) = some n := by
  unfold numS
  rw [val_dec, if_pos ⟨rfl, h⟩]
theorem numS_some {ds : L} {n : Nat} (h : numS ds = some n) : ds = Lib.decDigits n ∧ n < 9223372036854775808 := by
  unfold numS at h
  split at h
  · rename_i h'
    injection h with h
    rw [← h]
    exact ⟨h'.1.symm, h'.2⟩
  · cases h
theorem parse_digs : ∀ (l : L) (acc : Nat), (∀ c ∈ l, digB c) → valF acc l < 9223372036854775808 → Lib.parseUintM (2 ^ 64 - 1) acc l = .ok (valF acc l)
  | [], acc, _, _ => rfl
  | c :: l, acc, hd, hv => by
    have hc := hd c (by simp)
    unfold digB at hc
    have hle := valF_le l (10 * acc + (c.toNat - 48))
    have e : valF acc (c :: l) = valF (10 * acc + (c.toNat - 48)) l := rfl
    rw [e] at hv ⊢
    rw [Lib.parseUintM, if_pos hc, if_neg (by omega), if_neg (by omega), show acc * 10 + (c.toNat - 48) = 10 * acc + (c.toNat - 48) by omega]
    exact parse_digs l _ (fun d hd' => hd d (List.mem_cons_of_mem _ hd')) hv
theorem parse_dec {n : Nat} (h : n < 9223372036854775808) : Lib.parseIntB 64 (Lib.decDigits n) = .ok (n : Int) := by
  have hv := val_dec n
  have hu : Lib.parseUintB 64 (Lib.decDigits n) = .ok n := by
    unfold Lib.parseUintB
    rw [if_neg (dec_ne n), parse_digs _ 0 (dec_dig n) (by rw [show valF 0 (Lib.decDigits n) = valL (Lib.decDigits n) from rfl, hv]; exact h)]
    rw [show valF 0 (Lib.decDigits n) = valL (Lib.decDigits n) from rfl, hv]
  cases hd : Lib.decDigits n with
  | nil => exact absurd hd (dec_ne n)
  | cons c r =>
    have hc := dec_dig n c (by rw [hd]; simp)
    unfold digB at hc
    rw [Lib.parseIntB_plain 64 c r (by omega) (by omega), ← hd, hu]
    show (if (2 ^ (64 - 1) : Nat) ≤ n then Lib.NumEnd.range else .ok (n : Int)) = _
    rw [if_neg (by omega)]
/-- what ParseInt, 'no sign' and FormatInt say of digits is numS. -/
theorem num_yes {ds : L} {v : Int} (h : Lib.parseIntB 64 ds = .ok v) (h0 : 0 ≤ v) (he : Lib.itoa v = ds) : numS ds = some v.toNat := by
  have hb := (Lib.parseIntB_bounds h).2
  have hv : v.toNat < 9223372036854775808 := by
    have : ((2 ^ (64 - 1) : Nat) : Int) = 9223372036854775808 := by decide
    omega
  rw [← he, Lib.itoa, if_neg (by omega)]
  exact numS_dec hv
theorem num_no {ds : L} {v : Int} (h : Lib.parseIntB 64 ds = .ok v) (h' : ¬ (0 ≤ v ∧ Lib.itoa v = ds)) : numS ds = none := by
  cases hn : numS ds with
  | none => rfl
  | some n =>
    obtain ⟨e, hn⟩ := numS_some hn
    rw [e, parse_dec hn] at h
    injection h with h
    exact absurd ⟨by omega, by rw [← h, Lib.itoa_nonneg, e]⟩ h'
theorem num_bad {ds : L} (h : ∀ v, Lib.parseIntB 64 ds ≠ .ok v) : numS ds = none := by
  cases hn : numS ds with
  | none => rfl
  | some n =>
    obtain ⟨e, hn⟩ := numS_some hn
    exact absurd (by rw [e]; exact parse_dec hn) (h n)
end Mb
end Go.Proofs.YtpfonpjcnpfipaaGreatDoor
