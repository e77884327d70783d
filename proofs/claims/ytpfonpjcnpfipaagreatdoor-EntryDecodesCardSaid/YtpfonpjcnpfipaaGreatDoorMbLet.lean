/- Letters as plain data, written into a mailbox file and read out of it; that both ways agree. Conditions: none. -/
import Derived.Test.YtpfonpjcnpfipaaGreatDoorMbMath
namespace Go.Proofs.YtpfonpjcnpfipaaGreatDoor
set_option maxRecDepth 100000
namespace Mb
open Go.Proofs.YtpfonpjcnpfipaaGreatDoor.Pa
/-- who sent it, when, its body. -/
abbrev Lt : Type := L × Int × L
def okL (x : Lt) : Bool := (x.1.isEmpty || mailS x.1) && (decide (0 ≤ x.2.1) && wholeB x.2.2)
def who (f : L) : L := if f.isEmpty then [45] else f
def whom (f : L) : L := if f = [45] then [] else f
def expS (x : Lt) : L := mkL ++ (who x.1 ++ 32 :: (Lib.itoa x.2.1 ++ 10 :: (quoteS x.2.2 ++ [10])))
def fileS (ls : List Lt) : L := ls.flatMap expS
def exportS (ls : List Lt) : Option L := if ls.all okL then some (fileS ls) else none
theorem export_ok {ls : List Lt} (h : ls.all okL = true) : exportS ls = some (fileS ls) := by rw [exportS, if_pos h]
theorem export_no {ls : List Lt} (h : ls.all okL = false) : exportS ls = none := by rw [exportS, if_neg (by rw [h]; decide)]
theorem export_some {ls : List Lt} {b : L} (h : exportS ls = some b) : ls.all okL = true ∧ fileS ls = b := by
  unfold exportS at h
  split at h
  · rename_i h'
    injection h with h
    exact ⟨h', h⟩
  · cases h
/-- a mailbox holds no byte that may not stand in an atom, but points and at signs. -/
theorem mail_no {l : L} (h : mailS l = true) {c : UInt8} (h1 : c ≠ 46) (h2 : c ≠ 64) (h3 : atB c = false) : c ∉ l := by
  intro hc
  have h4 : labB c = false := by
    unfold atB at h3
    exact (Bool.or_eq_false_iff.1 h3).1
  unfold mailS at h
  rw [Bool.and_eq_true, Bool.and_eq_true] at h
  have ha : ∀ p ∈ parts (loc l), c ∉ p := fun p hp hm => by
    have := List.all_eq_true.1 h.1.2 p hp
    unfold atS at this
    rw [Bool.and_eq_true] at this
    have := List.all_eq_true.1 this.1 c hm
    rw [h3] at this
    cases this
  have hb : ∀ p ∈ parts (dom l), c ∉ p := fun p hp hm => by
    have hd := h.2
    unfold domS at hd
    rw [Bool.and_eq_true] at hd
    have := List.all_eq_true.1 hd.2 p hp
    unfold labS at this
    simp only [Bool.and_eq_true] at this
    have := List.all_eq_true.1 this.1.1.1.1 c hm
    rw [h4] at this
    cases this
  have hl : c ∉ loc l := fun hm => by
    obtain ⟨p, hp, hm⟩ := mem_parts h1 hm
    exact ha p hp hm
  have hd : c ∉ dom l := fun hm => by
    obtain ⟨p, hp, hm⟩ := mem_parts h1 hm
    exact hb p hp hm
  rcases last_cases l with ⟨hn, _⟩ | ⟨a, b, rfl, hn, _⟩
  · rw [(loc_no hn).1] at hl
    exact hl hc
  · rw [(loc_at hn).1] at hl
    rw [(loc_at hn).2] at hd
    rcases List.mem_append.1 hc with h' | h'
    · exact hl h'
    · rcases List.mem_cons.1 h' with h' | h'
      · exact h2 h'
      · exact hd h'
theorem mail_32 {l : L} (h : mailS l = true) : (32 : UInt8) ∉ l := mail_no h (by decide) (by decide) (by decide)
theorem mail_10 {l : L} (h : mailS l = true) : (10 : UInt8) ∉ l := mail_no h (by decide) (by decide) (by decide)
theorem mail_at {l : L} (h : mailS l = true) : (64 : UInt8) ∈ l := by
  by_cases hc : (64 : UInt8) ∈ l
  · exact hc
  · unfold mailS at h
    rw [(loc_no hc).2, domS_nil, Bool.and_false] at h
    cases h
theorem mail_dash : mailS [45] = false := by
  rw [Bool.eq_false_iff]
  intro h
  have := mail_at h
  simp at this
theorem mail_nil : mailS [] = false := by
  rw [Bool.eq_false_iff]
  intro h
  have := mail_at h
  simp at this
theorem mail_ne {l : L} (h : mailS l = true) : l ≠ [] ∧ l ≠ [45] := ⟨fun e => absurd h (by rw [e, mail_nil]; decide), fun e => absurd h (by rw [e, mail_dash]; decide)⟩
theorem who_cases {f : L} (h : (f.isEmpty || mailS f) = true) : (f = [] ∧ who f = [45]) ∨ (mailS f = true ∧ who f = f ∧ f ≠ [45]) := by
  rw [Bool.or_eq_true] at h
  rcases h with h | h
  · have : f = [] := List.isEmpty_iff.1 h
    subst this
    exact .inl ⟨rfl, rfl⟩
  · refine .inr ⟨h, ?_, (mail_ne h).2⟩
    unfold who
    rw [if_neg]
    intro e
    exact (mail_ne h).1 (List.isEmpty_iff.1 e)
theorem who_whom {f : L} (h : (f.isEmpty || mailS f) = true) : whom (who f) = f ∧ (who f = [45] ∨ mailS (who f) = true) ∧ (32 : UInt8) ∉ who f ∧ (10 : UInt8) ∉ who f := by
  rcases who_cases h with ⟨rfl, e⟩ | ⟨h1, e, h2⟩
  · rw [e]; exact ⟨rfl, .inl rfl, by decide, by decide⟩
  · rw [e]
    refine ⟨?_, .inr h1, mail_32 h1, mail_10 h1⟩
    unfold whom
    rw [if_neg h2]
theorem whom_who {f : L} (h : f = [45] ∨ mailS f = true) : who (whom f) = f ∧ ((whom f).isEmpty || mailS (whom f)) = true := by
  rcases h with rfl | h
  · exact ⟨rfl, rfl⟩
  · have hw : whom f = f := by unfold whom; rw [if_neg (mail_ne h).2]
    rw [hw]
    refine ⟨?_, by rw [h, Bool.or_true]⟩
    unfold who
    rw [if_neg]
    intro e
    exact (mail_ne h).1 (List.isEmpty_iff.1 e)
theorem itoa_10 {v : Int} (h : 0 ≤ v) : (10 : UInt8) ∉ Lib.itoa v := by
  rw [Lib.itoa, if_neg (by omega)]
  intro hm
  have := dec_dig _ _ hm
  unfold digB at this
  have : (10 : UInt8).toNat = 10 := rfl
  omega
/-- the lines up to the next letter. -/
def headL (b : L) : List L := (lns b).takeWhile (fun x => !mark x)
def tailL (b : L) : List L := (lns b).dropWhile (fun x => !mark x)
def bodyOf (b : L) : L := (headL b).flatten
def restOf (b : L) : L := (tailL b).flatten
theorem body_rest (b : L) : bodyOf b ++ restOf b = b := by
  unfold bodyOf restOf headL tailL
  rw [← List.flatten_append, List.takeWhile_append_dropWhile, lns_flat]
/-- one letter, and what is behind it. -/
def letS (b : L) : Option (Lt × L) :=
  if mark b = true ∧ has 32 (b.drop 5) = true ∧ (Pa.ahead 32 (b.drop 5) = [45] ∨ mailS (Pa.ahead 32 (b.drop 5)) = true) ∧ has 10 (Pa.behind 32 (b.drop 5)) = true then
    match numS (Pa.ahead 10 (Pa.behind 32 (b.drop 5))) with
    | none => none
    | some n =>
      if Go.Lib.hasSuffix (bodyOf (Pa.behind 10 (Pa.behind 32 (b.drop 5)))) [10] = true ∧ wholeB (bodyOf (Pa.behind 10 (Pa.behind 32 (b.drop 5)))).dropLast = true then
        some ((whom (Pa.ahead 32 (b.drop 5)), (n : Int), unquoteS (bodyOf (Pa.behind 10 (Pa.behind 32 (b.drop 5)))).dropLast), restOf (Pa.behind 10 (Pa.behind 32 (b.drop 5))))
      else none
  else none
theorem has_iff {c : UInt8} {l : L} : has c l = true ↔ c ∈ l := by unfold has; simp
/-- what a letter's text looks like, taken apart. -/
theorem let_parts {b : L} {x : Lt} {r : L} (h : letS b = some (x, r)) : ∃ w ds q, b = mkL ++ (w ++ 32 :: (ds ++ 10 :: (q ++ 10 :: r))) ∧ (w = [45] ∨ mailS w = true) ∧ numS ds = some x.2.1.toNat ∧ 0 ≤ x.2.1 ∧ wholeB q = true ∧ x.1 = whom w ∧ x.2.2 = unquoteS q ∧ (32 : UInt8) ∉ w ∧ (10 : UInt8) ∉ ds ∧
    q ++ [10] = bodyOf (q ++ 10 :: r) ∧ r = restOf (q ++ 10 :: r) := by
  unfold letS at h
  split at h
  · rename_i hc
    obtain ⟨h1, h2, h3, h4⟩ := hc
    obtain ⟨b1, rfl⟩ : ∃ b1, b = mkL ++ b1 := by
      obtain ⟨b1, e⟩ := (mark_iff b).1 h1
      exact ⟨b1, e⟩
    have hd : (mkL ++ b1).drop 5 = b1 := rfl
    rw [hd] at h h2 h3 h4
    obtain ⟨e2, n2⟩ := cut_at (has_iff.1 h2)
    generalize Pa.ahead 32 b1 = w at *
    generalize Pa.behind 32 b1 = b2 at *
    subst e2
    obtain ⟨e3, n3⟩ := cut_at (has_iff.1 h4)
    generalize Pa.ahead 10 b2 = ds at *
    generalize Pa.behind 10 b2 = b3 at *
    subst e3
    split at h
    · cases h
    · rename_i n hn
      split at h
      · rename_i hq
        injection h with h
        injection h with hx hr
        obtain ⟨t, ht⟩ := (suf_iff _).1 hq.1
        have hbr := body_rest b3
        rw [ht, List.dropLast_concat] at hq
        rw [ht, List.dropLast_concat] at hx
        rw [ht, hr] at hbr
        have hbr' : t ++ 10 :: r = b3 := by rw [← hbr]; simp
        subst hx
        refine ⟨w, ds, t, by rw [hbr'], h3, by simpa using hn, by simp, hq.2, rfl, rfl, n2, n3, by rw [hbr', ht], by rw [hbr', hr]⟩
      · cases h
  · cases h
theorem head_no (b : L) : ∀ x ∈ headL b, mark x = false := fun x hx => by
  have := List.all_eq_true.1 (List.all_takeWhile (l := lns b) (p := fun x => !mark x)) x hx
  simpa using this
theorem lns_take (b : L) : ∀ k, lns ((lns b).take k).flatten = (lns b).take k := by
  refine lines_ind (P := fun b => ∀ k, lns ((lns b).take k).flatten = (lns b).take k) (fun k => by simp [lns]) (fun s h h' k => ?_) (fun s r h ih k => ?_) b
  · rw [lns_last h h']
    cases k with
    | zero => rfl
    | succ k =>
      rw [show [s].take (k + 1) = [s] by simp, show [s].flatten = s by simp]
      exact lns_last h h'
  · rw [lns_end h]
    cases k with
    | zero => rfl
    | succ k => rw [List.take_succ_cons, List.flatten_cons, show s ++ [10] ++ ((lns r).take k).flatten = s ++ 10 :: ((lns r).take k).flatten by simp, lns_end h, ih k]
theorem lns_drop (b : L) : ∀ k, lns ((lns b).drop k).flatten = (lns b).drop k := by
  refine lines_ind (P := fun b => ∀ k, lns ((lns b).drop k).flatten = (lns b).drop k) (fun k => by simp [lns]) (fun s h h' k => ?_) (fun s r h ih k => ?_) b
  · cases k with
    | zero => rw [List.drop_zero, lns_flat]
    | succ k =>
      rw [lns_last h h', show [s].drop (k + 1) = [] by simp]
      rfl
  · cases k with
    | zero => rw [List.drop_zero, lns_flat]
    | succ k => rw [lns_end h, List.drop_succ_cons, ih k]
theorem lns_body (b : L) : lns (bodyOf b) = headL b := by
  have : headL b = (lns b).take (headL b).length := List.prefix_iff_eq_take.1 (List.takeWhile_prefix _)
  unfold bodyOf
  rw [this]
  exact lns_take b _
theorem lns_rest (b : L) : lns (restOf b) = tailL b := by
  have : tailL b = (lns b).drop ((lns b).length - (tailL b).length) := List.suffix_iff_eq_drop.1 (List.dropWhile_suffix _)
  unfold restOf
  rw [this]
  exact lns_drop b _
theorem rest_mark (b : L) : restOf b = [] ∨ mark (restOf b) = true := by
  have h := lns_rest b
  cases ht : tailL b with
  | nil => left; unfold restOf; rw [ht]; rfl
  | cons x t =>
    right
    rw [ht] at h
    rw [mark_first h]
    have hx := List.head_dropWhile_not (p := fun x => !mark x) (l := lns b)
    unfold tailL at ht
    have := hx (by rw [ht]; simp)
    simpa [ht] using this
theorem let_inv {b : L} {x : Lt} {r : L} (h : letS b = some (x, r)) : b = expS x ++ r ∧ okL x = true ∧ (r = [] ∨ mark r = true) := by
  obtain ⟨w, ds, q, hb, hw, hn, h0, hq, hf, hB, _, _, hbody, hrest⟩ := let_parts h
  obtain ⟨f, v, B⟩ := x
  simp only at hn h0 hf hB
  obtain ⟨hw1, hw2⟩ := whom_who hw
  have hun : ∀ y ∈ lns q, mark y = false := fun y hy => by
    have := lns_body (q ++ 10 :: r)
    rw [← hbody, lns_app hq] at this
    exact head_no _ y (by rw [← this]; exact List.mem_append_left _ hy)
  have hds : Lib.itoa v = ds := by
    rw [(numS_some hn).1, Lib.itoa, if_neg (by omega)]
  refine ⟨?_, ?_, ?_⟩
  · rw [hb]
    unfold expS
    simp only
    rw [hf, hw1, hds, hB, quote_unquote hun]
    simp
  · unfold okL
    simp only
    rw [hf, hw2, hB, whole_unquote hq, decide_eq_true h0]
    rfl
  · rw [hrest]; exact rest_mark _
theorem body_exp {q r : L} (hq : wholeB q = true) (hm : ∀ x ∈ lns q, mark x = false) (hr : r = [] ∨ mark r = true) : bodyOf (q ++ 10 :: r) = q ++ [10] ∧ restOf (q ++ 10 :: r) = r := by
  have hl : lns (q ++ 10 :: r) = (lns q ++ [[10]]) ++ lns r := by
    rw [lns_app hq]
    have : lns (10 :: r) = [10] :: lns r := lns_end (s := []) (by simp) r
    rw [this]; simp
  have hr' : (lns r).takeWhile (fun x => !mark x) = [] ∧ (lns r).dropWhile (fun x => !mark x) = lns r := by
    rcases hr with rfl | hr
    · exact ⟨rfl, rfl⟩
    · obtain ⟨x, t, e, hx⟩ := lns_mark hr
      rw [e, List.takeWhile_cons, List.dropWhile_cons]
      simp [hx]
  have ha : ∀ x ∈ lns q ++ [[10]], (fun x => !mark x) x = true := fun x hx => by
    rcases List.mem_append.1 hx with h | h
    · simp [hm x h]
    · rw [List.mem_singleton.1 h]; decide
  unfold bodyOf restOf headL tailL
  rw [hl, List.takeWhile_append_of_pos ha, List.dropWhile_append_of_pos ha, hr'.1, hr'.2, lns_flat]
  refine ⟨?_, rfl⟩
  simp [lns_flat]
theorem let_exp {x : Lt} (h : okL x = true) {r : L} (hr : r = [] ∨ mark r = true) (hv : x.2.1 < 9223372036854775808) : letS (expS x ++ r) = some (x, r) := by
  obtain ⟨f, v, B⟩ := x
  unfold okL at h
  simp only [Bool.and_eq_true, decide_eq_true_eq] at h hv
  obtain ⟨h1, h2, h3⟩ := h
  obtain ⟨w1, w2, w3, w4⟩ := who_whom h1
  have hi := itoa_10 h2
  have he : expS (f, v, B) ++ r = 70 :: 114 :: 111 :: 109 :: 32 :: (who f ++ 32 :: (Lib.itoa v ++ 10 :: (quoteS B ++ 10 :: r))) := by
    unfold expS mkL
    simp
  rw [he]
  unfold letS
  have hd : (70 :: 114 :: 111 :: 109 :: 32 :: (who f ++ 32 :: (Lib.itoa v ++ 10 :: (quoteS B ++ 10 :: r)))).drop 5 = who f ++ 32 :: (Lib.itoa v ++ 10 :: (quoteS B ++ 10 :: r)) := rfl
  obtain ⟨b1, b2⟩ := body_exp (whole_quote h3) (quote_marks B) hr
  rw [hd, (ahead_at w3).1, (ahead_at w3).2, (ahead_at hi).1, (ahead_at hi).2, b1, b2]
  have hn : numS (Lib.itoa v) = some v.toNat := by
    rw [Lib.itoa, if_neg (by omega)]
    exact numS_dec (by omega)
  rw [if_pos ⟨(mark_iff _).2 ⟨_, rfl⟩, has_iff.2 (by simp), w2, has_iff.2 (by simp)⟩, hn]
  simp only
  have hv0 : ((v.toNat : Nat) : Int) = v := by omega
  rw [List.dropLast_concat, if_pos ⟨(suf_iff _).2 ⟨_, rfl⟩, whole_quote h3⟩, w1, unquote_quote, hv0]
/-- all letters. -/
def parseF : Nat → L → Option (List Lt)
  | _, [] => some []
  | 0, _ :: _ => none
  | k + 1, c :: b => match letS (c :: b) with
    | none => none
    | some (x, r) => (parseF k r).map (x :: ·)
theorem let_len {b : L} {x : Lt} {r : L} (h : letS b = some (x, r)) : r.length < b.length := by
  rw [(let_inv h).1]
  unfold expS mkL
  simp
  omega
theorem parseF_enough : ∀ (k k' : Nat) (b : L), b.length ≤ k → b.length ≤ k' → parseF k b = parseF k' b
  | 0, 0, _, _, _ => rfl
  | 0, k' + 1, [], _, _ => rfl
  | k + 1, 0, [], _, _ => rfl
  | k + 1, k' + 1, [], _, _ => rfl
  | 0, k' + 1, c :: b, h, _ => by simp at h
  | k + 1, 0, c :: b, _, h => by simp at h
  | k + 1, k' + 1, c :: b, h, h' => by
    unfold parseF
    cases hl : letS (c :: b) with
    | none => rfl
    | some p =>
      obtain ⟨x, r⟩ := p
      have := let_len hl
      simp only
      rw [parseF_enough k k' r (by omega) (by omega)]
def parseS (b : L) : Option (List Lt) := parseF b.length b
theorem parse_nil : parseS [] = some [] := rfl
theorem let_nil : letS [] = none := by
  cases h : letS [] with
  | none => rfl
  | some p => have := let_len h; simp at this
theorem parse_none {b : L} (hb : b ≠ []) (h : letS b = none) : parseS b = none := by
  cases b with
  | nil => exact absurd rfl hb
  | cons c b =>
    unfold parseS
    rw [List.length_cons, parseF, h]
theorem parse_some {b : L} {x : Lt} {r : L} (h : letS b = some (x, r)) : parseS b = (parseS r).map (x :: ·) := by
  have hl := let_len h
  cases b with
  | nil => rw [let_nil] at h; cases h
  | cons c b =>
    unfold parseS
    rw [List.length_cons, parseF, h]
    simp only
    rw [parseF_enough b.length r.length r (by simp at hl; omega) (Nat.le_refl _)]
theorem parse_exp : ∀ (n : Nat) (b : L) (ls : List Lt), b.length ≤ n → parseS b = some ls → ls.all okL = true ∧ fileS ls = b ∧ ls.length ≤ b.length
  | _, [], ls, _, h => by
    rw [parse_nil] at h
    injection h with h
    rw [← h]
    exact ⟨rfl, rfl, Nat.le_refl _⟩
  | 0, c :: b, ls, hl, _ => by simp at hl
  | n + 1, c :: b, ls, hl, h => by
    cases hx : letS (c :: b) with
    | none => rw [parse_none (by simp) hx] at h; cases h
    | some p =>
      obtain ⟨x, r⟩ := p
      rw [parse_some hx] at h
      cases hr : parseS r with
      | none => rw [hr] at h; cases h
      | some ms =>
        rw [hr] at h
        injection h with h
        have hlen := let_len hx
        obtain ⟨i1, i2, i3⟩ := parse_exp n r ms (by omega) hr
        obtain ⟨e, ho, _⟩ := let_inv hx
        rw [← h]
        refine ⟨by rw [List.all_cons, ho, i1]; rfl, ?_, by rw [List.length_cons]; omega⟩
        rw [e, fileS, List.flatMap_cons]
        rw [← i2]
        rfl
theorem file_mark (ls : List Lt) : fileS ls = [] ∨ mark (fileS ls) = true := by
  cases ls with
  | nil => exact .inl rfl
  | cons x ls =>
    right
    rw [fileS, List.flatMap_cons, mark_iff]
    exact ⟨who x.1 ++ 32 :: (Lib.itoa x.2.1 ++ 10 :: (quoteS x.2.2 ++ [10])) ++ ls.flatMap expS, rfl⟩
theorem exp_parse : ∀ {ls : List Lt}, ls.all okL = true → (∀ x ∈ ls, x.2.1 < 9223372036854775808) → parseS (fileS ls) = some ls
  | [], _, _ => rfl
  | x :: ls, h, hv => by
    rw [List.all_cons, Bool.and_eq_true] at h
    have := let_exp h.1 (file_mark ls) (hv x (by simp))
    have e : fileS (x :: ls) = expS x ++ fileS ls := List.flatMap_cons
    rw [e, parse_some this, exp_parse h.2 (fun y hy => hv y (List.mem_cons_of_mem _ hy))]
    rfl
/-- the document's reading, line by line. -/
def firstS (f : L) : Option (L × Nat) :=
  if mark f = true ∧ Go.Lib.hasSuffix f [10] = true ∧ has 32 (f.drop 5).dropLast = true ∧ (Pa.ahead 32 (f.drop 5).dropLast = [45] ∨ mailS (Pa.ahead 32 (f.drop 5).dropLast) = true) then
    (numS (Pa.behind 32 (f.drop 5).dropLast)).map fun n => (whom (Pa.ahead 32 (f.drop 5).dropLast), n)
  else none
def tkL (ls : List L) : List L := ls.takeWhile (fun x => !mark x)
def dpL (ls : List L) : List L := ls.dropWhile (fun x => !mark x)
def rawF : Nat → List L → Option (List Lt)
  | _, [] => some []
  | 0, _ :: _ => none
  | k + 1, f :: t => match firstS f with
    | none => none
    | some (w, n) => if Go.Lib.hasSuffix (tkL t).flatten [10] = true then (rawF k (dpL t)).map ((w, (n : Int), unquoteS (tkL t).flatten.dropLast) :: ·) else none
theorem dp_len (t : List L) : (dpL t).length ≤ t.length := (List.dropWhile_sublist _).length_le
theorem rawF_enough : ∀ (k k' : Nat) (b : List L), b.length ≤ k → b.length ≤ k' → rawF k b = rawF k' b
  | 0, 0, _, _, _ => rfl
  | 0, k' + 1, [], _, _ => rfl
  | k + 1, 0, [], _, _ => rfl
  | k + 1, k' + 1, [], _, _ => rfl
  | 0, k' + 1, c :: b, h, _ => by simp at h
  | k + 1, 0, c :: b, _, h => by simp at h
  | k + 1, k' + 1, f :: t, h, h' => by
    unfold rawF
    have := dp_len t
    rw [List.length_cons] at h h'
    rw [rawF_enough k k' (dpL t) (by omega) (by omega)]
def rawS (ls : List L) : Option (List Lt) := rawF ls.length ls
theorem raw_nil : rawS [] = some [] := rfl
theorem raw_cons (f : L) (t : List L) : rawS (f :: t) = match firstS f with
    | none => none
    | some (w, n) => if Go.Lib.hasSuffix (tkL t).flatten [10] = true then (rawS (dpL t)).map ((w, (n : Int), unquoteS (tkL t).flatten.dropLast) :: ·) else none := by
  unfold rawS
  rw [List.length_cons, rawF, rawF_enough t.length (dpL t).length _ (dp_len t) (Nat.le_refl _)]
theorem raw_let {b : L} {x : Lt} {r : L} (h : letS b = some (x, r)) : rawS (lns b) = (rawS (lns r)).map (x :: ·) := by
  obtain ⟨w, ds, q, hb, hw, hn, h0, hq, hf, hB, n32, n10, hbody, hrest⟩ := let_parts h
  obtain ⟨f, v, B⟩ := x
  simp only at hn h0 hf hB
  have hw10 : (10 : UInt8) ∉ w := by
    rcases hw with rfl | hw
    · decide
    · exact mail_10 hw
  have hs : (10 : UInt8) ∉ mkL ++ (w ++ 32 :: ds) := by
    unfold mkL
    simp [hw10, n10]
  have hl : lns b = ((mkL ++ (w ++ 32 :: ds)) ++ [10]) :: lns (q ++ 10 :: r) := by
    rw [hb, show mkL ++ (w ++ 32 :: (ds ++ 10 :: (q ++ 10 :: r))) = (mkL ++ (w ++ 32 :: ds)) ++ 10 :: (q ++ 10 :: r) by simp]
    exact lns_end hs _
  have hd5 : List.drop 5 (mkL ++ (w ++ 32 :: ds) ++ [10]) = (w ++ 32 :: ds) ++ [10] := by rw [List.append_assoc]; rfl
  have hd : (List.drop 5 (mkL ++ (w ++ 32 :: ds) ++ [10])).dropLast = w ++ 32 :: ds := by rw [hd5, List.dropLast_concat]
  have hm : mark (mkL ++ (w ++ 32 :: ds) ++ [10]) = true := (mark_iff _).2 ⟨(w ++ 32 :: ds) ++ [10], by rw [List.append_assoc]; rfl⟩
  have hfirst : firstS (mkL ++ (w ++ 32 :: ds) ++ [10]) = some (whom w, v.toNat) := by
    unfold firstS
    rw [hd, (ahead_at n32).1, (ahead_at n32).2, if_pos ⟨hm, (suf_iff _).2 ⟨_, rfl⟩, has_iff.2 (by simp), hw⟩, hn]
    rfl
  have htk : (tkL (lns (q ++ 10 :: r))).flatten = q ++ [10] := hbody.symm
  have hdp : dpL (lns (q ++ 10 :: r)) = lns r := by
    have := lns_rest (q ++ 10 :: r)
    rw [← hrest] at this
    exact this.symm
  rw [hl, raw_cons, hfirst]
  simp only
  have hv : ((v.toNat : Nat) : Int) = v := by omega
  rw [htk, hdp, if_pos ((suf_iff _).2 ⟨_, rfl⟩), List.dropLast_concat, hf, hB, hv]
theorem raw_parse : ∀ (n : Nat) (b : L) (ls : List Lt), b.length ≤ n → parseS b = some ls → rawS (lns b) = some ls
  | _, [], ls, _, h => h
  | 0, c :: b, ls, hl, _ => by simp at hl
  | n + 1, c :: b, ls, hl, h => by
    cases hx : letS (c :: b) with
    | none => rw [parse_none (by simp) hx] at h; cases h
    | some p =>
      obtain ⟨x, r⟩ := p
      have hlen := let_len hx
      rw [parse_some hx] at h
      rw [raw_let hx]
      cases hr : parseS r with
      | none => rw [hr] at h; cases h
      | some ms => rw [raw_parse n r ms (by omega) hr, ← hr, h]
/-- what the document answers is what the program does. -/
theorem ref_is (b : L) (hv : ∀ out, rawS (lns b) = some out → ∀ x ∈ out, x.2.1 < 9223372036854775808) :
    parseS b = match rawS (lns b) with
      | none => none
      | some out => if exportS out = some b then some out else none := by
  cases hp : parseS b with
  | some ls =>
    obtain ⟨h1, h2, _⟩ := parse_exp b.length b ls (Nat.le_refl _) hp
    rw [raw_parse b.length b ls (Nat.le_refl _) hp]
    simp only
    rw [export_ok h1, h2, if_pos rfl]
  | none =>
    cases hr : rawS (lns b) with
    | none => rfl
    | some out =>
      simp only
      rw [if_neg]
      intro he
      obtain ⟨h1, h2⟩ := export_some he
      have := exp_parse h1 (hv out hr)
      rw [h2, hp] at this
      cases this
end Mb
end Go.Proofs.YtpfonpjcnpfipaaGreatDoor
