/- Words of bytes as plain functions on lists: runs, words, terms, lists that rise; their laws. Conditions: none. -/
import Derived.Test.YtbhkppleomnjjaaPaMath
import Derived.Sort.Walk0
namespace Go.Proofs.Ytbhkppleomnjjaa
set_option maxRecDepth 100000
namespace Tk
open Go.Proofs.Ytbhkppleomnjjaa.Pa
abbrev L := List UInt8
/-- a run, if there is one. -/
def one (cur : L) : List L := if cur = [] then [] else [cur]
/-- the runs of letters and digits, one being under way. -/
def runsG : L → L → List L
  | cur, [] => one cur
  | cur, x :: l => if letB x then runsG (cur ++ [x]) l else one cur ++ runsG [] l
def wordS (r : L) : L := (r.take 32).map lowB
def wordsS (l : L) : List L := (runsG [] l).map wordS
/-- small letters and digits, 1 to 32. -/
def termS (s : L) : Bool := s.all (fun c => letB c && !decide (65 ≤ c.toNat ∧ c.toNat ≤ 90)) && decide (1 ≤ s.length ∧ s.length ≤ 32)
theorem one_nil : one [] = [] := rfl
theorem one_some {cur : L} (h : cur ≠ []) : one cur = [cur] := by unfold one; rw [if_neg h]
theorem one_len (cur : L) : (one cur).length ≤ cur.length := by
  unfold one
  split
  · simp
  · rename_i h
    have := List.length_pos_iff.2 h
    simp; omega
theorem runs_len : ∀ (l cur : L), (runsG cur l).length ≤ cur.length + l.length
  | [], cur => by rw [runsG]; have := one_len cur; simp; omega
  | x :: l, cur => by
    rw [runsG]
    split
    · have := runs_len l (cur ++ [x]); simp at this ⊢; omega
    · have h1 := runs_len l []
      have h2 := one_len cur
      simp at h1 ⊢; omega
theorem words_len (l : L) : (wordsS l).length ≤ l.length := by unfold wordsS; rw [List.length_map]; have := runs_len l []; simpa using this
theorem runs_each : ∀ (l cur : L), (∀ c ∈ cur, letB c = true) → ∀ r ∈ runsG cur l, r ≠ [] ∧ (∀ c ∈ r, letB c = true)
  | [], cur => fun hc r hr => by
    rw [runsG] at hr
    unfold one at hr
    split at hr
    · cases hr
    · rename_i hne
      obtain rfl : r = cur := by simpa using hr
      exact ⟨hne, hc⟩
  | x :: l, cur => fun hc r hr => by
    rw [runsG] at hr
    split at hr
    · rename_i hx
      exact runs_each l (cur ++ [x]) (fun c h => by
        rcases List.mem_append.1 h with h | h
        · exact hc c h
        · have : c = x := by simpa using h
          rw [this]; exact hx) r hr
    · rcases List.mem_append.1 hr with hr | hr
      · unfold one at hr
        split at hr
        · cases hr
        · rename_i hne
          obtain rfl : r = cur := by simpa using hr
          exact ⟨hne, hc⟩
      · exact runs_each l [] (fun c h => by cases h) r hr
theorem let_low (c : UInt8) (h : letB c = true) : letB (lowB c) = true ∧ ¬ (65 ≤ (lowB c).toNat ∧ (lowB c).toNat ≤ 90) := by
  revert h
  unfold letB lowB
  by_cases h1 : 65 ≤ c.toNat ∧ c.toNat ≤ 90
  · rw [if_pos h1]
    have : (UInt8.ofNat (c.toNat + 32)).toNat = c.toNat + 32 := by simp; omega
    rw [this]
    intro _
    refine ⟨?_, by omega⟩
    simp only [Bool.or_eq_true, Bool.and_eq_true, decide_eq_true_eq]
    omega
  · rw [if_neg h1]
    exact fun h => ⟨h, h1⟩
theorem low_fix {c : UInt8} (h : ¬ (65 ≤ c.toNat ∧ c.toNat ≤ 90)) : lowB c = c := by unfold lowB; rw [if_neg h]
/-- each word is one. -/
theorem word_term {r : L} (h : r ≠ []) (hl : ∀ c ∈ r, letB c = true) : termS (wordS r) = true := by
  unfold termS wordS
  rw [Bool.and_eq_true, List.all_eq_true, decide_eq_true_eq]
  refine ⟨fun c hc => ?_, ?_⟩
  · rw [List.mem_map] at hc
    obtain ⟨d, hd, rfl⟩ := hc
    obtain ⟨h1, h2⟩ := let_low d (hl d (List.mem_of_mem_take hd))
    rw [h1, decide_eq_false h2]; rfl
  · have := List.length_pos_iff.2 h
    rw [List.length_map, List.length_take]; omega
theorem words_term {l s : L} (h : s ∈ wordsS l) : termS s = true := by
  unfold wordsS at h
  rw [List.mem_map] at h
  obtain ⟨r, hr, rfl⟩ := h
  obtain ⟨h1, h2⟩ := runs_each l [] (fun c h => by cases h) r hr
  exact word_term h1 h2
theorem term_len {s : L} (h : termS s = true) : s.length ≤ 32 := by
  unfold termS at h
  rw [Bool.and_eq_true, decide_eq_true_eq] at h
  exact h.2.2
theorem words_short {l s : L} (h : s ∈ wordsS l) : s.length ≤ 32 := term_len (words_term h)
theorem runs_whole : ∀ (s cur : L), (∀ c ∈ s, letB c = true) → runsG cur s = one (cur ++ s)
  | [], cur => fun _ => by rw [runsG, List.append_nil]
  | x :: s, cur => fun h => by
    rw [runsG, if_pos (h x (by simp)), runs_whole s (cur ++ [x]) (fun c hc => h c (by simp [hc]))]
    simp
/-- a text that is its one word is a term, and no other. -/
theorem term_iff (s : L) (h32 : s.length ≤ 32) : wordsS s = [s] ↔ termS s = true := by
  constructor
  · intro h
    exact words_term (l := s) (by rw [h]; simp)
  · intro h
    have hl := h
    unfold termS at hl
    rw [Bool.and_eq_true, List.all_eq_true, decide_eq_true_eq] at hl
    have hall : ∀ c ∈ s, letB c = true ∧ lowB c = c := fun c hc => by
      have := hl.1 c hc
      rw [Bool.and_eq_true] at this
      exact ⟨this.1, low_fix (by have h2 := this.2; simp only [Bool.not_eq_true', decide_eq_false_iff_not] at h2; exact h2)⟩
    have hne : s ≠ [] := List.length_pos_iff.1 (by omega)
    unfold wordsS
    rw [runs_whole s [] (fun c hc => (hall c hc).1), List.nil_append, one_some hne]
    simp only [List.map_cons, List.map_nil]
    congr 1
    unfold wordS
    rw [List.take_of_length_le h32]
    exact (List.map_congr_left (fun c hc => (hall c hc).2)).trans (List.map_id s)
theorem runs_joined : ∀ (a b cur : L), runsG cur (a ++ 32 :: b) = runsG cur a ++ runsG [] b
  | [], b, cur => by
    rw [List.nil_append, runsG, runsG, if_neg (by decide)]
  | x :: a, b, cur => by
    rw [List.cons_append, runsG, runsG]
    split
    · exact runs_joined a b _
    · rw [runs_joined a b [], List.append_assoc]
theorem words_joined (a b : L) : wordsS (a ++ 32 :: b) = wordsS a ++ wordsS b := by
  unfold wordsS
  rw [runs_joined, List.map_append]
/-- small letters made great. -/
def upB (c : UInt8) : UInt8 := if 97 ≤ c.toNat ∧ c.toNat ≤ 122 then UInt8.ofNat (c.toNat - 32) else c
theorem up_num (c : UInt8) : (upB c).toNat = if 97 ≤ c.toNat ∧ c.toNat ≤ 122 then c.toNat - 32 else c.toNat := by
  have := c.toNat_lt
  unfold upB
  split
  · simp; omega
  · rfl
theorem let_up (c : UInt8) : letB (upB c) = letB c := by
  have h := up_num c
  unfold letB
  rw [h, Bool.eq_iff_iff]
  simp only [Bool.or_eq_true, Bool.and_eq_true, decide_eq_true_eq]
  split <;> omega
theorem low_num (c : UInt8) : (lowB c).toNat = if 65 ≤ c.toNat ∧ c.toNat ≤ 90 then c.toNat + 32 else c.toNat := by
  have := c.toNat_lt
  unfold lowB
  split
  · simp; omega
  · rfl
theorem low_up (c : UInt8) : lowB (upB c) = lowB c := by
  apply UInt8.toNat_inj.1
  rw [low_num, low_num, up_num]
  by_cases h1 : 97 ≤ c.toNat ∧ c.toNat ≤ 122 <;> by_cases h2 : 65 ≤ c.toNat ∧ c.toNat ≤ 90 <;> simp only [h1, h2, if_true, if_false, and_self] <;> split <;> omega
theorem runs_up : ∀ (l cur : L), runsG (cur.map upB) (l.map upB) = (runsG cur l).map (List.map upB)
  | [], cur => by
    rw [List.map_nil, runsG, runsG]
    unfold one
    by_cases h : cur = []
    · simp [h]
    · rw [if_neg h, if_neg (by simpa using h)]; rfl
  | x :: l, cur => by
    rw [List.map_cons, runsG, runsG, let_up]
    split
    · rw [← runs_up l (cur ++ [x])]; simp
    · rw [List.map_append, ← runs_up l []]
      congr 1
      unfold one
      by_cases h : cur = []
      · simp [h]
      · rw [if_neg h, if_neg (by simpa using h)]; rfl
theorem words_up (l : L) : wordsS (l.map upB) = wordsS l := by
  unfold wordsS
  have := runs_up l []
  rw [List.map_nil] at this
  rw [this, List.map_map]
  apply List.map_congr_left
  intro r _
  unfold wordS
  show ((r.map upB).take 32).map lowB = _
  rw [← List.map_take, List.map_map]
  exact List.map_congr_left (fun c _ => low_up c)
/-- between two rounds over a text: i bytes are read, the run under way begins at b. -/
structure RnSt (l : L) (b i : Nat) (done : List L) : Prop where
  le : b ≤ i
  le' : i ≤ l.length + 1
  end_ : i = l.length + 1 → done = runsG [] l
  way : i ≤ l.length → done ++ runsG ((l.drop b).take (i - b)) (l.drop i) = runsG [] l
theorem RnSt.init (l : L) : RnSt l 0 0 [] := ⟨Nat.le_refl _, by omega, fun h => by omega, fun _ => by simp⟩
theorem RnSt.pre {l : L} {b i : Nat} {done : List L} (h : RnSt l b i done) : done <+: runsG [] l := by
  rcases Nat.lt_or_ge l.length i with h1 | h1
  · rw [h.end_ (by have := h.le'; omega)]; exact List.prefix_refl _
  · exact ⟨_, h.way h1⟩
theorem take_more {l : L} {b i : Nat} (h1 : b ≤ i) (h2 : i < l.length) : (l.drop b).take (i + 1 - b) = (l.drop b).take (i - b) ++ [l.getD i 0] := by
  rw [show i + 1 - b = (i - b) + 1 by omega, List.take_succ_eq_append_getElem (by rw [List.length_drop]; omega)]
  congr 2
  rw [List.getElem_drop]
  simp [List.getD, show b + (i - b) = i by omega, h2]
theorem drop_one {l : L} {i : Nat} (h2 : i < l.length) : l.drop i = l.getD i 0 :: l.drop (i + 1) := by
  rw [List.drop_eq_getElem_cons h2]; simp [List.getD, h2]
/-- a byte of a run. -/
theorem RnSt.more {l : L} {b i : Nat} {done : List L} (h : RnSt l b i done) (hi : i < l.length) (hp : letB (l.getD i 0) = true) : RnSt l b (i + 1) done := by
  refine ⟨by have := h.le; omega, by omega, fun h => by omega, fun _ => ?_⟩
  have := h.way (by omega)
  rw [drop_one hi, runsG, if_pos hp] at this
  rwa [take_more h.le hi]
/-- a byte of none, or the end. -/
theorem RnSt.none {l : L} {b i : Nat} {done : List L} (h : RnSt l b i done) (hi : i ≤ l.length) (hp : i < l.length → letB (l.getD i 0) = false) : RnSt l (i + 1) (i + 1) (done ++ one ((l.drop b).take (i - b))) := by
  have hw := h.way hi
  rcases Nat.lt_or_ge i l.length with h1 | h1
  · refine ⟨Nat.le_refl _, by omega, fun h => by omega, fun _ => ?_⟩
    rw [drop_one h1, runsG, hp h1, if_neg (by simp)] at hw
    rw [List.append_assoc, show i + 1 - (i + 1) = 0 by omega, List.take_zero]
    exact hw
  · refine ⟨Nat.le_refl _, by omega, fun _ => ?_, fun h => by omega⟩
    rw [List.drop_eq_nil_of_le h1, runsG] at hw
    exact hw
theorem run_len {l : L} {b i : Nat} (h1 : b ≤ i) (h2 : i ≤ l.length) : ((l.drop b).take (i - b)).length = i - b := by
  rw [List.length_take, List.length_drop]; omega
theorem one_run {l : L} {b i : Nat} (h1 : b < i) (h2 : i ≤ l.length) : one ((l.drop b).take (i - b)) = [(l.drop b).take (i - b)] :=
  one_some (List.length_pos_iff.1 (by rw [run_len (by omega) h2]; omega))
theorem one_none {l : L} {b i : Nat} (h1 : ¬ b < i) : one ((l.drop b).take (i - b)) = [] := by
  rw [show i - b = 0 by omega, List.take_zero, one_nil]
/-- the same with the run under way as a text of its own. -/
structure RtSt (l cur : L) (i : Nat) (done : List L) : Prop where
  le : cur.length ≤ i
  le' : i ≤ l.length + 1
  end_ : i = l.length + 1 → done = runsG [] l
  way : i ≤ l.length → done ++ runsG cur (l.drop i) = runsG [] l
  cnt : done.length ≤ i
  let_ : ∀ c ∈ cur, letB c = true
theorem RtSt.init (l : L) : RtSt l [] 0 [] := ⟨Nat.le_refl _, by omega, fun h => by omega, fun _ => by simp, by simp, fun c h => by cases h⟩
theorem RtSt.more {l cur : L} {i : Nat} {done : List L} (h : RtSt l cur i done) (hi : i < l.length) (hp : letB (l.getD i 0) = true) : RtSt l (cur ++ [l.getD i 0]) (i + 1) done := by
  refine ⟨by have := h.le; simp; omega, by omega, fun h => by omega, fun _ => ?_, by have := h.cnt; omega, fun c hc => ?_⟩
  · have := h.way (by omega)
    rwa [drop_one hi, runsG, if_pos hp] at this
  · rcases List.mem_append.1 hc with hc | hc
    · exact h.let_ c hc
    · have : c = l.getD i 0 := by simpa using hc
      rw [this]; exact hp
theorem RtSt.none {l cur : L} {i : Nat} {done : List L} (h : RtSt l cur i done) (hi : i ≤ l.length) (hp : i < l.length → letB (l.getD i 0) = false) : RtSt l [] (i + 1) (done ++ one cur) := by
  have hw := h.way hi
  have h1 := h.cnt
  have hc : (one cur).length ≤ 1 := by unfold one; split <;> simp
  rcases Nat.lt_or_ge i l.length with h1 | h1
  · refine ⟨Nat.zero_le _, by omega, fun h => by omega, fun _ => ?_, by simp; omega, fun c h => by cases h⟩
    rw [drop_one h1, runsG, hp h1, if_neg (by simp)] at hw
    rw [List.append_assoc]
    exact hw
  · refine ⟨Nat.zero_le _, by omega, fun _ => ?_, fun h => by omega, by simp; omega, fun c h => by cases h⟩
    rw [List.drop_eq_nil_of_le h1, runsG] at hw
    exact hw
/-- one text more, where it stands. -/
def insS : List L → L → List L
  | [], s => [s]
  | x :: l, s => if x < s then x :: insS l s else if x = s then x :: l else s :: x :: l
def sortS (l : List L) : List L := l.foldl insS []
theorem ins_at : ∀ (out : List L) (s : L) (i : Nat), i ≤ out.length → (∀ j (h : j < out.length), j < i → out[j] < s) → (∀ h : i < out.length, ¬ out[i] < s) →
    insS out s = if out[i]? = some s then out else out.take i ++ s :: out.drop i
  | [], s, i => fun h _ _ => by
    obtain rfl : i = 0 := by simpa using h
    simp [insS]
  | x :: l, s, 0 => fun _ _ h => by
    rw [insS, if_neg (show ¬ x < s from h (Nat.zero_lt_succ _))]
    by_cases e : x = s
    · simp [e]
    · simp [e]
  | x :: l, s, i + 1 => fun h1 h2 h3 => by
    rw [insS, if_pos (show x < s from h2 0 (Nat.zero_lt_succ _) (Nat.zero_lt_succ _)), ins_at l s i (Nat.le_of_succ_le_succ h1) (fun j hj hi => h2 (j + 1) (Nat.succ_lt_succ hj) (Nat.succ_lt_succ hi)) (fun h => h3 (Nat.succ_lt_succ h))]
    by_cases e : l[i]? = some s
    · simp [e]
    · simp [e]
theorem ins_len : ∀ (out : List L) (s : L), (insS out s).length ≤ out.length + 1
  | [], s => by simp [insS]
  | x :: l, s => by
    rw [insS]
    split
    · have := ins_len l s; simp; omega
    · split <;> simp
theorem ins_mem : ∀ (out : List L) (s x : L), x ∈ insS out s ↔ x = s ∨ x ∈ out
  | [], s, x => by simp [insS]
  | y :: l, s, x => by
    rw [insS]
    split
    · rw [List.mem_cons, ins_mem l s x, List.mem_cons]
      constructor
      · rintro (h | h | h)
        · exact .inr (.inl h)
        · exact .inl h
        · exact .inr (.inr h)
      · rintro (h | h | h)
        · exact .inr (.inl h)
        · exact .inl h
        · exact .inr (.inr h)
    · split
      · rename_i e
        rw [List.mem_cons, e]
        constructor
        · exact fun h => .inr h
        · rintro (h | h)
          · exact .inl h
          · exact h
      · rw [List.mem_cons]
theorem ins_rise : ∀ (out : List L) (s : L), out.Pairwise (· < ·) → (insS out s).Pairwise (· < ·)
  | [], s, _ => by simp [insS]
  | y :: l, s, h => by
    rw [List.pairwise_cons] at h
    rw [insS]
    split
    · rename_i h1
      rw [List.pairwise_cons]
      refine ⟨fun z hz => ?_, ins_rise l s h.2⟩
      rcases (ins_mem l s z).1 hz with hz | hz
      · rw [hz]; exact h1
      · exact h.1 z hz
    · rename_i h1
      split
      · rw [List.pairwise_cons]; exact h
      · rename_i h2
        have hsy : s < y := by
          rcases (show s < y ∨ s = y from by
            rcases Decidable.em (s < y) with h3 | h3
            · exact .inl h3
            · exact .inr (List.le_antisymm (List.not_lt.1 h1) (List.not_lt.1 h3))) with h3 | h3
          · exact h3
          · exact absurd h3.symm h2
        rw [List.pairwise_cons]
        refine ⟨fun z hz => ?_, by rw [List.pairwise_cons]; exact h⟩
        rcases List.mem_cons.1 hz with hz | hz
        · rw [hz]; exact hsy
        · exact List.lt_trans hsy (h.1 z hz)
theorem fold_rise : ∀ (l out : List L), out.Pairwise (· < ·) → (l.foldl insS out).Pairwise (· < ·)
  | [], _, h => h
  | x :: l, out, h => fold_rise l (insS out x) (ins_rise out x h)
theorem fold_mem : ∀ (l out : List L) (x : L), x ∈ l.foldl insS out ↔ x ∈ out ∨ x ∈ l
  | [], out, x => by simp
  | y :: l, out, x => by
    rw [List.foldl_cons, fold_mem l (insS out y) x, ins_mem, List.mem_cons]
    constructor
    · rintro ((h | h) | h)
      · exact .inr (.inl h)
      · exact .inl h
      · exact .inr (.inr h)
    · rintro (h | h | h)
      · exact .inl (.inr h)
      · exact .inl (.inl h)
      · exact .inr h
theorem fold_len : ∀ (l out : List L), (l.foldl insS out).length ≤ out.length + l.length
  | [], out => by simp
  | y :: l, out => by
    rw [List.foldl_cons]
    have h1 := fold_len l (insS out y)
    have h2 := ins_len out y
    simp; omega
theorem sort_rise (l : List L) : (sortS l).Pairwise (· < ·) := fold_rise l [] List.Pairwise.nil
theorem sort_mem (l : List L) (x : L) : x ∈ sortS l ↔ x ∈ l := by
  unfold sortS; rw [fold_mem]; simp
theorem sort_len (l : List L) : (sortS l).length ≤ l.length := by
  have := fold_len l []; simpa [sortS] using this
theorem sort_snoc (l : List L) (x : L) : sortS (l ++ [x]) = insS (sortS l) x := by unfold sortS; rw [List.foldl_append]; rfl
theorem rise_nodup {l : List L} (h : l.Pairwise (· < ·)) : l.Nodup := h.imp fun {a b} hab e => by rw [e] at hab; exact List.lt_irrefl _ hab
/-- what rises is sorted. -/
theorem rise_sorted {l : List L} (h : l.Pairwise (· < ·)) : l.mergeSort (fun x y => decide (x ≤ y)) = l := by
  refine List.mergeSort_of_pairwise (h.imp fun {a b} hab => ?_)
  rw [decide_eq_true_eq]
  exact List.le_of_lt hab
end Tk
end Go.Proofs.Ytbhkppleomnjjaa
