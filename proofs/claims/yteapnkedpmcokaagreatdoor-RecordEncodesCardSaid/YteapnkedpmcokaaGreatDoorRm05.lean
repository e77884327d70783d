/- PaMath. Conditions: as stated at each. -/
import Derived.Test.YteapnkedpmcokaaGreatDoorRm02
import Derived.Lib.LastIndexByte
import Derived.Lib.IndexMore
/- Addresses as lists of bytes. Conditions: none. -/
namespace Go.Proofs.YteapnkedpmcokaaGreatDoor
set_option maxRecDepth 100000
namespace Pa
def letB (c : UInt8) : Bool := (97 ≤ c.toNat && c.toNat ≤ 122) || (65 ≤ c.toNat && c.toNat ≤ 90) || (48 ≤ c.toNat && c.toNat ≤ 57)
def labB (c : UInt8) : Bool := letB c || c == 45
def marksL : List UInt8 := [33, 35, 36, 37, 38, 39, 42, 43, 47, 61, 63, 94, 95, 123, 124, 125, 126, 96]
def atB (c : UInt8) : Bool := labB c || marksL.contains c
def lowB (c : UInt8) : UInt8 := if 65 ≤ c.toNat ∧ c.toNat ≤ 90 then UInt8.ofNat (c.toNat + 32) else c
/-- what stands ahead of the first c, and behind it. -/
def ahead (c : UInt8) (l : List UInt8) : List UInt8 := l.takeWhile (· != c)
def behind (c : UInt8) (l : List UInt8) : List UInt8 := (l.dropWhile (· != c)).tail
def has (c : UInt8) (l : List UInt8) : Bool := decide (c ∈ l)
theorem has_t {c : UInt8} {l : List UInt8} (h : c ∈ l) : has c l = true := by simp [has, h]
theorem has_f {c : UInt8} {l : List UInt8} (h : c ∉ l) : has c l = false := by simp [has, h]
theorem ahead_no {c : UInt8} {l : List UInt8} (h : c ∉ l) : ahead c l = l ∧ behind c l = [] := by
  induction l with
  | nil => exact ⟨rfl, rfl⟩
  | cons x l ih =>
    have hx : (x != c) = true := by
      rw [bne_iff_ne]; intro e; exact h (by simp [e])
    obtain ⟨i1, i2⟩ := ih (fun h' => h (by simp [h']))
    unfold ahead behind at *
    rw [List.takeWhile_cons, List.dropWhile_cons, hx]
    exact ⟨by simp [i1], by simpa using i2⟩
theorem ahead_at {c : UInt8} {a b : List UInt8} (h : c ∉ a) : ahead c (a ++ c :: b) = a ∧ behind c (a ++ c :: b) = b := by
  induction a with
  | nil => simp [ahead, behind]
  | cons x a ih =>
    have hx : (x != c) = true := by
      rw [bne_iff_ne]; intro e; exact h (by simp [e])
    obtain ⟨i1, i2⟩ := ih (fun h' => h (by simp [h']))
    unfold ahead behind at *
    rw [List.cons_append, List.takeWhile_cons, List.dropWhile_cons, hx]
    exact ⟨by simp [i1], by simpa using i2⟩
theorem cut_at {c : UInt8} {l : List UInt8} (h : c ∈ l) : l = ahead c l ++ c :: behind c l ∧ c ∉ ahead c l := by
  induction l with
  | nil => cases h
  | cons x l ih =>
    by_cases hx : x = c
    · subst hx
      simp [ahead, behind]
    · obtain ⟨i1, i2⟩ := ih (by simpa [Ne.symm hx] using h)
      have hx' : (x != c) = true := by rw [bne_iff_ne]; exact hx
      unfold ahead behind at *
      rw [List.takeWhile_cons, List.dropWhile_cons, hx']
      refine ⟨by simpa using i1, ?_⟩
      simp only [if_true, List.mem_cons, not_or]
      exact ⟨Ne.symm hx, i2⟩
theorem idx_has (c : UInt8) (l : List UInt8) : Go.Lib.indexByte l c = if c ∈ l then ((ahead c l).length : Int) else -1 := by
  induction l with
  | nil => simp [Go.Lib.indexByte]
  | cons x l ih =>
    unfold Go.Lib.indexByte
    by_cases hx : x = c
    · subst hx
      simp [ahead]
    · have h1 : (x == c) = false := by simpa using hx
      have h2 : (x != c) = true := by rw [bne_iff_ne]; exact hx
      have h3 : ahead c (x :: l) = x :: ahead c l := by unfold ahead; rw [List.takeWhile_cons, h2]; rfl
      rw [h1, h3]
      by_cases hm : c ∈ l
      · rw [if_pos hm] at ih
        have : (((ahead c l).length : Int) == -1) = false := by rw [beq_eq_false_iff_ne]; omega
        rw [ih, this, if_pos (List.mem_cons_of_mem _ hm)]
        simp
      · rw [if_neg hm] at ih
        rw [ih, if_neg (show ¬ c ∈ x :: l by simp only [List.mem_cons, not_or]; exact ⟨Ne.symm hx, hm⟩)]
        simp
theorem ahead_len (c : UInt8) (l : List UInt8) : (ahead c l).length ≤ l.length := by
  by_cases h : c ∈ l
  · have := congrArg List.length (cut_at h).1
    simp at this
    omega
  · rw [(ahead_no h).1]; exact Nat.le_refl _
theorem behind_len {c : UInt8} {l : List UInt8} (h : c ∈ l) : (behind c l).length + (ahead c l).length + 1 = l.length := by
  have := congrArg List.length (cut_at h).1
  simp at this
  omega
theorem take_ahead {c : UInt8} {l : List UInt8} (h : c ∈ l) : l.take (ahead c l).length = ahead c l ∧ l.drop ((ahead c l).length + 1) = behind c l := by
  have e := (cut_at h).1
  generalize ahead c l = a at *
  generalize behind c l = b at *
  subst e
  exact ⟨List.take_left, by rw [show a ++ c :: b = (a ++ [c]) ++ b by simp, show a.length + 1 = (a ++ [c]).length by simp]; exact List.drop_left⟩
/-- what stands between points. -/
def parts : List UInt8 → List (List UInt8)
  | [] => [[]]
  | x :: l => if x = 46 then [] :: parts l else match parts l with
    | p :: ps => (x :: p) :: ps
    | [] => [[x]]
theorem parts_no : ∀ {l : List UInt8}, (46 : UInt8) ∉ l → parts l = [l]
  | [], _ => rfl
  | x :: l, h => by
    rw [parts, if_neg (by intro e; exact h (by simp [e])), parts_no (l := l) (fun h' => h (by simp [h']))]
theorem parts_at : ∀ {a b : List UInt8}, (46 : UInt8) ∉ a → parts (a ++ 46 :: b) = a :: parts b
  | [], b, _ => by rw [List.nil_append, parts, if_pos rfl]
  | x :: a, b, h => by
    rw [List.cons_append, parts, if_neg (by intro e; exact h (by simp [e])), parts_at (a := a) (fun h' => h (by simp [h']))]
theorem parts_cut (l : List UInt8) : parts l = if has 46 l then ahead 46 l :: parts (behind 46 l) else [ahead 46 l] := by
  by_cases h : (46 : UInt8) ∈ l
  · rw [has_t h, if_pos rfl]
    obtain ⟨e, hn⟩ := cut_at h
    generalize ahead 46 l = a at *
    generalize behind 46 l = b at *
    subst e
    exact parts_at hn
  · rw [has_f h, if_neg (by simp), (ahead_no h).1]
    exact parts_no h
theorem parts_len : ∀ l : List UInt8, (parts l).length ≤ l.length + 1
  | [] => by simp [parts]
  | x :: l => by
    have ih := parts_len l
    rw [parts]
    split
    · simp; omega
    · cases h : parts l with
      | nil => simp
      | cons p ps => rw [h] at ih; simp at ih ⊢; omega
theorem parts_ne : ∀ l : List UInt8, parts l ≠ []
  | [] => by simp [parts]
  | x :: l => by
    rw [parts]
    split
    · simp
    · cases h : parts l <;> simp
theorem mem_parts {y : UInt8} (hy : y ≠ 46) : ∀ {l : List UInt8}, y ∈ l → ∃ p ∈ parts l, y ∈ p
  | [], h => by cases h
  | x :: l, h => by
    rw [parts]
    by_cases hx : x = 46
    · rw [if_pos hx]
      have h' : y ∈ l := by
        rcases List.mem_cons.1 h with e | h
        · exact absurd (e.trans hx) hy
        · exact h
      obtain ⟨p, hp, hm⟩ := mem_parts hy h'
      exact ⟨p, by simp [hp], hm⟩
    · rw [if_neg hx]
      cases hp : parts l with
      | nil => exact absurd hp (parts_ne l)
      | cons p ps =>
        rcases List.mem_cons.1 h with e | h
        · exact ⟨x :: p, by simp, by simp [e]⟩
        · obtain ⟨q, hq, hm⟩ := mem_parts hy h
          rw [hp] at hq
          rcases List.mem_cons.1 hq with e | hq
          · exact ⟨x :: p, by simp, by simp [← e, hm]⟩
          · exact ⟨q, by simp [hq], hm⟩
theorem parts_le : ∀ {l p : List UInt8}, p ∈ parts l → p.length ≤ l.length
  | [], p, h => by simp [parts] at h; simp [h]
  | x :: l, p, h => by
    rw [parts] at h
    split at h
    · rcases List.mem_cons.1 h with e | h
      · simp [e]
      · have := parts_le h; simp; omega
    · cases hp : parts l with
      | nil => exact absurd hp (parts_ne l)
      | cons q qs =>
        rw [hp] at h
        rcases List.mem_cons.1 h with e | h
        · have := parts_le (l := l) (p := q) (by rw [hp]; simp)
          rw [e]; simp; omega
        · have := parts_le (l := l) (p := p) (by rw [hp]; simp [h])
          simp; omega
/-- labels, atoms. -/
def labS (p : List UInt8) : Bool := p.all labB && (p != []) && decide (p.length ≤ 63) && (p.getD 0 0 != 45) && (p.getD (p.length - 1) 0 != 45)
def atS (p : List UInt8) : Bool := p.all atB && (p != [])
def domS (l : List UInt8) : Bool := decide (l.length ≤ 255) && (parts l).all labS
theorem domS_nil : domS [] = false := by decide
/-- the last place of an at sign. -/
def lastI (l : List UInt8) : Int := Go.Lib.lastIndexByte (str l) 64
theorem str_get {l : List UInt8} {j : Nat} (h : j < l.length) : ((str l).data[j]!) = l.getD j 0 := by
  simp [str, h, List.getD]
theorem last_cases (l : List UInt8) : ((64 : UInt8) ∉ l ∧ lastI l = -1) ∨ ∃ a b, l = a ++ 64 :: b ∧ (64 : UInt8) ∉ b ∧ lastI l = a.length := by
  have hsz : (str l).size = l.length := by simp [str, ByteArray.size]
  have to64 : ∀ x : UInt8, (x.toNat : Int) = 64 ↔ x = 64 := fun x => by
    constructor
    · intro h
      apply UInt8.toNat_inj.1
      show x.toNat = 64
      omega
    · rintro rfl; rfl
  rcases Go.Lib.lastIndexByte_spec (str l) 64 with ⟨h1, h2⟩ | ⟨i, hi, h1, h2, h3⟩
  · left
    refine ⟨fun hm => ?_, h1⟩
    obtain ⟨j, hj, e⟩ := List.getElem_of_mem hm
    have := h2 j (by omega)
    rw [str_get hj, Ne, to64] at this
    exact this (by simp [List.getD, hj, e])
  · right
    rw [hsz] at hi h3
    rw [str_get hi, to64] at h2
    refine ⟨l.take i, l.drop (i + 1), ?_, fun hm => ?_, ?_⟩
    · have e : l[i] = 64 := by
        rw [← h2]; simp [List.getD, hi]
      rw [← e, ← List.drop_eq_getElem_cons hi, List.take_append_drop]
    · obtain ⟨j, hj, e⟩ := List.getElem_of_mem hm
      rw [List.length_drop] at hj
      have := h3 (i + 1 + j) (by omega) (by omega)
      rw [str_get (by omega), Ne, to64] at this
      refine this ?_
      rw [List.getElem_drop] at e
      have hl : i + 1 + j < l.length := by omega
      simp [List.getD, hl, e]
    · unfold lastI
      rw [h1, List.length_take]
      omega
theorem last_no {l : List UInt8} (h : (64 : UInt8) ∉ l) : lastI l = -1 := by
  rcases last_cases l with h1 | ⟨a, b, rfl, _, _⟩
  · exact h1.2
  · exact absurd (by simp) h
theorem append_at_inj : ∀ {a b a' b' : List UInt8}, a ++ 64 :: b = a' ++ 64 :: b' → (64 : UInt8) ∉ b → (64 : UInt8) ∉ b' → a = a' ∧ b = b'
  | [], b, [], b', h, _, _ => by simpa using h
  | [], b, x :: a', b', h, h1, _ => by
    rw [List.nil_append, List.cons_append] at h
    injection h with _ h
    exact absurd (by rw [h]; simp) h1
  | x :: a, b, [], b', h, _, h2 => by
    rw [List.nil_append, List.cons_append] at h
    injection h with _ h
    exact absurd (by rw [← h]; simp) h2
  | x :: a, b, y :: a', b', h, h1, h2 => by
    rw [List.cons_append, List.cons_append] at h
    injection h with e h
    obtain ⟨e1, e2⟩ := append_at_inj h h1 h2
    exact ⟨by rw [e, e1], e2⟩
theorem last_at {a b : List UInt8} (h : (64 : UInt8) ∉ b) : lastI (a ++ 64 :: b) = a.length := by
  rcases last_cases (a ++ 64 :: b) with h1 | ⟨a', b', e, hb, hl⟩
  · exact absurd (by simp) h1.1
  · rw [hl, (append_at_inj e h hb).1]
/-- what stands ahead of the last at sign, and behind it. -/
def loc (l : List UInt8) : List UInt8 := if lastI l < 0 then l else l.take (lastI l).toNat
def dom (l : List UInt8) : List UInt8 := if lastI l < 0 then [] else l.drop ((lastI l).toNat + 1)
theorem loc_no {l : List UInt8} (h : (64 : UInt8) ∉ l) : loc l = l ∧ dom l = [] := by
  unfold loc dom
  rw [last_no h]
  exact ⟨rfl, rfl⟩
theorem loc_at {a b : List UInt8} (h : (64 : UInt8) ∉ b) : loc (a ++ 64 :: b) = a ∧ dom (a ++ 64 :: b) = b := by
  unfold loc dom
  rw [last_at h, if_neg (by omega), if_neg (by omega)]
  refine ⟨by simp, ?_⟩
  rw [show ((a.length : Int)).toNat + 1 = (a ++ [64]).length by simp, show a ++ 64 :: b = (a ++ [64]) ++ b by simp]
  exact List.drop_left
theorem loc_len (l : List UInt8) : (loc l).length ≤ l.length ∧ (dom l).length ≤ l.length := by
  rcases last_cases l with ⟨h, _⟩ | ⟨a, b, rfl, h, _⟩
  · rw [(loc_no h).1, (loc_no h).2]; simp
  · rw [(loc_at h).1, (loc_at h).2]; simp; omega
def mailS (l : List UInt8) : Bool := decide ((loc l).length ≤ 64) && (parts (loc l)).all atS && domS (dom l)
/-- the path that a text begins with. -/
def parseS (l : List UInt8) : List UInt8 × List UInt8 × Bool :=
  if has 62 l && (60 :: []).isPrefixOf (ahead 62 l) && ((ahead 62 l).drop 1 == [] || mailS ((ahead 62 l).drop 1)) then ((ahead 62 l).drop 1, behind 62 l, true) else ([], l, false)
def foldS (l : List UInt8) : List UInt8 := if lastI l < 0 then l else l.take ((lastI l).toNat + 1) ++ (l.drop ((lastI l).toNat + 1)).map lowB
theorem foldS_no {l : List UInt8} (h : (64 : UInt8) ∉ l) : foldS l = l := by
  unfold foldS
  rw [last_no h]
  rfl
theorem foldS_at {a b : List UInt8} (h : (64 : UInt8) ∉ b) : foldS (a ++ 64 :: b) = a ++ 64 :: b.map lowB := by
  unfold foldS
  rw [last_at h, if_neg (by omega), show ((a.length : Int)).toNat + 1 = (a ++ [64]).length by simp, show a ++ 64 :: b = (a ++ [64]) ++ b by simp, List.take_left, List.drop_left]
  simp
theorem lowB_cases (c : UInt8) : (65 ≤ c.toNat ∧ c.toNat ≤ 90 ∧ (lowB c).toNat = c.toNat + 32) ∨ (¬ (65 ≤ c.toNat ∧ c.toNat ≤ 90) ∧ lowB c = c) := by
  by_cases h : 65 ≤ c.toNat ∧ c.toNat ≤ 90
  · left
    refine ⟨h.1, h.2, ?_⟩
    unfold lowB
    rw [if_pos h]
    simp
    omega
  · right
    refine ⟨h, ?_⟩
    unfold lowB
    rw [if_neg h]
theorem lowB_is {c d : UInt8} (hd : d.toNat < 65 ∨ 122 < d.toNat) : lowB c = d ↔ c = d := by
  rcases lowB_cases c with ⟨h1, h2, h3⟩ | ⟨h1, h2⟩
  · constructor
    · intro e
      rw [e] at h3
      omega
    · intro e
      rw [e] at h1 h2
      omega
  · rw [h2]
theorem lowB_low (c : UInt8) : lowB (lowB c) = lowB c := by
  rcases lowB_cases c with ⟨h1, h2, h3⟩ | ⟨h1, h2⟩
  · rcases lowB_cases (lowB c) with ⟨h4, h5, _⟩ | ⟨_, h5⟩
    · omega
    · exact h5
  · rw [h2, h2]
theorem labB_low (c : UInt8) : labB (lowB c) = labB c := by
  rcases lowB_cases c with ⟨h1, h2, h3⟩ | ⟨h1, h2⟩
  · have e1 : labB (lowB c) = true := by
      unfold labB letB
      simp only [Bool.or_eq_true, Bool.and_eq_true, decide_eq_true_eq]
      left; left; left; omega
    have e2 : labB c = true := by
      unfold labB letB
      simp only [Bool.or_eq_true, Bool.and_eq_true, decide_eq_true_eq]
      left; left; right; omega
    rw [e1, e2]
  · rw [h2]
theorem not_mem_low {d : UInt8} (hd : d.toNat < 65 ∨ 122 < d.toNat) {b : List UInt8} : d ∉ b.map lowB ↔ d ∉ b := by
  constructor
  · intro h hm
    exact h (List.mem_map.2 ⟨d, hm, (lowB_is hd).2 rfl⟩)
  · intro h hm
    obtain ⟨c, hc, e⟩ := List.mem_map.1 hm
    exact h ((lowB_is hd).1 e ▸ hc)
theorem parts_low : ∀ b : List UInt8, parts (b.map lowB) = (parts b).map (·.map lowB)
  | [] => rfl
  | x :: b => by
    rw [List.map_cons, parts, parts]
    by_cases hx : x = 46
    · rw [if_pos hx, if_pos ((lowB_is (d := 46) (by decide)).2 hx), parts_low b]
      rfl
    · rw [if_neg hx, if_neg (fun e => hx ((lowB_is (d := 46) (by decide)).1 e)), parts_low b]
      cases parts b <;> rfl
theorem labS_low (p : List UInt8) : labS (p.map lowB) = labS p := by
  have e : ∀ k, (p.map lowB).getD k 0 = lowB (p.getD k 0) := fun k => by
    simp only [List.getD, List.getElem?_map]
    cases p[k]? <;> rfl
  have e2 : ∀ c : UInt8, (lowB c != 45) = (c != 45) := fun c => by
    rw [Bool.eq_iff_iff, bne_iff_ne, bne_iff_ne, Ne, Ne, lowB_is (d := 45) (by decide)]
  unfold labS
  rw [e, e, e2, List.length_map, e2, List.all_map, show labB ∘ lowB = labB from funext labB_low]
  congr 3
  cases p <;> rfl
theorem domS_low (b : List UInt8) : domS (b.map lowB) = domS b := by
  unfold domS
  rw [parts_low, List.length_map, List.all_map, show labS ∘ (fun x => List.map lowB x) = labS from funext labS_low]
theorem mailS_fold (l : List UInt8) : mailS (foldS l) = mailS l := by
  rcases last_cases l with ⟨h, _⟩ | ⟨a, b, rfl, h, _⟩
  · rw [foldS_no h]
  · rw [foldS_at h]
    unfold mailS
    have h' : (64 : UInt8) ∉ b.map lowB := (not_mem_low (by decide)).2 h
    rw [(loc_at h').1, (loc_at h').2, (loc_at h).1, (loc_at h).2, domS_low]
theorem foldS_fold (l : List UInt8) : foldS (foldS l) = foldS l := by
  rcases last_cases l with ⟨h, _⟩ | ⟨a, b, rfl, h, _⟩
  · rw [foldS_no h, foldS_no h]
  · have h' : (64 : UInt8) ∉ b.map lowB := (not_mem_low (by decide)).2 h
    rw [foldS_at h, foldS_at h', List.map_map, show lowB ∘ lowB = lowB from funext lowB_low]
theorem foldS_length (l : List UInt8) : (foldS l).length = l.length := by
  rcases last_cases l with ⟨h, _⟩ | ⟨a, b, rfl, h, _⟩
  · rw [foldS_no h]
  · rw [foldS_at h]; simp
theorem mailS_no {l : List UInt8} (h : mailS l = true) : (62 : UInt8) ∉ l := by
  intro hm
  unfold mailS domS at h
  simp only [Bool.and_eq_true, List.all_eq_true] at h
  obtain ⟨⟨_, h2⟩, _, h3⟩ := h
  have hdom : ∀ b : List UInt8, (∀ p ∈ parts b, labS p = true) → (62 : UInt8) ∉ b := fun b hb hm => by
    obtain ⟨p, hp, hy⟩ := mem_parts (by decide) hm
    have := hb p hp
    unfold labS at this
    simp only [Bool.and_eq_true, List.all_eq_true] at this
    have := this.1.1.1.1 _ hy
    revert this
    decide
  have hloc : ∀ b : List UInt8, (∀ p ∈ parts b, atS p = true) → (62 : UInt8) ∉ b := fun b hb hm => by
    obtain ⟨p, hp, hy⟩ := mem_parts (by decide) hm
    have := hb p hp
    unfold atS at this
    simp only [Bool.and_eq_true, List.all_eq_true] at this
    have := this.1 _ hy
    revert this
    decide
  rcases last_cases l with ⟨hn, _⟩ | ⟨a, b, rfl, hb, _⟩
  · rw [(loc_no hn).1] at h2
    exact hloc l h2 hm
  · rw [(loc_at hb).1] at h2
    rw [(loc_at hb).2] at h3
    rcases List.mem_append.1 hm with h | h
    · exact hloc a h2 h
    · rcases List.mem_cons.1 h with e | h
      · cases e
      · exact hdom b h3 h
theorem parse_back {l more : List UInt8} (h : l = [] ∨ mailS l = true) : parseS (60 :: (l ++ 62 :: more)) = (l, more, true) := by
  have hn : (62 : UInt8) ∉ 60 :: l := by
    rcases h with rfl | h
    · decide
    · have := mailS_no h
      simp only [List.mem_cons, not_or]
      exact ⟨by decide, this⟩
  have e := ahead_at (b := more) hn
  rw [List.cons_append] at e
  unfold parseS
  rw [e.1, e.2, has_t (by simp)]
  have : (l == [] || mailS l) = true := by
    rcases h with rfl | h
    · rfl
    · rw [h]; simp
  rw [show (60 :: l).drop 1 = l from rfl, this]
  rfl
end Pa
end Go.Proofs.YteapnkedpmcokaaGreatDoor
