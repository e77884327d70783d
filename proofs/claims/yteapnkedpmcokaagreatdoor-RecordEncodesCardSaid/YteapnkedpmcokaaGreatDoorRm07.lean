/- MkMath DkMem. Conditions: as stated at each. -/
import Derived.Test.YteapnkedpmcokaaGreatDoorRm06
import Derived.Test.YteapnkedpmcokaaGreatDoorRm02
import Derived.Test.YteapnkedpmcokaaGreatDoorRm04
/- Trees of sums as plain functions on lists; their laws. Conditions: none. -/
namespace Go.Proofs.YteapnkedpmcokaaGreatDoor
set_option maxRecDepth 100000
/-- a leaf, a node. -/
def leafS (b : List UInt8) : List UInt8 := sha (0 :: b)
def nodeS (l r : List UInt8) : List UInt8 := sha (1 :: (l ++ r))
theorem leafS_length (b : List UInt8) : (leafS b).length = 32 := sha_length _
theorem nodeS_length (l r : List UInt8) : (nodeS l r).length = 32 := sha_length _
/-- the greatest power of 2 below n. -/
def spl (n : Nat) : Nat := 2 ^ Nat.log2 (n - 1)
theorem spl_pos (n : Nat) : 1 ≤ spl n := Nat.one_le_two_pow
theorem spl_lt {n : Nat} (h : 2 ≤ n) : spl n < n := by
  have := Nat.log2_self_le (n := n - 1) (by omega)
  unfold spl
  omega
theorem spl_two {n : Nat} (h : 2 ≤ n) : n ≤ 2 * spl n := by
  have := Nat.lt_log2_self (n := n - 1)
  unfold spl
  rw [Nat.pow_succ] at this
  omega
theorem spl_is {n j : Nat} (h1 : 2 ^ j < n) (h2 : n ≤ 2 * 2 ^ j) : spl n = 2 ^ j := by
  unfold spl
  have hp : 1 ≤ 2 ^ j := Nat.one_le_two_pow
  have e : (n - 1).log2 = j := (Nat.log2_eq_iff (by omega)).2 ⟨by omega, by rw [Nat.pow_succ]; omega⟩
  rw [e]
theorem spl_in {n m : Nat} (h : 2 ≤ n) (h1 : spl n < m) (h2 : m ≤ n) : spl m = spl n := by
  have := spl_two h
  unfold spl at h1 this ⊢
  exact spl_is h1 (by omega)
/-- the root of leaves. -/
def rootS (l : List (List UInt8)) : List UInt8 :=
  if _h : 2 ≤ l.length then nodeS (rootS (l.take (spl l.length))) (rootS (l.drop (spl l.length)))
  else match l with
    | [] => sha []
    | x :: _ => x
termination_by l.length
decreasing_by
  · rw [List.length_take]; have := spl_lt _h; omega
  · rw [List.length_drop]; have := spl_pos l.length; omega
theorem rootS_nil : rootS [] = sha [] := by rw [rootS]; rfl
theorem rootS_one (x : List UInt8) : rootS [x] = x := by rw [rootS]; rfl
theorem rootS_two {l : List (List UInt8)} (h : 2 ≤ l.length) : rootS l = nodeS (rootS (l.take (spl l.length))) (rootS (l.drop (spl l.length))) := by
  rw [rootS, dif_pos h]
/-- all of them are sums. -/
def Sms (l : List (List UInt8)) : Prop := ∀ x ∈ l, x.length = 32
theorem Sms.nil : Sms [] := fun _ h => by cases h
theorem Sms.one {x : List UInt8} (h : x.length = 32) : Sms [x] := fun y hy => by
  rw [List.mem_singleton] at hy
  rw [hy, h]
theorem Sms.take {l : List (List UInt8)} (h : Sms l) (k : Nat) : Sms (l.take k) := fun x hx => h x (List.mem_of_mem_take hx)
theorem Sms.drop {l : List (List UInt8)} (h : Sms l) (k : Nat) : Sms (l.drop k) := fun x hx => h x (List.mem_of_mem_drop hx)
theorem Sms.append {l m : List (List UInt8)} (h : Sms l) (h' : Sms m) : Sms (l ++ m) := fun x hx => by
  rw [List.mem_append] at hx
  exact hx.elim (h x) (h' x)
theorem Sms.getD {l : List (List UInt8)} (h : Sms l) {k : Nat} (hk : k < l.length) : (l.getD k []).length = 32 := by
  rw [List.getD_eq_getElem?_getD, List.getElem?_eq_getElem hk]
  exact h _ (List.getElem_mem hk)
theorem rootS_length {l : List (List UInt8)} (h : Sms l) : (rootS l).length = 32 := by
  rcases l with _ | ⟨x, _ | ⟨y, l⟩⟩
  · rw [rootS_nil]; exact sha_length _
  · rw [rootS_one]; exact h x (by simp)
  · rw [rootS_two (by simp)]; exact nodeS_length _ _
/-- the way of a leaf. -/
def wayS (l : List (List UInt8)) (i : Nat) : List (List UInt8) :=
  if _h : 2 ≤ l.length then
    if i < spl l.length then wayS (l.take (spl l.length)) i ++ [rootS (l.drop (spl l.length))]
    else wayS (l.drop (spl l.length)) (i - spl l.length) ++ [rootS (l.take (spl l.length))]
  else []
termination_by l.length
decreasing_by
  · rw [List.length_take]; have := spl_lt _h; omega
  · rw [List.length_drop]; have := spl_pos l.length; omega
theorem wayS_one {l : List (List UInt8)} (h : l.length ≤ 1) (i : Nat) : wayS l i = [] := by rw [wayS, dif_neg (by omega)]
theorem wayS_lo {l : List (List UInt8)} (h : 2 ≤ l.length) {i : Nat} (hi : i < spl l.length) : wayS l i = wayS (l.take (spl l.length)) i ++ [rootS (l.drop (spl l.length))] := by
  rw [wayS, dif_pos h, if_pos hi]
theorem wayS_hi {l : List (List UInt8)} (h : 2 ≤ l.length) {i : Nat} (hi : spl l.length ≤ i) : wayS l i = wayS (l.drop (spl l.length)) (i - spl l.length) ++ [rootS (l.take (spl l.length))] := by
  rw [wayS, dif_pos h, if_neg (by omega)]
theorem wayS_sms : ∀ (n : Nat) (l : List (List UInt8)) (i : Nat), l.length ≤ n → Sms l → Sms (wayS l i) ∧ (wayS l i).length ≤ l.length
  | 0, l, i, hn, h => by rw [wayS_one (by omega)]; exact ⟨Sms.nil, by simp⟩
  | n + 1, l, i, hn, h => by
    by_cases h2 : 2 ≤ l.length
    · have h3 := spl_lt h2
      have h4 := spl_pos l.length
      by_cases hi : i < spl l.length
      · rw [wayS_lo h2 hi]
        obtain ⟨a, b⟩ := wayS_sms n (l.take (spl l.length)) i (by rw [List.length_take]; omega) (h.take _)
        rw [List.length_take] at b
        exact ⟨a.append (Sms.one (rootS_length (h.drop _))), by rw [List.length_append]; simp; omega⟩
      · rw [wayS_hi h2 (by omega)]
        obtain ⟨a, b⟩ := wayS_sms n (l.drop (spl l.length)) (i - spl l.length) (by rw [List.length_drop]; omega) (h.drop _)
        rw [List.length_drop] at b
        exact ⟨a.append (Sms.one (rootS_length (h.take _))), by rw [List.length_append]; simp; omega⟩
    · rw [wayS_one (by omega)]
      exact ⟨Sms.nil, by simp⟩
/-- a beginning's part. -/
def subS (l : List (List UInt8)) (m : Nat) (whole : Bool) : List (List UInt8) :=
  if m = l.length then (if whole then [] else [rootS l])
  else if _h : 2 ≤ l.length then
    if m ≤ spl l.length then subS (l.take (spl l.length)) m whole ++ [rootS (l.drop (spl l.length))]
    else subS (l.drop (spl l.length)) (m - spl l.length) false ++ [rootS (l.take (spl l.length))]
  else []
termination_by l.length
decreasing_by
  · rw [List.length_take]; have := spl_lt _h; omega
  · rw [List.length_drop]; have := spl_pos l.length; omega
theorem subS_all {l : List (List UInt8)} {m : Nat} (h : m = l.length) (whole : Bool) : subS l m whole = if whole then [] else [rootS l] := by rw [subS, if_pos h]
theorem subS_lo {l : List (List UInt8)} {m : Nat} (h : 2 ≤ l.length) (hm : m ≤ spl l.length) (whole : Bool) : subS l m whole = subS (l.take (spl l.length)) m whole ++ [rootS (l.drop (spl l.length))] := by
  have := spl_lt h
  rw [subS, if_neg (by omega), dif_pos h, if_pos hm]
theorem subS_hi {l : List (List UInt8)} {m : Nat} (h : 2 ≤ l.length) (h1 : m ≠ l.length) (hm : spl l.length < m) (whole : Bool) : subS l m whole = subS (l.drop (spl l.length)) (m - spl l.length) false ++ [rootS (l.take (spl l.length))] := by
  rw [subS, if_neg h1, dif_pos h, if_neg (by omega)]
theorem subS_sms : ∀ (n : Nat) (l : List (List UInt8)) (m : Nat) (whole : Bool), l.length ≤ n → 1 ≤ m → m ≤ l.length → Sms l → Sms (subS l m whole) ∧ (subS l m whole).length ≤ l.length
  | 0, l, m, whole, hn, h1, h2, h => by omega
  | n + 1, l, m, whole, hn, h1, hm, h => by
    by_cases he : m = l.length
    · rw [subS_all he]
      cases whole
      · exact ⟨Sms.one (rootS_length h), by simp; omega⟩
      · exact ⟨Sms.nil, by simp⟩
    · have h2 : 2 ≤ l.length := by omega
      have h3 := spl_lt h2
      have h4 := spl_pos l.length
      by_cases hi : m ≤ spl l.length
      · rw [subS_lo h2 hi]
        obtain ⟨a, b⟩ := subS_sms n (l.take (spl l.length)) m whole (by rw [List.length_take]; omega) h1 (by rw [List.length_take]; omega) (h.take _)
        rw [List.length_take] at b
        exact ⟨a.append (Sms.one (rootS_length (h.drop _))), by rw [List.length_append]; simp; omega⟩
      · rw [subS_hi h2 he (by omega)]
        obtain ⟨a, b⟩ := subS_sms n (l.drop (spl l.length)) (m - spl l.length) false (by rw [List.length_drop]; omega) (by omega) (by rw [List.length_drop]; omega) (h.drop _)
        rw [List.length_drop] at b
        exact ⟨a.append (Sms.one (rootS_length (h.take _))), by rw [List.length_append]; simp; omega⟩
/-- what a way comes to: r is the way, its last sum first. -/
def upR (n i : Nat) (leaf : List UInt8) : List (List UInt8) → List UInt8 × Bool
  | [] => (leaf, decide (n = 1))
  | s :: r => if n = 1 then (leaf, false) else
    if i < spl n then (nodeS (upR (spl n) i leaf r).1 s, (upR (spl n) i leaf r).2)
    else (nodeS s (upR (n - spl n) (i - spl n) leaf r).1, (upR (n - spl n) (i - spl n) leaf r).2)
theorem upR_end {n : Nat} (h : n = 1) (i : Nat) (leaf s : List UInt8) (r : List (List UInt8)) : upR n i leaf (s :: r) = (leaf, false) := by rw [upR, if_pos h]
theorem upR_lo {n i : Nat} (h : n ≠ 1) (hi : i < spl n) (leaf s : List UInt8) (r : List (List UInt8)) : upR n i leaf (s :: r) = (nodeS (upR (spl n) i leaf r).1 s, (upR (spl n) i leaf r).2) := by rw [upR, if_neg h, if_pos hi]
theorem upR_hi {n i : Nat} (h : n ≠ 1) (hi : spl n ≤ i) (leaf s : List UInt8) (r : List (List UInt8)) : upR n i leaf (s :: r) = (nodeS s (upR (n - spl n) (i - spl n) leaf r).1, (upR (n - spl n) (i - spl n) leaf r).2) := by rw [upR, if_neg h, if_neg (by omega)]
theorem upR_length {leaf : List UInt8} (hl : leaf.length = 32) : ∀ (r : List (List UInt8)) (n i : Nat), (upR n i leaf r).1.length = 32
  | [], _, _ => hl
  | s :: r, n, i => by
    by_cases h1 : n = 1
    · rw [upR_end h1]; exact hl
    · by_cases h2 : i < spl n
      · rw [upR_lo h1 h2]; exact nodeS_length (upR (spl n) i leaf r).1 s
      · rw [upR_hi h1 (by omega)]; exact nodeS_length s (upR (n - spl n) (i - spl n) leaf r).1
/-- what a beginning's way comes to: both roots. -/
def bothR (m n : Nat) (whole : Bool) (old : List UInt8) : List (List UInt8) → List UInt8 × List UInt8 × Bool
  | [] => (old, old, decide (m = n) && whole)
  | s :: r => if m = n then (if !whole && decide (r = []) then (s, s, true) else (old, old, false)) else
    if m ≤ spl n then ((bothR m (spl n) whole old r).1, nodeS (bothR m (spl n) whole old r).2.1 s, (bothR m (spl n) whole old r).2.2)
    else (nodeS s (bothR (m - spl n) (n - spl n) false old r).1, nodeS s (bothR (m - spl n) (n - spl n) false old r).2.1, (bothR (m - spl n) (n - spl n) false old r).2.2)
theorem bothR_end {m n : Nat} (h : m = n) (whole : Bool) (old s : List UInt8) (r : List (List UInt8)) : bothR m n whole old (s :: r) = if !whole && decide (r = []) then (s, s, true) else (old, old, false) := by rw [bothR, if_pos h]
theorem bothR_lo {m n : Nat} (h : m ≠ n) (hi : m ≤ spl n) (whole : Bool) (old s : List UInt8) (r : List (List UInt8)) : bothR m n whole old (s :: r) = ((bothR m (spl n) whole old r).1, nodeS (bothR m (spl n) whole old r).2.1 s, (bothR m (spl n) whole old r).2.2) := by rw [bothR, if_neg h, if_pos hi]
theorem bothR_hi {m n : Nat} (h : m ≠ n) (hi : spl n < m) (whole : Bool) (old s : List UInt8) (r : List (List UInt8)) : bothR m n whole old (s :: r) = (nodeS s (bothR (m - spl n) (n - spl n) false old r).1, nodeS s (bothR (m - spl n) (n - spl n) false old r).2.1, (bothR (m - spl n) (n - spl n) false old r).2.2) := by rw [bothR, if_neg h, if_neg (by omega)]
/-- the sums beside the way down, from the top on, whether each stands to the left; how many are left; whether there were enough. -/
def apartR (fin : Nat → Nat → Bool) (n m : Nat) : List (List UInt8) → List (List UInt8 × Bool) × List (List UInt8) × Bool
  | [] => ([], [], fin n m)
  | s :: r => if fin n m then ([], s :: r, true) else
    if spl n < m then ((s, true) :: (apartR fin (n - spl n) (m - spl n) r).1, (apartR fin (n - spl n) (m - spl n) r).2)
    else ((s, false) :: (apartR fin (spl n) m r).1, (apartR fin (spl n) m r).2)
theorem apartR_end {fin : Nat → Nat → Bool} {n m : Nat} (h : fin n m = true) (s : List UInt8) (r : List (List UInt8)) : apartR fin n m (s :: r) = ([], s :: r, true) := by rw [apartR, if_pos h]
theorem apartR_left {fin : Nat → Nat → Bool} {n m : Nat} (h : fin n m = false) (hm : spl n < m) (s : List UInt8) (r : List (List UInt8)) : apartR fin n m (s :: r) = ((s, true) :: (apartR fin (n - spl n) (m - spl n) r).1, (apartR fin (n - spl n) (m - spl n) r).2) := by rw [apartR, if_neg (by simp [h]), if_pos hm]
theorem apartR_right {fin : Nat → Nat → Bool} {n m : Nat} (h : fin n m = false) (hm : m ≤ spl n) (s : List UInt8) (r : List (List UInt8)) : apartR fin n m (s :: r) = ((s, false) :: (apartR fin (spl n) m r).1, (apartR fin (spl n) m r).2) := by rw [apartR, if_neg (by simp [h]), if_neg (by omega)]
/-- one side taken in. -/
def sideS (s : List UInt8 × Bool) (sum : List UInt8) : List UInt8 := if s.2 then nodeS s.1 sum else nodeS sum s.1
theorem apart_up (leaf : List UInt8) : ∀ (r : List (List UInt8)) (n i : Nat), i < n →
    ((upR n i leaf r).2 = ((apartR (fun n _ => decide (n = 1)) n (i + 1) r).2.2 && decide ((apartR (fun n _ => decide (n = 1)) n (i + 1) r).2.1 = []))) ∧
    ((upR n i leaf r).2 = true → (upR n i leaf r).1 = (apartR (fun n _ => decide (n = 1)) n (i + 1) r).1.foldr sideS leaf)
  | [], n, i, h => by simp [upR, apartR]
  | s :: r, n, i, h => by
    by_cases h1 : n = 1
    · simp [upR, apartR, h1]
    · have h2 : 2 ≤ n := by omega
      have h3 := spl_lt h2
      have h4 := spl_pos n
      by_cases hi : i < spl n
      · rw [upR_lo h1 hi, apartR_right (decide_eq_false h1) (by omega)]
        obtain ⟨e1, e2⟩ := apart_up leaf r (spl n) i hi
        exact ⟨e1, fun h => by simp only [List.foldr_cons, sideS]; rw [e2 h]; rfl⟩
      · rw [upR_hi h1 (by omega), apartR_left (decide_eq_false h1) (by omega)]
        obtain ⟨e1, e2⟩ := apart_up leaf r (n - spl n) (i - spl n) (by omega)
        rw [show i - spl n + 1 = i + 1 - spl n from by omega] at e1 e2
        exact ⟨e1, fun h => by simp only [List.foldr_cons, sideS]; rw [e2 h]; rfl⟩
/-- one side taken in by both roots. -/
def bothS (s : List UInt8 × Bool) (x : List UInt8 × List UInt8) : List UInt8 × List UInt8 := if s.2 then (nodeS s.1 x.1, nodeS s.1 x.2) else (x.1, nodeS x.2 s.1)
/-- what Grown begins from, and whether it may. -/
def belowS (old : List UInt8) (turned : Bool) (rest : List (List UInt8)) : List UInt8 × Bool :=
  if turned then (match rest with | [s] => (s, true) | _ => (old, false)) else (old, decide (rest = []))
theorem apart_both (old : List UInt8) : ∀ (r : List (List UInt8)) (m n : Nat) (whole : Bool), 1 ≤ m → m ≤ n →
    ((bothR m n whole old r).2.2 = ((apartR (fun n m => decide (n = m)) n m r).2.2 && (belowS old (!whole || (apartR (fun n m => decide (n = m)) n m r).1.any (·.2)) (apartR (fun n m => decide (n = m)) n m r).2.1).2)) ∧
    ((bothR m n whole old r).2.2 = true → ((bothR m n whole old r).1, (bothR m n whole old r).2.1) =
      (apartR (fun n m => decide (n = m)) n m r).1.foldr bothS ((belowS old (!whole || (apartR (fun n m => decide (n = m)) n m r).1.any (·.2)) (apartR (fun n m => decide (n = m)) n m r).2.1).1, (belowS old (!whole || (apartR (fun n m => decide (n = m)) n m r).1.any (·.2)) (apartR (fun n m => decide (n = m)) n m r).2.1).1))
  | [], m, n, whole, h1, h2 => by
    by_cases h : m = n
    · subst h
      cases whole <;> simp [bothR, apartR, belowS]
    · have h' : n ≠ m := fun e => h e.symm
      cases whole <;> simp [bothR, apartR, belowS, h, h']
  | s :: r, m, n, whole, h1, h2 => by
    by_cases h : m = n
    · subst h
      cases whole
      · rcases r with _ | ⟨t, r⟩ <;> simp [bothR, apartR, belowS]
      · simp [bothR, apartR, belowS]
    · have h3 : 2 ≤ n := by omega
      have h4 := spl_lt h3
      have h5 := spl_pos n
      by_cases hi : m ≤ spl n
      · rw [bothR_lo h hi, apartR_right (decide_eq_false (fun e => h e.symm)) hi]
        obtain ⟨e1, e2⟩ := apart_both old r m (spl n) whole h1 hi
        simp only [List.any_cons, Bool.false_or, List.foldr_cons]
        refine ⟨e1, fun hb => ?_⟩
        rw [← e2 hb]
        rfl
      · rw [bothR_hi h (by omega), apartR_left (decide_eq_false (fun e => h e.symm)) (by omega)]
        obtain ⟨e1, e2⟩ := apart_both old r (m - spl n) (n - spl n) false (by omega) (by omega)
        simp only [List.any_cons, Bool.true_or, Bool.or_true, List.foldr_cons, Bool.not_false] at e1 e2 ⊢
        refine ⟨e1, fun hb => ?_⟩
        rw [← e2 hb]
        rfl
/-- each way that is made is taken. -/
theorem up_way : ∀ (k : Nat) (l : List (List UInt8)) (i : Nat), l.length ≤ k → i < l.length → upR l.length i (l.getD i []) (wayS l i).reverse = (rootS l, true)
  | 0, l, i, hk, hi => by omega
  | k + 1, l, i, hk, hi => by
    by_cases h1 : l.length = 1
    · rw [wayS_one (by omega)]
      obtain ⟨x, rfl⟩ := List.length_eq_one_iff.1 h1
      obtain rfl : i = 0 := by simpa using hi
      rw [rootS_one]
      rfl
    · have h2 : 2 ≤ l.length := by omega
      have h3 := spl_lt h2
      have h4 := spl_pos l.length
      have hT : (l.take (spl l.length)).length = spl l.length := by rw [List.length_take]; omega
      have hD : (l.drop (spl l.length)).length = l.length - spl l.length := List.length_drop
      by_cases hs : i < spl l.length
      · have ih := up_way k (l.take (spl l.length)) i (by omega) (by omega)
        have e : (l.take (spl l.length)).getD i [] = l.getD i [] := by simp [List.getD_eq_getElem?_getD, hs]
        rw [hT, e] at ih
        rw [wayS_lo h2 hs, List.reverse_append, List.reverse_singleton, List.singleton_append, upR_lo h1 hs, ih, rootS_two h2]
      · have ih := up_way k (l.drop (spl l.length)) (i - spl l.length) (by omega) (by omega)
        have e : (l.drop (spl l.length)).getD (i - spl l.length) [] = l.getD i [] := by
          rw [List.getD_eq_getElem?_getD, List.getElem?_drop, List.getD_eq_getElem?_getD, show spl l.length + (i - spl l.length) = i from by omega]
        rw [hD, e] at ih
        rw [wayS_hi h2 (by omega), List.reverse_append, List.reverse_singleton, List.singleton_append, upR_hi h1 (by omega), ih, rootS_two h2]
/-- each beginning's way is taken. -/
theorem both_sub : ∀ (k : Nat) (l : List (List UInt8)) (m : Nat) (whole : Bool) (old : List UInt8), l.length ≤ k → 1 ≤ m → m ≤ l.length → (whole = true → old = rootS (l.take m)) →
    bothR m l.length whole old (subS l m whole).reverse = (rootS (l.take m), rootS l, true)
  | 0, l, m, whole, old, hk, h1, hm, ho => by omega
  | k + 1, l, m, whole, old, hk, h1, hm, ho => by
    by_cases he : m = l.length
    · rw [subS_all he]
      have eT : l.take m = l := List.take_of_length_le (by omega)
      rw [eT] at ho ⊢
      cases whole
      · simp [bothR, he]
      · simp [bothR, he, ho rfl]
    · have h2 : 2 ≤ l.length := by omega
      have h3 := spl_lt h2
      have h4 := spl_pos l.length
      have hT : (l.take (spl l.length)).length = spl l.length := by rw [List.length_take]; omega
      have hD : (l.drop (spl l.length)).length = l.length - spl l.length := List.length_drop
      by_cases hs : m ≤ spl l.length
      · have eT : (l.take (spl l.length)).take m = l.take m := by rw [List.take_take, Nat.min_eq_left hs]
        have ih := both_sub k (l.take (spl l.length)) m whole old (by omega) h1 (by omega) (by rw [eT]; exact ho)
        rw [hT, eT] at ih
        rw [subS_lo h2 hs, List.reverse_append, List.reverse_singleton, List.singleton_append, bothR_lo he hs, ih, rootS_two h2]
      · have ih := both_sub k (l.drop (spl l.length)) (m - spl l.length) false old (by omega) (by omega) (by omega) (fun h => by cases h)
        rw [hD] at ih
        rw [subS_hi h2 he (by omega), List.reverse_append, List.reverse_singleton, List.singleton_append, bothR_hi he (by omega), ih, rootS_two h2]
        have hm2 : (l.take m).length = m := by rw [List.length_take]; omega
        have hspl : spl m = spl l.length := spl_in h2 (by omega) hm
        rw [rootS_two (l := l.take m) (by omega), hm2, hspl, List.take_take, Nat.min_eq_left (by omega), List.drop_take]
end Go.Proofs.YteapnkedpmcokaaGreatDoor
/- Blocks known whole, what may have turned, regions that read and end in one write: words for the disk's calls. Conditions: none. -/
namespace Go.Proofs.YteapnkedpmcokaaGreatDoor
set_option maxRecDepth 100000
open Go.RowKit Go
/-- Block g of W is these cells of type t, and none is frozen. -/
def BlkIs (W : World) (g : Nat) (t : TypeId) (cs : Array Value) : Prop := W.heap[g]? = some (.cells cs t (0, 0))
theorem BlkIs.cell {W : World} {g : Nat} {t : TypeId} {cs : Array Value} (h : BlkIs W g t cs) (i : Nat) : W.cell? ⟨g, i, none⟩ = cs[i]? := cell_of_row W g i cs t (0, 0) h
theorem BlkIs.froz {W : World} {g : Nat} {t : TypeId} {cs : Array Value} (h : BlkIs W g t cs) (i : Nat) : W.frozen? ⟨g, i, none⟩ = false := by
  unfold BlkIs at h
  simp [World.frozen?, h]
/-- W1 is W but for what has been drawn. -/
def Alk (W W1 : World) : Prop := W1.heap = W.heap ∧ W1.os = W.os ∧ W1.tape = W.tape ∧ W1.output = W.output
theorem Alk.blk {W W1 : World} (h : Alk W W1) {g : Nat} {t : TypeId} {cs : Array Value} (hb : BlkIs W g t cs) : BlkIs W1 g t cs := by unfold BlkIs; rw [h.1]; exact hb
theorem still_tail {P : Program} {id : Nat} {Q : Exit → Act → World → Prop} {a : Act} {w : World} {l : List Oper} (n : Nat) (hm : P.follows .mixedOrders = true) (hB : Region.lexTailB .any l.toArray n = true)
    (h : ∀ w1, Alk w w1 → wpStill P l.toArray w1 (fun a' => wpList P l.toArray Q (l.drop n) a' w1) (l.take n) a) : (Code.region id l.toArray true).wp P Q a w :=
  wp_region_still_tail n hm hB (h _ ⟨rfl, rfl, rfl, rfl⟩)
/-- What may have turned: the blocks of p, and new ones. -/
structure Tn (p : Nat → Prop) (W W' : World) : Prop where
  os : W'.os = W.os
  tape : W'.tape = W.tape
  output : W'.output = W.output
  size : W.heap.size ≤ W'.heap.size
  block : ∀ i, i < W.heap.size → ¬ p i → W'.heap[i]? = W.heap[i]?
theorem Tn.refl (p : Nat → Prop) (W : World) : Tn p W W := ⟨rfl, rfl, rfl, Nat.le_refl _, fun _ _ _ => rfl⟩
theorem Tn.trans {p : Nat → Prop} {a b c : World} (h : Tn p a b) (k : Tn p b c) : Tn p a c :=
  ⟨k.os.trans h.os, k.tape.trans h.tape, k.output.trans h.output, Nat.le_trans h.size k.size, fun i hi hp => (k.block i (Nat.lt_of_lt_of_le hi h.size) hp).trans (h.block i hi hp)⟩
theorem Tn.alk {p : Nat → Prop} {a b c : World} (h : Tn p a b) (k : Alk b c) : Tn p a c :=
  h.trans ⟨k.2.1, k.2.2.1, k.2.2.2, by rw [k.1]; exact Nat.le_refl _, fun i _ _ => by rw [k.1]⟩
theorem Tn.alloc {p : Nat → Prop} {a b : World} (h : Tn p a b) (o : Obj) : Tn p a (b.alloc o) :=
  h.trans ⟨rfl, rfl, rfl, by simp, fun i hi _ => Below.heap_alloc b o i hi⟩
theorem Tn.setCell {p : Nat → Prop} {a b : World} (h : Tn p a b) {x : Addr} (hx : p x.block ∨ a.heap.size ≤ x.block) (v : Value) : Tn p a (b.setCell x v) :=
  ⟨h.os, h.tape, h.output, by have := h.size; simpa [World.setCell] using this, fun i hi hp => (Below.heap_setCell b x v i (by
    rintro rfl
    rcases hx with hx | hx
    · exact hp hx
    · omega)).trans (h.block i hi hp)⟩
theorem Tn.grown {p : Nat → Prop} {a b c : World} (h : Tn p a b) {row : Option Nat} (k : b.grownBy c row) (hr : ∀ g, row = some g → p g ∨ a.heap.size ≤ g) : Tn p a c :=
  ⟨k.os.trans h.os, k.tape.trans h.tape, k.output.trans h.output, Nat.le_trans h.size k.size, fun i hi hp => (k.block i (Nat.lt_of_lt_of_le hi h.size) (fun e => by
    rcases hr i e.symm with hx | hx
    · exact hp hx
    · omega)).trans (h.block i hi hp)⟩
theorem Tn.mono {p q : Nat → Prop} {a b : World} (h : Tn p a b) (hpq : ∀ i, i < a.heap.size → p i → q i) : Tn q a b :=
  ⟨h.os, h.tape, h.output, h.size, fun i hi hq => h.block i hi (fun hp => hq (hpq i hi hp))⟩
theorem Tn.below {p : Nat → Prop} {a b : World} (h : Tn p a b) {N : Nat} (hN : N ≤ a.heap.size) (hp : ∀ i, i < N → ¬ p i) : Below N a b :=
  ⟨h.os, h.tape, h.output, h.size, fun i hi => h.block i (by omega) (hp i hi)⟩
theorem Tn.of_below {p : Nat → Prop} {a b : World} (h : Below a.heap.size a b) : Tn p a b := ⟨h.os, h.tape, h.output, h.size, fun i hi _ => h.block i hi⟩
theorem BlkIs.lt {W : World} {g : Nat} {t : TypeId} {cs : Array Value} (h : BlkIs W g t cs) : g < W.heap.size := (Array.getElem?_eq_some_iff.1 h).1
theorem BlkIs.new (W : World) (t : TypeId) (cs : Array Value) : BlkIs (W.alloc (.cells cs t)) W.heap.size t cs := heap_alloc_new W _
theorem BlkIs.alloc {W : World} {g : Nat} {t : TypeId} {cs : Array Value} (h : BlkIs W g t cs) (o : Obj) : BlkIs (W.alloc o) g t cs := (Below.heap_alloc W o g h.lt).trans h
theorem BlkIs.put {W : World} {g : Nat} {t : TypeId} {cs : Array Value} (h : BlkIs W g t cs) (i : Nat) (u : Value) : BlkIs (W.setCell ⟨g, i, none⟩ u) g t (cs.setIfInBounds i u) := by
  unfold BlkIs at h ⊢
  simp [World.setCell, Array.getElem?_modify, h]
theorem BlkIs.far {W : World} {g : Nat} {t : TypeId} {cs : Array Value} (h : BlkIs W g t cs) {x : Addr} (hx : g ≠ x.block) (u : Value) : BlkIs (W.setCell x u) g t cs := (Below.heap_setCell W x u g hx).trans h
theorem BlkIs.tn {p : Nat → Prop} {W W' : World} {g : Nat} {t : TypeId} {cs : Array Value} (h : BlkIs W g t cs) (k : Tn p W W') (hp : ¬ p g) : BlkIs W' g t cs := (k.block g h.lt hp).trans h
theorem BlkIs.grown {W W' : World} {g : Nat} {t : TypeId} {cs : Array Value} {row : Option Nat} (h : BlkIs W g t cs) (hg : W.grownBy W' row) (hr : row ≠ some g) : BlkIs W' g t cs := (hg.block g h.lt (fun e => hr e.symm)).trans h
/-- a map's block. -/
theorem Held.lt {w : World} {P : Program} {k : TypeId} {b n : Nat} {D : DataW Value} (h : Held w P k b n D) : b < w.heap.size := World.ownsMap.lt h
theorem Held.same {w w' : World} {P : Program} {k : TypeId} {b n : Nat} {D : DataW Value} (h : Held w P k b n D) (hb : w'.heap[b]? = w.heap[b]?) : Held w' P k b n D := by
  obtain ⟨es, clock, h1, h2, h3, h4⟩ := h
  exact ⟨es, clock, hb.trans h1, h2, h3, h4⟩
theorem Held.tn {p : Nat → Prop} {w w' : World} {P : Program} {k : TypeId} {b n : Nat} {D : DataW Value} (h : Held w P k b n D) (hk : Tn p w w') (hp : ¬ p b) : Held w' P k b n D := h.same (hk.block b h.lt hp)
theorem Held.not_blk {w : World} {P : Program} {k : TypeId} {b n : Nat} {D : DataW Value} (h : Held w P k b n D) {g : Nat} {t : TypeId} {cs : Array Value} (hg : BlkIs w g t cs) : b ≠ g := by
  rintro rfl
  obtain ⟨es, clock, h1, _⟩ := h
  unfold BlkIs at hg
  rw [h1] at hg
  cases hg
end Go.Proofs.YteapnkedpmcokaaGreatDoor
