/- The check sum, records and what a text begins with, as plain functions on lists of bytes; their laws. Conditions: none. -/
namespace Go.Proofs.Ytkpolakdamiiiaa
set_option maxRecDepth 100000
/-- one bit falls out of the register. -/
def bitDown (s : Nat) : Nat := if s % 2 = 1 then (s / 2) ^^^ 3988292384 else s / 2
def downN : Nat → Nat → Nat
  | 0, s => s
  | k + 1, s => bitDown (downN k s)
def crcByte (s : Nat) (c : UInt8) : Nat := downN 8 (s ^^^ c.toNat)
def crcReg (l : List UInt8) : Nat := l.foldl crcByte 4294967295
def crc (l : List UInt8) : Nat := 4294967295 ^^^ crcReg l
theorem xor_lt {a b : Nat} (ha : a < 4294967296) (hb : b < 4294967296) : a ^^^ b < 4294967296 := Nat.xor_lt_two_pow (n := 32) ha hb
theorem bitDown_lt {s : Nat} (h : s < 4294967296) : bitDown s < 4294967296 := by
  unfold bitDown
  split
  · exact xor_lt (by omega) (by omega)
  · omega
theorem downN_lt {s : Nat} (h : s < 4294967296) : ∀ k, downN k s < 4294967296
  | 0 => h
  | k + 1 => bitDown_lt (downN_lt h k)
theorem crcByte_lt {s : Nat} (h : s < 4294967296) (c : UInt8) : crcByte s c < 4294967296 := downN_lt (xor_lt h (by have := c.toNat_lt; omega)) 8
theorem crcFold_lt : ∀ (l : List UInt8) (s : Nat), s < 4294967296 → l.foldl crcByte s < 4294967296
  | [], s, h => h
  | c :: l, s, h => by rw [List.foldl_cons]; exact crcFold_lt l _ (crcByte_lt h c)
theorem crcReg_lt (l : List UInt8) : crcReg l < 4294967296 := crcFold_lt l _ (by omega)
theorem crc_lt (l : List UInt8) : crc l < 4294967296 := xor_lt (by omega) (crcReg_lt l)
theorem crcReg_snoc (l : List UInt8) (c : UInt8) : crcReg (l ++ [c]) = crcByte (crcReg l) c := by unfold crcReg; simp
/-- the register's way where the byte comes in bit by bit. -/
def bitIn (c i r : Nat) : Nat := if (r ^^^ c / 2 ^ i) % 2 = 1 then (r / 2) ^^^ 3988292384 else r / 2
def bitsIn (c r : Nat) : Nat → Nat
  | 0 => r
  | i + 1 => bitIn c i (bitsIn c r i)
theorem xor_div2 (a b : Nat) : (a ^^^ b) / 2 = a / 2 ^^^ b / 2 := by
  have := Nat.shiftRight_xor_distrib (a := a) (b := b) (i := 1)
  simpa [Nat.shiftRight_eq_div_pow] using this
theorem bitsIn_down (c r : Nat) : ∀ i, bitsIn c r i ^^^ c / 2 ^ i = downN i (r ^^^ c)
  | 0 => by simp [bitsIn, downN]
  | i + 1 => by
    rw [bitsIn, downN, ← bitsIn_down c r i, bitIn, bitDown, xor_div2, Nat.div_div_eq_div_mul, ← Nat.pow_succ]
    split
    · rw [Nat.xor_assoc, Nat.xor_comm 3988292384, ← Nat.xor_assoc]
    · rfl
theorem bitsIn_lt (c : Nat) {r : Nat} (h : r < 4294967296) : ∀ i, bitsIn c r i < 4294967296
  | 0 => h
  | i + 1 => by
    have := bitsIn_lt c h i
    rw [bitsIn, bitIn]
    split
    · exact xor_lt (by omega) (by omega)
    · omega
theorem bitsIn_8 (c : UInt8) (r : Nat) : bitsIn c.toNat r 8 = crcByte r c := by
  have h := bitsIn_down c.toNat r 8
  rw [Nat.div_eq_of_lt (by have := c.toNat_lt; omega), Nat.xor_zero] at h
  exact h
/-- the four bytes of a number, the lowest ahead. -/
def le4 (n : Nat) : List UInt8 := [UInt8.ofNat n, UInt8.ofNat (n / 256), UInt8.ofNat (n / 65536), UInt8.ofNat (n / 16777216)]
theorem le4_length (n : Nat) : (le4 n).length = 4 := rfl
/-- the number of the first four bytes. -/
def num4 (l : List UInt8) : Nat := (l.getD 0 0).toNat + 256 * (l.getD 1 0).toNat + 65536 * (l.getD 2 0).toNat + 16777216 * (l.getD 3 0).toNat
theorem num4_lt (l : List UInt8) : num4 l < 4294967296 := by
  unfold num4
  have h0 := (l.getD 0 0).toNat_lt
  have h1 := (l.getD 1 0).toNat_lt
  have h2 := (l.getD 2 0).toNat_lt
  have h3 := (l.getD 3 0).toNat_lt
  omega
theorem num4_le4 (n : Nat) (h : n < 4294967296) (m : List UInt8) : num4 (le4 n ++ m) = n := by
  simp only [num4, le4, List.cons_append, List.nil_append, List.getD_eq_getElem?_getD, List.getElem?_cons_zero, List.getElem?_cons_succ, Option.getD_some, UInt8.toNat_ofNat']
  omega
/-- a record. -/
def rec1 (r : List UInt8) : List UInt8 := le4 r.length ++ (le4 (crc r) ++ r)
theorem rec1_length (r : List UInt8) : (rec1 r).length = 8 + r.length := by simp [rec1, le4_length]; omega
/-- how long the record is that a text begins with. -/
def cutN (b : List UInt8) : Option Nat :=
  if b.length < 8 then none
  else if 1000000 < num4 b then none
  else if b.length - 8 < num4 b then none
  else if crc ((b.drop 8).take (num4 b)) = num4 (b.drop 4) then some (num4 b) else none
theorem cutN_some {b : List UInt8} {n : Nat} (h : cutN b = some n) : n = num4 b ∧ 8 + n ≤ b.length := by
  unfold cutN at h
  split at h
  · cases h
  · split at h
    · cases h
    · split at h
      · cases h
      · split at h
        · injection h with h
          omega
        · cases h
/-- the records at the beginning. -/
def recs (b : List UInt8) : List (List UInt8) :=
  match h : cutN b with
  | none => []
  | some n => (b.drop 8).take n :: recs (b.drop (8 + n))
termination_by b.length
decreasing_by
  have := cutN_some h
  simp
  omega
theorem recs_none {b : List UInt8} (h : cutN b = none) : recs b = [] := by
  rw [recs]
  split
  · rfl
  · rename_i h'; rw [h] at h'; cases h'
theorem recs_some {b : List UInt8} {n : Nat} (h : cutN b = some n) : recs b = (b.drop 8).take n :: recs (b.drop (8 + n)) := by
  rw [recs]
  split
  · rename_i h'; rw [h] at h'; cases h'
  · rename_i k h'; rw [h] at h'; injection h' with h'; subst h'; rfl
/-- how many bytes records take. -/
def took (l : List (List UInt8)) : Nat := (l.map fun r => 8 + r.length).sum
theorem took_nil : took [] = 0 := rfl
theorem took_cons (r : List UInt8) (l : List (List UInt8)) : took (r :: l) = 8 + r.length + took l := by simp [took]
theorem took_append (a b : List (List UInt8)) : took (a ++ b) = took a + took b := by simp [took]
theorem took_le (b : List UInt8) : took (recs b) ≤ b.length := by
  generalize hk : b.length = k
  induction k using Nat.strongRecOn generalizing b with
  | ind k ih =>
    subst hk
    cases h : cutN b with
    | none => rw [recs_none h]; simp [took]
    | some n =>
      obtain ⟨_, h2⟩ := cutN_some h
      have := ih (b.drop (8 + n)).length (by simp; omega) (b.drop (8 + n)) rfl
      rw [recs_some h, took_cons]
      simp at this ⊢
      omega
theorem cutN_rec1 (r m : List UInt8) (h : r.length ≤ 1000000) : cutN (rec1 r ++ m) = some r.length := by
  have h1 : num4 (rec1 r ++ m) = r.length := by
    unfold rec1
    rw [List.append_assoc]
    exact num4_le4 _ (by omega) _
  have h2 : (rec1 r ++ m).drop 4 = le4 (crc r) ++ (r ++ m) := by
    simp [rec1, le4]
  have h3 : ((rec1 r ++ m).drop 8).take r.length = r := by
    have : (rec1 r ++ m).drop 8 = r ++ m := by simp [rec1, le4]
    rw [this]
    simp
  have h4 : num4 ((rec1 r ++ m).drop 4) = crc r := by rw [h2]; exact num4_le4 _ (crc_lt r) _
  unfold cutN
  rw [h1, h3, h4, if_neg (by simp [rec1_length]; omega), if_neg (by omega), if_neg (by simp [rec1_length]; omega), if_pos rfl]
/-- all records, one behind the other. -/
def wr (l : List (List UInt8)) : List UInt8 := l.flatMap rec1
theorem wr_nil : wr [] = [] := rfl
theorem wr_cons (r : List UInt8) (l : List (List UInt8)) : wr (r :: l) = rec1 r ++ wr l := rfl
theorem wr_append (a b : List (List UInt8)) : wr (a ++ b) = wr a ++ wr b := by simp [wr]
theorem wr_length (l : List (List UInt8)) : (wr l).length = took l := by
  induction l with
  | nil => rfl
  | cons r l ih => rw [wr_cons, took_cons, List.length_append, rec1_length, ih]
theorem recs_wr (l : List (List UInt8)) (m : List UInt8) (h : ∀ r ∈ l, r.length ≤ 1000000) : recs (wr l ++ m) = l ++ recs m := by
  induction l with
  | nil => rfl
  | cons r l ih =>
    have hr := h r (by simp)
    rw [wr_cons, List.append_assoc, recs_some (cutN_rec1 r _ hr)]
    have h3 : ((rec1 r ++ (wr l ++ m)).drop 8).take r.length = r := by
      have : (rec1 r ++ (wr l ++ m)).drop 8 = r ++ (wr l ++ m) := by simp [rec1, le4]
      rw [this]
      simp
    have h4 : (rec1 r ++ (wr l ++ m)).drop (8 + r.length) = wr l ++ m := by
      rw [← rec1_length]; simp
    rw [h3, h4, ih (fun x hx => h x (by simp [hx]))]
    rfl
/-- a record that is cut is none. -/
theorem cutN_torn (r : List UInt8) (k : Nat) (h : r.length ≤ 1000000) (hk : k < 8 + r.length) : cutN ((rec1 r).take k) = none := by
  have hl : ((rec1 r).take k).length = k := by simp [rec1_length]; omega
  by_cases h8 : k < 8
  · unfold cutN
    rw [if_pos (by omega)]
  · have h1 : num4 ((rec1 r).take k) = r.length := by
      have : (rec1 r).take k = le4 r.length ++ (le4 (crc r) ++ r).take (k - 4) := by
        unfold rec1
        rw [List.take_append, le4_length, List.take_of_length_le (by rw [le4_length]; omega)]
      rw [this]
      exact num4_le4 _ (by omega) _
    unfold cutN
    rw [h1, hl, if_neg (by omega), if_neg (by omega), if_pos (by omega)]
theorem recs_torn (r : List UInt8) (l : List (List UInt8)) (k : Nat) (h : r.length ≤ 1000000) (hk : k < 8 + r.length) : recs ((wr (r :: l)).take k) = [] := by
  have : (wr (r :: l)).take k = (rec1 r).take k := by
    rw [wr_cons, List.take_append, rec1_length, Nat.sub_eq_zero_of_le (by omega)]
    simp
  rw [this]
  exact recs_none (cutN_torn r k h hk)
/-- of records that are cut behind the first i, and ahead of the end of the next, the first i are found. -/
theorem recs_cut (l : List (List UInt8)) (i k : Nat) (r : List UInt8) (hr : l[i]? = some r) (h : ∀ x ∈ l, x.length ≤ 1000000) (h1 : took (l.take i) ≤ k) (h2 : k < took (l.take i) + (8 + r.length)) :
    recs ((wr l).take k) = l.take i := by
  have hd : l = l.take i ++ r :: l.drop (i + 1) := by
    have hi : i < l.length := by
      rcases Nat.lt_or_ge i l.length with h' | h'
      · exact h'
      · rw [List.getElem?_eq_none h'] at hr; cases hr
    have e : l[i] = r := by rw [List.getElem?_eq_getElem hi] at hr; injection hr
    rw [← e, ← List.drop_eq_getElem_cons hi, List.take_append_drop]
  have hw : (wr l).take k = wr (l.take i) ++ (wr (r :: l.drop (i + 1))).take (k - took (l.take i)) := by
    conv => lhs; rw [hd]
    rw [wr_append, List.take_append, wr_length, List.take_of_length_le (by rw [wr_length]; exact h1)]
  rw [hw, recs_wr _ _ (fun x hx => h x (List.mem_of_mem_take hx)), recs_torn r _ _ (h r (List.mem_of_getElem? hr)) (by omega)]
  simp
theorem recs_whole (l : List (List UInt8)) (k : Nat) (h : ∀ x ∈ l, x.length ≤ 1000000) (h1 : took l ≤ k) : recs ((wr l).take k) = l := by
  rw [List.take_of_length_le (by rw [wr_length]; exact h1)]
  have := recs_wr l [] h
  rw [List.append_nil, recs_none (b := []) (by decide +kernel), List.append_nil] at this
  exact this
end Go.Proofs.Ytkpolakdamiiiaa
