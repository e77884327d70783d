/- bytes.Cut at one byte and at a line's end, bytes.Clone, bytes.Trim, strings.Trim, strings.IndexByte, texts. Conditions: as stated at each. -/
import Derived.Test.YtliaciojlcajdaaDoorHdMath
import Derived.Lib.Bytes
import Derived.Test.YtliaciojlcajdaaDoorShelf
namespace Go.Proofs.YtliaciojlcajdaaDoor
set_option maxRecDepth 100000
namespace Hd
open Go.RowKit Go
theorem str_size (l : List UInt8) : (str l).size = l.length := by simp [str, ByteArray.size]
theorem str_data (l : List UInt8) : (str l).data.toList = l := by simp [str]
theorem str_extract (l : List UInt8) (a b : Nat) : (str l).extract a b = str ((l.drop a).take (b - a)) := by
  rw [Go.Lib.extract_eq, str_data]; rfl
theorem str_append (a b : List UInt8) : str a ++ str b = str (a ++ b) := by
  apply ByteArray.ext
  simp [str]
/-- the variable that bytes.Index looks at holds some number. -/
def Gl (w : World) : Prop := ∃ m, w.cell? ⟨0, 0, none⟩ = some (.int .i64 m)
theorem Gl.lt {w : World} (h : Gl w) : 0 < w.heap.size := by obtain ⟨m, h⟩ := h; exact World.block_lt_of_cell? w ⟨0, 0, none⟩ h
theorem Gl.below {w w' : World} {B : Nat} (h : Gl w) (hb : Below B w w') (hB : 0 < B) : Gl w' := by
  obtain ⟨m, hm⟩ := h
  exact ⟨m, (hb.cell (p := ⟨0, 0, none⟩) hB).trans hm⟩
def numsOf (l : List UInt8) : List Int := l.map fun b => (b.toNat : Int)
theorem numsOf_length (l : List UInt8) : (numsOf l).length = l.length := by simp [numsOf]
theorem bytes_nums (l : List UInt8) : Go.Lib.bytesOf (numsOf l) = l := by
  unfold Go.Lib.bytesOf numsOf
  rw [List.map_map, show ((fun n : Int => UInt8.ofNat n.toNat) ∘ fun b : UInt8 => (b.toNat : Int)) = id from by funext b; simp]
  simp
theorem nums_lt (l : List UInt8) : ∀ x ∈ numsOf l, 0 ≤ x ∧ x < 256 := by
  intro x hx
  simp only [numsOf, List.mem_map] at hx
  obtain ⟨b, _, rfl⟩ := hx
  have := b.toNat_lt
  omega
theorem nums_get (l : List UInt8) (i : Nat) (h : i < l.length) : (numsOf l).getD i 0 = ((l.getD i 0).toNat : Int) := by
  simp [numsOf, List.getD, h]
theorem nums_val (l : List UInt8) : (numsOf l).map (Value.int .u8) = bv l := by simp [numsOf, bv]
section
variable {w : World} {B : Nat} {A : Option Addr} {l : List UInt8}
theorem bts_cells {ad : Addr} (h : Bts w B (some ad) l) : ∀ i, i < l.length → w.cell? (ad.add i) = some (.int .u8 ((numsOf l).getD i 0)) := fun i hi => by
  obtain ⟨a', e, _, hc⟩ := h.at_ hi
  injection e with e
  subst e
  rw [nums_get l i hi]
  exact hc
theorem bts_in (h : Bts w B A l) : Go.Lib.BytesIn w A l.length (numsOf l) := by
  cases A with
  | none =>
    rw [bts_none h]
    exact Go.Lib.BytesIn.nil _ _ _
  | some ad => exact Go.Lib.BytesIn.of_cells (bts_cells h)
theorem bts_at (h : Bts w B A l) : Go.Lib.BytesAt w A l.length l := by
  have := (bts_in h).at8 (numsOf_length l) (nums_lt l)
  rwa [bytes_nums] at this
/-- what bytes.Cut hands back at a byte. -/
def cutOne (A : Option Addr) (cap : Nat) (c : UInt8) (l : List UInt8) : Value :=
  if Pa.has c l then .tuple #[.slice A (Pa.ahead c l).length cap, Go.Lib.fromV A l.length cap ((Pa.ahead c l).length + 1), .bool true] else .tuple #[.slice A l.length cap, .slice none 0 0, .bool false]
theorem cut_one (c : UInt8) (h : Bts w B A l) (cap g : Nat) (hcap : l.length ≤ cap) (hA : A = none → cap = 0) (hl : l.length ≤ 1000000) (hg : w.cell? ⟨g, 0, none⟩ = some (.int .u8 (c.toNat : Int))) :
    Calls Tryd.prog 47 #[.slice A l.length cap, .slice (some ⟨g, 0, none⟩) 1 1] w fun e w' => e = .returned (cutOne A cap c l) ∧ ∃ q, w' = w.drewN q := by
  have hidx : Calls Tryd.prog 59 #[.slice A l.length cap, .slice (some ⟨g, 0, none⟩) 1 1] w fun e w' => e = .returned (.int .i64 (if c ∈ l then ((Pa.ahead c l).length : Int) else -1)) ∧ ∃ q, w' = w.drewN q := by
    cases A with
    | none =>
      have hl0 := bts_none h
      subst hl0
      rw [hA rfl, if_neg (by simp)]
      exact (Tryd.bytes_Index_one_nil g 0 1 _ w hg).mono fun e w' ⟨h1, h2⟩ => ⟨h1, 0, h2⟩
    | some ad =>
      have := Tryd.bytes_Index_one_at ad l.length cap g 0 1 (numsOf l) _ w (numsOf_length l) (bts_cells h) hg
      rw [bytes_nums, show ((c.toNat : Int)).toNat.toUInt8 = c by simp, Pa.idx_has] at this
      exact this.mono fun e w' ⟨h1, h2⟩ => ⟨h1, 0, h2⟩
  have hal := Pa.ahead_len c l
  have := Tryd.bytes_Cut_of A (some ⟨g, 0, none⟩) l.length cap 1 1 _ w hcap (by split <;> omega) (fun h0 => by
    split at h0
    · rename_i hm
      rw [if_pos hm]
      have := Pa.behind_len hm
      omega
    · omega) (by omega) hidx
  refine this.mono fun e w' ⟨h1, h2⟩ => ⟨?_, h2⟩
  rw [h1]
  congr 1
  unfold cutOne Go.Lib.cutV
  by_cases hm : c ∈ l
  · rw [if_pos hm, Pa.has_t hm, if_pos rfl, if_pos (by omega)]
    rfl
  · rw [if_neg hm, Pa.has_f hm, if_neg (by decide), if_neg (by decide)]
/-- what bytes.Cut hands back at a line's end. -/
def cutEnd (A : Option Addr) (cap : Nat) (l : List UInt8) : Value :=
  match cut2 l with
  | some (s, _) => .tuple #[.slice A s.length cap, Go.Lib.fromV A l.length cap (s.length + 2), .bool true]
  | none => .tuple #[.slice A l.length cap, .slice none 0 0, .bool false]
theorem cut_end (h : Bts w B A l) (cap g : Nat) (hcap : l.length ≤ cap) (hA : A = none → cap = 0) (hl : l.length ≤ 1000000) (hg : Bts w (g + 1) (some ⟨g, 0, none⟩) [13, 10]) (hG : Gl w) :
    Calls Tryd.prog 47 #[.slice A l.length cap, .slice (some ⟨g, 0, none⟩) 2 2] w fun e w' => e = .returned (cutEnd A cap l) ∧ ∃ q, w' = w.drewN q := by
  obtain ⟨m, hm⟩ := hG
  have := Tryd.bytes_Cut_all A (some ⟨g, 0, none⟩) l.length cap 2 2 (numsOf l) (numsOf [13, 10]) m w (numsOf_length l) rfl (nums_lt _) (nums_lt _) (bts_in h) (bts_in hg) hA hcap (by omega) (by omega) hm
  refine this.mono fun e w' ⟨h1, h2⟩ => ⟨?_, h2⟩
  rw [h1, bytes_nums, bytes_nums, index_cut2]
  congr 1
  unfold cutEnd Go.Lib.cutV
  cases cut2 l with
  | none => rw [if_neg (by decide)]
  | some p =>
    obtain ⟨s, r⟩ := p
    simp only
    rw [if_pos (by omega)]
    rfl
/-- what is left of a slice. -/
theorem from_bts (h : Bts w B A l) (cap k : Nat) (hcap : l.length ≤ cap) (hm : cap ≤ maxLen) (hA : A = none → cap = 0) (hk : k ≤ l.length) :
    ∃ A' c', Go.Lib.fromV A l.length cap k = .slice A' (l.drop k).length c' ∧ Bts w B A' (l.drop k) ∧ (l.drop k).length ≤ c' ∧ c' ≤ maxLen ∧ (A' = none → c' = 0) := by
  refine ⟨if cap = k then A else A.map (·.add k), cap - k, ?_, ?_, by rw [List.length_drop]; omega, by omega, ?_⟩
  · unfold Go.Lib.fromV
    rw [List.length_drop]
  · have := h.drop (k := k) cap hcap
    rw [Nat.mul_one] at this
    exact this
  · intro e
    split at e
    · omega
    · cases A with
      | none => have := hA rfl; omega
      | some a => cases e
theorem clone_any (h : Bts w B A l) (cap : Nat) (hl : l.length ≤ 1000000) (hA : A ≠ none) :
    Calls Tryd.prog 49 #[.slice A l.length cap] w fun e w' => ∃ v, e = .returned v ∧ Own5 w' w.heap.size v l ∧ Below w.heap.size w w' := by
  cases A with
  | none => exact absurd rfl hA
  | some ad =>
    refine (Tryd.bytes_Clone_at ad l.length cap (numsOf l) w (numsOf_length l) (by omega) (bts_cells h)).mono ?_
    rintro e w' ⟨v, h1, h2, _, h3⟩
    rw [nums_val] at h2
    exact ⟨v, h1, h2, h3⟩
theorem trimS_len (l cs : List UInt8) : (Go.Lib.trimS l cs).length ≤ (Go.Lib.trimRightS l cs).length := by
  unfold Go.Lib.trimS Go.Lib.trimLeftS
  exact (List.dropWhile_suffix _).length_le
theorem ascii_blanks : ∀ (j : Nat) b, (⟨#[32, 9]⟩ : ByteArray).data.toList[j]? = some b → b.toNat < 128 := by
  intro j b h
  have : b ∈ [(32 : UInt8), 9] := List.mem_of_getElem? h
  simp only [List.mem_cons, List.not_mem_nil, or_false] at this
  rcases this with rfl | rfl <;> decide
theorem set_info : (Tryd.prog.info? 78).map (fun i => (i.zero, i.size)) = some (some (.agg (Array.replicate 256 (.bool false))), 256) := by kernel_rfl
theorem btrim_any (h : Bts w B A l) (hB : B ≤ w.heap.size) (cap : Nat) (hcap : l.length ≤ cap) (hm : cap ≤ maxLen) :
    Calls Tryd.prog 41 #[.slice A l.length cap, .string ⟨#[32, 9]⟩] w fun e w' => ∃ A' c', e = .returned (.slice A' (trimB l).length c') ∧ Bts w' B A' (trimB l) ∧ Below w.heap.size w w' := by
  have hm' : cap ≤ 9223372036854775807 := by unfold maxLen at hm; omega
  refine (Any.bytes_Trim_ascii Tryd.laysSlV6 (zero_of_info set_info).1 (zero_of_info set_info).2 A l.length cap l ⟨#[32, 9]⟩ w rfl hcap hm' (bts_at h) (by decide) ascii_blanks).mono ?_
  rintro e w' ⟨h1, h2⟩
  have e1 := Go.Lib.trimRightS_eq_take l [32, 9]
  have l1 := Go.Lib.trimRightS_len_le l [32, 9]
  have l2 := trimS_len l [32, 9]
  have hR : Bts w B A (Go.Lib.trimRightS l [32, 9]) := by rw [e1]; exact h.take _
  have e2 : trimB l = (Go.Lib.trimRightS l [32, 9]).drop ((Go.Lib.trimRightS l [32, 9]).length - (trimB l).length) := by
    unfold trimB Go.Lib.trimS Go.Lib.trimLeftS
    generalize Go.Lib.trimRightS l [32, 9] = r
    obtain ⟨t, ht⟩ := List.dropWhile_suffix (p := fun c => [32, 9].contains c) (l := r)
    generalize r.dropWhile (fun c => [32, 9].contains c) = d at *
    subst ht
    rw [show (t ++ d).length - d.length = t.length by simp]
    exact List.drop_left.symm
  change e = Ending.returned (Go.Lib.leftV A (Go.Lib.trimRightS l [32, 9]).length cap ((Go.Lib.trimRightS l [32, 9]).length - (trimB l).length)) at h1
  replace l2 : (trimB l).length ≤ (Go.Lib.trimRightS l [32, 9]).length := l2
  generalize Go.Lib.trimRightS l [32, 9] = r at *
  generalize htr : trimB l = t at *
  unfold Go.Lib.leftV at h1
  by_cases hj : r.length - t.length = r.length
  · rw [if_pos hj] at h1
    have h0 : t.length = 0 := by omega
    have : t = [] := List.eq_nil_of_length_eq_zero h0
    subst this
    exact ⟨none, 0, h1, Cs.nil, h2⟩
  · rw [if_neg hj] at h1
    unfold Go.Lib.fromV at h1
    refine ⟨if cap = r.length - t.length then A else A.map (·.add (r.length - t.length)), cap - (r.length - t.length), ?_, ?_, h2⟩
    · rw [h1]
      congr 2
      omega
    · have := hR.drop (k := r.length - t.length) cap (by omega)
      rw [Nat.mul_one, ← e2] at this
      exact this.below (h2.mono hB)
theorem strim_any (l : List UInt8) (w : World) (hl : l.length ≤ 1000000) :
    Calls Tryd.prog 58 #[.string (str l), .string ⟨#[32, 9]⟩] w fun e w' => e = .returned (.string (str (trimB l))) ∧ Below w.heap.size w w' := by
  have := Tryd.strings_Trim_laid (str l) ⟨#[32, 9]⟩ w (by rw [str_size]; omega) (by decide) ascii_blanks
  rw [str_data] at this
  exact this
theorem sclone_any (l : List UInt8) (w : World) (hl : l.length ≤ 1000000) :
    Calls Tryd.prog 33 #[.string (str l)] w fun e w' => e = .returned (.string (str l)) ∧ Below w.heap.size w w' := by
  have HI := Lib.hid (Tryd.stringslite_Clone (str l) w (by rw [str_size]; omega))
  go_enter Tryd.func33, Tryd.ntmps33
  go_wp2_with (first
    | (refine HI.out.mono ?_; rintro e w' ⟨rfl, hb⟩)
    | fail)
  go_ret
  exact ⟨rfl, hb⟩
theorem blank_idx (c : UInt8) : Go.Lib.indexByte [32, 9] c = if c = 32 then 0 else if c = 9 then 1 else -1 := by
  rw [Pa.idx_has]
  by_cases h1 : c = 32
  · subst h1; decide
  · by_cases h2 : c = 9
    · subst h2; decide
    · rw [if_neg h1, if_neg h2, if_neg]
      simp [h1, h2]
theorem blanks_any (c : UInt8) (w : World) :
    Calls Tryd.prog 48 #[.string ⟨#[32, 9]⟩, .int .u8 (c.toNat : Int)] w fun e w' => e = .returned (.int .i64 (Go.Lib.indexByte [32, 9] c)) ∧ w = w' := by
  refine (Tryd.strings_IndexByte ⟨#[32, 9]⟩ (c.toNat : Int) w).mono fun e w' ⟨h1, h2⟩ => ⟨?_, h2.symm⟩
  rw [h1]
  simp
end
end Hd
end Go.Proofs.YtliaciojlcajdaaDoor
