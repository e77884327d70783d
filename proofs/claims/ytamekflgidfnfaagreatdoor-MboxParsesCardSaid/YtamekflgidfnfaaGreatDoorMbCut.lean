/- The library's calls that mbox makes, over bytes wherever they lie; marked, whole, need. Conditions: as stated at each. -/
import Derived.Test.YtamekflgidfnfaaGreatDoorMbLet
import Derived.Test.YtamekflgidfnfaaGreatDoorFaCall
import Derived.Test.YtamekflgidfnfaaGreatDoorShelf
import Derived.Test.YtamekflgidfnfaaGreatDoorRgKey
import Derived.Lib.SlBytesConst
namespace Go.Proofs.YtamekflgidfnfaaGreatDoor
set_option maxRecDepth 100000
namespace Mb
open Go.RowKit Go.Shelf Go
attribute [local go_sem] Oper.semAt_some
def numsOf (l : L) : List Int := l.map fun b => (b.toNat : Int)
theorem numsOf_length (l : L) : (numsOf l).length = l.length := by simp [numsOf]
theorem bytes_nums (l : L) : Go.Lib.bytesOf (numsOf l) = l := by
  unfold Go.Lib.bytesOf numsOf
  rw [List.map_map, show ((fun n : Int => UInt8.ofNat n.toNat) ∘ fun b : UInt8 => (b.toNat : Int)) = id from by funext b; simp]
  simp
theorem nums_lt (l : L) : ∀ x ∈ numsOf l, 0 ≤ x ∧ x < 256 := by
  intro x hx
  simp only [numsOf, List.mem_map] at hx
  obtain ⟨b, _, rfl⟩ := hx
  have := b.toNat_lt
  omega
theorem nums_get (l : L) (i : Nat) (h : i < l.length) : (numsOf l).getD i 0 = ((l.getD i 0).toNat : Int) := by
  simp [numsOf, List.getD, h]
theorem add_at (g o k : Nat) : (⟨g, o, none⟩ : Addr).add k = ⟨g, o + k, none⟩ := by
  unfold Addr.add
  split
  · rename_i h; subst h; rfl
  · rfl
theorem bts_new (w : World) (l : L) (C : Array Value) (fr : Nat × Nat) (h : C.toList = bv l) : Bts (w.alloc (.cells C 5 fr)) (w.heap.size + 1) (some ⟨w.heap.size, 0, none⟩) l := Bts.newm w l C fr h
theorem conv_const (w : World) (C : Array Value) (n c : Nat) : (convert 22 22 (.slice (some ⟨w.heap.size, 0, none⟩) n c)).run Tryz.prog (w.alloc (.cells C 5)) = .ok (.slice (some ⟨w.heap.size, 0, none⟩) n c) (w.alloc (.cells C 5 (C.size, C.size + 1))) :=
  Lib.run_convert_bytes_const (P := Tryz.prog) w 22 5 C n c Tryz.underlying22 Tryz.underlying5
theorem grown_alloc (w : World) (o : Obj) : w.grownBy (w.alloc o) none := World.grownBy_alloc w o none
section
variable {w : World} {B : Nat} {A : Option Addr} {l : L}
theorem conv_str (h : Bts w B A l) (c : Nat) : (convert 22 9 (.slice A l.length c)).run Tryz.prog w = .ok (.string (str l)) w :=
  run_str Tryz.prog Tryz.underlying22 Tryz.underlying5 Tryz.underlying9 c h
theorem bts_cells {ad : Addr} (h : Bts w B (some ad) l) : ∀ i, i < l.length → w.cell? (ad.add i) = some (.int .u8 ((numsOf l).getD i 0)) := fun i hi => by
  obtain ⟨a', e, _, hc⟩ := h.at_ hi
  injection e with e
  subst e
  rw [nums_get l i hi]
  exact hc
theorem bts_in (h : Bts w B A l) : Go.Lib.BytesIn w A l.length (numsOf l) := by
  cases A with
  | none =>
    rw [bts_none h]
    exact Go.Lib.BytesIn.nil _ _ _
  | some ad => exact Go.Lib.BytesIn.of_cells (bts_cells h)
/-- where there is a byte there is a block. -/
theorem bts_at_ (h : Bts w B A l) (hl : 0 < l.length) : ∃ g o, A = some ⟨g, o, none⟩ ∧ g < B ∧ ∀ k, k < l.length → w.cell? ⟨g, o + k, none⟩ = some (.int .u8 ((l.getD k 0).toNat : Int)) := by
  obtain ⟨ad, e, hb, hc⟩ := h.at_ hl
  have hsp := World.cell?_spot hc
  rw [add_0] at hsp
  obtain ⟨g, o, sp⟩ := ad
  obtain rfl : sp = none := hsp
  refine ⟨g, o, e, hb, fun k hk => ?_⟩
  obtain ⟨ad', e', _, hc'⟩ := h.at_ hk
  rw [e] at e'
  injection e' with e'
  subst e'
  rwa [add_at] at hc'
/-- where a byte first stands. -/
def idx (c : UInt8) (l : L) : Int := if c ∈ l then ((Pa.ahead c l).length : Int) else -1
theorem index_any (c : UInt8) (h : Bts w B A l) (hl : 0 < l.length) (cap g d : Nat) (hg : w.cell? ⟨g, 0, none⟩ = some (.int .u8 (c.toNat : Int))) :
    Calls Tryz.prog 78 #[.slice A l.length cap, .slice (some ⟨g, 0, none⟩) 1 d] w fun e w' => e = .returned (.int .i64 (idx c l)) ∧ w = w' := by
  obtain ⟨b, o, rfl, _, hc⟩ := bts_at_ h hl
  have := Tryz.bytes_Index_one b o l.length cap g 0 d (numsOf l) _ w (numsOf_length l) (fun i hi => by rw [nums_get l i hi]; exact hc i hi) hg
  rw [bytes_nums, show ((c.toNat : Int)).toNat.toUInt8 = c by simp, Pa.idx_has] at this
  exact this.mono fun e w' ⟨h1, h2⟩ => ⟨h1, h2.symm⟩
theorem prefix_any {B' : Nat} {A' : Option Addr} {m : L} (h : Bts w B A l) (h' : Bts w B' A' m) (c d : Nat) (hc : l.length ≤ c) :
    Calls Tryz.prog 50 #[.slice A l.length c, .slice A' m.length d] w fun e w' => e = .returned (.bool (Go.Lib.hasPrefix l m)) ∧ w = w' := by
  have := Tryz.bytes_HasPrefix_all A A' l.length c m.length d (numsOf l) (numsOf m) w (numsOf_length l) (numsOf_length m) hc (bts_in h) (bts_in h')
  rw [bytes_nums, bytes_nums] at this
  exact this.mono fun e w' ⟨h1, h2⟩ => ⟨h1, h2.symm⟩
theorem suffix_any {B' : Nat} {A' : Option Addr} {m : L} (h : Bts w B A l) (h' : Bts w B' A' m) (c d : Nat) (hc : l.length ≤ c) (hl : l.length ≤ 1000000) :
    Calls Tryz.prog 79 #[.slice A l.length c, .slice A' m.length d] w fun e w' => e = .returned (.bool (Go.Lib.hasSuffix l m)) ∧ w = w' := by
  have := Tryz.bytes_HasSuffix_all A A' l.length c m.length d (numsOf l) (numsOf m) w (numsOf_length l) (numsOf_length m) hc (by omega) (bts_in h) (bts_in h')
  rw [bytes_nums, bytes_nums] at this
  exact this.mono fun e w' ⟨h1, h2⟩ => ⟨h1, h2.symm⟩
/-- what is left of a slice. -/
theorem from_bts (h : Bts w B A l) (cap k : Nat) (hcap : l.length ≤ cap) (hk : k ≤ l.length) (hA : A = none → cap = 0) :
    ∃ A' c', Value.slice (if cap = k then A else A.map (·.add k)) (l.length - k) (cap - k) = .slice A' (l.drop k).length c' ∧ Bts w B A' (l.drop k) ∧ (l.drop k).length ≤ c' ∧ c' ≤ cap ∧ (A' = none → c' = 0) := by
  refine ⟨if cap = k then A else A.map (·.add k), cap - k, ?_, ?_, by rw [List.length_drop]; omega, by omega, ?_⟩
  · rw [List.length_drop]
  · have := h.drop (k := k) cap hcap
    rw [Nat.mul_one] at this
    exact this
  · intro e
    split at e
    · omega
    · cases A with
      | none => have := hA rfl; omega
      | some a => cases e
theorem trimp_any {B' : Nat} {A' : Option Addr} (h : Bts w B A l) (h' : Bts w B' A' [62]) (c d : Nat) (hc : l.length ≤ c) (hA : A = none → c = 0) :
    Calls Tryz.prog 88 #[.slice A l.length c, .slice A' 1 d] w fun e w' => w = w' ∧ ∃ A2 c2, e = .returned (.slice A2 (Go.Lib.trimPrefix l [62]).length c2) ∧ Bts w B A2 (Go.Lib.trimPrefix l [62]) ∧ (Go.Lib.trimPrefix l [62]).length ≤ c2 ∧ c2 ≤ c ∧ (A2 = none → c2 = 0) := by
  have := Tryz.bytes_TrimPrefix_all A A' l.length c 1 d (numsOf l) (numsOf [62]) w (numsOf_length l) rfl hc (bts_in h) (bts_in h')
  refine this.mono fun e w' ⟨h1, h2⟩ => ⟨h2.symm, ?_⟩
  have hv : Go.Lib.trimPrefixV A l.length c (numsOf l) (numsOf [62]) = if Go.Lib.hasPrefix l [62] = true then Value.slice (if c = 1 then A else A.map (·.add 1)) (l.length - 1) (c - 1) else .slice A l.length c := by
    rcases Nat.eq_zero_or_pos l.length with h0 | h0
    · obtain rfl := List.eq_nil_of_length_eq_zero h0
      rw [if_neg (by decide)]
      unfold Go.Lib.trimPrefixV
      split
      · rfl
      · rfl
    · obtain ⟨b, o, rfl, _, _⟩ := bts_at_ h h0
      show Go.Lib.bytesTrimPrefix b o l.length c (numsOf l) (numsOf [62]) = _
      unfold Go.Lib.bytesTrimPrefix
      rw [bytes_nums, bytes_nums]
      cases hq : Go.Lib.hasPrefix l [62] <;> simp [numsOf, add_at, Go.Lib.sliceFrom]
  rw [h1, hv]
  unfold Go.Lib.trimPrefix
  by_cases hp : Go.Lib.hasPrefix l [62] = true
  · have hl : 1 ≤ l.length := by
      cases l with
      | nil => exact absurd hp (by decide)
      | cons x l => simp
    obtain ⟨A2, c2, e1, e2, e3, e4, e5⟩ := from_bts h c 1 hc hl hA
    rw [if_pos hp, if_pos hp]
    refine ⟨A2, c2, ?_, e2, e3, e4, e5⟩
    rw [show [(62 : UInt8)].length = 1 from rfl, ← e1]
  · rw [if_neg hp, if_neg hp]
    exact ⟨A, c, rfl, h, hc, Nat.le_refl _, hA⟩
theorem cutsuf_any {B' : Nat} {A' : Option Addr} (h : Bts w B A l) (h' : Bts w B' A' [10]) (c d : Nat) (hc : l.length ≤ c) (hl : l.length ≤ 1000000) :
    Calls Tryz.prog 52 #[.slice A l.length c, .slice A' 1 d] w fun e w' => e = .returned (.tuple #[.slice A (if Go.Lib.hasSuffix l [10] then l.length - 1 else l.length) c, .bool (Go.Lib.hasSuffix l [10])]) ∧ w = w' := by
  have := Tryz.bytes_CutSuffix_all A A' l.length c 1 d (numsOf l) (numsOf [10]) w (numsOf_length l) rfl hc (by omega) (bts_in h) (bts_in h')
  refine this.mono fun e w' ⟨h1, h2⟩ => ⟨?_, h2.symm⟩
  have hv : Go.Lib.trimSuffixV A l.length c (numsOf l) (numsOf [10]) = Value.slice A (if Go.Lib.hasSuffix l [10] then l.length - 1 else l.length) c := by
    rcases Nat.eq_zero_or_pos l.length with h0 | h0
    · obtain rfl := List.eq_nil_of_length_eq_zero h0
      rw [if_neg (by decide)]
      unfold Go.Lib.trimSuffixV
      split
      · rfl
      · rfl
    · obtain ⟨b, o, rfl, _, _⟩ := bts_at_ h h0
      show Go.Lib.bytesTrimSuffix b o l.length c (numsOf l) (numsOf [10]) = _
      unfold Go.Lib.bytesTrimSuffix
      rw [bytes_nums, bytes_nums]
      cases hq : Go.Lib.hasSuffix l [10] <;> simp [numsOf, Go.Lib.sliceTo]
  rw [h1, hv, bytes_nums, bytes_nums]
theorem bts_at (h : Bts w B A l) : Go.Lib.BytesAt w A l.length l := by
  have := (bts_in h).at8 (numsOf_length l) (nums_lt l)
  rwa [bytes_nums] at this
theorem trimq_any (h : Bts w B A l) (c : Nat) (hl : 0 < l.length) (hc : l.length ≤ c) (hm : c ≤ maxLen) (hA : A = none → c = 0) :
    Calls Tryz.prog 84 #[.slice A l.length c, .string ⟨#[62]⟩] w fun e w' => w = w' ∧ ∃ A2 c2, e = .returned (.slice A2 (l.dropWhile (· == 62)).length c2) ∧ Bts w B A2 (l.dropWhile (· == 62)) ∧ (l.dropWhile (· == 62)).length ≤ c2 ∧ c2 ≤ c ∧ (A2 = none → c2 = 0) := by
  have := Any.bytes_TrimLeft_one Tryz.laysSlV8 A l.length c l 62 w rfl hc (by unfold maxLen at hm; omega) (bts_at h) hl (by decide)
  refine this.mono fun e w' ⟨h1, h2⟩ => ⟨h2.symm, ?_⟩
  have hd : Go.Lib.trimLeftS l [62] = l.dropWhile (· == 62) := by
    unfold Go.Lib.trimLeftS
    congr 1
    funext x
    by_cases hx : x = 62 <;> simp [hx]
  rw [hd] at h1
  have hle : (l.dropWhile (· == 62)).length ≤ l.length := (List.dropWhile_sublist _).length_le
  have hsuf : l.dropWhile (· == 62) = l.drop (l.length - (l.dropWhile (· == 62)).length) := List.suffix_iff_eq_drop.1 (List.dropWhile_suffix _)
  rw [h1]
  unfold Go.Lib.leftV
  by_cases h0 : (l.dropWhile (· == 62)).length = 0
  · rw [if_pos (by omega)]
    rw [List.eq_nil_of_length_eq_zero h0]
    exact ⟨none, 0, rfl, Cs.nil, Nat.le_refl _, Nat.zero_le _, fun _ => rfl⟩
  · rw [if_neg (by omega)]
    obtain ⟨A2, c2, e1, e2, e3, e4, e5⟩ := from_bts h c (l.length - (l.dropWhile (· == 62)).length) hc (by omega) hA
    rw [← hsuf] at e1 e2 e3
    exact ⟨A2, c2, by unfold Go.Lib.fromV; rw [e1], e2, e3, e4, e5⟩
/-- what bytes.Cut hands back at a byte. -/
theorem cut_any (c : UInt8) (h : Bts w B A l) (cap g d : Nat) (hcap : l.length ≤ cap) (hA : A = none → cap = 0) (hl : l.length ≤ 1000000) (hg : w.cell? ⟨g, 0, none⟩ = some (.int .u8 (c.toNat : Int))) :
    Calls Tryz.prog 44 #[.slice A l.length cap, .slice (some ⟨g, 0, none⟩) 1 d] w fun e w' => (∃ q, w' = w.drewN q) ∧
      ((c ∈ l ∧ ∃ A2 c2, e = .returned (.tuple #[.slice A (Pa.ahead c l).length cap, .slice A2 (Pa.behind c l).length c2, .bool true]) ∧ Bts w B A2 (Pa.behind c l) ∧ (Pa.behind c l).length ≤ c2 ∧ c2 ≤ cap ∧ (A2 = none → c2 = 0)) ∨ (c ∉ l ∧ e = .returned (.tuple #[.slice A l.length cap, .slice none 0 0, .bool false]))) := by
  have hidx : Calls Tryz.prog 78 #[.slice A l.length cap, .slice (some ⟨g, 0, none⟩) 1 d] w fun e w' => e = .returned (.int .i64 (idx c l)) ∧ ∃ q, w' = w.drewN q := by
    rcases Nat.eq_zero_or_pos l.length with h0 | h0
    · obtain rfl := List.eq_nil_of_length_eq_zero h0
      cases A with
      | none =>
        rw [hA rfl]
        exact (Tryz.bytes_Index_one_nil g 0 d _ w hg).mono fun e w' ⟨h1, h2⟩ => ⟨h1, 0, h2⟩
      | some ad =>
        have := Tryz.bytes_Index_one_at ad 0 cap g 0 d [] _ w rfl (fun i hi => by omega) hg
        exact this.mono fun e w' ⟨h1, h2⟩ => ⟨h1, 0, h2⟩
    · exact (index_any c h h0 cap g d hg).mono fun e w' ⟨h1, h2⟩ => ⟨h1, 0, h2.symm⟩
  have := Tryz.bytes_Cut_of A (some ⟨g, 0, none⟩) l.length cap 1 d _ w hcap (by unfold idx; split <;> omega) (fun h0 => by
    unfold idx at h0 ⊢
    split at h0
    · rename_i hm
      rw [if_pos hm]
      have := Pa.behind_len hm
      omega
    · omega) (by omega) hidx
  refine this.mono fun e w' ⟨h1, h2⟩ => ⟨h2, ?_⟩
  rw [h1]
  unfold Go.Lib.cutV idx
  by_cases hm : c ∈ l
  · left
    refine ⟨hm, ?_⟩
    rw [if_pos hm, if_pos (by omega)]
    have hb := Pa.behind_len hm
    obtain ⟨A2, c2, e1, e2, e3, e4, e5⟩ := from_bts h cap ((Pa.ahead c l).length + 1) hcap (by omega) hA
    rw [(Pa.take_ahead hm).2] at e1 e2 e3
    refine ⟨A2, c2, ?_, e2, e3, e4, e5⟩
    unfold Go.Lib.fromV
    rw [show ((Pa.ahead c l).length : Int).toNat = (Pa.ahead c l).length from rfl, e1]
  · right
    refine ⟨hm, ?_⟩
    rw [if_neg hm, if_neg (by omega)]
/-- mbox.marked. -/
theorem marked_any (h : Bts w B A l) (hB : B ≤ w.heap.size) (c : Nat) (hc : l.length ≤ c) :
    Calls Tryz.prog 63 #[.slice A l.length c] w fun e w' => e = .returned (.bool (mark l)) ∧ w.grownBy w' none := by
  have hcv := conv_const
  have hg := grown_alloc w (.cells #[.int .u8 70, .int .u8 114, .int .u8 111, .int .u8 109, .int .u8 32] 5 (5, 6))
  have HP : Hid (Calls Tryz.prog 50 #[.slice A l.length c, .slice (some ⟨w.heap.size, 0, none⟩) 5 5] (w.alloc (.cells #[.int .u8 70, .int .u8 114, .int .u8 111, .int .u8 109, .int .u8 32] 5 (5, 6))) fun e w' => e = .returned (.bool (mark l)) ∧ (w.alloc (.cells #[.int .u8 70, .int .u8 114, .int .u8 111, .int .u8 109, .int .u8 32] 5 (5, 6))) = w') := Lib.hid (by
    have hb : Below B w (w.alloc (.cells #[.int .u8 70, .int .u8 114, .int .u8 111, .int .u8 109, .int .u8 32] 5 (5, 6))) := (Below.refl _ _).alloc hB _
    exact prefix_any (h.below hb) (bts_new w mkL _ (5, 6) rfl) c 5 hc)
  have HG := Lib.hid hg
  clear h hg
  generalize l.length = n at *
  generalize mark l = m at *
  go_enter Tryz.func63, Tryz.ntmps63
  go_wp2_with fail
  refine HP.out.mono ?_
  rintro e w1 ⟨rfl, rfl⟩
  go_wp2_with fail
  go_ret
  exact ⟨rfl, HG.out⟩
/-- mbox.whole. -/
theorem whole_any (h : Bts w B A l) (hB : B ≤ w.heap.size) (c : Nat) (hc : l.length ≤ c) (hl : l.length ≤ 1000000) :
    Calls Tryz.prog 61 #[.slice A l.length c] w fun e w' => e = .returned (.bool (wholeB l)) ∧ w.grownBy w' none := by
  have hcv := conv_const
  have hg := grown_alloc w (.cells #[.int .u8 10] 5 (1, 2))
  have HP : Hid (Calls Tryz.prog 79 #[.slice A l.length c, .slice (some ⟨w.heap.size, 0, none⟩) 1 1] (w.alloc (.cells #[.int .u8 10] 5 (1, 2))) fun e w' => e = .returned (.bool (Go.Lib.hasSuffix l [10])) ∧ (w.alloc (.cells #[.int .u8 10] 5 (1, 2))) = w') := Lib.hid (by
    have hb : Below B w (w.alloc (.cells #[.int .u8 10] 5 (1, 2))) := (Below.refl _ _).alloc hB _
    exact suffix_any (h.below hb) (bts_new w [10] _ (1, 2) rfl) c 1 hc hl)
  have HG := Lib.hid hg
  clear h hg
  rcases Decidable.em (l = []) with rfl | hne
  · have e0 : wholeB [] = true := rfl
    rw [e0]
    go_enter Tryz.func61, Tryz.ntmps61
    go_wp2_with fail
    go_ret
    exact ⟨rfl, ⟨rfl, rfl, rfl, Nat.le_refl _, fun _ _ _ => rfl⟩⟩
  · have e0 : wholeB l = Go.Lib.hasSuffix l [10] := by
      unfold wholeB
      cases l with
      | nil => exact absurd rfl hne
      | cons x l => rfl
    have hn : l.length ≠ 0 := fun e => hne (List.eq_nil_of_length_eq_zero e)
    have hn0 : ((l.length : Int) == 0) = false := beq_eq_false_iff_ne.2 (by omega)
    rw [e0]
    generalize l.length = n at *
    generalize Go.Lib.hasSuffix l [10] = m at *
    go_enter Tryz.func61, Tryz.ntmps61
    go_wp2_with fail
    refine HP.out.mono ?_
    rintro e w1 ⟨rfl, rfl⟩
    go_wp2_with fail
    go_ret
    exact ⟨rfl, HG.out⟩
end
/-- a panic with an error's number. -/
abbrev bad (x : Int) : Ending := .panicked [{ v := .iface 25 (.int .i64 x), recovered := false }]
theorem need_ok (w : World) : Calls Tryz.prog 59 #[.bool true] w fun e w' => e = .returned (.tuple #[]) ∧ w = w' := by
  go_enter Tryz.func59, Tryz.ntmps59
  go_wp2_with (first
    | (refine (Fa.nd_ok 100 _).mono ?_; rintro e w' ⟨rfl, rfl⟩)
    | fail)
  go_end0
  exact ⟨rfl, rfl⟩
theorem need_bad (w : World) : Calls Tryz.prog 59 #[.bool false] w fun e w' => e = bad 100 ∧ w = w' := by
  go_enter Tryz.func59, Tryz.ntmps59
  go_wp2_with (first
    | (refine (Fa.nd_bad 100 _).mono ?_; rintro e w' ⟨rfl, rfl⟩)
    | fail)
  exact ⟨rfl, rfl, rfl⟩
end Mb
end Go.Proofs.YtamekflgidfnfaaGreatDoor
