/- EnLib EnPut. Conditions: as stated at each. -/
import Derived.Test.YteapnkedpmcokaaGreatDoorRm16
import Derived.Test.YteapnkedpmcokaaGreatDoorRm17
import Derived.Test.YteapnkedpmcokaaGreatDoorRm18
import Derived.Test.YteapnkedpmcokaaGreatDoorRm19
import Derived.Test.YteapnkedpmcokaaGreatDoorRm20
import Derived.Lib.SlBytesConst
import Derived.Lib.SlBytesRowKit
import Derived.Lib.AppendStr
import Derived.Lib.AppendIntMem
import Derived.WalkSmall
import Derived.Deep.RegionHeld3
import Derived.Deep.MidRow
/- The library's calls that entry makes, over bytes wherever they lie; bytes that are appended to; numbers as texts; errors' variables. Conditions: as stated at each. -/
namespace Go.Proofs.YteapnkedpmcokaaGreatDoor
set_option maxRecDepth 100000
namespace En
open Go.RowKit Go Go.Proofs.YteapnkedpmcokaaGreatDoor.Pa
attribute [local go_sem] Oper.semAt_some
def numsOf (l : L) : List Int := l.map fun b => (b.toNat : Int)
theorem numsOf_length (l : L) : (numsOf l).length = l.length := by simp [numsOf]
theorem bytes_nums (l : L) : Go.Lib.bytesOf (numsOf l) = l := by
  unfold Go.Lib.bytesOf numsOf
  rw [List.map_map, show ((fun n : Int => UInt8.ofNat n.toNat) ∘ fun b : UInt8 => (b.toNat : Int)) = id from by funext b; simp]
  simp
theorem nums_lt (l : L) : ∀ x ∈ numsOf l, 0 ≤ x ∧ x < 256 := by
  intro x hx
  simp only [numsOf, List.mem_map] at hx
  obtain ⟨b, _, rfl⟩ := hx
  have := b.toNat_lt
  omega
theorem nums_get (l : L) (i : Nat) (h : i < l.length) : (numsOf l).getD i 0 = ((l.getD i 0).toNat : Int) := by
  simp [numsOf, List.getD, h]
theorem nums_val (l : List UInt8) : (numsOf l).map (Value.int .u8) = bv l := by simp [numsOf, bv]
theorem add_at (g o k : Nat) : (⟨g, o, none⟩ : Addr).add k = ⟨g, o + k, none⟩ := by
  unfold Addr.add
  split
  · rename_i h; subst h; rfl
  · rfl
theorem bts_new (w : World) (l : L) (C : Array Value) (fr : Nat × Nat) (h : C.toList = bv l) : Bts (w.alloc (.cells C 5 fr)) (w.heap.size + 1) (some ⟨w.heap.size, 0, none⟩) l := Bts.newm w l C fr h
theorem conv_const (w : World) (C : Array Value) (n c : Nat) : (convert 25 25 (.slice (some ⟨w.heap.size, 0, none⟩) n c)).run Tryz.prog (w.alloc (.cells C 5)) = .ok (.slice (some ⟨w.heap.size, 0, none⟩) n c) (w.alloc (.cells C 5 (C.size, C.size + 1))) :=
  Lib.run_convert_bytes_const (P := Tryz.prog) w 25 5 C n c Tryz.underlying25 Tryz.underlying5
theorem str_empty (l : L) : ((str l).toList == []) = l.isEmpty := by
  rw [Go.Lib.toList_data, show (str l).data.toList = l by simp [str]]
  cases l <;> rfl
theorem bstr_size (l : L) : (str l).size = l.length := by simp [str, ByteArray.size]
section
variable {w : World} {B : Nat} {A : Option Addr} {l : L}
theorem conv_str (h : Bts w B A l) (c : Nat) : (convert 25 9 (.slice A l.length c)).run Tryz.prog w = .ok (.string (str l)) w :=
  run_str Tryz.prog Tryz.underlying25 Tryz.underlying5 Tryz.underlying9 c h
theorem bts_cells {ad : Addr} (h : Bts w B (some ad) l) : ∀ i, i < l.length → w.cell? (ad.add i) = some (.int .u8 ((numsOf l).getD i 0)) := fun i hi => by
  obtain ⟨a', e, _, hc⟩ := h.at_ hi
  injection e with e
  subst e
  rw [nums_get l i hi]
  exact hc
theorem bts_in (h : Bts w B A l) : Go.Lib.BytesIn w A l.length (numsOf l) := by
  cases A with
  | none =>
    rw [bts_none h]
    exact Go.Lib.BytesIn.nil _ _ _
  | some ad => exact Go.Lib.BytesIn.of_cells (bts_cells h)
/-- where there is a byte there is a block. -/
theorem bts_at_ (h : Bts w B A l) (hl : 0 < l.length) : ∃ g o, A = some ⟨g, o, none⟩ ∧ g < B ∧ ∀ k, k < l.length → w.cell? ⟨g, o + k, none⟩ = some (.int .u8 ((l.getD k 0).toNat : Int)) := by
  obtain ⟨ad, e, hb, hc⟩ := h.at_ hl
  have hsp := World.cell?_spot hc
  rw [add_0] at hsp
  obtain ⟨g, o, sp⟩ := ad
  obtain rfl : sp = none := hsp
  refine ⟨g, o, e, hb, fun k hk => ?_⟩
  obtain ⟨ad', e', _, hc'⟩ := h.at_ hk
  rw [e] at e'
  injection e' with e'
  subst e'
  rwa [add_at] at hc'
/-- where a byte first stands. -/
def idx (c : UInt8) (l : L) : Int := if c ∈ l then ((Pa.ahead c l).length : Int) else -1
theorem index_any (c : UInt8) (h : Bts w B A l) (hl : 0 < l.length) (cap g d : Nat) (hg : w.cell? ⟨g, 0, none⟩ = some (.int .u8 (c.toNat : Int))) :
    Calls Tryz.prog 182 #[.slice A l.length cap, .slice (some ⟨g, 0, none⟩) 1 d] w fun e w' => e = .returned (.int .i64 (idx c l)) ∧ w = w' := by
  obtain ⟨b, o, rfl, _, hc⟩ := bts_at_ h hl
  have := Tryz.bytes_Index_one b o l.length cap g 0 d (numsOf l) _ w (numsOf_length l) (fun i hi => by rw [nums_get l i hi]; exact hc i hi) hg
  rw [bytes_nums, show ((c.toNat : Int)).toNat.toUInt8 = c by simp, Pa.idx_has] at this
  exact this.mono fun e w' ⟨h1, h2⟩ => ⟨h1, h2.symm⟩
theorem prefix_any {B' : Nat} {A' : Option Addr} {m : L} (h : Bts w B A l) (h' : Bts w B' A' m) (c d : Nat) (hc : l.length ≤ c) :
    Calls Tryz.prog 184 #[.slice A l.length c, .slice A' m.length d] w fun e w' => e = .returned (.bool (Go.Lib.hasPrefix l m)) ∧ w = w' := by
  have := Tryz.bytes_HasPrefix_all A A' l.length c m.length d (numsOf l) (numsOf m) w (numsOf_length l) (numsOf_length m) hc (bts_in h) (bts_in h')
  rw [bytes_nums, bytes_nums] at this
  exact this.mono fun e w' ⟨h1, h2⟩ => ⟨h1, h2.symm⟩
/-- what is left of a slice. -/
theorem from_bts (h : Bts w B A l) (cap k : Nat) (hcap : l.length ≤ cap) (hk : k ≤ l.length) (hA : A = none → cap = 0) :
    ∃ A' c', Value.slice (if cap = k then A else A.map (·.add k)) (l.length - k) (cap - k) = .slice A' (l.drop k).length c' ∧ Bts w B A' (l.drop k) ∧ (l.drop k).length ≤ c' ∧ c' ≤ cap ∧ (A' = none → c' = 0) := by
  refine ⟨if cap = k then A else A.map (·.add k), cap - k, ?_, ?_, by rw [List.length_drop]; omega, by omega, ?_⟩
  · rw [List.length_drop]
  · have := h.drop (k := k) cap hcap
    rw [Nat.mul_one] at this
    exact this
  · intro e
    split at e
    · omega
    · cases A with
      | none => have := hA rfl; omega
      | some a => cases e
/-- what bytes.Cut hands back at a byte. -/
theorem cut_any (c : UInt8) (h : Bts w B A l) (cap g d : Nat) (hcap : l.length ≤ cap) (hA : A = none → cap = 0) (hl : l.length ≤ 1000000) (hg : w.cell? ⟨g, 0, none⟩ = some (.int .u8 (c.toNat : Int))) :
    Calls Tryz.prog 177 #[.slice A l.length cap, .slice (some ⟨g, 0, none⟩) 1 d] w fun e w' => (∃ q, w' = w.drewN q) ∧
      ((c ∈ l ∧ ∃ A2 c2, e = .returned (.tuple #[.slice A (Pa.ahead c l).length cap, .slice A2 (Pa.behind c l).length c2, .bool true]) ∧ Bts w B A2 (Pa.behind c l) ∧ (Pa.behind c l).length ≤ c2 ∧ c2 ≤ cap ∧ (A2 = none → c2 = 0)) ∨ (c ∉ l ∧ e = .returned (.tuple #[.slice A l.length cap, .slice none 0 0, .bool false]))) := by
  have hidx : Calls Tryz.prog 182 #[.slice A l.length cap, .slice (some ⟨g, 0, none⟩) 1 d] w fun e w' => e = .returned (.int .i64 (idx c l)) ∧ ∃ q, w' = w.drewN q := by
    rcases Nat.eq_zero_or_pos l.length with h0 | h0
    · obtain rfl := List.eq_nil_of_length_eq_zero h0
      cases A with
      | none =>
        rw [hA rfl]
        exact (Tryz.bytes_Index_one_nil g 0 d _ w hg).mono fun e w' ⟨h1, h2⟩ => ⟨h1, 0, h2⟩
      | some ad =>
        have := Tryz.bytes_Index_one_at ad 0 cap g 0 d [] _ w rfl (fun i hi => by omega) hg
        exact this.mono fun e w' ⟨h1, h2⟩ => ⟨h1, 0, h2⟩
    · exact (index_any c h h0 cap g d hg).mono fun e w' ⟨h1, h2⟩ => ⟨h1, 0, h2.symm⟩
  have := Tryz.bytes_Cut_of A (some ⟨g, 0, none⟩) l.length cap 1 d _ w hcap (by unfold idx; split <;> omega) (fun h0 => by
    unfold idx at h0 ⊢
    split at h0
    · rename_i hm
      rw [if_pos hm]
      have := Pa.behind_len hm
      omega
    · omega) (by omega) hidx
  refine this.mono fun e w' ⟨h1, h2⟩ => ⟨h2, ?_⟩
  rw [h1]
  unfold Go.Lib.cutV idx
  by_cases hm : c ∈ l
  · left
    refine ⟨hm, ?_⟩
    rw [if_pos hm, if_pos (by omega)]
    have hb := Pa.behind_len hm
    obtain ⟨A2, c2, e1, e2, e3, e4, e5⟩ := from_bts h cap ((Pa.ahead c l).length + 1) hcap (by omega) hA
    rw [(Pa.take_ahead hm).2] at e1 e2 e3
    refine ⟨A2, c2, ?_, e2, e3, e4, e5⟩
    unfold Go.Lib.fromV
    rw [show ((Pa.ahead c l).length : Int).toNat = (Pa.ahead c l).length from rfl, e1]
  · right
    refine ⟨hm, ?_⟩
    rw [if_neg hm, if_neg (by omega)]
theorem pre_is (l m : L) : Go.Lib.hasPrefix l m = m.isPrefixOf l := rfl
theorem cutpre_any {B' : Nat} {A' : Option Addr} {m : L} (h : Bts w B A l) (h' : Bts w B' A' m) (c d : Nat) (hc : l.length ≤ c) (hA : A = none → c = 0) :
    Calls Tryz.prog 179 #[.slice A l.length c, .slice A' m.length d] w fun e w' => w = w' ∧
      ((m.isPrefixOf l = true ∧ ∃ A2 c2, e = .returned (.tuple #[.slice A2 (l.drop m.length).length c2, .bool true]) ∧ Bts w B A2 (l.drop m.length) ∧ (l.drop m.length).length ≤ c2 ∧ c2 ≤ c ∧ (A2 = none → c2 = 0)) ∨
        (m.isPrefixOf l = false ∧ e = .returned (.tuple #[.slice A l.length c, .bool false]))) := by
  have := Tryz.bytes_CutPrefix_all A A' l.length c m.length d (numsOf l) (numsOf m) w (numsOf_length l) (numsOf_length m) hc (bts_in h) (bts_in h')
  rw [trimPrefixV_eq (numsOf_length l) (bts_in h), bytes_nums, bytes_nums, pre_is] at this
  refine this.mono fun e w' ⟨h1, h2⟩ => ⟨h2.symm, ?_⟩
  cases hp : m.isPrefixOf l with
  | false =>
    rw [hp] at h1
    exact .inr ⟨rfl, h1⟩
  | true =>
    rw [hp, if_pos rfl, numsOf_length] at h1
    have hle : m.length ≤ l.length := by
      rw [List.isPrefixOf_iff_prefix] at hp
      exact hp.length_le
    obtain ⟨A2, c2, e1, e2, e3, e4, e5⟩ := from_bts h c m.length hc hle hA
    refine .inl ⟨rfl, A2, c2, ?_, e2, e3, e4, e5⟩
    rw [h1, ← e1]
    rfl
theorem equal_any {B' : Nat} {A' : Option Addr} {m : L} (h : Bts w B A l) (h' : Bts w B' A' m) (c d : Nat) :
    Calls Tryz.prog 31 #[.slice A l.length c, .slice A' m.length d] w fun e w' => e = .returned (.bool (l == m)) ∧ w = w' := by
  have := Tryz.bytes_Equal_all A A' l.length c m.length d (numsOf l) (numsOf m) w (numsOf_length l) (numsOf_length m) (bts_in h) (bts_in h')
  rw [bytes_nums, bytes_nums] at this
  exact this.mono fun e w' ⟨h1, h2⟩ => ⟨h1, h2.symm⟩
theorem clone_any (h : Bts w B A l) (c : Nat) (hl : l.length ≤ 1000000) :
    Calls Tryz.prog 172 #[.slice A l.length c] w fun e w' => ∃ v, e = .returned v ∧ Own5 w' w.heap.size v l ∧ Below w.heap.size w w' := by
  cases A with
  | none =>
    have := bts_none h
    subst this
    refine (Tryz.bytes_Clone_nil _ c w).mono ?_
    rintro e w' ⟨h1, rfl⟩
    exact ⟨_, h1, Own5.nil _ _, Below.refl _ _⟩
  | some ad =>
    refine (Tryz.bytes_Clone_at ad l.length c (numsOf l) w (numsOf_length l) (by omega) (bts_cells h)).mono ?_
    rintro e w' ⟨v, h1, h2, _, h3⟩
    rw [nums_val] at h2
    exact ⟨v, h1, h2, h3⟩
end
theorem strCells_str (l : L) : Lib.strCells (str l) = bv l := rfl
theorem run_app5s {w : World} (ty : TypeId) {N : Nat} {v : Value} {l m : L} (hown : Own5 w N v l) (h63 : l.length + m.length ≤ 1000000000) (hN : N ≤ w.heap.size) :
    ∃ v' w', (Builtin.append_ #[25, 9] ty #[v, .string (str m)]).run Tryz.prog w = .ok v' w' ∧ Own5 w' N v' (l ++ m) ∧ w.grownBy w' v.ownBlock := by
  obtain ⟨i, hi, hz, h0, h1⟩ := info_parts info5
  obtain ⟨v', w', hrun, h2, h3, _⟩ := Lib.run_append_own_string w N 25 9 ty 5 i Tryz.underlying25 Tryz.underlying9 hi hz h0 h1 v l.length (bv l) hown (str m) (by rw [bstr_size]; unfold maxLen; omega) (by rw [bstr_size]; omega) hN
  refine ⟨v', w', hrun, ?_, h3⟩
  unfold Own5
  rw [List.length_append, bv_append]
  rw [bstr_size, strCells_str] at h2
  exact h2
theorem own5_low {X : World} {v : Value} {t : L} {N : Nat} (h : Own5 X N v t) : ∀ k, v.ownBlock = some k → N ≤ k := fun k hk => (h.lt k hk).1
theorem own5_letters {X : World} {v : Value} {t : L} {N : Nat} (h : Own5 X N v t) : ∃ A k c, v = .slice A k c := by
  obtain ⟨A, c, e, _⟩ := own_slice h
  exact ⟨A, _, c, e⟩
def OutP (w : World) (t : L) (e : Ending) (w' : World) : Prop := ∃ v, e = .returned v ∧ Own5 w' w.heap.size v t ∧ Below w.heap.size w w'
/-- the table of the powers of ten lies as it was laid. -/
def GlT (w : World) : Prop := Lib.TabIs Tryz.prog w "internal/strconv.uint64pow10" .u64 Lib.pow10Tab
theorem pow_named : Tryz.prog.globalNamed "internal/strconv.uint64pow10" = some 2 := by kernel_rfl
theorem GlT.lt {w : World} (h : GlT w) : 2 < w.heap.size := World.block_lt_of_cell? w _ (Lib.TabIs.cell h pow_named 0 (by decide))
theorem GlT.below {w w' : World} {B : Nat} (h : GlT w) (hb : Below B w w') (hB : 2 < B) : GlT w' := var?_below hb pow_named hB h
theorem format_any (v : Int) (w : World) (h0 : -9223372036854775808 ≤ v) (h1 : v < 9223372036854775808) (hG : GlT w) :
    Calls Tryz.prog 54 #[.int .i64 v, .int .i64 10] w fun e w' => e = .returned (.string (str (Lib.itoa v))) ∧ Below w.heap.size w w' := by
  refine (Tryz.strconv_FormatInt_10 v h0 (by omega) w hG).mono ?_
  rintro e w' ⟨rfl, k, os, rfl⟩
  exact ⟨rfl, Lib.below_grow _ _ (Nat.le_refl _) _ _⟩
theorem itoa_any (v : Nat) (w : World) (h1 : v ≤ 1000000000) (hG : GlT w) :
    Calls Tryz.prog 46 #[.int .i64 (v : Int)] w fun e w' => e = .returned (.string (str (Lib.decDigits v))) ∧ Below w.heap.size w w' := by
  refine (Tryz.strconv_Itoa (v : Int) (by omega) (by omega) w hG).mono ?_
  rintro e w' ⟨rfl, k, os, rfl⟩
  refine ⟨?_, Lib.below_grow _ _ (Nat.le_refl _) _ _⟩
  have : Lib.itoa (v : Int) = Lib.decDigits v := by
    rw [Lib.itoa, if_neg (by omega)]
    simp
  rw [this]
  rfl
theorem own_blk {w : World} {N s : Nat} {e t : TypeId} {n : Nat} {v : Value} {xs : List Value} (h : w.ownsRow N e s v n xs) {g : Nat} {cs : Array Value} (hb : BlkIs w g t cs) (hne : e ≠ t) : v.ownBlock ≠ some g := by
  intro hv
  rcases h.2 with ⟨rfl, _⟩ | ⟨g', cap, cur, rfl, _, hh, _⟩
  · cases hv
  · have e1 : g' = g := by simpa [Value.ownBlock] using hv
    subst e1
    unfold BlkIs at hb
    rw [hh] at hb
    injection hb with hb
    injection hb with _ ht
    exact hne ht
theorem lapp5s {ops : Array Oper} {o : Oper} {rest : List Oper} {a : Act} {w : World} {Q : Exit → Act → World → Prop} (s x : Operand)
    (ho : o.op = .call { callee := .builtin .append, args := #[s, x], argTypes := #[25, 9] }) (hgd : o.guard = none)
    {N : Nat} {v : Value} {l m : List UInt8} {t : ByteArray} (hs : a.eval s = v) (hown : Own5 w N v l)
    (hx : a.eval x = .string t) (ht : t = str m) (h63 : l.length + m.length ≤ 1000000000) (hN : N ≤ w.heap.size)
    (h : ∀ v' w', Own5 w' N v' (l ++ m) → w.grownBy w' v.ownBlock → wpList Tryz.prog ops Q rest (a.put o.dst v') w') : wpList Tryz.prog ops Q (o :: rest) a w := by
  refine wpList_plain hgd fun K hK => ?_
  subst ht
  obtain ⟨v', w', hrun, h2, h3⟩ := run_app5s o.type hown h63 hN
  unfold Oper.wp execOp
  simp only [ho, resolve, invoke, builtin, Sem.run_bind, Sem.run_pure, Result.andThen_ok, List.map_toArray, List.map_cons, List.map_nil, hs, hx, hrun]
  exact hK _ _ (h v' w' h2 h3)
theorem blk_own {w w' : World} {N : Nat} {v : Value} {l : L} {g : Nat} {t : TypeId} {cs : Array Value} (h : Own5 w N v l) (hb : BlkIs w g t cs) (hne : 5 ≠ t) (hg : w.grownBy w' v.ownBlock) : BlkIs w' g t cs := hb.grown hg (own_blk h hb hne)
/-- the error variables hold errors, or none. -/
def GlE (w : World) : Prop := (∃ ev, w.cell? ⟨6, 0, none⟩ = some ev ∧ (ev = .nilIface ∨ ∃ te pe, ev = .iface te pe)) ∧ ∃ ev, w.cell? ⟨7, 0, none⟩ = some ev ∧ (ev = .nilIface ∨ ∃ te pe, ev = .iface te pe)
theorem GlE.lt {w : World} (h : GlE w) : 6 < w.heap.size ∧ 7 < w.heap.size := by
  obtain ⟨⟨e1, h1, _⟩, e2, h2, _⟩ := h
  exact ⟨World.block_lt_of_cell? w ⟨_, 0, none⟩ h1, World.block_lt_of_cell? w ⟨_, 0, none⟩ h2⟩
theorem GlE.below {w w' : World} {B : Nat} (h : GlE w) (hb : Below B w w') (hB : 6 < B ∧ 7 < B) : GlE w' := by
  obtain ⟨⟨e1, h1, h1'⟩, e2, h2, h2'⟩ := h
  exact ⟨⟨e1, (hb.cell (p := ⟨_, 0, none⟩) hB.1).trans h1, h1'⟩, e2, (hb.cell (p := ⟨_, 0, none⟩) hB.2).trans h2, h2'⟩
theorem parse_int (ds : L) (hl : ds.length ≤ 1000000) (w : World) (hE : GlE w) :
    Calls Tryz.prog 176 #[.string (str ds), .int .i64 10, .int .i64 64] w fun e w' => Below w.heap.size w w' ∧
      ((∃ v, Lib.parseIntB 64 ds = .ok v ∧ e = .returned (.tuple #[.int .i64 v, .nilIface])) ∨ ((∀ v, Lib.parseIntB 64 ds ≠ .ok v) ∧ ∃ v M, e = .returned (.tuple #[.int .i64 v, .iface 200 (.pointer (some ⟨M, 0, none⟩))]))) := by
  have hz : (str ds).size ≤ 1000000 := by rw [str_size]; exact hl
  have hd : (str ds).data.toList = ds := by simp [str]
  obtain ⟨⟨e1, h1, h1'⟩, e2, h2, h2'⟩ := hE
  cases hp : Lib.parseIntB 64 ds with
  | ok v =>
    refine (Tryz.strconv_ParseInt_10_at64_ok (str ds) (by omega) v (by rw [hd]; exact hp) w).mono ?_
    rintro e w' ⟨rfl, hw⟩
    refine ⟨?_, .inl ⟨v, rfl, rfl⟩⟩
    rcases hw with rfl | ⟨t, rfl⟩
    · exact Below.refl _ _
    · exact Lib.bytesWorld_below _ _ _
  | range =>
    refine (Tryz.strconv_ParseInt_10_at64_range (str ds) (by omega) (by rw [hd]; exact hp) e2 w h2 h2').mono ?_
    rintro e w' ⟨M, rfl, _, _, hb⟩
    exact ⟨hb, .inr ⟨(fun v h => nomatch h), _, M, rfl⟩⟩
  | _ =>
    refine (Tryz.strconv_ParseInt_10_at64_syntax (str ds) (by omega) (by rw [hd]; exact hp) e1 w h1 h1').mono ?_
    rintro e w' ⟨M, rfl, _, _, hb⟩
    exact ⟨hb, .inr ⟨(fun v h => nomatch h), _, M, rfl⟩⟩
theorem own5_nil {w : World} {N n c : Nat} {A : Option Addr} {l : List UInt8} (h : Own5 w N (.slice A n c) l) : A = none → c = 0 := by
  intro e
  subst e
  rcases h.2 with ⟨h0, _⟩ | ⟨g, cap, cur, h0, _⟩
  · injection h0
  · injection h0 with h1 _ _
    cases h1
theorem atoi_any (ds : L) (hl : ds.length ≤ 1000000) (w : World) (hE : GlE w) :
    Calls Tryz.prog 178 #[.string (str ds)] w fun e w' => Below w.heap.size w w' ∧
      ((∃ v, Lib.atoiAll ds = .ok v ∧ e = .returned (.tuple #[.int .i64 v, .nilIface])) ∨ ((∀ v, Lib.atoiAll ds ≠ .ok v) ∧ ∃ v M, e = .returned (.tuple #[.int .i64 v, .iface 200 (.pointer (some ⟨M, 0, none⟩))]))) := by
  have hz : (str ds).size ≤ 1000000 := by rw [str_size]; exact hl
  have hd : (str ds).data.toList = ds := by simp [str]
  obtain ⟨⟨e1, h1, h1'⟩, e2, h2, h2'⟩ := hE
  cases hp : Lib.atoiAll ds with
  | ok v =>
    refine (Tryz.strconv_Atoi_ok (str ds) (by omega) v (by rw [hd]; exact hp) w).mono ?_
    rintro e w' ⟨rfl, hw⟩
    refine ⟨?_, .inl ⟨v, rfl, rfl⟩⟩
    rcases hw with rfl | ⟨t, rfl⟩
    · exact Below.refl _ _
    · exact Lib.bytesWorld_below _ _ _
  | range =>
    refine (Tryz.strconv_Atoi_range (str ds) (by omega) (by rw [hd]; exact hp) e2 w h2 h2').mono ?_
    rintro e w' ⟨M, rfl, _, _, hb⟩
    exact ⟨hb, .inr ⟨(fun v h => nomatch h), _, M, rfl⟩⟩
  | _ =>
    refine (Tryz.strconv_Atoi_syntax (str ds) (by omega) (by rw [hd]; exact hp) e1 w h1 h1').mono ?_
    rintro e w' ⟨M, rfl, _, _, hb⟩
    exact ⟨hb, .inr ⟨(fun v h => nomatch h), _, M, rfl⟩⟩
/-- it is a number, or the error variables hold errors, or none. -/
def GlO (w : World) (ds : L) : Prop := (∃ v, Lib.atoiAll ds = .ok v) ∨ GlE w
theorem GlO.kept {w X : World} {ds : L} (h : GlO w ds) (hX : Below w.heap.size w X) : GlO X ds := h.imp id fun g => g.below hX g.lt
theorem atoi_or (ds : L) (hl : ds.length ≤ 1000000) (w : World) (hE : GlO w ds) :
    Calls Tryz.prog 178 #[.string (str ds)] w fun e w' => Below w.heap.size w w' ∧
      ((∃ v, Lib.atoiAll ds = .ok v ∧ e = .returned (.tuple #[.int .i64 v, .nilIface])) ∨ ((∀ v, Lib.atoiAll ds ≠ .ok v) ∧ ∃ v M, e = .returned (.tuple #[.int .i64 v, .iface 200 (.pointer (some ⟨M, 0, none⟩))]))) := by
  rcases hE with ⟨v, hp⟩ | hE
  · have hz : (str ds).size ≤ 1000000 := by rw [str_size]; exact hl
    have hd : (str ds).data.toList = ds := by simp [str]
    refine (Tryz.strconv_Atoi_ok (str ds) (by omega) v (by rw [hd]; exact hp) w).mono ?_
    rintro e w' ⟨rfl, hw⟩
    refine ⟨?_, .inl ⟨v, hp, rfl⟩⟩
    rcases hw with rfl | ⟨t, rfl⟩
    · exact Below.refl _ _
    · exact Lib.bytesWorld_below _ _ _
  · exact atoi_any ds hl w hE
/-- strconv.AppendInt to nothing. -/
theorem appint_any (v : Int) (w : World) (h0 : -9223372036854775808 ≤ v) (h1 : v < 9223372036854775808) (hG : GlT w) :
    Calls Tryz.prog 124 #[.slice none 0 0, .int .i64 v, .int .i64 10] w (OutP w (Lib.itoa v)) := by
  refine (Tryz.strconv_AppendInt_10 w.heap.size 0 v h0 (by omega) (.slice none 0 0) [] w (World.ownsRow_nil w w.heap.size 5 1) (Nat.le_refl _) (by omega) (Lib.tabBelow_of_tabIs hG)).mono ?_
  rintro e w' ⟨v', rfl, h2, h3, _⟩
  refine ⟨v', rfl, ?_, h3⟩
  rw [Nat.zero_add, List.nil_append] at h2
  exact h2
theorem itoa_dec {v : Int} (h : 0 ≤ v) : Lib.itoa v = dec v.toNat := by
  rw [Lib.itoa, if_neg (by omega)]
  rfl
end En
end Go.Proofs.YteapnkedpmcokaaGreatDoor
/- entry.digits, entry.Put; the document's. Conditions: as stated at each. -/
namespace Go.Proofs.YteapnkedpmcokaaGreatDoor
set_option maxRecDepth 100000
namespace En
open Go.RowKit Go Go.Proofs.YteapnkedpmcokaaGreatDoor.Pa
attribute [local go_sem] Oper.semAt_some
/-- a slice of these bytes is answered. -/
def OutS (w : World) (t : L) (e : Ending) (w' : World) : Prop := ∃ A c, e = .returned (.slice A t.length c) ∧ Bts w' w'.heap.size A t ∧ t.length ≤ c ∧ c ≤ maxLen ∧ Below w.heap.size w w'
theorem OutP.outS {w : World} {t : L} {e : Ending} {w' : World} (h : OutP w t e w') : OutS w t e w' := by
  obtain ⟨v, rfl, h2, h3⟩ := h
  obtain ⟨A, c, rfl, h4, h5⟩ := own_slice h2
  exact ⟨A, c, rfl, h2.bts, h4, h5, h3⟩
theorem OutP.outS' {f : Nat} {ar : Array Value} {w : World} {t : L} (h : Calls Tryz.prog f ar w (OutP w t)) : Calls Tryz.prog f ar w (OutS w t) := h.mono fun _ _ h => h.outS
/-- a text made bytes. -/
theorem run_bts (l : L) (hl : l.length ≤ 1000000) (w : World) : ∃ c w', (convert 9 25 (.string (str l))).run Tryz.prog w = .ok (.slice (some ⟨w.heap.size, 0, none⟩) l.length c) w' ∧ l.length ≤ c ∧ c ≤ maxLen ∧ Bts w' (w.heap.size + 1) (some ⟨w.heap.size, 0, none⟩) l ∧ Below w.heap.size w w' ∧ w'.heap.size = w.heap.size + 1 := by
  have hrun := run_bytes_of_string (P := Tryz.prog) w 9 25 5 (str l) Tryz.underlying9 Tryz.underlying25 Tryz.underlying5
  rw [show (str l).size = l.length from str_size l] at hrun
  refine ⟨_, _, hrun, ?_, ?_, ?_, ((Below.refl _ w).drew).alloc (Nat.le_refl _) _, by simp⟩
  · exact grownCap_ge w l.length 0 5
  · exact grownCap_le_maxLen w _ 0 5 (by unfold maxLen; omega)
  · intro j u hj
    have hj' : j < l.length := by
      rw [← bv_length]
      exact (List.getElem?_eq_some_iff.1 hj).1
    rw [bv_get _ _ hj'] at hj
    injection hj with hj
    subst hj
    refine ⟨_, rfl, by simp, ?_⟩
    rw [add_at, Nat.zero_add]
    refine (cell_of_row _ w.heap.size j _ _ _ (heap_alloc_new w.drew _)).trans ?_
    rw [bytesRow_at _ _ j (by simpa [str] using hj')]
    simp [str, List.getD, hj']
theorem digits_any (v : Int) (w : World) (h0 : 0 ≤ v) (h1 : v < 9223372036854775808) (hG : GlT w) : Calls Tryz.prog 114 #[.int .i64 v] w (OutP w (dec v.toNat)) := by
  have HA := Lib.hid (appint_any v w (by omega) h1 hG)
  rw [itoa_dec h0] at HA
  go_enter Tryz.func114, Tryz.ntmps114
  go_wp2_with (first
    | (go_at_call 124; refine HA.out.mono ?_; rintro e w2 ⟨v2, rfl, h2, h3⟩; have H2 := Lib.hid h2; have H3 := Lib.hid h3; clear h2 h3)
    | fail)
  go_ret
  exact ⟨_, rfl, H2.out, H3.out⟩
theorem dec_len2 {v : Int} (h0 : 0 ≤ v) (h1 : v < 9223372036854775808) : (dec v.toNat).length ≤ 30 := dec_len (by omega)
theorem rdigits_any (v : Int) (w : World) (h0 : 0 ≤ v) (h1 : v < 9223372036854775808) (hG : GlT w) : Calls Tryz.prog 42 #[.int .i64 v] w (OutS w (dec v.toNat)) := by
  have HA := Lib.hid (format_any v w (by omega) h1 hG)
  rw [itoa_dec h0] at HA
  have HB := Lib.hid (run_bts (dec v.toNat) (by have := dec_len2 h0 h1; omega))
  unfold OutS
  generalize dec v.toNat = d at *
  generalize str d = s at *
  go_enter Tryz.func42, Tryz.ntmps42
  go_wp2_with fail
  refine HA.out.mono ?_
  rintro e w2 ⟨rfl, hb2⟩
  obtain ⟨c, w3, hrun, hc1, hc2, hbt, hb3, hsz⟩ := HB.out w2
  have HBT := Lib.hid hbt
  have HB3 := Lib.hid (hb2.trans (hb3.mono hb2.size))
  clear hbt hb2 hb3 HA HB
  go_wp2_with fail
  go_ret
  exact ⟨_, _, rfl, HBT.out.more (by omega), hc1, hc2, HB3.out⟩
theorem put_take {ls : List L} {k : Nat} (h : k < ls.length) : putS (ls.take (k + 1)) = putS (ls.take k) ++ dec (ls.getD k []).length ++ [58] ++ ls.getD k [] ++ [44] := by
  have hd : ls.getD k [] = ls[k] := by simp [List.getD, h]
  rw [List.take_succ_eq_append_getElem h, put_app, put_one, hd]
  simp [partS]
theorem put_le (ls : List L) (k : Nat) : (putS (ls.take k)).length ≤ (putS ls).length := by
  have := congrArg (fun l : List L => (putS l).length) (List.take_append_drop k ls)
  simp only [put_app, List.length_append] at this
  omega
theorem put_count (ls : List L) : ls.length ≤ (putS ls).length := by
  induction ls with
  | nil => simp
  | cons p l ih =>
    rw [put_cons, List.length_append]
    have := List.length_pos_iff.2 (part_ne p)
    simp; omega
/-- the slice of slices at hand, whatever is made behind. -/
theorem rws_els {w : World} {B : Nat} {A : Option Addr} {ls : List L} (h : Rws w B A ls) {k : Nat} (hk : k < ls.length) : ∃ g o A' c', A = some ⟨g, o, none⟩ ∧ g < B ∧ (∀ X, Below B w X → X.cell? ⟨g, o + k, none⟩ = some (.slice A' (ls.getD k []).length c') ∧ Bts X B A' (ls.getD k [])) ∧ (ls.getD k []).length ≤ c' ∧ c' ≤ maxLen := by
  obtain ⟨ad0, A0, c0, e0, hb0, hc0, _⟩ := h.at_ (k := 0) (by omega)
  rw [add_0] at hc0
  have hsp := World.cell?_spot hc0
  obtain ⟨g, o, sp⟩ := ad0
  obtain rfl : sp = none := hsp
  obtain ⟨ad, A', c', e, hb, hc, h1, h2, h3⟩ := h.at_ hk
  rw [e0] at e
  injection e with e
  subst e
  rw [add_at] at hc
  exact ⟨g, o, A', c', e0, hb0, fun X hX => ⟨(hX.cell (p := ⟨g, o + k, none⟩) hb).trans hc, h3.below hX⟩, h1, h2⟩
set_option maxHeartbeats 1600000 in
theorem put_any {w : World} {A : Option Addr} {ls : List L} (h : Rws w w.heap.size A ls) (n c : Nat) (hn : ls.length = n) (ht : (putS ls).length ≤ 100000000) (hG : GlT w) :
    Calls Tryz.prog 107 #[.slice A n c] w (OutP w (putS ls)) := by
  have HEL := Lib.hid (fun k (hk : k < ls.length) => rws_els h hk)
  have HTK : Hid (∀ k, k < ls.length → putS (ls.take (k + 1)) = putS (ls.take k) ++ dec (ls.getD k []).length ++ [58] ++ ls.getD k [] ++ [44]) := Lib.hid fun k hk => put_take hk
  have HLE := Lib.hid (put_le ls)
  have HEND : Hid (putS (ls.take n) = putS ls) := Lib.hid (by rw [← hn, List.take_length])
  have HGT := Lib.hid (fun (X : World) (hX : Below w.heap.size w X) => hG.below hX hG.lt)
  have hnt := put_count ls
  rw [hn] at HEL HTK hnt
  clear h hn hG
  unfold OutP
  go_enter Tryz.func107, Tryz.ntmps107
  go_wp2_with fail
  go_loopw [3, 8] (fun x i wr => ∃ j : Nat, j ≤ n ∧ i = .int .i64 (j : Nat) ∧ Own5 wr w.heap.size x (putS (ls.take j)) ∧ Below w.heap.size w wr) (fun _ i _ => n + 1 - (intOf i).toNat)
  case atStart => exact ⟨0, Nat.zero_le _, rfl, Own5.nil _ _, Below.refl _ _⟩
  case round =>
    obtain ⟨j, hj, rfl, hown, hbel⟩ := hrel
    have HO := Lib.hid hown
    have HB := Lib.hid hbel
    have hN := hbel.size
    obtain ⟨A6, c6, rfl, _, _⟩ := own_slice hown
    clear hown hbel
    by_cases hlt : j < n
    · obtain ⟨g, o, A', c', rfl, hg, hX, hc1, hc2⟩ := HEL.out j hlt
      obtain ⟨hcell, hbt⟩ := hX wr HB.out
      have HXB := Lib.hid (fun X hX' => (hX X hX').2)
      have HK := Lib.hid (HTK.out j hlt)
      have hle := HLE.out (j + 1)
      rw [HK.out] at hle
      simp only [List.length_append, List.length_cons, List.length_nil] at hle
      have HDG := Lib.hid (digits_any ((ls.getD j []).length : Int) wr (by omega) (by omega) (HGT.out _ HB.out))
      rw [show ((ls.getD j []).length : Int).toNat = (ls.getD j []).length from rfl] at HDG
      have h58 : (⟨#[58]⟩ : ByteArray) = str [58] := rfl
      have h44 : (⟨#[44]⟩ : ByteArray) = str [44] := rfl
      clear hX hbt
      generalize putS (ls.take j) = lj at *
      generalize ls.getD j [] = p at *
      generalize dec p.length = d at *
      generalize hln : lj.length = ln at *
      generalize hpn : p.length = pn at *
      generalize hdn : d.length = dn at *
      have HLN := Lib.hid (And.intro hln (And.intro hpn hdn))
      clear hln hpn hdn
      have hjn : (j : Int) < (n : Int) := by omega
      go_wp2_with (first
        | (go_at_call 114; refine HDG.out.mono ?_; rintro e w2 ⟨v2, rfl, hd2, hb2⟩; have HD2 := Lib.hid hd2; have HB2 := Lib.hid (HB.out.trans (hb2.mono hN)); have HO2 : Hid (Own5 w2 w.heap.size (.slice A6 ln c6) lj) := Lib.hid (own_kept HO.out hb2 (Nat.le_refl _)); obtain ⟨A2, c2, e2, _, _⟩ := own_slice hd2; rw [HLN.out.2.2] at e2; subst e2; have hN2 := HB2.out.size; clear hd2 hb2)
        | (refine app5 (.tmp 12) (.tmp 15) rfl rfl _ _ lj d rfl HO2.out _ _ _ (by rw [HLN.out.2.2]; rfl) HD2.out.bts (by rw [HLN.out.1, HLN.out.2.2]; omega) hN2 ?_; intro v3 w3 h1 h2; have HO3 : Hid (Own5 w3 w.heap.size v3 (lj ++ d)) := Lib.hid h1; have HB3 := Lib.hid (HB2.out.grown h2 hN2 (own5_low HO2.out)); have hN3 := HB3.out.size; clear h1 h2)
        | (refine lapp5s (.tmp 17) (.const (.string ⟨#[58]⟩)) rfl rfl (l := lj ++ d) (m := [58]) rfl HO3.out rfl rfl (by simp only [List.length_append, List.length_cons, List.length_nil]; rw [HLN.out.1, HLN.out.2.2]; omega) hN3 ?_; intro v4 w4 h1 h2; have HO4 := Lib.hid h1; have HB4 := Lib.hid (HB3.out.grown h2 hN3 (own5_low HO3.out)); have hN4 := HB4.out.size; clear h1 h2)
        | (refine app5 (.tmp 19) (.tmp 20) rfl rfl _ _ _ p rfl HO4.out _ _ _ (by rw [HLN.out.2.1]; rfl) (HXB.out _ HB4.out) (by simp only [List.length_append, List.length_cons, List.length_nil]; rw [HLN.out.1, HLN.out.2.2, HLN.out.2.1]; omega) hN4 ?_; intro v5 w5 h1 h2; have HO5 : Hid (Own5 w5 w.heap.size v5 (lj ++ d ++ [58] ++ p)) := Lib.hid h1; have HB5 := Lib.hid (HB4.out.grown h2 hN4 (own5_low HO4.out)); have hN5 := HB5.out.size; clear h1 h2)
        | (refine lapp5s (.tmp 22) (.const (.string ⟨#[44]⟩)) rfl rfl (l := lj ++ d ++ [58] ++ p) (m := [44]) rfl HO5.out rfl rfl (by simp only [List.length_append, List.length_cons, List.length_nil]; rw [HLN.out.1, HLN.out.2.2, HLN.out.2.1]; omega) hN5 ?_; intro v6 w6 h1 h2; have HO6 := Lib.hid h1; have HB6 := Lib.hid (HB5.out.grown h2 hN5 (own5_low HO5.out)); clear h1 h2)
        | fail)
      go_roundw
      case rel => exact ⟨j + 1, by omega, by go_num, by rw [HK.out]; exact HO6.out, HB6.out⟩
      case measure => simp [intOf]; omega
    · obtain rfl : j = n := by omega
      have hz : ¬ (j : Int) < (j : Int) := by omega
      generalize (putS (ls.take j)).length = ln at *
      rw [HEND.out] at HO
      go_wp2_with fail
      go_ret
      exact ⟨_, rfl, HO.out, HB.out⟩
end En
end Go.Proofs.YteapnkedpmcokaaGreatDoor
