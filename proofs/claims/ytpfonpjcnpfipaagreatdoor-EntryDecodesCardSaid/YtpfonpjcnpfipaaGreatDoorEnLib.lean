/- The library's calls that entry makes, over bytes wherever they lie; bytes that are appended to; numbers as texts; errors' variables. Conditions: as stated at each. -/
import Derived.Test.YtpfonpjcnpfipaaGreatDoorEnRead
import Derived.Test.YtpfonpjcnpfipaaGreatDoorShelf
import Derived.Test.YtpfonpjcnpfipaaGreatDoorRgKey
import Derived.Test.YtpfonpjcnpfipaaGreatDoorPaRDom
import Derived.Test.YtpfonpjcnpfipaaGreatDoorFaCall
import Derived.Lib.SlBytesConst
import Derived.Lib.SlBytesRowKit
import Derived.Lib.AppendStr
import Derived.Lib.AppendIntMem
import Derived.WalkSmall
import Derived.Deep.RegionHeld3
import Derived.Deep.MidRow
namespace Go.Proofs.YtpfonpjcnpfipaaGreatDoor
set_option maxRecDepth 100000
namespace En
open Go.RowKit Go Go.Proofs.YtpfonpjcnpfipaaGreatDoor.Pa
attribute [local go_sem] Oper.semAt_some
def numsOf (l : L) : List Int := l.map fun b => (b.toNat : Int)
theorem numsOf_length (l : L) : (numsOf l).length = l.length := by simp [numsOf]
theorem bytes_nums (l : L) : Go.Lib.bytesOf (numsOf l) = l := by
  unfold Go.Lib.bytesOf numsOf
  rw [List.map_map, show ((fun n : Int => UInt8.ofNat n.toNat) ∘ fun b : UInt8 => (b.toNat : Int)) = id from by funext b; simp]
  simp
theorem nums_lt (l : L) : ∀ x ∈ numsOf l, 0 ≤ x ∧ x < 256 := by
  intro x hx
  simp only [numsOf, List.mem_map] at hx
  obtain ⟨b, _, rfl⟩ := hx
  have := b.toNat_lt
  omega
theorem nums_get (l : L) (i : Nat) (h : i < l.length) : (numsOf l).getD i 0 = ((l.getD i 0).toNat : Int) := by
  simp [numsOf, List.getD, h]
theorem nums_val (l : List UInt8) : (numsOf l).map (Value.int .u8) = bv l := by simp [numsOf, bv]
theorem add_at (g o k : Nat) : (⟨g, o, none⟩ : Addr).add k = ⟨g, o + k, none⟩ := by
  unfold Addr.add
  split
  · rename_i h; subst h; rfl
  · rfl
theorem bts_new (w : World) (l : L) (C : Array Value) (fr : Nat × Nat) (h : C.toList = bv l) : Bts (w.alloc (.cells C 5 fr)) (w.heap.size + 1) (some ⟨w.heap.size, 0, none⟩) l := Bts.newm w l C fr h
theorem conv_const (w : World) (C : Array Value) (n c : Nat) : (convert 22 22 (.slice (some ⟨w.heap.size, 0, none⟩) n c)).run Tryz.prog (w.alloc (.cells C 5)) = .ok (.slice (some ⟨w.heap.size, 0, none⟩) n c) (w.alloc (.cells C 5 (C.size, C.size + 1))) :=
  Lib.run_convert_bytes_const (P := Tryz.prog) w 22 5 C n c Tryz.underlying22 Tryz.underlying5
theorem str_empty (l : L) : ((str l).toList == []) = l.isEmpty := by
  rw [Go.Lib.toList_data, show (str l).data.toList = l by simp [str]]
  cases l <;> rfl
theorem bstr_size (l : L) : (str l).size = l.length := by simp [str, ByteArray.size]
section
variable {w : World} {B : Nat} {A : Option Addr} {l : L}
theorem conv_str (h : Bts w B A l) (c : Nat) : (convert 22 9 (.slice A l.length c)).run Tryz.prog w = .ok (.string (str l)) w :=
  run_str Tryz.prog Tryz.underlying22 Tryz.underlying5 Tryz.underlying9 c h
theorem bts_cells {ad : Addr} (h : Bts w B (some ad) l) : ∀ i, i < l.length → w.cell? (ad.add i) = some (.int .u8 ((numsOf l).getD i 0)) := fun i hi => by
  obtain ⟨a', e, _, hc⟩ := h.at_ hi
  injection e with e
  subst e
  rw [nums_get l i hi]
  exact hc
theorem bts_in (h : Bts w B A l) : Go.Lib.BytesIn w A l.length (numsOf l) := by
  cases A with
  | none =>
    rw [bts_none h]
    exact Go.Lib.BytesIn.nil _ _ _
  | some ad => exact Go.Lib.BytesIn.of_cells (bts_cells h)
/-- where there is a byte there is a block. -/
theorem bts_at_ (h : Bts w B A l) (hl : 0 < l.length) : ∃ g o, A = some ⟨g, o, none⟩ ∧ g < B ∧ ∀ k, k < l.length → w.cell? ⟨g, o + k, none⟩ = some (.int .u8 ((l.getD k 0).toNat : Int)) := by
  obtain ⟨ad, e, hb, hc⟩ := h.at_ hl
  have hsp := World.cell?_spot hc
  rw [add_0] at hsp
  obtain ⟨g, o, sp⟩ := ad
  obtain rfl : sp = none := hsp
  refine ⟨g, o, e, hb, fun k hk => ?_⟩
  obtain ⟨ad', e', _, hc'⟩ := h.at_ hk
  rw [e] at e'
  injection e' with e'
  subst e'
  rwa [add_at] at hc'
/-- where a byte first stands. -/
def idx (c : UInt8) (l : L) : Int := if c ∈ l then ((Pa.ahead c l).length : Int) else -1
theorem index_any (c : UInt8) (h : Bts w B A l) (hl : 0 < l.length) (cap g d : Nat) (hg : w.cell? ⟨g, 0, none⟩ = some (.int .u8 (c.toNat : Int))) :
    Calls Tryz.prog 52 #[.slice A l.length cap, .slice (some ⟨g, 0, none⟩) 1 d] w fun e w' => e = .returned (.int .i64 (idx c l)) ∧ w = w' := by
  obtain ⟨b, o, rfl, _, hc⟩ := bts_at_ h hl
  have := Tryz.bytes_Index_one b o l.length cap g 0 d (numsOf l) _ w (numsOf_length l) (fun i hi => by rw [nums_get l i hi]; exact hc i hi) hg
  rw [bytes_nums, show ((c.toNat : Int)).toNat.toUInt8 = c by simp, Pa.idx_has] at this
  exact this.mono fun e w' ⟨h1, h2⟩ => ⟨h1, h2.symm⟩
theorem prefix_any {B' : Nat} {A' : Option Addr} {m : L} (h : Bts w B A l) (h' : Bts w B' A' m) (c d : Nat) (hc : l.length ≤ c) :
    Calls Tryz.prog 54 #[.slice A l.length c, .slice A' m.length d] w fun e w' => e = .returned (.bool (Go.Lib.hasPrefix l m)) ∧ w = w' := by
  have := Tryz.bytes_HasPrefix_all A A' l.length c m.length d (numsOf l) (numsOf m) w (numsOf_length l) (numsOf_length m) hc (bts_in h) (bts_in h')
  rw [bytes_nums, bytes_nums] at this
  exact this.mono fun e w' ⟨h1, h2⟩ => ⟨h1, h2.symm⟩
/-- what is left of a slice. -/
theorem from_bts (h : Bts w B A l) (cap k : Nat) (hcap : l.length ≤ cap) (hk : k ≤ l.length) (hA : A = none → cap = 0) :
    ∃ A' c', Value.slice (if cap = k then A else A.map (·.add k)) (l.length - k) (cap - k) = .slice A' (l.drop k).length c' ∧ Bts w B A' (l.drop k) ∧ (l.drop k).length ≤ c' ∧ c' ≤ cap ∧ (A' = none → c' = 0) := by
  refine ⟨if cap = k then A else A.map (·.add k), cap - k, ?_, ?_, by rw [List.length_drop]; omega, by omega, ?_⟩
  · rw [List.length_drop]
  · have := h.drop (k := k) cap hcap
    rw [Nat.mul_one] at this
    exact this
  · intro e
    split at e
    · omega
    · cases A with
      | none => have := hA rfl; omega
      | some a => cases e
/-- what bytes.Cut hands back at a byte. -/
theorem cut_any (c : UInt8) (h : Bts w B A l) (cap g d : Nat) (hcap : l.length ≤ cap) (hA : A = none → cap = 0) (hl : l.length ≤ 1000000) (hg : w.cell? ⟨g, 0, none⟩ = some (.int .u8 (c.toNat : Int))) :
    Calls Tryz.prog 36 #[.slice A l.length cap, .slice (some ⟨g, 0, none⟩) 1 d] w fun e w' => (∃ q, w' = w.drewN q) ∧
      ((c ∈ l ∧ ∃ A2 c2, e = .returned (.tuple #[.slice A (Pa.ahead c l).length cap, .slice A2 (Pa.behind c l).length c2, .bool true]) ∧ Bts w B A2 (Pa.behind c l) ∧ (Pa.behind c l).length ≤ c2 ∧ c2 ≤ cap ∧ (A2 = none → c2 = 0)) ∨ (c ∉ l ∧ e = .returned (.tuple #[.slice A l.length cap, .slice none 0 0, .bool false]))) := by
  have hidx : Calls Tryz.prog 52 #[.slice A l.length cap, .slice (some ⟨g, 0, none⟩) 1 d] w fun e w' => e = .returned (.int .i64 (idx c l)) ∧ ∃ q, w' = w.drewN q := by
    rcases Nat.eq_zero_or_pos l.length with h0 | h0
    · obtain rfl := List.eq_nil_of_length_eq_zero h0
      cases A with
      | none =>
        rw [hA rfl]
        exact (Tryz.bytes_Index_one_nil g 0 d _ w hg).mono fun e w' ⟨h1, h2⟩ => ⟨h1, 0, h2⟩
      | some ad =>
        have := Tryz.bytes_Index_one_at ad 0 cap g 0 d [] _ w rfl (fun i hi => by omega) hg
        exact this.mono fun e w' ⟨h1, h2⟩ => ⟨h1, 0, h2⟩
    · exact (index_any c h h0 cap g d hg).mono fun e w' ⟨h1, h2⟩ => ⟨h1, 0, h2.symm⟩
  have := Tryz.bytes_Cut_of A (some ⟨g, 0, none⟩) l.length cap 1 d _ w hcap (by unfold idx; split <;> omega) (fun h0 => by
    unfold idx at h0 ⊢
    split at h0
    · rename_i hm
      rw [if_pos hm]
      have := Pa.behind_len hm
      omega
    · omega) (by omega) hidx
  refine this.mono fun e w' ⟨h1, h2⟩ => ⟨h2, ?_⟩
  rw [h1]
  unfold Go.Lib.cutV idx
  by_cases hm : c ∈ l
  · left
    refine ⟨hm, ?_⟩
    rw [if_pos hm, if_pos (by omega)]
    have hb := Pa.behind_len hm
    obtain ⟨A2, c2, e1, e2, e3, e4, e5⟩ := from_bts h cap ((Pa.ahead c l).length + 1) hcap (by omega) hA
    rw [(Pa.take_ahead hm).2] at e1 e2 e3
    refine ⟨A2, c2, ?_, e2, e3, e4, e5⟩
    unfold Go.Lib.fromV
    rw [show ((Pa.ahead c l).length : Int).toNat = (Pa.ahead c l).length from rfl, e1]
  · right
    refine ⟨hm, ?_⟩
    rw [if_neg hm, if_neg (by omega)]
theorem pre_is (l m : L) : Go.Lib.hasPrefix l m = m.isPrefixOf l := rfl
theorem cutpre_any {B' : Nat} {A' : Option Addr} {m : L} (h : Bts w B A l) (h' : Bts w B' A' m) (c d : Nat) (hc : l.length ≤ c) (hA : A = none → c = 0) :
    Calls Tryz.prog 38 #[.slice A l.length c, .slice A' m.length d] w fun e w' => w = w' ∧
      ((m.isPrefixOf l = true ∧ ∃ A2 c2, e = .returned (.tuple #[.slice A2 (l.drop m.length).length c2, .bool true]) ∧ Bts w B A2 (l.drop m.length) ∧ (l.drop m.length).length ≤ c2 ∧ c2 ≤ c ∧ (A2 = none → c2 = 0)) ∨
        (m.isPrefixOf l = false ∧ e = .returned (.tuple #[.slice A l.length c, .bool false]))) := by
  have := Tryz.bytes_CutPrefix_all A A' l.length c m.length d (numsOf l) (numsOf m) w (numsOf_length l) (numsOf_length m) hc (bts_in h) (bts_in h')
  rw [trimPrefixV_eq (numsOf_length l) (bts_in h), bytes_nums, bytes_nums, pre_is] at this
  refine this.mono fun e w' ⟨h1, h2⟩ => ⟨h2.symm, ?_⟩
  cases hp : m.isPrefixOf l with
  | false =>
    rw [hp] at h1
    exact .inr ⟨rfl, h1⟩
  | true =>
    rw [hp, if_pos rfl, numsOf_length] at h1
    have hle : m.length ≤ l.length := by
      rw [List.isPrefixOf_iff_prefix] at hp
      exact hp.length_le
    obtain ⟨A2, c2, e1, e2, e3, e4, e5⟩ := from_bts h c m.length hc hle hA
    refine .inl ⟨rfl, A2, c2, ?_, e2, e3, e4, e5⟩
    rw [h1, ← e1]
    rfl
theorem equal_any {B' : Nat} {A' : Option Addr} {m : L} (h : Bts w B A l) (h' : Bts w B' A' m) (c d : Nat) :
    Calls Tryz.prog 29 #[.slice A l.length c, .slice A' m.length d] w fun e w' => e = .returned (.bool (l == m)) ∧ w = w' := by
  have := Tryz.bytes_Equal_all A A' l.length c m.length d (numsOf l) (numsOf m) w (numsOf_length l) (numsOf_length m) (bts_in h) (bts_in h')
  rw [bytes_nums, bytes_nums] at this
  exact this.mono fun e w' ⟨h1, h2⟩ => ⟨h1, h2.symm⟩
theorem clone_any (h : Bts w B A l) (c : Nat) (hl : l.length ≤ 1000000) :
    Calls Tryz.prog 27 #[.slice A l.length c] w fun e w' => ∃ v, e = .returned v ∧ Own5 w' w.heap.size v l ∧ Below w.heap.size w w' := by
  cases A with
  | none =>
    have := bts_none h
    subst this
    refine (Tryz.bytes_Clone_nil _ c w).mono ?_
    rintro e w' ⟨h1, rfl⟩
    exact ⟨_, h1, Own5.nil _ _, Below.refl _ _⟩
  | some ad =>
    refine (Tryz.bytes_Clone_at ad l.length c (numsOf l) w (numsOf_length l) (by omega) (bts_cells h)).mono ?_
    rintro e w' ⟨v, h1, h2, _, h3⟩
    rw [nums_val] at h2
    exact ⟨v, h1, h2, h3⟩
end
theorem strCells_str (l : L) : Lib.strCells (str l) = bv l := rfl
theorem run_app5s {w : World} (ty : TypeId) {N : Nat} {v : Value} {l m : L} (hown : Own5 w N v l) (h63 : l.length + m.length ≤ 1000000000) (hN : N ≤ w.heap.size) :
    ∃ v' w', (Builtin.append_ #[22, 9] ty #[v, .string (str m)]).run Tryz.prog w = .ok v' w' ∧ Own5 w' N v' (l ++ m) ∧ w.grownBy w' v.ownBlock := by
  obtain ⟨i, hi, hz, h0, h1⟩ := info_parts info5
  obtain ⟨v', w', hrun, h2, h3, _⟩ := Lib.run_append_own_string w N 22 9 ty 5 i Tryz.underlying22 Tryz.underlying9 hi hz h0 h1 v l.length (bv l) hown (str m) (by rw [bstr_size]; unfold maxLen; omega) (by rw [bstr_size]; omega) hN
  refine ⟨v', w', hrun, ?_, h3⟩
  unfold Own5
  rw [List.length_append, bv_append]
  rw [bstr_size, strCells_str] at h2
  exact h2
theorem own5_low {X : World} {v : Value} {t : L} {N : Nat} (h : Own5 X N v t) : ∀ k, v.ownBlock = some k → N ≤ k := fun k hk => (h.lt k hk).1
theorem own5_letters {X : World} {v : Value} {t : L} {N : Nat} (h : Own5 X N v t) : ∃ A k c, v = .slice A k c := by
  obtain ⟨A, c, e, _⟩ := own_slice h
  exact ⟨A, _, c, e⟩
def OutP (w : World) (t : L) (e : Ending) (w' : World) : Prop := ∃ v, e = .returned v ∧ Own5 w' w.heap.size v t ∧ Below w.heap.size w w'
/-- the table of the powers of ten lies as it was laid. -/
def GlT (w : World) : Prop := Lib.TabIs Tryz.prog w "internal/strconv.uint64pow10" .u64 Lib.pow10Tab
theorem pow_named : Tryz.prog.globalNamed "internal/strconv.uint64pow10" = some 3 := by kernel_rfl
theorem GlT.lt {w : World} (h : GlT w) : 3 < w.heap.size := World.block_lt_of_cell? w _ (Lib.TabIs.cell h pow_named 0 (by decide))
theorem GlT.below {w w' : World} {B : Nat} (h : GlT w) (hb : Below B w w') (hB : 3 < B) : GlT w' := var?_below hb pow_named hB h
theorem format_any (v : Int) (w : World) (h0 : -9223372036854775808 ≤ v) (h1 : v < 9223372036854775808) (hG : GlT w) :
    Calls Tryz.prog 45 #[.int .i64 v, .int .i64 10] w fun e w' => e = .returned (.string (str (Lib.itoa v))) ∧ Below w.heap.size w w' := by
  refine (Tryz.strconv_FormatInt_10 v h0 (by omega) w hG).mono ?_
  rintro e w' ⟨rfl, k, os, rfl⟩
  exact ⟨rfl, Lib.below_grow _ _ (Nat.le_refl _) _ _⟩
theorem itoa_any (v : Nat) (w : World) (h1 : v ≤ 1000000000) (hG : GlT w) :
    Calls Tryz.prog 46 #[.int .i64 (v : Int)] w fun e w' => e = .returned (.string (str (Lib.decDigits v))) ∧ Below w.heap.size w w' := by
  refine (Tryz.strconv_Itoa (v : Int) (by omega) (by omega) w hG).mono ?_
  rintro e w' ⟨rfl, k, os, rfl⟩
  refine ⟨?_, Lib.below_grow _ _ (Nat.le_refl _) _ _⟩
  have : Lib.itoa (v : Int) = Lib.decDigits v := by
    rw [Lib.itoa, if_neg (by omega)]
    simp
  rw [this]
  rfl
theorem own_blk {w : World} {N s : Nat} {e t : TypeId} {n : Nat} {v : Value} {xs : List Value} (h : w.ownsRow N e s v n xs) {g : Nat} {cs : Array Value} (hb : BlkIs w g t cs) (hne : e ≠ t) : v.ownBlock ≠ some g := by
  intro hv
  rcases h.2 with ⟨rfl, _⟩ | ⟨g', cap, cur, rfl, _, hh, _⟩
  · cases hv
  · have e1 : g' = g := by simpa [Value.ownBlock] using hv
    subst e1
    unfold BlkIs at hb
    rw [hh] at hb
    injection hb with hb
    injection hb with _ ht
    exact hne ht
theorem lapp5s {ops : Array Oper} {o : Oper} {rest : List Oper} {a : Act} {w : World} {Q : Exit → Act → World → Prop} (s x : Operand)
    (ho : o.op = .call { callee := .builtin .append, args := #[s, x], argTypes := #[22, 9] }) (hgd : o.guard = none)
    {N : Nat} {v : Value} {l m : List UInt8} {t : ByteArray} (hs : a.eval s = v) (hown : Own5 w N v l)
    (hx : a.eval x = .string t) (ht : t = str m) (h63 : l.length + m.length ≤ 1000000000) (hN : N ≤ w.heap.size)
    (h : ∀ v' w', Own5 w' N v' (l ++ m) → w.grownBy w' v.ownBlock → wpList Tryz.prog ops Q rest (a.put o.dst v') w') : wpList Tryz.prog ops Q (o :: rest) a w := by
  refine wpList_plain hgd fun K hK => ?_
  subst ht
  obtain ⟨v', w', hrun, h2, h3⟩ := run_app5s o.type hown h63 hN
  unfold Oper.wp execOp
  simp only [ho, resolve, invoke, builtin, Sem.run_bind, Sem.run_pure, Result.andThen_ok, List.map_toArray, List.map_cons, List.map_nil, hs, hx, hrun]
  exact hK _ _ (h v' w' h2 h3)
theorem blk_own {w w' : World} {N : Nat} {v : Value} {l : L} {g : Nat} {t : TypeId} {cs : Array Value} (h : Own5 w N v l) (hb : BlkIs w g t cs) (hne : 5 ≠ t) (hg : w.grownBy w' v.ownBlock) : BlkIs w' g t cs := hb.grown hg (own_blk h hb hne)
/-- the error variables hold errors, or none. -/
def GlE (w : World) : Prop := (∃ ev, w.cell? ⟨1, 0, none⟩ = some ev ∧ (ev = .nilIface ∨ ∃ te pe, ev = .iface te pe)) ∧ ∃ ev, w.cell? ⟨2, 0, none⟩ = some ev ∧ (ev = .nilIface ∨ ∃ te pe, ev = .iface te pe)
theorem GlE.lt {w : World} (h : GlE w) : 1 < w.heap.size ∧ 2 < w.heap.size := by
  obtain ⟨⟨e1, h1, _⟩, e2, h2, _⟩ := h
  exact ⟨World.block_lt_of_cell? w ⟨_, 0, none⟩ h1, World.block_lt_of_cell? w ⟨_, 0, none⟩ h2⟩
theorem GlE.below {w w' : World} {B : Nat} (h : GlE w) (hb : Below B w w') (hB : 1 < B ∧ 2 < B) : GlE w' := by
  obtain ⟨⟨e1, h1, h1'⟩, e2, h2, h2'⟩ := h
  exact ⟨⟨e1, (hb.cell (p := ⟨_, 0, none⟩) hB.1).trans h1, h1'⟩, e2, (hb.cell (p := ⟨_, 0, none⟩) hB.2).trans h2, h2'⟩
theorem parse_int (ds : L) (hl : ds.length ≤ 1000000) (w : World) (hE : GlE w) :
    Calls Tryz.prog 26 #[.string (str ds), .int .i64 10, .int .i64 64] w fun e w' => Below w.heap.size w w' ∧
      ((∃ v, Lib.parseIntB 64 ds = .ok v ∧ e = .returned (.tuple #[.int .i64 v, .nilIface])) ∨ ((∀ v, Lib.parseIntB 64 ds ≠ .ok v) ∧ ∃ v M, e = .returned (.tuple #[.int .i64 v, .iface 86 (.pointer (some ⟨M, 0, none⟩))]))) := by
  have hz : (str ds).size ≤ 1000000 := by rw [str_size]; exact hl
  have hd : (str ds).data.toList = ds := by simp [str]
  obtain ⟨⟨e1, h1, h1'⟩, e2, h2, h2'⟩ := hE
  cases hp : Lib.parseIntB 64 ds with
  | ok v =>
    refine (Tryz.strconv_ParseInt_10_at64_ok (str ds) (by omega) v (by rw [hd]; exact hp) w).mono ?_
    rintro e w' ⟨rfl, hw⟩
    refine ⟨?_, .inl ⟨v, rfl, rfl⟩⟩
    rcases hw with rfl | ⟨t, rfl⟩
    · exact Below.refl _ _
    · exact Lib.bytesWorld_below _ _ _
  | range =>
    refine (Tryz.strconv_ParseInt_10_at64_range (str ds) (by omega) (by rw [hd]; exact hp) e2 w h2 h2').mono ?_
    rintro e w' ⟨M, rfl, _, _, hb⟩
    exact ⟨hb, .inr ⟨(fun v h => nomatch h), _, M, rfl⟩⟩
  | _ =>
    refine (Tryz.strconv_ParseInt_10_at64_syntax (str ds) (by omega) (by rw [hd]; exact hp) e1 w h1 h1').mono ?_
    rintro e w' ⟨M, rfl, _, _, hb⟩
    exact ⟨hb, .inr ⟨(fun v h => nomatch h), _, M, rfl⟩⟩
theorem own5_nil {w : World} {N n c : Nat} {A : Option Addr} {l : List UInt8} (h : Own5 w N (.slice A n c) l) : A = none → c = 0 := by
  intro e
  subst e
  rcases h.2 with ⟨h0, _⟩ | ⟨g, cap, cur, h0, _⟩
  · injection h0
  · injection h0 with h1 _ _
    cases h1
theorem atoi_any (ds : L) (hl : ds.length ≤ 1000000) (w : World) (hE : GlE w) :
    Calls Tryz.prog 37 #[.string (str ds)] w fun e w' => Below w.heap.size w w' ∧
      ((∃ v, Lib.atoiAll ds = .ok v ∧ e = .returned (.tuple #[.int .i64 v, .nilIface])) ∨ ((∀ v, Lib.atoiAll ds ≠ .ok v) ∧ ∃ v M, e = .returned (.tuple #[.int .i64 v, .iface 86 (.pointer (some ⟨M, 0, none⟩))]))) := by
  have hz : (str ds).size ≤ 1000000 := by rw [str_size]; exact hl
  have hd : (str ds).data.toList = ds := by simp [str]
  obtain ⟨⟨e1, h1, h1'⟩, e2, h2, h2'⟩ := hE
  cases hp : Lib.atoiAll ds with
  | ok v =>
    refine (Tryz.strconv_Atoi_ok (str ds) (by omega) v (by rw [hd]; exact hp) w).mono ?_
    rintro e w' ⟨rfl, hw⟩
    refine ⟨?_, .inl ⟨v, rfl, rfl⟩⟩
    rcases hw with rfl | ⟨t, rfl⟩
    · exact Below.refl _ _
    · exact Lib.bytesWorld_below _ _ _
  | range =>
    refine (Tryz.strconv_Atoi_range (str ds) (by omega) (by rw [hd]; exact hp) e2 w h2 h2').mono ?_
    rintro e w' ⟨M, rfl, _, _, hb⟩
    exact ⟨hb, .inr ⟨(fun v h => nomatch h), _, M, rfl⟩⟩
  | _ =>
    refine (Tryz.strconv_Atoi_syntax (str ds) (by omega) (by rw [hd]; exact hp) e1 w h1 h1').mono ?_
    rintro e w' ⟨M, rfl, _, _, hb⟩
    exact ⟨hb, .inr ⟨(fun v h => nomatch h), _, M, rfl⟩⟩
/-- strconv.AppendInt to nothing. -/
theorem appint_any (v : Int) (w : World) (h0 : -9223372036854775808 ≤ v) (h1 : v < 9223372036854775808) (hG : GlT w) :
    Calls Tryz.prog 34 #[.slice none 0 0, .int .i64 v, .int .i64 10] w (OutP w (Lib.itoa v)) := by
  refine (Tryz.strconv_AppendInt_10 w.heap.size 0 v h0 (by omega) (.slice none 0 0) [] w (World.ownsRow_nil w w.heap.size 5 1) (Nat.le_refl _) (by omega) (Lib.tabBelow_of_tabIs hG)).mono ?_
  rintro e w' ⟨v', rfl, h2, h3, _⟩
  refine ⟨v', rfl, ?_, h3⟩
  rw [Nat.zero_add, List.nil_append] at h2
  exact h2
theorem itoa_dec {v : Int} (h : 0 ≤ v) : Lib.itoa v = dec v.toNat := by
  rw [Lib.itoa, if_neg (by omega)]
  rfl
end En
end Go.Proofs.YtpfonpjcnpfipaaGreatDoor
