/- The library's calls that mime makes, over bytes wherever they lie. Conditions: as stated at each. -/
import Derived.Test.YtamekflgidfnfaaGreatDoorMiRIn
import Derived.Test.YtamekflgidfnfaaGreatDoorShelf
import Derived.Test.YtamekflgidfnfaaGreatDoorRgKey
import Derived.Test.YtamekflgidfnfaaGreatDoorFaCall
import Derived.Lib.SlBytesConst
import Derived.Lib.SlBytesRowKit
import Derived.Lib.SlBytesRowKit2
namespace Go.Proofs.YtamekflgidfnfaaGreatDoor
set_option maxRecDepth 100000
namespace Mi
open Go.RowKit Go Go.Proofs.YtamekflgidfnfaaGreatDoor.Pa
attribute [local go_sem] Oper.semAt_some
def numsOf (l : L) : List Int := l.map fun b => (b.toNat : Int)
theorem numsOf_length (l : L) : (numsOf l).length = l.length := by simp [numsOf]
theorem bytes_nums (l : L) : Go.Lib.bytesOf (numsOf l) = l := by
  unfold Go.Lib.bytesOf numsOf
  rw [List.map_map, show ((fun n : Int => UInt8.ofNat n.toNat) ∘ fun b : UInt8 => (b.toNat : Int)) = id from by funext b; simp]
  simp
theorem nums_lt (l : L) : ∀ x ∈ numsOf l, 0 ≤ x ∧ x < 256 := by
  intro x hx
  simp only [numsOf, List.mem_map] at hx
  obtain ⟨b, _, rfl⟩ := hx
  have := b.toNat_lt
  omega
theorem nums_get (l : L) (i : Nat) (h : i < l.length) : (numsOf l).getD i 0 = ((l.getD i 0).toNat : Int) := by
  simp [numsOf, List.getD, h]
theorem add_at (g o k : Nat) : (⟨g, o, none⟩ : Addr).add k = ⟨g, o + k, none⟩ := by
  unfold Addr.add
  split
  · rename_i h; subst h; rfl
  · rfl
theorem bts_new (w : World) (l : L) (C : Array Value) (fr : Nat × Nat) (h : C.toList = bv l) : Bts (w.alloc (.cells C 5 fr)) (w.heap.size + 1) (some ⟨w.heap.size, 0, none⟩) l := Bts.newm w l C fr h
theorem conv_const (w : World) (C : Array Value) (n c : Nat) : (convert 22 22 (.slice (some ⟨w.heap.size, 0, none⟩) n c)).run Tryz.prog (w.alloc (.cells C 5)) = .ok (.slice (some ⟨w.heap.size, 0, none⟩) n c) (w.alloc (.cells C 5 (C.size, C.size + 1))) :=
  Lib.run_convert_bytes_const (P := Tryz.prog) w 22 5 C n c Tryz.underlying22 Tryz.underlying5
theorem grown_alloc (w : World) (o : Obj) : w.grownBy (w.alloc o) none := World.grownBy_alloc w o none
section
variable {w : World} {B : Nat} {A : Option Addr} {l : L}
theorem conv_str (h : Bts w B A l) (c : Nat) : (convert 22 9 (.slice A l.length c)).run Tryz.prog w = .ok (.string (str l)) w :=
  run_str Tryz.prog Tryz.underlying22 Tryz.underlying5 Tryz.underlying9 c h
theorem bts_cells {ad : Addr} (h : Bts w B (some ad) l) : ∀ i, i < l.length → w.cell? (ad.add i) = some (.int .u8 ((numsOf l).getD i 0)) := fun i hi => by
  obtain ⟨a', e, _, hc⟩ := h.at_ hi
  injection e with e
  subst e
  rw [nums_get l i hi]
  exact hc
theorem bts_in (h : Bts w B A l) : Go.Lib.BytesIn w A l.length (numsOf l) := by
  cases A with
  | none =>
    rw [bts_none h]
    exact Go.Lib.BytesIn.nil _ _ _
  | some ad => exact Go.Lib.BytesIn.of_cells (bts_cells h)
/-- where there is a byte there is a block. -/
theorem bts_at_ (h : Bts w B A l) (hl : 0 < l.length) : ∃ g o, A = some ⟨g, o, none⟩ ∧ g < B ∧ ∀ k, k < l.length → w.cell? ⟨g, o + k, none⟩ = some (.int .u8 ((l.getD k 0).toNat : Int)) := by
  obtain ⟨ad, e, hb, hc⟩ := h.at_ hl
  have hsp := World.cell?_spot hc
  rw [add_0] at hsp
  obtain ⟨g, o, sp⟩ := ad
  obtain rfl : sp = none := hsp
  refine ⟨g, o, e, hb, fun k hk => ?_⟩
  obtain ⟨ad', e', _, hc'⟩ := h.at_ hk
  rw [e] at e'
  injection e' with e'
  subst e'
  rwa [add_at] at hc'
theorem prefix_any {B' : Nat} {A' : Option Addr} {m : L} (h : Bts w B A l) (h' : Bts w B' A' m) (c d : Nat) (hc : l.length ≤ c) :
    Calls Tryz.prog 50 #[.slice A l.length c, .slice A' m.length d] w fun e w' => e = .returned (.bool (Go.Lib.hasPrefix l m)) ∧ w = w' := by
  have := Tryz.bytes_HasPrefix_all A A' l.length c m.length d (numsOf l) (numsOf m) w (numsOf_length l) (numsOf_length m) hc (bts_in h) (bts_in h')
  rw [bytes_nums, bytes_nums] at this
  exact this.mono fun e w' ⟨h1, h2⟩ => ⟨h1, h2.symm⟩
theorem suffix_any {B' : Nat} {A' : Option Addr} {m : L} (h : Bts w B A l) (h' : Bts w B' A' m) (c d : Nat) (hc : l.length ≤ c) (hl : l.length ≤ 1000000) :
    Calls Tryz.prog 79 #[.slice A l.length c, .slice A' m.length d] w fun e w' => e = .returned (.bool (Go.Lib.hasSuffix l m)) ∧ w = w' := by
  have := Tryz.bytes_HasSuffix_all A A' l.length c m.length d (numsOf l) (numsOf m) w (numsOf_length l) (numsOf_length m) hc (by omega) (bts_in h) (bts_in h')
  rw [bytes_nums, bytes_nums] at this
  exact this.mono fun e w' ⟨h1, h2⟩ => ⟨h1, h2.symm⟩
/-- what is left of a slice. -/
theorem from_bts (h : Bts w B A l) (cap k : Nat) (hcap : l.length ≤ cap) (hk : k ≤ l.length) (hA : A = none → cap = 0) :
    ∃ A' c', Value.slice (if cap = k then A else A.map (·.add k)) (l.length - k) (cap - k) = .slice A' (l.drop k).length c' ∧ Bts w B A' (l.drop k) ∧ (l.drop k).length ≤ c' ∧ c' ≤ cap ∧ (A' = none → c' = 0) := by
  refine ⟨if cap = k then A else A.map (·.add k), cap - k, ?_, ?_, by rw [List.length_drop]; omega, by omega, ?_⟩
  · rw [List.length_drop]
  · have := h.drop (k := k) cap hcap
    rw [Nat.mul_one] at this
    exact this
  · intro e
    split at e
    · omega
    · cases A with
      | none => have := hA rfl; omega
      | some a => cases e
theorem pre_is (l m : L) : Go.Lib.hasPrefix l m = m.isPrefixOf l := rfl
theorem cutpre_any {B' : Nat} {A' : Option Addr} {m : L} (h : Bts w B A l) (h' : Bts w B' A' m) (c d : Nat) (hc : l.length ≤ c) (hA : A = none → c = 0) :
    Calls Tryz.prog 45 #[.slice A l.length c, .slice A' m.length d] w fun e w' => w = w' ∧
      ((m.isPrefixOf l = true ∧ ∃ A2 c2, e = .returned (.tuple #[.slice A2 (l.drop m.length).length c2, .bool true]) ∧ Bts w B A2 (l.drop m.length) ∧ (l.drop m.length).length ≤ c2 ∧ c2 ≤ c ∧ (A2 = none → c2 = 0)) ∨
        (m.isPrefixOf l = false ∧ e = .returned (.tuple #[.slice A l.length c, .bool false]))) := by
  have := Tryz.bytes_CutPrefix_all A A' l.length c m.length d (numsOf l) (numsOf m) w (numsOf_length l) (numsOf_length m) hc (bts_in h) (bts_in h')
  rw [trimPrefixV_eq (numsOf_length l) (bts_in h), bytes_nums, bytes_nums, pre_is] at this
  refine this.mono fun e w' ⟨h1, h2⟩ => ⟨h2.symm, ?_⟩
  cases hp : m.isPrefixOf l with
  | false =>
    rw [hp] at h1
    exact .inr ⟨rfl, h1⟩
  | true =>
    rw [hp, if_pos rfl, numsOf_length] at h1
    have hle : m.length ≤ l.length := by
      rw [List.isPrefixOf_iff_prefix] at hp
      exact hp.length_le
    obtain ⟨A2, c2, e1, e2, e3, e4, e5⟩ := from_bts h c m.length hc hle hA
    refine .inl ⟨rfl, A2, c2, ?_, e2, e3, e4, e5⟩
    rw [h1, ← e1]
    rfl
theorem cutsuf_any {B' : Nat} {A' : Option Addr} {m : L} (h : Bts w B A l) (h' : Bts w B' A' m) (c d : Nat) (hc : l.length ≤ c) (hl : l.length ≤ 1000000) :
    Calls Tryz.prog 52 #[.slice A l.length c, .slice A' m.length d] w fun e w' => e = .returned (.tuple #[.slice A (if Go.Lib.hasSuffix l m then l.length - m.length else l.length) c, .bool (Go.Lib.hasSuffix l m)]) ∧ w = w' := by
  have := Tryz.bytes_CutSuffix_all A A' l.length c m.length d (numsOf l) (numsOf m) w (numsOf_length l) (numsOf_length m) hc (by omega) (bts_in h) (bts_in h')
  refine this.mono fun e w' ⟨h1, h2⟩ => ⟨?_, h2.symm⟩
  rw [h1, trimSuffixV_eq (numsOf_length l) (bts_in h), bytes_nums, bytes_nums, numsOf_length]
  cases hq : Go.Lib.hasSuffix l m <;> simp
/-- internal/bytealg's bound holds some number. -/
def GlM (w : World) : Prop := ∃ x : Int, w.cell? ⟨0, 0, none⟩ = some (.int .i64 x)
theorem index2_any {B' : Nat} {A' : Option Addr} {m : L} (h : Bts w B A l) (h' : Bts w B' A' m) (c d : Nat) (hc : l.length ≤ c) (hA : A = none → c = 0) (hl : l.length ≤ 1000000) (hm : 2 ≤ m.length) (hm2 : m.length ≤ 1000000) (hG : GlM w) :
    Calls Tryz.prog 78 #[.slice A l.length c, .slice A' m.length d] w fun e w' => e = .returned (.int .i64 (Go.Lib.index l m)) ∧ ∃ q, w' = w.drewN q := by
  obtain ⟨x, hx⟩ := hG
  cases A with
  | none =>
    have hl0 := bts_none h
    subst hl0
    rw [hA rfl]
    refine (Tryz.bytes_Index_nil A' m.length d w (by omega) (by omega)).mono ?_
    rintro e w' ⟨rfl, rfl⟩
    refine ⟨?_, 0, rfl⟩
    rw [if_neg (by omega)]
    cases m with
    | nil => simp at hm
    | cons y m => rfl
  | some ad =>
    obtain ⟨ad', rfl, _, _⟩ := h'.at_ (k := 0) (by omega)
    have := Tryz.bytes_Index_at ad ad' l.length c m.length d (numsOf l) (numsOf m) x w (numsOf_length l) (numsOf_length m) (nums_lt l) (nums_lt m) (bts_cells h) (bts_cells h') hc (by omega) (by omega) hx
    rw [bytes_nums, bytes_nums] at this
    exact this
theorem cut2_any {B' : Nat} {A' : Option Addr} (h : Bts w B A l) (h' : Bts w B' A' cr) (c d : Nat) (hc : l.length ≤ c) (hA : A = none → c = 0) (hl : l.length ≤ 1000000) (hG : GlM w) :
    Calls Tryz.prog 44 #[.slice A l.length c, .slice A' 2 d] w fun e w' => (∃ q, w' = w.drewN q) ∧
      ((∃ a t, cutCR l = some (a, t) ∧ ∃ A2 c2, e = .returned (.tuple #[.slice A a.length c, .slice A2 t.length c2, .bool true]) ∧ Bts w B A a ∧ a.length ≤ c ∧ Bts w B A2 t ∧ t.length ≤ c2 ∧ c2 ≤ c ∧ (A2 = none → c2 = 0)) ∨
        (cutCR l = none ∧ e = .returned (.tuple #[.slice A l.length c, .slice none 0 0, .bool false]))) := by
  have hi := index2_any h h' c d hc hA hl (by decide) (by decide) hG
  have hroom := Go.Lib.index_room l cr
  have hge := Go.Lib.index_ge l cr
  have hsp := Go.Lib.index_spec l cr
  have h2 : cr.length = 2 := rfl
  have := Tryz.bytes_Cut_of A A' l.length c 2 d _ w hc hge (fun h => by have := hroom h; omega) (by omega) hi
  refine this.mono fun e w' ⟨h1, hq⟩ => ⟨hq, ?_⟩
  rw [h1]
  unfold Go.Lib.cutV
  rcases hsp with ⟨e1, e2⟩ | ⟨i, e1, e2, e3, e4⟩
  · right
    rw [e1, if_neg (by omega)]
    refine ⟨cut_none l fun j => ?_, rfl⟩
    rcases Nat.lt_or_ge l.length j with hj | hj
    · rw [List.drop_of_length_le (by omega)]; rfl
    · exact e2 j hj
  · left
    rw [e1] at hroom ⊢
    have hr := hroom (by omega)
    rw [if_pos (by omega)]
    obtain ⟨A2, c2, f1, f2, f3, f4, f5⟩ := from_bts h c (i + 2) hc (by omega) hA
    refine ⟨l.take i, l.drop (i + 2), cut_first i l e3 (fun j hj => e4 j hj), A2, c2, ?_, h.take i, by rw [List.length_take]; omega, f2, f3, f4, f5⟩
    rw [← f1, List.length_take, Nat.min_eq_left (by omega)]
    rfl
theorem equal_any {B' : Nat} {A' : Option Addr} {m : L} (h : Bts w B A l) (h' : Bts w B' A' m) (c d : Nat) :
    Calls Tryz.prog 54 #[.slice A l.length c, .slice A' m.length d] w fun e w' => e = .returned (.bool (l == m)) ∧ w = w' := by
  have := Tryz.bytes_Equal_all A A' l.length c m.length d (numsOf l) (numsOf m) w (numsOf_length l) (numsOf_length m) (bts_in h) (bts_in h')
  rw [bytes_nums, bytes_nums] at this
  exact this.mono fun e w' ⟨h1, h2⟩ => ⟨h1, h2.symm⟩
/-- the pieces behind the first one, in a row of slices that begins at g. -/
def Pcs (w : World) (B g : Nat) (ps : List L) : Prop := ∀ k, k < ps.length → ∃ ad cp, w.cell? ⟨g, k + 1, none⟩ = some (.slice (some ad) (ps.getD k []).length cp) ∧ (ps.getD k []).length ≤ cp ∧ Bts w B (some ad) (ps.getD k [])
theorem Pcs.keep {w w' : World} {B g : Nat} {ps : List L} (h : Pcs w B g ps) (hg : w'.heap[g]? = w.heap[g]?) (hk : ∀ p : Addr, p.block < B → w'.cell? p = w.cell? p) : Pcs w' B g ps := fun k hk' => by
  obtain ⟨ad, cp, h1, h2, h3⟩ := h k hk'
  refine ⟨ad, cp, ?_, h2, Cs.keep h3 hk⟩
  rw [← h1]
  simp [World.cell?, hg]
theorem split_any {B' : Nat} {A' : Option Addr} (h : Bts w B A l) (hB : B ≤ w.heap.size) (h' : Bts w B' A' nm) (c d : Nat) (hc : l.length ≤ c) (hm : c ≤ maxLen) (hA : A = none → c = 0) (hl : l.length ≤ 1000000) (hG : GlM w) :
    Calls Tryz.prog 75 #[.slice A l.length c, .slice A' 9 d] w fun e w' => e = .returned (.slice (some ⟨w.heap.size, 0, none⟩) ((pcs l).length + 1) ((pcs l).length + 1)) ∧ Below w.heap.size w w' ∧ w.heap.size < w'.heap.size ∧ Pcs w' B w.heap.size (pcs l) := by
  obtain ⟨x, hx⟩ := hG
  cases A with
  | none =>
    have hl0 := bts_none h
    subst hl0
    rw [hA rfl]
    refine (Tryz.bytes_Split_nil A' 9 d w (by omega) (by omega) (by omega)).mono ?_
    rintro e w' ⟨rfl, rfl⟩
    have hp : pcs [] = [] := rfl
    rw [hp]
    exact ⟨rfl, (Below.refl _ w).alloc (Nat.le_refl _) _, by simp, fun k hk => absurd hk (Nat.not_lt_zero _)⟩
  | some ad =>
    obtain ⟨ad', rfl, _, _⟩ := h'.at_ (k := 0) (by decide)
    have := Tryz.bytes_Split ad ad' l.length c 9 d (numsOf l) (numsOf nm) x w (numsOf_length l) rfl (nums_lt l) (nums_lt nm) (bts_cells h) (bts_cells h') hc (by omega) (by omega) (by unfold maxLen at hm; omega) (by omega) hx
    rw [bytes_nums, bytes_nums] at this
    refine this.mono ?_
    rintro e w' ⟨rfl, q, rfl⟩
    have hlen : (Go.Lib.splitK nm 0 (Go.Lib.count l nm) l).length = (pcs l).length + 1 := by
      obtain ⟨p, ps, e, _⟩ := split_head nm (Go.Lib.count l nm) l
      unfold pcs
      rw [e]
      rfl
    have hVl := Go.Lib.splitV_length nm 0 (Go.Lib.count l nm) ad c l
    have hcl : (Go.Lib.splitK nm 0 (Go.Lib.count l nm) l).length = Go.Lib.count l nm + 1 := by
      have h1 := Go.Lib.splitB_all (str nm) (by decide) 0 (Go.Lib.count l nm) (str l) (by unfold Go.Lib.countB; rw [str_data, str_data])
      have h2 := congrArg List.length (Go.Lib.splitB_data (str nm) 0 (Go.Lib.count l nm) (str l))
      rw [List.length_map, h1, str_data, str_data] at h2
      exact h2.symm
    rw [hcl] at hlen
    refine ⟨by rw [hlen], ((Below.refl _ w).alloc (Nat.le_refl _) _).trans (drewN_below _ _ _), by simp, fun k hk => ?_⟩
    have hgK : (Go.Lib.splitK nm 0 (Go.Lib.count l nm) l)[k + 1]? = some ((pcs l).getD k []) := by
      obtain ⟨p, ps, e, _⟩ := split_head nm (Go.Lib.count l nm) l
      have ep : pcs l = ps := by unfold pcs; rw [e]; rfl
      rw [e, List.getElem?_cons_succ, ep]
      rw [ep] at hk
      simp [List.getD, hk]
    have hk1 : k + 1 < (Go.Lib.splitV nm 0 (Go.Lib.count l nm) ad c l).length := by rw [hVl, hcl]; omega
    obtain ⟨a', off, len, cp, e1, e2, e3, e4, e5⟩ := Go.Lib.splitV_spec nm 0 (by decide) (Nat.zero_le _) (Go.Lib.count l nm) ad c l hc (k + 1) _ (List.getElem?_eq_getElem hk1)
    rw [hgK] at e4
    injection e4 with e4
    have hlen2 : len = ((pcs l).getD k []).length := by rw [e4, List.length_take, List.length_drop]; omega
    refine ⟨a', cp, ?_, by omega, ?_⟩
    · have hb := heap_alloc_new w (.cells (Go.Lib.splitV nm 0 (Go.Lib.count l nm) ad c l).toArray 22)
      have := cell_of_row _ w.heap.size (k + 1) _ _ _ hb
      refine this.trans ?_
      rw [List.getElem?_toArray, List.getElem?_eq_getElem hk1, e1, hlen2]
    · have hkeep : ∀ p : Addr, p.block < B → ((w.alloc (.cells (Go.Lib.splitV nm 0 (Go.Lib.count l nm) ad c l).toArray 22)).drewN q).cell? p = w.cell? p := fun p hp => (((Below.refl w.heap.size w).alloc (Nat.le_refl _) _).trans (drewN_below _ _ _)).cell (Nat.lt_of_lt_of_le hp hB)
      refine Cs.keep ?_ hkeep
      intro j u hj
      have hj2 : j < ((pcs l).getD k []).length := by
        rw [← bv_length]
        exact (List.getElem?_eq_some_iff.1 hj).1
      rw [bv_get _ _ hj2] at hj
      injection hj with hj
      subst hj
      have hoff : off + j < l.length := by omega
      obtain ⟨ad2, f1, f2, f3⟩ := h.at_ hoff
      injection f1 with f1
      subst f1
      refine ⟨a', rfl, ?_, ?_⟩
      · have := congrArg Addr.block (e5 j (by omega))
        rw [blk_add, blk_add] at this
        rw [this]
        exact f2
      · rw [e5 j (by omega), f3]
        congr 3
        rw [e4]
        simp [List.getD, List.getElem?_drop, show j < len by omega, hoff]
end
end Mi
end Go.Proofs.YtamekflgidfnfaaGreatDoor
