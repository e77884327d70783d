/- Letters in memory. Conditions: as stated at each. -/
import Derived.Test.YtamekflgidfnfaaGreatDoorMbQuote
import Derived.Test.YtamekflgidfnfaaGreatDoorPaEach
import Derived.WalkSmall
import Derived.Lib.AppendIntMem
import Derived.Test.YtamekflgidfnfaaGreatDoorDkMem
namespace Go.Proofs.YtamekflgidfnfaaGreatDoor
set_option maxRecDepth 100000
namespace Mb
open Go.RowKit Go Go.Proofs.YtamekflgidfnfaaGreatDoor.Pa
/-- the table of the powers of ten lies as it was laid. -/
def GlT (w : World) : Prop := Lib.TabIs Tryz.prog w "internal/strconv.uint64pow10" .u64 Lib.pow10Tab
theorem pow_named : Tryz.prog.globalNamed "internal/strconv.uint64pow10" = some 1 := by kernel_rfl
theorem GlT.lt {w : World} (h : GlT w) : 1 < w.heap.size := World.block_lt_of_cell? w _ (Lib.TabIs.cell h pow_named 0 (by decide))
theorem GlT.below {w w' : World} {B : Nat} (h : GlT w) (hb : Below B w w') (hB : 1 < B) : GlT w' := var?_below hb pow_named hB h
theorem format_any (v : Int) (w : World) (h0 : -9223372036854775808 ≤ v) (h1 : v < 9223372036854775808) (hG : GlT w) :
    Calls Tryz.prog 37 #[.int .i64 v, .int .i64 10] w fun e w' => e = .returned (.string (str (Lib.itoa v))) ∧ Below w.heap.size w w' := by
  refine (Tryz.strconv_FormatInt_10 v h0 (by omega) w hG).mono ?_
  rintro e w' ⟨rfl, k, os, rfl⟩
  exact ⟨rfl, Lib.below_grow _ _ (Nat.le_refl _) _ _⟩
abbrev d0 : Lt := ([], 0, [])
/-- a letter in memory. -/
def LtAt (w : World) (B g o : Nat) (x : Lt) : Prop :=
  w.cell? ⟨g, o, none⟩ = some (.string (str x.1)) ∧ w.cell? ⟨g, o + 1, none⟩ = some (.int .i64 x.2.1) ∧
    ∃ A c, w.cell? ⟨g, o + 2, none⟩ = some (.slice A x.2.2.length c) ∧ x.2.2.length ≤ c ∧ c ≤ maxLen ∧ (A = none → c = 0) ∧ Bts w B A x.2.2
def Ls (w : World) (B : Nat) (A : Option Addr) (ls : List Lt) : Prop := ∀ k, k < ls.length → ∃ g o, A = some ⟨g, o, none⟩ ∧ g < B ∧ LtAt w B g (o + k * 3) (ls.getD k d0)
theorem Ls.below {w w' : World} {B : Nat} {A : Option Addr} {ls : List Lt} (h : Ls w B A ls) (hb : Below B w w') : Ls w' B A ls := fun k hk => by
  obtain ⟨g, o, e, hg, h1, h2, Ab, c, h3, h4, h5, h6, h7⟩ := h k hk
  exact ⟨g, o, e, hg, (hb.cell (p := ⟨g, _, none⟩) hg).trans h1, (hb.cell (p := ⟨g, _, none⟩) hg).trans h2, Ab, c, (hb.cell (p := ⟨g, _, none⟩) hg).trans h3, h4, h5, h6, h7.below hb⟩
theorem Ls.more {w : World} {B B' : Nat} {A : Option Addr} {ls : List Lt} (h : Ls w B A ls) (hB : B ≤ B') : Ls w B' A ls := fun k hk => by
  obtain ⟨g, o, e, hg, h1, h2, Ab, c, h3, h4, h5, h6, h7⟩ := h k hk
  exact ⟨g, o, e, by omega, h1, h2, Ab, c, h3, h4, h5, h6, h7.more hB⟩
theorem els_of {w : World} {A : Option Addr} {ls : List Lt} {n : Nat} (h : Ls w w.heap.size A ls) (hn : ls.length = n) : ∀ k, k < n → ∃ (g o : Nat) (Ab : Option Addr) (c : Nat), A = some ⟨g, o, none⟩ ∧ (ls.getD k d0).2.2.length ≤ c ∧ c ≤ maxLen ∧ (Ab = none → c = 0) ∧ ∀ X, Below w.heap.size w X →
    X.cell? ⟨g, o + k * 3, none⟩ = some (.string (str (ls.getD k d0).1)) ∧ X.cell? ⟨g, o + k * 3 + 1, none⟩ = some (.int .i64 (ls.getD k d0).2.1) ∧ X.cell? ⟨g, o + k * 3 + 2, none⟩ = some (.slice Ab (ls.getD k d0).2.2.length c) ∧ Bts X w.heap.size Ab (ls.getD k d0).2.2 := fun k hk => by
  rw [← hn] at hk
  obtain ⟨g, o, e, hg, h1, h2, Ab, c, h3, h4, h5, h6, h7⟩ := h k hk
  exact ⟨g, o, Ab, c, e, h4, h5, h6, fun X hb => ⟨(hb.cell (p := ⟨g, _, none⟩) hg).trans h1, (hb.cell (p := ⟨g, _, none⟩) hg).trans h2, (hb.cell (p := ⟨g, _, none⟩) hg).trans h3, h7.below hb⟩⟩
def small (x : Lt) : Prop := x.1.length ≤ 30000 ∧ x.2.2.length ≤ 30000 ∧ -9223372036854775808 ≤ x.2.1 ∧ x.2.1 < 9223372036854775808
theorem getD_in {ls : List Lt} {k : Nat} (h : k < ls.length) : ls.getD k d0 ∈ ls := by simp [List.getD, h]
theorem file_take {ls : List Lt} {k : Nat} (h : k < ls.length) : fileS (ls.take (k + 1)) = fileS (ls.take k) ++ expS (ls.getD k d0) := by
  have hd : ls.getD k d0 = ls[k] := by simp [List.getD, h]
  unfold fileS
  rw [List.take_succ_eq_append_getElem h, List.flatMap_append, hd]
  simp
theorem file_le (ls : List Lt) (k : Nat) : (fileS (ls.take k)).length ≤ (fileS ls).length := by
  have := congrArg (fun l : List Lt => (l.flatMap expS).length) (List.take_append_drop k ls)
  simp only [List.flatMap_append, List.length_append] at this
  unfold fileS
  omega
theorem exp_le {x : Lt} : ∀ {ls : List Lt}, x ∈ ls → (expS x).length ≤ (fileS ls).length
  | y :: ls, h => by
    have e : fileS (y :: ls) = expS y ++ fileS ls := List.flatMap_cons
    rw [e, List.length_append]
    rcases List.mem_cons.1 h with rfl | h
    · omega
    · have := exp_le h; omega
theorem str_empty (l : L) : ((str l).toList == []) = l.isEmpty := by
  rw [Go.Lib.toList_data, show (str l).data.toList = l by simp [str]]
  cases l <;> rfl
theorem own_blk {w : World} {N s : Nat} {e t : TypeId} {n : Nat} {v : Value} {xs : List Value} (h : w.ownsRow N e s v n xs) {g : Nat} {cs : Array Value} (hb : BlkIs w g t cs) (hne : e ≠ t) : v.ownBlock ≠ some g := by
  intro hv
  rcases h.2 with ⟨rfl, _⟩ | ⟨g', cap, cur, rfl, _, hh, _⟩
  · cases hv
  · have e1 : g' = g := by simpa [Value.ownBlock] using hv
    subst e1
    unfold BlkIs at hb
    rw [hh] at hb
    injection hb with hb
    injection hb with _ ht
    exact hne ht
theorem lapp5s {ops : Array Oper} {o : Oper} {rest : List Oper} {a : Act} {w : World} {Q : Exit → Act → World → Prop} (s x : Operand)
    (ho : o.op = .call { callee := .builtin .append, args := #[s, x], argTypes := #[22, 9] }) (hgd : o.guard = none)
    {N : Nat} {v : Value} {l m : List UInt8} {t : ByteArray} (hs : a.eval s = v) (hown : Own5 w N v l)
    (hx : a.eval x = .string t) (ht : t = str m) (h63 : l.length + m.length ≤ 1000000000) (hN : N ≤ w.heap.size)
    (h : ∀ v' w', Own5 w' N v' (l ++ m) → w.grownBy w' v.ownBlock → wpList Tryz.prog ops Q rest (a.put o.dst v') w') : wpList Tryz.prog ops Q (o :: rest) a w := by
  refine wpList_plain hgd fun K hK => ?_
  subst ht
  obtain ⟨v', w', hrun, h2, h3⟩ := run_app5s o.type hown h63 hN
  unfold Oper.wp execOp
  simp only [ho, resolve, invoke, builtin, Sem.run_bind, Sem.run_pure, Result.andThen_ok, List.map_toArray, List.map_cons, List.map_nil, hs, hx, hrun]
  exact hK _ _ (h v' w' h2 h3)
theorem blk_own {w w' : World} {N : Nat} {v : Value} {l : L} {g : Nat} {t : TypeId} {cs : Array Value} (h : Own5 w N v l) (hb : BlkIs w g t cs) (hne : 5 ≠ t) (hg : w.grownBy w' v.ownBlock) : BlkIs w' g t cs := hb.grown hg (own_blk h hb hne)
/-- a letter's first line. -/
def hdr (x : Lt) : L := mkL ++ (who x.1 ++ 32 :: (Lib.itoa x.2.1 ++ [10]))
theorem hdr_str (x : Lt) : ((((⟨#[70, 114, 111, 109, 32]⟩ : ByteArray) ++ str (who x.1)) ++ ⟨#[32]⟩) ++ str (Lib.itoa x.2.1)) ++ ⟨#[10]⟩ = str (hdr x) := by
  rw [show (⟨#[70, 114, 111, 109, 32]⟩ : ByteArray) = str mkL from rfl, show (⟨#[32]⟩ : ByteArray) = str [32] from rfl, show (⟨#[10]⟩ : ByteArray) = str [10] from rfl, str_append, str_append, str_append, str_append]
  unfold hdr
  simp
theorem exp_hdr (x : Lt) : expS x = (hdr x ++ quoteS x.2.2) ++ [10] := by
  unfold expS hdr
  simp
theorem hdr_len (x : Lt) : (hdr x).length ≤ (expS x).length := by
  rw [exp_hdr]
  simp
end Mb
end Go.Proofs.YtamekflgidfnfaaGreatDoor
