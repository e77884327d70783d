/- Bytes that are appended to, numbers as texts, errors' variables. Conditions: as stated at each. -/
import Derived.Test.YtamekflgidfnfaaGreatDoorMiCut
import Derived.Test.YtamekflgidfnfaaGreatDoorDtConcat
import Derived.Test.YtamekflgidfnfaaGreatDoorPaEach
import Derived.Test.YtamekflgidfnfaaGreatDoorMiMap
import Derived.Lib.AppendStr
import Derived.Lib.AppendIntMem
import Derived.WalkSmall
namespace Go.Proofs.YtamekflgidfnfaaGreatDoor
set_option maxRecDepth 100000
namespace Mi
open Go.RowKit Go Go.Proofs.YtamekflgidfnfaaGreatDoor.Pa
attribute [local go_sem] Oper.semAt_some
theorem bstr_size (l : L) : (str l).size = l.length := by simp [str, ByteArray.size]
theorem strCells_str (l : L) : Lib.strCells (str l) = bv l := rfl
theorem run_app5s {w : World} (ty : TypeId) {N : Nat} {v : Value} {l m : L} (hown : Own5 w N v l) (h63 : l.length + m.length ≤ 1000000000) (hN : N ≤ w.heap.size) :
    ∃ v' w', (Builtin.append_ #[22, 9] ty #[v, .string (str m)]).run Tryz.prog w = .ok v' w' ∧ Own5 w' N v' (l ++ m) ∧ w.grownBy w' v.ownBlock := by
  obtain ⟨i, hi, hz, h0, h1⟩ := info_parts info5
  obtain ⟨v', w', hrun, h2, h3, _⟩ := Lib.run_append_own_string w N 22 9 ty 5 i Tryz.underlying22 Tryz.underlying9 hi hz h0 h1 v l.length (bv l) hown (str m) (by rw [bstr_size]; unfold maxLen; omega) (by rw [bstr_size]; omega) hN
  refine ⟨v', w', hrun, ?_, h3⟩
  unfold Own5
  rw [List.length_append, bv_append]
  rw [bstr_size, strCells_str] at h2
  exact h2
theorem own5_low {X : World} {v : Value} {t : L} {N : Nat} (h : Own5 X N v t) : ∀ k, v.ownBlock = some k → N ≤ k := fun k hk => (h.lt k hk).1
theorem own5_letters {X : World} {v : Value} {t : L} {N : Nat} (h : Own5 X N v t) : ∃ A k c, v = .slice A k c := by
  obtain ⟨A, c, e, _⟩ := own_slice h
  exact ⟨A, _, c, e⟩
def OutP (w : World) (t : L) (e : Ending) (w' : World) : Prop := ∃ v, e = .returned v ∧ Own5 w' w.heap.size v t ∧ Below w.heap.size w w'
/-- the table of the powers of ten lies as it was laid. -/
def GlT (w : World) : Prop := Lib.TabIs Tryz.prog w "internal/strconv.uint64pow10" .u64 Lib.pow10Tab
theorem pow_named : Tryz.prog.globalNamed "internal/strconv.uint64pow10" = some 1 := by kernel_rfl
theorem GlT.lt {w : World} (h : GlT w) : 1 < w.heap.size := World.block_lt_of_cell? w _ (Lib.TabIs.cell h pow_named 0 (by decide))
theorem GlT.below {w w' : World} {B : Nat} (h : GlT w) (hb : Below B w w') (hB : 1 < B) : GlT w' := var?_below hb pow_named hB h
theorem format_any (v : Int) (w : World) (h0 : -9223372036854775808 ≤ v) (h1 : v < 9223372036854775808) (hG : GlT w) :
    Calls Tryz.prog 37 #[.int .i64 v, .int .i64 10] w fun e w' => e = .returned (.string (str (Lib.itoa v))) ∧ Below w.heap.size w w' := by
  refine (Tryz.strconv_FormatInt_10 v h0 (by omega) w hG).mono ?_
  rintro e w' ⟨rfl, k, os, rfl⟩
  exact ⟨rfl, Lib.below_grow _ _ (Nat.le_refl _) _ _⟩
theorem itoa_any (v : Nat) (w : World) (h1 : v ≤ 1000000000) (hG : GlT w) :
    Calls Tryz.prog 42 #[.int .i64 (v : Int)] w fun e w' => e = .returned (.string (str (Lib.decDigits v))) ∧ Below w.heap.size w w' := by
  refine (Tryz.strconv_Itoa (v : Int) (by omega) (by omega) w hG).mono ?_
  rintro e w' ⟨rfl, k, os, rfl⟩
  refine ⟨?_, Lib.below_grow _ _ (Nat.le_refl _) _ _⟩
  have : Lib.itoa (v : Int) = Lib.decDigits v := by
    rw [Lib.itoa, if_neg (by omega)]
    simp
  rw [this]
  rfl
theorem str_empty (l : L) : ((str l).toList == []) = l.isEmpty := by
  rw [Go.Lib.toList_data, show (str l).data.toList = l by simp [str]]
  cases l <;> rfl
theorem own_blk {w : World} {N s : Nat} {e t : TypeId} {n : Nat} {v : Value} {xs : List Value} (h : w.ownsRow N e s v n xs) {g : Nat} {cs : Array Value} (hb : BlkIs w g t cs) (hne : e ≠ t) : v.ownBlock ≠ some g := by
  intro hv
  rcases h.2 with ⟨rfl, _⟩ | ⟨g', cap, cur, rfl, _, hh, _⟩
  · cases hv
  · have e1 : g' = g := by simpa [Value.ownBlock] using hv
    subst e1
    unfold BlkIs at hb
    rw [hh] at hb
    injection hb with hb
    injection hb with _ ht
    exact hne ht
theorem lapp5s {ops : Array Oper} {o : Oper} {rest : List Oper} {a : Act} {w : World} {Q : Exit → Act → World → Prop} (s x : Operand)
    (ho : o.op = .call { callee := .builtin .append, args := #[s, x], argTypes := #[22, 9] }) (hgd : o.guard = none)
    {N : Nat} {v : Value} {l m : List UInt8} {t : ByteArray} (hs : a.eval s = v) (hown : Own5 w N v l)
    (hx : a.eval x = .string t) (ht : t = str m) (h63 : l.length + m.length ≤ 1000000000) (hN : N ≤ w.heap.size)
    (h : ∀ v' w', Own5 w' N v' (l ++ m) → w.grownBy w' v.ownBlock → wpList Tryz.prog ops Q rest (a.put o.dst v') w') : wpList Tryz.prog ops Q (o :: rest) a w := by
  refine wpList_plain hgd fun K hK => ?_
  subst ht
  obtain ⟨v', w', hrun, h2, h3⟩ := run_app5s o.type hown h63 hN
  unfold Oper.wp execOp
  simp only [ho, resolve, invoke, builtin, Sem.run_bind, Sem.run_pure, Result.andThen_ok, List.map_toArray, List.map_cons, List.map_nil, hs, hx, hrun]
  exact hK _ _ (h v' w' h2 h3)
theorem blk_own {w w' : World} {N : Nat} {v : Value} {l : L} {g : Nat} {t : TypeId} {cs : Array Value} (h : Own5 w N v l) (hb : BlkIs w g t cs) (hne : 5 ≠ t) (hg : w.grownBy w' v.ownBlock) : BlkIs w' g t cs := hb.grown hg (own_blk h hb hne)
/-- the error variables hold errors, or none. -/
def GlE (w : World) : Prop := (∃ ev, w.cell? ⟨2, 0, none⟩ = some ev ∧ (ev = .nilIface ∨ ∃ te pe, ev = .iface te pe)) ∧ ∃ ev, w.cell? ⟨3, 0, none⟩ = some ev ∧ (ev = .nilIface ∨ ∃ te pe, ev = .iface te pe)
theorem GlE.lt {w : World} (h : GlE w) : 2 < w.heap.size ∧ 3 < w.heap.size := by
  obtain ⟨⟨e1, h1, _⟩, e2, h2, _⟩ := h
  exact ⟨World.block_lt_of_cell? w ⟨_, 0, none⟩ h1, World.block_lt_of_cell? w ⟨_, 0, none⟩ h2⟩
theorem GlE.below {w w' : World} {B : Nat} (h : GlE w) (hb : Below B w w') (hB : 2 < B ∧ 3 < B) : GlE w' := by
  obtain ⟨⟨e1, h1, h1'⟩, e2, h2, h2'⟩ := h
  exact ⟨⟨e1, (hb.cell (p := ⟨_, 0, none⟩) hB.1).trans h1, h1'⟩, e2, (hb.cell (p := ⟨_, 0, none⟩) hB.2).trans h2, h2'⟩
theorem parse_int (ds : L) (hl : ds.length ≤ 1000000) (w : World) (hE : GlE w) :
    Calls Tryz.prog 65 #[.string (str ds), .int .i64 10, .int .i64 64] w fun e w' => Below w.heap.size w w' ∧
      ((∃ v, Lib.parseIntB 64 ds = .ok v ∧ e = .returned (.tuple #[.int .i64 v, .nilIface])) ∨ ((∀ v, Lib.parseIntB 64 ds ≠ .ok v) ∧ ∃ v M, e = .returned (.tuple #[.int .i64 v, .iface 139 (.pointer (some ⟨M, 0, none⟩))]))) := by
  have hz : (str ds).size ≤ 1000000 := by rw [str_size]; exact hl
  have hd : (str ds).data.toList = ds := by simp [str]
  obtain ⟨⟨e1, h1, h1'⟩, e2, h2, h2'⟩ := hE
  cases hp : Lib.parseIntB 64 ds with
  | ok v =>
    refine (Tryz.strconv_ParseInt_10_at64_ok (str ds) (by omega) v (by rw [hd]; exact hp) w).mono ?_
    rintro e w' ⟨rfl, hw⟩
    refine ⟨?_, .inl ⟨v, rfl, rfl⟩⟩
    rcases hw with rfl | ⟨t, rfl⟩
    · exact Below.refl _ _
    · exact Lib.bytesWorld_below _ _ _
  | range =>
    refine (Tryz.strconv_ParseInt_10_at64_range (str ds) (by omega) (by rw [hd]; exact hp) e2 w h2 h2').mono ?_
    rintro e w' ⟨M, rfl, _, _, hb⟩
    exact ⟨hb, .inr ⟨(fun v h => nomatch h), _, M, rfl⟩⟩
  | _ =>
    refine (Tryz.strconv_ParseInt_10_at64_syntax (str ds) (by omega) (by rw [hd]; exact hp) e1 w h1 h1').mono ?_
    rintro e w' ⟨M, rfl, _, _, hb⟩
    exact ⟨hb, .inr ⟨(fun v h => nomatch h), _, M, rfl⟩⟩
end Mi
end Go.Proofs.YtamekflgidfnfaaGreatDoor
