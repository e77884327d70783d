/- Seals as plain data; their cells, their bytes; seals compared. Conditions: none. -/
import Derived.Test.YtlbmieeimnjncaaDoorMkMem
import Derived.Test.YtlbmieeimnjncaaDoorDgEq24
import Derived.Laws.StructEq
namespace Go.Proofs.YtlbmieeimnjncaaDoor
set_option maxRecDepth 100000
open Go.RowKit Go
structure Sl where
  seg : Int
  count : Int
  root : List UInt8
  prev : List UInt8
/-- both sums are sums. -/
def Sl.ok (s : Sl) : Prop := s.root.length = 32 ∧ s.prev.length = 32
/-- a seal's cells. -/
def sc (s : Sl) : List Value := [.int .i64 s.seg, .int .i64 s.count] ++ (bv s.root ++ bv s.prev)
def zeroS : Sl := ⟨0, 0, List.replicate 32 0, List.replicate 32 0⟩
theorem zeroS_ok : zeroS.ok := ⟨by simp [zeroS], by simp [zeroS]⟩
theorem sc_length {s : Sl} (h : s.ok) : (sc s).length = 66 := by simp [sc, bv_length, h.1, h.2]
theorem sc_one (s : Sl) : ∀ u ∈ sc s, u.oneCell' = true := by
  intro u hu
  simp only [sc, List.mem_append, List.mem_cons, List.not_mem_nil, or_false] at hu
  rcases hu with (rfl | rfl) | hu | hu
  · rfl
  · rfl
  · exact bv_one _ u hu
  · exact bv_one _ u hu
theorem sc_all (s : Sl) : (sc s).toArray.all (·.oneCell') = true := Array.all_eq_true_iff_forall_mem.2 fun u hu => sc_one s u (by simpa using hu)
theorem sc_size {s t : Sl} (h : s.ok) (h' : t.ok) : (sc s).toArray.size = (sc t).toArray.size := by rw [List.size_toArray, List.size_toArray, sc_length h, sc_length h']
theorem load_wt {ops : Array Oper} {rest : List Oper} {op : Oper} {a : Act} {w : World} {Q : Exit → Act → World → Prop} (hw : Region.wanted op (yielded ops a.tmps) = true) (ty : TypeId) (x : Operand) (ho : op.op = .load ty x)
    (b o : Nat) (hx : a.eval x = .pointer (some ⟨b, o, none⟩)) (cs : List Value) (d : TypeDesc) (hc : w.rangeAt b o cs)
    (hu : Tryd.prog.underlying ty = some d) (hd : d.isRow = true) (hi : (Tryd.prog.info? ty).map (·.size) = some cs.length)
    (h : wpList Tryd.prog ops Q rest (a.put op.dst (.agg cs.toArray)) w) : wpList Tryd.prog ops Q (op :: rest) a w :=
  BigFrame.wpList_want hw fun _ hK => wp_load_mid ty x ho b o hx cs d hc hu hd hi (hK _ _ h)
/-- seals alike. -/
def eqS (x y : Sl) : Bool := (x.seg == y.seg) && ((x.count == y.count) && ((x.root == y.root) && (x.prev == y.prev)))
theorem eqS_iff {x y : Sl} : eqS x y = true ↔ x = y := by
  obtain ⟨a, b, c, d⟩ := x
  obtain ⟨a', b', c', d'⟩ := y
  simp [eqS]
theorem eqS_self (x : Sl) : eqS x x = true := eqS_iff.2 rfl
theorem run_eq24d (d : Nat) (a b : List UInt8) (ha : a.length = 32) (hb : b.length = 32) (w : World) : (Op.equalIn (d + 2) 22 (.agg (bv a).toArray) (.agg (bv b).toArray)).run Tryd.prog w = .ok (a == b) w := by
  obtain ⟨i, hi, _, _, _⟩ := info_parts info5
  have h := run_equalIn_array (P := Tryd.prog) w (d + 1) (bv a).toArray (bv b).toArray Tryd.underlying22 hi
  rw [show Tryd.prog.cellsOf 5 = 1 by kernel_rfl] at h
  rw [show d + 2 = (d + 1) + 1 from rfl, h, run_items d a b w _ (fun i hi => by rw [ha, hb]; simpa using hi), eq_sums a b ha hb]
theorem part_int (cs : Array Value) (o : Nat) (v : Value) (w : World) (h : cs[o]? = some v) : (part 3 cs o).run Tryd.prog w = .ok v w := by
  simp [part, isAgg, run_underlying Tryd.underlying3, Sem.run_bind, h]
theorem part_sum (a b c : List Value) (o : Nat) (w : World) (ha : a.length = o) (hb : b.length = 32) : (part 22 (a ++ (b ++ c)).toArray o).run Tryd.prog w = .ok (.agg b.toArray) w := by
  obtain ⟨i, hi, hz, h0, h2⟩ := info_parts info26
  have e : List.take 32 (List.drop o (a ++ (b ++ c))) = b := by
    rw [List.drop_left' ha, List.take_left' hb]
  simp [part, isAgg, run_underlying Tryd.underlying22, Sem.run_bind, sizeOf, typeInfo, hi, h0, e]
theorem eqFields_step {P : Program} {w : World} {d : Nat} {xs ys : Array Value} {n : String} {t : TypeId} {o : Nat} {em : Bool} {tg pk : String} {bo : Nat} {fs : List Field} {a b : Value} {r : Bool} (hn : n ≠ "_") (ha : (part t xs o).run P w = .ok a w) (hb : (part t ys o).run P w = .ok b w)
    (hr : (Op.equalIn d t a b).run P w = .ok r w) : (Op.eqFields d xs ys (⟨n, t, o, em, tg, pk, bo⟩ :: fs)).run P w = if r then (Op.eqFields d xs ys fs).run P w else .ok false w := by
  simp only [Op.eqFields, if_pos hn, Sem.run_bind, ha, hb, hr, Result.andThen_ok]
  cases r
  · rfl
  · rfl
/-- byte k of a number, the lowest is byte 0. -/
def nb (n : Int) (k : Nat) : UInt8 := UInt8.ofNat (n / (256 ^ k : Nat) % 256).toNat
theorem nb_int (n : Int) (k : Nat) : n / (256 ^ k : Nat) % 256 = ((nb n k).toNat : Int) := by
  have h0 : 0 ≤ n / (256 ^ k : Nat) % 256 := Int.emod_nonneg _ (by omega)
  have h1 : n / (256 ^ k : Nat) % 256 < 256 := Int.emod_lt_of_pos _ (by omega)
  unfold nb
  rw [UInt8.toNat_ofNat']
  omega
def fourB (n : Int) : List UInt8 := [nb n 3, nb n 2, nb n 1, nb n 0]
def bytesS (s : Sl) : List UInt8 := fourB s.seg ++ (fourB s.count ++ (s.root ++ s.prev))
theorem bytesS_length {s : Sl} (h : s.ok) : (bytesS s).length = 72 := by simp [bytesS, fourB, h.1, h.2]
/-- what four bytes tell. -/
def numS (b : List UInt8) : Nat := (((b.getD 0 0).toNat * 256 + (b.getD 1 0).toNat) * 256 + (b.getD 2 0).toNat) * 256 + (b.getD 3 0).toNat
theorem numS_four {n : Int} (h : 0 ≤ n) (h' : n < 4294967296) (r : List UInt8) : (numS (fourB n ++ r) : Int) = n := by
  have e0 := nb_int n 0
  have e1 := nb_int n 1
  have e2 := nb_int n 2
  have e3 := nb_int n 3
  simp only [Nat.pow_zero, Nat.pow_one, show (256 ^ 2 : Nat) = 65536 from rfl, show (256 ^ 3 : Nat) = 16777216 from rfl] at e0 e1 e2 e3
  simp only [numS, fourB, List.cons_append, List.getD_cons_zero, List.getD_cons_succ]
  omega
def parseS (b : List UInt8) : Sl := ⟨numS b, numS (b.drop 4), (b.drop 8).take 32, (b.drop 40).take 32⟩
theorem parseS_ok {b : List UInt8} (h : b.length = 72) : (parseS b).ok := ⟨by simp [parseS, h], by simp [parseS, h]⟩
theorem parse_bytes {s : Sl} (h : s.ok) (h1 : 0 ≤ s.seg) (h2 : s.seg < 4294967296) (h3 : 0 ≤ s.count) (h4 : s.count < 4294967296) : parseS (bytesS s) = s := by
  obtain ⟨seg, count, root, prev⟩ := s
  have e1 := numS_four h1 h2 (fourB count ++ (root ++ prev))
  have e2 := numS_four h3 h4 (root ++ prev)
  have l1 : ∀ n, (fourB n).length = 4 := fun n => rfl
  have d4 : (bytesS ⟨seg, count, root, prev⟩).drop 4 = fourB count ++ (root ++ prev) := by unfold bytesS; exact List.drop_left' rfl
  have d8 : (bytesS ⟨seg, count, root, prev⟩).drop 8 = root ++ prev := by unfold bytesS; rw [← List.append_assoc]; exact List.drop_left' rfl
  have d40 : (bytesS ⟨seg, count, root, prev⟩).drop 40 = prev := by
    rw [show (40 : Nat) = 8 + 32 from rfl, ← List.drop_drop, d8]
    exact List.drop_left' h.1
  unfold parseS
  rw [d4, d8, d40]
  have h1' : root.length = 32 := h.1
  have h2' : prev.length = 32 := h.2
  dsimp only at e1 e2 ⊢
  rw [show bytesS ⟨seg, count, root, prev⟩ = fourB seg ++ (fourB count ++ (root ++ prev)) from rfl, e1, e2, List.take_left' h1', List.take_of_length_le (by omega)]
/-- how far seals are bound, from a place on. -/
def chainS (sum : Sl → List UInt8) : Int → List UInt8 → Nat → List Sl → Nat
  | _, _, k, [] => k
  | seg, prev, k, s :: r => if s.seg ≤ seg ∨ s.prev ≠ prev then k else chainS sum s.seg (sum s) (k + 1) r
end Go.Proofs.YtlbmieeimnjncaaDoor
