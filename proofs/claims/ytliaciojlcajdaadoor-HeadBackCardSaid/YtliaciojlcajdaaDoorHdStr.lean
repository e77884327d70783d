/- A string appended to bytes; a panic by the size. Conditions: as stated at each. -/
import Derived.Test.YtliaciojlcajdaaDoorHdMem
import Derived.Test.YtliaciojlcajdaaDoorHdSmall
import Derived.Test.YtliaciojlcajdaaDoorHdPlain
import Derived.Lib.AppendStr
namespace Go.Proofs.YtliaciojlcajdaaDoor
set_option maxRecDepth 100000
namespace Hd
open Go.RowKit Go Go.Proofs.YtliaciojlcajdaaDoor.Pa
theorem strCells_str (l : List UInt8) : Lib.strCells (str l) = bv l := by
  unfold Lib.strCells
  rw [str_data]
  rfl
theorem run_app5s {w : World} (ty : TypeId) {N : Nat} {v : Value} {l m : List UInt8} (hown : Own5 w N v l) (h63 : l.length + m.length ≤ 1000000000) (hN : N ≤ w.heap.size) :
    ∃ v' w', (Builtin.append_ #[22, 9] ty #[v, .string (str m)]).run Tryd.prog w = .ok v' w' ∧ Own5 w' N v' (l ++ m) ∧ w.grownBy w' v.ownBlock := by
  obtain ⟨i, hi, hz, h0, h1⟩ := info_parts info5
  obtain ⟨v', w', hrun, h2, h3, _⟩ := Lib.run_append_own_string w N 22 9 ty 5 i Tryd.underlying22 Tryd.underlying9 hi hz h0 h1 v l.length (bv l) hown (str m) (by rw [str_size]; unfold maxLen; omega) (by rw [str_size]; omega) hN
  refine ⟨v', w', hrun, ?_, h3⟩
  unfold Own5
  rw [List.length_append, bv_append]
  rw [str_size, strCells_str] at h2
  exact h2
theorem step5s {ops : Array Oper} {o : Oper} {a : Act} {w : World} {K : Act → World → Prop} {Q : Exit → Act → World → Prop} {E : Prop} (s x : Operand)
    (ho : o.op = .call { callee := .builtin .append, args := #[s, x], argTypes := #[22, 9] }) (hgd : o.guard = none)
    {N : Nat} {v : Value} {l m : List UInt8} {t : ByteArray} (hs : a.eval s = v) (hown : Own5 w N v l)
    (hx : a.eval x = .string t) (ht : t = str m) (h63 : l.length + m.length ≤ 1000000000) (hN : N ≤ w.heap.size)
    (h : ∀ v' w', Own5 w' N v' (l ++ m) → w.grownBy w' v.ownBlock → K (a.put o.dst v') w') : if Region.wanted o (yielded ops a.tmps) = true then Oper.wp Tryd.prog o a w K Q else E := by
  have hw : Region.wanted o (yielded ops a.tmps) = true := by simp [Region.wanted, hgd]
  rw [if_pos hw]
  subst ht
  obtain ⟨v', w', hrun, h2, h3⟩ := run_app5s o.type hown h63 hN
  unfold Oper.wp execOp
  simp only [ho, resolve, invoke, builtin, Sem.run_bind, Sem.run_pure, Result.andThen_ok, List.map_toArray, List.map_cons, List.map_nil, hs, hx, hrun]
  exact h v' w' h2 h3
theorem lapp5s {ops : Array Oper} {o : Oper} {rest : List Oper} {a : Act} {w : World} {Q : Exit → Act → World → Prop} (s x : Operand)
    (ho : o.op = .call { callee := .builtin .append, args := #[s, x], argTypes := #[22, 9] }) (hgd : o.guard = none)
    {N : Nat} {v : Value} {l m : List UInt8} {t : ByteArray} (hs : a.eval s = v) (hown : Own5 w N v l)
    (hx : a.eval x = .string t) (ht : t = str m) (h63 : l.length + m.length ≤ 1000000000) (hN : N ≤ w.heap.size)
    (h : ∀ v' w', Own5 w' N v' (l ++ m) → w.grownBy w' v.ownBlock → wpList Tryd.prog ops Q rest (a.put o.dst v') w') : wpList Tryd.prog ops Q (o :: rest) a w := by
  refine wpList_plain hgd fun K hK => ?_
  subst ht
  obtain ⟨v', w', hrun, h2, h3⟩ := run_app5s o.type hown h63 hN
  unfold Oper.wp execOp
  simp only [ho, resolve, invoke, builtin, Sem.run_bind, Sem.run_pure, Result.andThen_ok, List.map_toArray, List.map_cons, List.map_nil, hs, hx, hrun]
  exact hK _ _ (h v' w' h2 h3)
theorem bound_long (n m : Int) (w : World) (hn : n ≤ 1000) (hm : 100000 < m) :
    Calls Tryd.prog 40 #[.int .i64 n, .int .i64 m] w fun e w' => e = bad 2 ∧ w = w' := by
  have h1 : ¬ m ≤ 100000 := by omega
  go_enter Tryd.func40, Tryd.ntmps40
  go_wp2_with (first
    | (go_at_call 42; refine (Fa.nd_f (by first | rfl | (simp; done) | (simp; omega) | decide) _ _).mono ?_; rintro e w' ⟨rfl, rfl⟩)
    | fail)
  exact ⟨rfl, rfl, rfl⟩
/-- a field may be shown. -/
def okF (f : F) : Bool := nameS f.1 && plainS f.2
def lineL (f : F) : List UInt8 := f.1 ++ [58, 32] ++ f.2 ++ [13, 10]
def shownL (fs : List F) : List UInt8 := fs.flatMap lineL
def sizeL (fs : List F) : Nat := (fs.map fun f => f.1.length + 2 + f.2.length + 2).sum
theorem lineL_len (f : F) : (lineL f).length = f.1.length + 2 + f.2.length + 2 := by
  unfold lineL; simp; omega
theorem shownL_len (fs : List F) : (shownL fs).length = sizeL fs := by
  induction fs with
  | nil => rfl
  | cons f fs ih =>
    unfold shownL sizeL at ih ⊢
    rw [List.flatMap_cons, List.length_append, ih, lineL_len]
    simp
theorem sizeL_take {fs : List F} {k : Nat} (h : k < fs.length) : sizeL (fs.take (k + 1)) = sizeL (fs.take k) + ((fs.getD k ([], [])).1.length + 2 + (fs.getD k ([], [])).2.length + 2) := by
  have hd : fs.getD k ([], []) = fs[k] := by simp [List.getD, h]
  unfold sizeL
  rw [List.take_succ_eq_append_getElem h, List.map_append, List.sum_append, hd]
  simp
theorem shownL_take {fs : List F} {k : Nat} (h : k < fs.length) : shownL (fs.take (k + 1)) = shownL (fs.take k) ++ lineL (fs.getD k ([], [])) := by
  have hd : fs.getD k ([], []) = fs[k] := by simp [List.getD, h]
  unfold shownL
  rw [List.take_succ_eq_append_getElem h, List.flatMap_append, hd]
  simp
theorem str_line (f : F) : ((str f.1 ++ ⟨#[58, 32]⟩) ++ str f.2) ++ ⟨#[13, 10]⟩ = str (lineL f) := by
  rw [show (⟨#[58, 32]⟩ : ByteArray) = str [58, 32] from rfl, show (⟨#[13, 10]⟩ : ByteArray) = str [13, 10] from rfl, str_append, str_append, str_append]
  rfl
end Hd
end Go.Proofs.YtliaciojlcajdaaDoor
