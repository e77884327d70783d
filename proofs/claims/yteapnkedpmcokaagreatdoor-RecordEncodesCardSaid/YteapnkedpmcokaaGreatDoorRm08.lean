/- DgMem. Conditions: as stated at each. -/
import Derived.Test.YteapnkedpmcokaaGreatDoorRm06
import Derived.Test.YteapnkedpmcokaaGreatDoorRm07
import Derived.Deep.MidRow
import Derived.Deep.WholeRow
import Derived.Deep.RegionHeld3
import Derived.IntWalk
/- Arrays by value out of and into blocks known whole; words and bytes as cells. Conditions: none. -/
namespace Go.Proofs.YteapnkedpmcokaaGreatDoor
set_option maxRecDepth 100000
open Go.RowKit Go
/-- words as cells. -/
def wv (l : List Nat) : List Value := l.map fun (x : Nat) => Value.int .u32 (x : Int)
theorem wv_length (l : List Nat) : (wv l).length = l.length := by simp [wv]
theorem wv_get (l : List Nat) (k : Nat) (h : k < l.length) : (wv l)[k]? = some (.int .u32 ((l.getD k 0 : Nat) : Int)) := by
  simp [wv, List.getD, h]
theorem wv_append (a b : List Nat) : wv (a ++ b) = wv a ++ wv b := by simp [wv]
theorem wv_one (l : List Nat) : ∀ u ∈ wv l, u.oneCell' = true := by
  intro u hu
  simp only [wv, List.mem_map] at hu
  obtain ⟨b, _, rfl⟩ := hu
  rfl
theorem wv_all (l : List Nat) : (wv l).toArray.all (·.oneCell') = true := Array.all_eq_true_iff_forall_mem.2 fun u hu => wv_one l u (by simpa using hu)
theorem bv_all (l : List UInt8) : (bv l).toArray.all (·.oneCell') = true := Array.all_eq_true_iff_forall_mem.2 fun u hu => bv_one l u (by simpa using hu)
/-- the words so far, noughts behind. -/
def wz (l : List Nat) (n : Nat) : List Nat := l ++ List.replicate (n - l.length) 0
theorem wz_length (l : List Nat) (n : Nat) (h : l.length ≤ n) : (wz l n).length = n := by simp [wz]; omega
theorem wz_all (l : List Nat) (n : Nat) (h : l.length = n) : wz l n = l := by simp [wz, h]
theorem wz_get (l : List Nat) (n i : Nat) (h : i < l.length) : (wz l n).getD i 0 = l.getD i 0 := by simp [wz, List.getD_eq_getElem?_getD, List.getElem?_append_left h]
theorem wz_set (l : List Nat) (n x : Nat) (h : l.length < n) : (wv (wz l n)).toArray.setIfInBounds l.length (.int .u32 (x : Int)) = (wv (wz (l ++ [x]) n)).toArray := by
  obtain ⟨m, rfl⟩ : ∃ m, n = l.length + (m + 1) := ⟨n - l.length - 1, by omega⟩
  simp only [wz, List.length_append, List.length_cons, List.length_nil]
  rw [show l.length + (m + 1) - l.length = m + 1 from by omega, show l.length + (m + 1) - (l.length + (0 + 1)) = m from by omega, List.replicate_succ, wv_append, wv_append, wv_append]
  simp [wv]
theorem BlkIs.new_at (W : World) (t : TypeId) (cs : Array Value) (g : Nat) (hg : W.heap.size = g) : BlkIs (W.alloc (.cells cs t)) g t cs := hg ▸ BlkIs.new W t cs
theorem BlkIs.get {W : World} {g : Nat} {t : TypeId} {l : List Value} (h : BlkIs W g t l.toArray) {i : Nat} {v : Value} (hv : l[i]? = some v) : W.cell? ⟨g, i, none⟩ = some v := by
  rw [h.cell i]
  simpa using hv
theorem BlkIs.range {W : World} {g : Nat} {t : TypeId} {a b c : List Value} (h : BlkIs W g t (a ++ (b ++ c)).toArray) {o : Nat} (ho : a.length = o) : W.rangeAt g o b := fun j v hj => by
  subst ho
  refine h.get ?_
  rw [List.getElem?_append_right (by omega), show a.length + j - a.length = j from by omega, List.getElem?_append_left (by
    rcases Nat.lt_or_ge j b.length with h' | h'
    · exact h'
    · rw [List.getElem?_eq_none h'] at hj; cases hj)]
  exact hj
theorem Alk.drewN (w : World) (n : Nat) : Alk w (w.drewN n) := ⟨rfl, rfl, rfl, rfl⟩
theorem Alk.drew (w : World) : Alk w w.drew := ⟨rfl, rfl, rfl, rfl⟩
theorem Alk.below {w w' : World} (h : Alk w w') (B : Nat) : Below B w w' := ⟨h.2.1, h.2.2.1, h.2.2.2, by rw [h.1]; exact Nat.le_refl _, fun i _ => by rw [h.1]⟩
theorem cell_far (W : World) (g i j : Nat) (v : Value) (h : j ≠ i) : (W.setCell ⟨g, i, none⟩ v).cell? ⟨g, j, none⟩ = W.cell? ⟨g, j, none⟩ :=
  World.cell?_setCell_other _ _ _ _ (fun e => h (by injection e with _ e _; exact e.symm))
section
variable {P : Program}
theorem load_blk {ops : Array Oper} {rest : List Oper} {o : Oper} {a : Act} {w : World} {Q : Exit → Act → World → Prop} (x : Operand) (ty : TypeId) (g : Nat) (t : TypeId) (cs : Array Value) (hg : BlkIs w g t cs)
    (ho : o.op = .load ty x) (hx : a.eval x = .pointer (some ⟨g, 0, none⟩)) (hgd : o.guard = none) (d : TypeDesc)
    (hu : P.underlying ty = some d) (hd : (match d with | .struct _ | .array _ _ => true | _ => false) = true) (hi : (P.info? ty).map (·.size) = some cs.size)
    (h : wpList P ops Q rest (a.put o.dst (.agg cs)) w) : wpList P ops Q (o :: rest) a w :=
  wpList_load_row hgd ty x ho g hx t cs (0, 0) d hg hu hd hi h
theorem tn_row {w : World} {g : Nat} {t : TypeId} {old : Array Value} (hg : BlkIs w g t old) (cs : Array Value) : BlkIs (w.setRow g cs) g t cs ∧ Tn (fun i => i = g) w (w.setRow g cs) :=
  ⟨setRow_heap w g old cs t (0, 0) hg, rfl, rfl, rfl, by simp, fun i _ h => setRow_other w g i cs h⟩
theorem store_blk {ops : Array Oper} {rest : List Oper} {o : Oper} {a : Act} {w : World} {Q : Exit → Act → World → Prop} (x y : Operand) (ty : TypeId) (g : Nat) (t : TypeId) (old cells : Array Value) (hg : BlkIs w g t old)
    (ho : o.op = .store ty x y) (hx : a.eval x = .pointer (some ⟨g, 0, none⟩)) (hy : a.eval y = .agg cells) (hgd : o.guard = none)
    (hi : (P.info? ty).map (·.size) = some cells.size) (hold : old.size = cells.size) (h1 : cells.all (·.oneCell') = true)
    (h : ∀ w', BlkIs w' g t cells → Tn (fun i => i = g) w w' → wpList P ops Q rest (a.put o.dst undef) w') : wpList P ops Q (o :: rest) a w :=
  wpList_store_row hgd ty x y ho g cells hx hy t old hg hi hold h1 (h _ (tn_row hg cells).1 (tn_row hg cells).2)
theorem ret_blk {fn : Func} {R : Ending → World → Prop} {a : Act} {w : World} {p : Tmp} {ty : TypeId} (hr : fn.results = #[.cell p ty]) (g : Nat) (t : TypeId) (cs : Array Value) (hg : BlkIs w g t cs) (d : TypeDesc)
    (hp : a.tmps.getD p undef = .pointer (some ⟨g, 0, none⟩)) (hu : P.underlying ty = some d) (hd : (match d with | .struct _ | .array _ _ => true | _ => false) = true) (hi : (P.info? ty).map (·.size) = some cs.size)
    (hde : a.defers = []) (hR : R (.returned (.agg cs)) w) : bodyPost P fn R .ret a w :=
  bodyPost_ret_by (results_cell_row hr a.tmps w g t cs (0, 0) d hp hg hu hd hi) hde hR
end
end Go.Proofs.YteapnkedpmcokaaGreatDoor
