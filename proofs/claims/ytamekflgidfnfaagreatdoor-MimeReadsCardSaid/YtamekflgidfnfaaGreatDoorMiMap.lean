/- A set of numbers as a map: look-up, store. Conditions: none. -/
import Derived.Test.YtamekflgidfnfaaGreatDoorFlHeld
import Derived.Test.YtamekflgidfnfaaGreatDoorDkMem
namespace Go.Proofs.YtamekflgidfnfaaGreatDoor
set_option maxRecDepth 100000
open Go.RowKit Go Go.Maps
def kI (i : Int) : Lit := .int .i64 i
def Ok64 (i : Int) : Prop := -9223372036854775808 ≤ i ∧ i ≤ 9223372036854775807
/-- what the map has by that number. -/
def atI (D : DataW Value) (i : Int) : Option Value :=
  match D.atKey (kI i) .nil with
  | .held v => some v
  | _ => none
theorem wf_kI {i : Int} (h : Ok64 i) : (Lit.int .i64 i).wf = true := by
  unfold Ok64 at h
  simp [Lit.wf, IntKind.min, IntKind.max, IntKind.signed, IntKind.bits]
  omega
section
variable {w : World} {P : Program} {k t e : TypeId} {b n : Nat} {D : DataW Value} {i : Int}
theorem heldI_look (h : Held w P k b n D) (hk : P.underlying k = some (.int .i64)) (ht : P.underlying t = some (.map k e)) (hi : Ok64 i) {z : Value} (hz : (zeroValue e).run P w = .ok z w) (c : Bool) :
    (Instr.lookup t (.map (some b)) (.int .i64 i) c).run P w = .ok (match atI D i with | some v => if c then .tuple #[v, .bool true] else v | none => if c then .tuple #[z, .bool false] else z) w := by
  obtain ⟨es, clock, hb, F, _, rfl⟩ := h
  have hkey : keyOf P k (.int .i64 i) = some (kI i) := Maps.keyOf_int_mk hk (wf_kI hi)
  rcases fit_look c (int_keyed hk) ht hz hb F hkey with ⟨hrun, _, hat⟩ | ⟨e0, y, _, _, hrun, hR, hat, _⟩
  · rw [hrun]
    have : atI (.map ((es.toList.map (Go.WideElems.rg P k rh)).foldr DataW.insert [])) i = none := by
      unfold atI
      rw [hat .nil]
    rw [this]
  · rw [hrun]
    have hy : y = (.held e0.val, []) := by
      unfold rh at hR
      injection hR with hR
      exact hR.symm
    have : atI (.map ((es.toList.map (Go.WideElems.rg P k rh)).foldr DataW.insert [])) i = some e0.val := by
      unfold atI
      rw [hat .nil, hy]
    rw [this]
theorem heldI_put (h : Held w P k b n D) (hk : P.underlying k = some (.int .i64)) (ht : P.underlying t = some (.map k e)) (hi : Ok64 i) (hn : n < maxLen) (v : Value) :
    ∃ w', (Instr.mapUpdate t (.map (some b)) (.int .i64 i) v).run P w = .ok () w' ∧ Held w' P k b (n + 1) (D.put (kI i) (.held v)) ∧ w.grownBy w' (some b) :=
  World.ownsMap.update h (int_keyed hk) ht hn (Maps.keyOf_int_mk hk (wf_kI hi)) rfl
theorem isKey_kI (i : Int) : WideAt.IsKeyLit (kI i) := by
  unfold kI
  simp [WideAt.IsKeyLit]
theorem kI_inj {a b : Int} (h : kI a = kI b) : a = b := by
  unfold kI at h
  injection h
theorem atI_put (hD : IsMap D) (i j : Int) (v : Value) : atI (D.put (kI i) (.held v)) j = if j = i then some v else atI D j := by
  by_cases he : j = i
  · subst he
    unfold atI
    rw [if_pos rfl, atKey_put_same hD (isKey_kI j)]
  · unfold atI
    rw [if_neg he, atKey_put_other (fun e => he (kI_inj e))]
end
theorem atI_none (i : Int) : atI (.map []) i = none := rfl
namespace Mi
/-- the map in block g is the set S of numbers. -/
def MapN (w : World) (g n : Nat) (S : Nat → Prop) : Prop := ∃ D, Held w Tryz.prog 3 g n D ∧ ∀ k : Nat, (S k ∧ atI D k = some (.agg #[])) ∨ (¬ S k ∧ atI D k = none)
theorem zeroU (w : World) : (zeroValue 77).run Tryz.prog w = .ok (.agg #[]) w := by kernel_rfl
section
variable {w w' : World} {g n : Nat} {S : Nat → Prop}
theorem MapN.lt (h : MapN w g n S) : g < w.heap.size := by
  obtain ⟨D, h, _⟩ := h
  exact Held.lt h
theorem MapN.same (h : MapN w g n S) (hb : w'.heap[g]? = w.heap[g]?) : MapN w' g n S := by
  obtain ⟨D, h, h'⟩ := h
  exact ⟨D, h.same hb, h'⟩
theorem MapN.more (h : MapN w g n S) {n' : Nat} (hn : n ≤ n') : MapN w g n' S := by
  obtain ⟨D, h, h'⟩ := h
  exact ⟨D, World.ownsMap.mono h hn, h'⟩
theorem MapN.set (h : MapN w g n S) {S' : Nat → Prop} (hS : ∀ k, S' k ↔ S k) : MapN w g n S' := by
  obtain ⟨D, h, h'⟩ := h
  refine ⟨D, h, fun k => ?_⟩
  rcases h' k with ⟨h1, h2⟩ | ⟨h1, h2⟩
  · exact .inl ⟨(hS k).2 h1, h2⟩
  · exact .inr ⟨fun h => h1 ((hS k).1 h), h2⟩
theorem MapN.look (h : MapN w g n S) (k : Nat) (hk : k ≤ 1000000000) : ∃ b : Bool, (Instr.lookup 75 (.map (some g)) (.int .i64 (k : Int)) true).run Tryz.prog w = .ok (.tuple #[.agg #[], .bool b]) w ∧ (b = true ↔ S k) := by
  obtain ⟨D, h, h'⟩ := h
  have hr := heldI_look h (t := 75) (e := 77) (i := (k : Int)) Tryz.underlying3 Tryz.underlying75 (by unfold Ok64; omega) (zeroU w) true
  rcases h' k with ⟨h1, h2⟩ | ⟨h1, h2⟩
  · refine ⟨true, ?_, by simp [h1]⟩
    rw [hr, h2]
    rfl
  · refine ⟨false, ?_, by simp [h1]⟩
    rw [hr, h2]
    rfl
theorem MapN.put (h : MapN w g n S) (k : Nat) (hk : k ≤ 1000000000) (hn : n ≤ 1000000000) : ∃ w', (Instr.mapUpdate 75 (.map (some g)) (.int .i64 (k : Int)) (.agg #[])).run Tryz.prog w = .ok () w' ∧ MapN w' g (n + 1) (fun j => j = k ∨ S j) ∧ w.grownBy w' (some g) := by
  obtain ⟨D, h, h'⟩ := h
  obtain ⟨w', hrun, h1, h2⟩ := heldI_put h (t := 75) (e := 77) (i := (k : Int)) Tryz.underlying3 Tryz.underlying75 (by unfold Ok64; omega) (by unfold maxLen; omega) (.agg #[])
  refine ⟨w', hrun, ⟨_, h1, fun j => ?_⟩, h2⟩
  rw [atI_put h.isMap]
  by_cases hj : j = k
  · subst hj
    exact .inl ⟨.inl rfl, by rw [if_pos rfl]⟩
  · rw [if_neg (by omega)]
    rcases h' j with ⟨g1, g2⟩ | ⟨g1, g2⟩
    · exact .inl ⟨.inr g1, g2⟩
    · exact .inr ⟨fun e => e.elim hj g1, g2⟩
theorem MapN.new (w : World) : MapN (w.alloc (.map #[] 0)) w.heap.size 0 (fun _ => False) :=
  ⟨_, World.ownsMap_made w Tryz.prog 3 rh, fun _ => .inr ⟨id, rfl⟩⟩
end
end Mi
end Go.Proofs.YtamekflgidfnfaaGreatDoor
