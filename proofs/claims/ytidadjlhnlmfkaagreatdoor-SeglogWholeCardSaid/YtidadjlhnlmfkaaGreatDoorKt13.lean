/- SlInt. Conditions: as stated at each. -/
import Derived.Test.YtidadjlhnlmfkaaGreatDoorKt12
import Derived.Lib.SlKeysI
/- A map with numbers for keys, its values as they are: look-up, store; the keys. Conditions: none. -/
namespace Go.Proofs.YtidadjlhnlmfkaaGreatDoor
open Go.RowKit Go Go.Maps
def kI (i : Int) : Lit := .int .i64 i
def Ok64 (i : Int) : Prop := -9223372036854775808 ≤ i ∧ i ≤ 9223372036854775807
/-- what the map has by that number. -/
def atI (D : DataW Value) (i : Int) : Option Value :=
  match D.atKey (kI i) .nil with
  | .held v => some v
  | _ => none
theorem wf_kI {i : Int} (h : Ok64 i) : (Lit.int .i64 i).wf = true := by
  unfold Ok64 at h
  simp [Lit.wf, IntKind.min, IntKind.max, IntKind.signed, IntKind.bits]
  omega
section
variable {w : World} {P : Program} {k t e : TypeId} {b n : Nat} {D : DataW Value} {i : Int}
theorem heldI_look (h : Held w P k b n D) (hk : P.underlying k = some (.int .i64)) (ht : P.underlying t = some (.map k e)) (hi : Ok64 i) {z : Value} (hz : (zeroValue e).run P w = .ok z w) (c : Bool) :
    (Instr.lookup t (.map (some b)) (.int .i64 i) c).run P w = .ok (match atI D i with | some v => if c then .tuple #[v, .bool true] else v | none => if c then .tuple #[z, .bool false] else z) w := by
  obtain ⟨es, clock, hb, F, _, rfl⟩ := h
  have hkey : keyOf P k (.int .i64 i) = some (kI i) := Maps.keyOf_int_mk hk (wf_kI hi)
  rcases fit_look c (int_keyed hk) ht hz hb F hkey with ⟨hrun, _, hat⟩ | ⟨e0, y, _, _, hrun, hR, hat, _⟩
  · rw [hrun]
    have : atI (.map ((es.toList.map (Go.WideElems.rg P k rh)).foldr DataW.insert [])) i = none := by
      unfold atI
      rw [hat .nil]
    rw [this]
  · rw [hrun]
    have hy : y = (.held e0.val, []) := by
      unfold rh at hR
      injection hR with hR
      exact hR.symm
    have : atI (.map ((es.toList.map (Go.WideElems.rg P k rh)).foldr DataW.insert [])) i = some e0.val := by
      unfold atI
      rw [hat .nil, hy]
    rw [this]
theorem heldI_put (h : Held w P k b n D) (hk : P.underlying k = some (.int .i64)) (ht : P.underlying t = some (.map k e)) (hi : Ok64 i) (hn : n < maxLen) (v : Value) :
    ∃ w', (Instr.mapUpdate t (.map (some b)) (.int .i64 i) v).run P w = .ok () w' ∧ Held w' P k b (n + 1) (D.put (kI i) (.held v)) ∧ w.grownBy w' (some b) :=
  World.ownsMap.update h (int_keyed hk) ht hn (Maps.keyOf_int_mk hk (wf_kI hi)) rfl
theorem isKey_kI (i : Int) : WideAt.IsKeyLit (kI i) := by
  unfold kI
  simp [WideAt.IsKeyLit]
theorem kI_inj {a b : Int} (h : kI a = kI b) : a = b := by
  unfold kI at h
  injection h
theorem atI_put (hD : IsMap D) (i j : Int) (v : Value) : atI (D.put (kI i) (.held v)) j = if j = i then some v else atI D j := by
  by_cases he : j = i
  · subst he
    unfold atI
    rw [if_pos rfl, atKey_put_same hD (isKey_kI j)]
  · unfold atI
    rw [if_neg he, atKey_put_other (fun e => he (kI_inj e))]
end
theorem atI_none (i : Int) : atI (.map []) i = none := rfl
end Go.Proofs.YtidadjlhnlmfkaaGreatDoor
