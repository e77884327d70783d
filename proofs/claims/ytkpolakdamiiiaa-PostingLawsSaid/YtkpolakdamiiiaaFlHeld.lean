/- A map with names for keys, its values as they are: look-up, store, delete. Conditions: none. -/
import Derived.Maps.OwnSet
import Derived.Maps.Views
import Derived.Maps.Keyed
namespace Go.Proofs.Ytkpolakdamiiiaa
set_option maxRecDepth 100000
open Go.RowKit Go Go.Maps
/-- every value is read as itself. -/
def rh (v : Value) : Option (DataW Value × List MemPlace) := some (.held v, [])
/-- the map in block b reads as D. -/
def Held (w : World) (P : Program) (k : TypeId) (b n : Nat) (D : DataW Value) : Prop := w.ownsMap P k rh b n D
def kOf (s : ByteArray) : Lit := .string s.data.toList
/-- what the map has by that name. -/
def at_ (D : DataW Value) (s : ByteArray) : Option Value :=
  match D.atKey (kOf s) .nil with
  | .held v => some v
  | _ => none
theorem kOf_inj {a b : ByteArray} (h : kOf a = kOf b) : a = b := by
  unfold kOf at h
  injection h with h
  cases a
  cases b
  simp at h
  rw [h]
section
variable {w : World} {P : Program} {k t e : TypeId} {b n : Nat} {D : DataW Value} {s : ByteArray}
theorem held_look (h : Held w P k b n D) (hk : P.underlying k = some .string) (ht : P.underlying t = some (.map k e)) (hs : s.size ≤ maxLen) {z : Value} (hz : (zeroValue e).run P w = .ok z w) (c : Bool) :
    (Instr.lookup t (.map (some b)) (.string s) c).run P w = .ok (match at_ D s with | some v => if c then .tuple #[v, .bool true] else v | none => if c then .tuple #[z, .bool false] else z) w := by
  obtain ⟨es, clock, hb, F, _, rfl⟩ := h
  have hkey : keyOf P k (.string s) = some (kOf s) := WideMaps.keyOf_string_mk hk hs
  rcases fit_look c (string_keyed hk) ht hz hb F hkey with ⟨hrun, _, hat⟩ | ⟨e0, y, _, _, hrun, hR, hat, _⟩
  · rw [hrun]
    have : at_ (.map ((es.toList.map (Go.WideElems.rg P k rh)).foldr DataW.insert [])) s = none := by
      unfold at_
      rw [hat .nil]
    rw [this]
  · rw [hrun]
    have hy : y = (.held e0.val, []) := by
      unfold rh at hR
      injection hR with hR
      exact hR.symm
    have : at_ (.map ((es.toList.map (Go.WideElems.rg P k rh)).foldr DataW.insert [])) s = some e0.val := by
      unfold at_
      rw [hat .nil, hy]
    rw [this]
theorem held_put (h : Held w P k b n D) (hk : P.underlying k = some .string) (ht : P.underlying t = some (.map k e)) (hs : s.size ≤ maxLen) (hn : n < maxLen) (v : Value) :
    ∃ w', (Instr.mapUpdate t (.map (some b)) (.string s) v).run P w = .ok () w' ∧ Held w' P k b (n + 1) (D.put (kOf s) (.held v)) ∧ w.grownBy w' (some b) :=
  World.ownsMap.update h (string_keyed hk) ht hn (WideMaps.keyOf_string_mk hk hs) rfl
theorem held_del (h : Held w P k b n D) (hk : P.underlying k = some .string) (ht : P.underlying t = some (.map k e)) (hs : s.size ≤ maxLen) (ty : TypeId) :
    ∃ w', (Builtin.delete_ #[t, k] ty #[.map (some b), .string s]).run P w = .ok (.tuple #[]) w' ∧ Held w' P k b n (D.del (kOf s)) ∧ w.grownBy w' (some b) := by
  obtain ⟨w', h1, h2, h3⟩ := World.ownsMap.drop h (string_keyed hk) ht (WideMaps.keyOf_string_mk hk hs) ty
  exact ⟨w', h1, h2, h3.grown⟩
theorem Held.isMap (h : Held w P k b n D) : IsMap D := World.ownsMap.isMap h
theorem isKey_kOf (s : ByteArray) : WideAt.IsKeyLit (kOf s) := by
  unfold kOf
  simp [WideAt.IsKeyLit]
theorem at_put (hD : IsMap D) (s s' : ByteArray) (v : Value) : at_ (D.put (kOf s) (.held v)) s' = if s' = s then some v else at_ D s' := by
  by_cases he : s' = s
  · subst he
    unfold at_
    rw [if_pos rfl, atKey_put_same hD (isKey_kOf s')]
  · unfold at_
    rw [if_neg he, atKey_put_other (fun e => he (kOf_inj e))]
theorem at_del (s s' : ByteArray) : at_ (D.del (kOf s)) s' = if s' = s then none else at_ D s' := by
  by_cases he : s' = s
  · subst he
    unfold at_
    rw [if_pos rfl, atKey_del_same]
  · unfold at_
    rw [if_neg he, atKey_del_other (fun e => he (kOf_inj e))]
end
theorem at_none (s : ByteArray) : at_ (.map []) s = none := rfl
end Go.Proofs.Ytkpolakdamiiiaa
