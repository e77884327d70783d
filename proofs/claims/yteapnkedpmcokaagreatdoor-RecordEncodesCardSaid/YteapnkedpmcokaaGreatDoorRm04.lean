/- FlHeld FlNum. Conditions: as stated at each. -/
import Derived.Maps.OwnSet
import Derived.Maps.Views
import Derived.Maps.Keyed
import Derived.Test.YteapnkedpmcokaaGreatDoorRm02
/- A map with names for keys, its values as they are: look-up, store, delete. Conditions: none. -/
namespace Go.Proofs.YteapnkedpmcokaaGreatDoor
set_option maxRecDepth 100000
open Go.RowKit Go Go.Maps
/-- every value is read as itself. -/
def rh (v : Value) : Option (DataW Value × List MemPlace) := some (.held v, [])
/-- the map in block b reads as D. -/
def Held (w : World) (P : Program) (k : TypeId) (b n : Nat) (D : DataW Value) : Prop := w.ownsMap P k rh b n D
def kOf (s : ByteArray) : Lit := .string s.data.toList
/-- what the map has by that name. -/
def at_ (D : DataW Value) (s : ByteArray) : Option Value :=
  match D.atKey (kOf s) .nil with
  | .held v => some v
  | _ => none
theorem kOf_inj {a b : ByteArray} (h : kOf a = kOf b) : a = b := by
  unfold kOf at h
  injection h with h
  cases a
  cases b
  simp at h
  rw [h]
section
variable {w : World} {P : Program} {k t e : TypeId} {b n : Nat} {D : DataW Value} {s : ByteArray}
theorem held_look (h : Held w P k b n D) (hk : P.underlying k = some .string) (ht : P.underlying t = some (.map k e)) (hs : s.size ≤ maxLen) {z : Value} (hz : (zeroValue e).run P w = .ok z w) (c : Bool) :
    (Instr.lookup t (.map (some b)) (.string s) c).run P w = .ok (match at_ D s with | some v => if c then .tuple #[v, .bool true] else v | none => if c then .tuple #[z, .bool false] else z) w := by
  obtain ⟨es, clock, hb, F, _, rfl⟩ := h
  have hkey : keyOf P k (.string s) = some (kOf s) := WideMaps.keyOf_string_mk hk hs
  rcases fit_look c (string_keyed hk) ht hz hb F hkey with ⟨hrun, _, hat⟩ | ⟨e0, y, _, _, hrun, hR, hat, _⟩
  · rw [hrun]
    have : at_ (.map ((es.toList.map (Go.WideElems.rg P k rh)).foldr DataW.insert [])) s = none := by
      unfold at_
      rw [hat .nil]
    rw [this]
  · rw [hrun]
    have hy : y = (.held e0.val, []) := by
      unfold rh at hR
      injection hR with hR
      exact hR.symm
    have : at_ (.map ((es.toList.map (Go.WideElems.rg P k rh)).foldr DataW.insert [])) s = some e0.val := by
      unfold at_
      rw [hat .nil, hy]
    rw [this]
theorem held_put (h : Held w P k b n D) (hk : P.underlying k = some .string) (ht : P.underlying t = some (.map k e)) (hs : s.size ≤ maxLen) (hn : n < maxLen) (v : Value) :
    ∃ w', (Instr.mapUpdate t (.map (some b)) (.string s) v).run P w = .ok () w' ∧ Held w' P k b (n + 1) (D.put (kOf s) (.held v)) ∧ w.grownBy w' (some b) :=
  World.ownsMap.update h (string_keyed hk) ht hn (WideMaps.keyOf_string_mk hk hs) rfl
theorem held_del (h : Held w P k b n D) (hk : P.underlying k = some .string) (ht : P.underlying t = some (.map k e)) (hs : s.size ≤ maxLen) (ty : TypeId) :
    ∃ w', (Builtin.delete_ #[t, k] ty #[.map (some b), .string s]).run P w = .ok (.tuple #[]) w' ∧ Held w' P k b n (D.del (kOf s)) ∧ w.grownBy w' (some b) := by
  obtain ⟨w', h1, h2, h3⟩ := World.ownsMap.drop h (string_keyed hk) ht (WideMaps.keyOf_string_mk hk hs) ty
  exact ⟨w', h1, h2, h3.grown⟩
theorem Held.isMap (h : Held w P k b n D) : IsMap D := World.ownsMap.isMap h
theorem isKey_kOf (s : ByteArray) : WideAt.IsKeyLit (kOf s) := by
  unfold kOf
  simp [WideAt.IsKeyLit]
theorem at_put (hD : IsMap D) (s s' : ByteArray) (v : Value) : at_ (D.put (kOf s) (.held v)) s' = if s' = s then some v else at_ D s' := by
  by_cases he : s' = s
  · subst he
    unfold at_
    rw [if_pos rfl, atKey_put_same hD (isKey_kOf s')]
  · unfold at_
    rw [if_neg he, atKey_put_other (fun e => he (kOf_inj e))]
theorem at_del (s s' : ByteArray) : at_ (D.del (kOf s)) s' = if s' = s then none else at_ D s' := by
  by_cases he : s' = s
  · subst he
    unfold at_
    rw [if_pos rfl, atKey_del_same]
  · unfold at_
    rw [if_neg he, atKey_del_other (fun e => he (kOf_inj e))]
end
theorem at_none (s : ByteArray) : at_ (.map []) s = none := rfl
end Go.Proofs.YteapnkedpmcokaaGreatDoor
/- Four bytes as a number. Conditions: none. -/
namespace Go.Proofs.YteapnkedpmcokaaGreatDoor
set_option maxRecDepth 100000
open Go.RowKit Go
/-- the first k bytes as a number. -/
def wordK (l : List UInt8) : Nat → Nat
  | 0 => 0
  | k + 1 => wordK l k + (l.getD k 0).toNat * 2 ^ (8 * k)
theorem wordK_lt (l : List UInt8) : ∀ k, wordK l k < 2 ^ (8 * k)
  | 0 => by simp [wordK]
  | k + 1 => by
    have h := wordK_lt l k
    have hc := (l.getD k 0).toNat_lt
    have e : 2 ^ (8 * (k + 1)) = 256 * 2 ^ (8 * k) := by rw [show 8 * (k + 1) = 8 + 8 * k from by omega, Nat.pow_add]
    have hm : (l.getD k 0).toNat * 2 ^ (8 * k) ≤ 255 * 2 ^ (8 * k) := Nat.mul_le_mul_right _ (by omega)
    rw [wordK, e]
    omega
theorem wordK_4 (l : List UInt8) : wordK l 4 = num4 l := by
  simp [wordK, num4]
  omega
theorem wordK_or (l : List UInt8) (k : Nat) (hk : k < 4) :
    bits .or .u32 (wordK l k : Nat) (((l.getD k 0).toNat : Int) * 2 ^ (8 * k) % 4294967296) = (wordK l (k + 1) : Nat) := by
  have h0 := wordK_lt l k
  have h1 := wordK_lt l (k + 1)
  have hp : (2 : Nat) ^ (8 * (k + 1)) ≤ 4294967296 := Nat.pow_le_pow_right (n := 2) (by omega) (show 8 * (k + 1) ≤ 32 by omega)
  have e : ((l.getD k 0).toNat : Int) * 2 ^ (8 * k) = (((l.getD k 0).toNat * 2 ^ (8 * k) : Nat) : Int) := by simp
  have hle : wordK l (k + 1) = (l.getD k 0).toNat * 2 ^ (8 * k) + wordK l k := by rw [wordK]; omega
  have hd : (l.getD k 0).toNat * 2 ^ (8 * k) % 2 ^ (8 * k) = 0 := by simp
  rw [e]
  generalize (l.getD k 0).toNat * 2 ^ (8 * k) = p at *
  rw [Int.emod_eq_of_lt (by omega) (by omega), u32_or_nat _ _ (by omega) (by omega), Nat.or_comm, nat_join (8 * k) _ _ hd h0, hle]
theorem or_low (i a b : Nat) (ha : a < 2 ^ i) (hb : b * 2 ^ i < 4294967296) (hi : 2 ^ i < 4294967296) : bits .or .u32 (a : Int) ((b * 2 ^ i : Nat) : Int) = ((a + b * 2 ^ i : Nat) : Int) := by
  rw [u32_or_nat _ _ (by omega) hb, Nat.or_comm, nat_join i _ _ (by simp) ha, Nat.add_comm]
theorem four_or {q0 q1 q2 q3 : Nat} (h0 : q0 < 2 ^ 8) (h1 : q1 < 2 ^ 8) (h2 : q2 < 2 ^ 8) (h3 : q3 < 2 ^ 8) :
    bits .or .u32 (bits .or .u32 (bits .or .u32 (q0 : Int) ((q1 : Int) * 256)) ((q2 : Int) * 65536)) ((q3 : Int) * 16777216) = ((q0 + 256 * q1 + 65536 * q2 + 16777216 * q3 : Nat) : Int) := by
  have e1 : (q1 : Int) * 256 = ((q1 * 2 ^ 8 : Nat) : Int) := by simp
  have e2 : (q2 : Int) * 65536 = ((q2 * 2 ^ 16 : Nat) : Int) := by simp
  have e3 : (q3 : Int) * 16777216 = ((q3 * 2 ^ 24 : Nat) : Int) := by simp
  rw [e1, e2, e3, or_low 8 _ _ h0 (by omega) (by omega), or_low 16 _ _ (by omega) (by omega) (by omega), or_low 24 _ _ (by omega) (by omega) (by omega)]
  congr 1
  omega
end Go.Proofs.YteapnkedpmcokaaGreatDoor
