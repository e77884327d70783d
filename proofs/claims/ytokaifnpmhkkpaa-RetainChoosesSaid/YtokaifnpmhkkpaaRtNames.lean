/- Names held in a map: (names).add, (names).has. Conditions: as stated at each. -/
import Derived.Test.YtokaifnpmhkkpaaRtFind
import Derived.Test.YtokaifnpmhkkpaaFlHeld
import Derived.Maps.OwnSet
namespace Go.Proofs.Ytokaifnpmhkkpaa
set_option maxRecDepth 100000
namespace Rt
open Go.RowKit Go Go.Proofs.Ytokaifnpmhkkpaa.Pa Go.Maps
/-- the map in block g has these texts as keys, m of them, none twice. -/
def MapN (w : World) (g n m : Nat) (S : List L) : Prop := ∃ D, Held w Try.prog 9 g n D ∧ (∀ s : L, has D (.string s) = true ↔ s ∈ S) ∧ (∀ s : L, D.atKey (.string s) (.held (.agg #[])) = .held (.agg #[])) ∧ Maps.size D = m
/-- how many there are when s comes to them. -/
def nxt (S : List L) (s : L) (m : Nat) : Nat := if s ∈ S then m else m + 1
theorem kOf_str (s : L) : kOf (str s) = .string s := by simp [kOf, str]
section
variable {w w' : World} {g n m : Nat} {S : List L}
theorem MapN.lt (h : MapN w g n m S) : g < w.heap.size := by
  obtain ⟨D, h, _⟩ := h
  exact Held.lt h
theorem MapN.same (h : MapN w g n m S) (hb : w'.heap[g]? = w.heap[g]?) : MapN w' g n m S := by
  obtain ⟨D, h, h'⟩ := h
  exact ⟨D, h.same hb, h'⟩
theorem MapN.put (h : MapN w g n m S) (s : L) (hs : s.length ≤ 140737488355328) (hn : n ≤ 1000000000) : ∃ w', (Instr.mapUpdate 47 (.map (some g)) (.string (str s)) (.agg #[])).run Try.prog w = .ok () w' ∧ MapN w' g (n + 1) (nxt S s m) (S ++ [s]) ∧ w.grownBy w' (some g) := by
  obtain ⟨D, h, h', hz, hm⟩ := h
  obtain ⟨w', hrun, h1, h2⟩ := held_put h (t := 47) (e := 60) (s := str s) Try.underlying9 Try.underlying47 (by rw [str_size]; unfold maxLen; omega) (by unfold maxLen; omega) (.agg #[])
  refine ⟨w', hrun, ⟨_, h1, fun x => ?_, fun x => ?_, ?_⟩, h2⟩
  · have hk : WideAt.IsKeyLit (kOf (str s)) := isKey_kOf (str s)
    by_cases e : x = s
    · subst e
      rw [kOf_str] at hk ⊢
      rw [has_put_same h.isMap hk]
      simp
    · rw [kOf_str]
      rw [has_put_other (fun h => e (by injection h)), h' x]
      simp [e]
  · have hk : WideAt.IsKeyLit (kOf (str s)) := isKey_kOf (str s)
    by_cases e : x = s
    · subst e
      rw [kOf_str] at hk ⊢
      rw [atKey_put_same h.isMap hk]
    · rw [kOf_str]
      rw [atKey_put_other (fun h => e (by injection h)), hz x]
  · unfold nxt
    rw [size_put (World.ownsMap.tidy h (string_keyed Try.underlying9)), hm, kOf_str]
    by_cases e : s ∈ S
    · rw [if_pos ((h' s).2 e), if_pos e]
    · rw [if_neg (fun h => e ((h' s).1 h)), if_neg e]
theorem MapN.new (w : World) : MapN (w.alloc (.map #[] 0)) w.heap.size 0 0 [] :=
  ⟨_, World.ownsMap_made w Try.prog 9 rh, fun s => by simp [Maps.has], fun _ => rfl, rfl⟩
theorem MapN.look (h : MapN w g n m S) (s : L) (hs : s.length ≤ 140737488355328) : (Instr.lookup 47 (.map (some g)) (.string (str s)) true).run Try.prog w = .ok (.tuple #[.agg #[], .bool (decide (s ∈ S))]) w := by
  obtain ⟨D, h, h', hz, _⟩ := h
  obtain ⟨v, ps, hr, hv⟩ := World.ownsMap.look_ok h (string_keyed Try.underlying9) Try.underlying47 (z := .agg #[]) (by kernel_rfl) (zd := .held (.agg #[])) rfl (WideMaps.keyOf_string_mk Try.underlying9 (s := str s) (by rw [str_size]; unfold maxLen; omega))
  rw [show (str s).data.toList = s by simp [str]] at hr hv
  rw [hz s] at hv
  unfold rh at hv
  injection hv with hv
  injection hv with hv _
  injection hv with hv
  subst hv
  rw [hr, show Maps.has D (.string s) = decide (s ∈ S) by rw [Bool.eq_iff_iff, decide_eq_true_eq]; exact h' s]
theorem MapN.len (h : MapN w g n m S) (ty : TypeId) : (Builtin.len_ #[47] ty #[.map (some g)]).run Try.prog w = .ok (.int .i64 m) w := by
  obtain ⟨D, h, _, _, rfl⟩ := h
  exact World.ownsMap.len h Try.underlying47 ty
end
theorem bu60 : ∀ w, (Instr.build 60 #[]).run Try.prog w = .ok (.agg #[]) w := fun w => by kernel_rfl
theorem add_any {w : World} {g n m : Nat} {S : List L} (h : MapN w g n m S) (s : L) (hs : s.length ≤ 140737488355328) (hn : n ≤ 1000000000) :
    Calls Try.prog 23 #[.map (some g), .string (str s)] w fun e w' => e = .returned (.tuple #[]) ∧ MapN w' g (n + 1) (nxt S s m) (S ++ [s]) ∧ w.grownBy w' (some g) := by
  have hbu := bu60
  obtain ⟨w', hrun, h1, h2⟩ := h.put s hs hn
  have H1 := Lib.hid h1
  have H2 := Lib.hid h2
  clear h h1 h2
  generalize str s = s0 at *
  go_enter Try.func23, Try.ntmps23
  go_wp2_with fail
  go_end0
  exact ⟨rfl, H1.out, H2.out⟩
theorem has_any {w : World} {g n m : Nat} {S : List L} (h : MapN w g n m S) (s : L) (hs : s.length ≤ 140737488355328) :
    Calls Try.prog 26 #[.map (some g), .string (str s)] w fun e w' => e = .returned (.bool (decide (s ∈ S))) ∧ Below w.heap.size w w' := by
  have hrun := h.look s hs
  clear h
  generalize str s = s0 at *
  generalize decide (s ∈ S) = r at *
  go_enter Try.func26, Try.ntmps26
  go_wp2_with fail
  go_ret
  exact ⟨rfl, (Below.refl _ w).alloc (Nat.le_refl _) _⟩
end Rt
end Go.Proofs.Ytokaifnpmhkkpaa
