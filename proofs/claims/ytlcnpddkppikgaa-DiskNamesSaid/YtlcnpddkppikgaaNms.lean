/- (*disk.Disk).names where the disk has the example's one file. Conditions: as stated. -/
import Derived.Test.YtlcnpddkppikgaaFind
import Derived.Test.YtlcnpddkppikgaaIter
namespace Go.Proofs.Ytlcnpddkppikgaa
open Go.RowKit Go Go.Sort Go.Shelf
def noRead (_ : Value) : Option (DataW Unit × List MemPlace) := some (.nil, [])
def dA : DataW Unit := .map [(.string nA.data.toList, .nil)]
theorem owns_one (W : World) (M clk born : Nat) (x : Value) (h : W.heap[M]? = some (.map #[ent x born] clk)) (hb : born < clk) : W.ownsMap Try.prog 9 noRead M 1 dA := by
  have hr : Go.WideElems.rd Try.prog 9 noRead (ent x born) = some (.string nA.data.toList, .nil) := Go.WideElems.rd_mk (yv := (.nil, [])) keyA rfl
  refine ⟨_, clk, h, ⟨by simp [maxLen], ⟨by simp [ent, hb], by simp, by simp⟩, fun y hy => ?_⟩, by simp, ?_⟩
  · simp at hy
    subst hy
    exact ⟨_, hr⟩
  · simp [Go.WideElems.rg_of hr, DataW.insert, dA]
theorem own_first {w : World} {base n : Nat} {e : TypeId} {v : Value} {xs : List Value} {u : Value} (h : w.ownsRow base e 1 v n xs) (hx : xs = [u]) :
    ∃ g cap, v = .slice (some ⟨g, 0, none⟩) 1 cap ∧ base ≤ g ∧ g < w.heap.size ∧ w.cell? ⟨g, 0, none⟩ = some u := by
  subst hx
  have hl := h.1
  simp at hl
  subst hl
  rcases h.2 with ⟨_, h0⟩ | ⟨g, cap, cur, rfl, hb, hh, hn, hc, hs, ht⟩
  · cases h0
  · refine ⟨g, cap, rfl, hb, (Array.getElem?_eq_some_iff.1 hh).1, ?_⟩
    rw [cell_of_row w g 0 cur e (0, 0) hh]
    have h1 : (cur.toList.take 1)[0]? = some u := by
      have : cur.toList.take 1 = [u] := by simpa using ht
      rw [this]; rfl
    rw [List.getElem?_take] at h1
    simpa using h1
set_option maxHeartbeats 800000 in
theorem names_any (W : World) (D M clk born : Nat) (r x l b y : Value) (hD : BlkIs W D 38 #[.map (some M), r, x, l, b]) (hM : W.heap[M]? = some (.map #[ent y born] clk)) (hb : born < clk) :
    Calls Try.prog 23 #[.pointer (some ⟨D, 0, none⟩)] W fun e w' => ∃ V C cap, e = .returned (.func (.func 29) #[] #[.pointer (some ⟨V, 0, none⟩)]) ∧ W.heap.size ≤ V ∧ W.heap.size ≤ C ∧
      BlkIs w' V 51 #[.slice (some ⟨C, 0, none⟩) 1 cap] ∧ w'.cell? ⟨C, 0, none⟩ = some (.string nA) ∧ Below W.heap.size W w' := by
  have d0 := hD.cell 0
  have ho := Lib.hid (owns_one W M clk born y hM hb)
  go_enter Try.func23, Try.ntmps23
  go_wp2_with (go_at_call 28; refine (callsIn_wide.1 (Try.maps_Keys_28 _ _)).mono ?_; rintro e w' ⟨rfl, rfl⟩)
  refine (callsIn_wide.1 (Try.slices_Sorted_keys_27_28 M 1 dA noRead W ho.out (by decide) (by decide))).mono ?_
  rintro e w1 ⟨v, ss, rfl, hS, hrow, hnil, hbl⟩
  have hS' : ss = [nA.data.toList] := List.perm_singleton.1 hS
  subst hS'
  have hc := own_first (u := .string nA) hrow (by rw [List.mergeSort_singleton]; rfl)
  obtain ⟨g, cap, rfl, hg, hgl, hgc⟩ := hc
  have hb1 : Below W.heap.size W w1 := ((Below.refl _ W).alloc (Nat.le_refl _) _).trans (hbl.mono (by simp))
  have hz := hb1.size
  clear hrow hnil hbl hS
  go_wp2_with go_in
  go_ret
  refine ⟨w1.heap.size, g, cap, rfl, hz, by simp at hg; omega, BlkIs.new w1 51 _, (World.cell?_alloc_lt w1 _ ⟨g, 0, none⟩ hgl).trans hgc, hb1.alloc hz _⟩
end Go.Proofs.Ytlcnpddkppikgaa
