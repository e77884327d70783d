/- The methods of the heap of lists: which is first, how many, which two change places. Conditions: as stated at each. -/
import Derived.Test.YtkpolakdamiiiaaPsMem
namespace Go.Proofs.Ytkpolakdamiiiaa
set_option maxRecDepth 100000
namespace Ps
open Go.RowKit Go
attribute [local go_sem] Oper.semAt_some
theorem Rw.alk {w w' : World} {D : Nat} {v : Value} {H : List E} (h : Rw w D v H) (k : Alk w w') : Rw w' D v H :=
  h.tk (q := fun _ _ => False) ((Tk.refl _ w).alk k) (fun _ _ _ h => h) (fun _ _ _ _ _ h => h)
theorem Rw.el {w : World} {D : Nat} {v : Value} {H : List E} (h : Rw w D v H) {i : Nat} (hi : i < H.length) :
    ∃ g c ad n0 c0, v = .slice (some ⟨g, 0, none⟩) H.length c ∧ w.cell? ⟨g, i, none⟩ = some (.slice (some ad) (n0 + 1) c0) ∧ w.cell? ad = some (.int .i64 (ky H i)) ∧ (H.getD i E0).val = .slice (some ad) (n0 + 1) c0 := by
  obtain ⟨A, c, rfl, _, _⟩ := own_slice h.own
  obtain ⟨g, u, rfl, hu, hc, _⟩ := own_at h.own hi
  have he := h.dat (H[i]) (List.getElem_mem hi)
  have hg := h.good (H[i]) (List.getElem_mem hi)
  rw [List.getElem?_map, List.getElem?_eq_getElem hi] at hu
  injection hu with hu
  rw [ky_lt hi, getD_at hi]
  unfold E.key
  generalize H[i] = e at *
  obtain ⟨a, c0, l⟩ := e
  rcases l with _ | ⟨x, l⟩
  · exact absurd rfl hg.1
  · obtain ⟨ad, rfl, _, hx⟩ := he.1.at_ (k := 0) (by simp)
    rw [show ad.add 0 = ad by simp [Addr.add]] at hx
    exact ⟨g, c, ad, l.length, c0, rfl, by rw [hc, ← hu]; rfl, hx, rfl⟩
set_option maxHeartbeats 800000 in
theorem less_any {w : World} {D : Nat} {v : Value} {H : List E} (h : Rw w D v H) {i j : Nat} (hi : i < H.length) (hj : j < H.length) :
    Calls Try.prog 53 #[v, .int .i64 i, .int .i64 j] w fun e w' => e = .returned (.bool (decide (ky H i < ky H j))) ∧ Alk w w' := by
  obtain ⟨g, c, a1, n1, d1, rfl, b1, e1, _⟩ := h.el hi
  obtain ⟨g2, c2, a2, n2, d2, hv, b2, e2, _⟩ := h.el hj
  injection hv with hv _ _
  injection hv with hv
  injection hv with hv
  subst hv
  clear h
  generalize ky H i = ki at *
  generalize ky H j = kj at *
  generalize H.length = n at *
  go_enter Try.func53, Try.ntmps53
  go_wp2_with fail
  go_quiet (fail)
  go_wp2_with fail
  go_ret
  exact ⟨rfl, rfl, rfl, rfl, rfl⟩
theorem at_row {w : World} {D : Nat} {v : Value} {H : List E} (h : Rw w D v H) {i : Nat} (hi : i < H.length) : ∃ g c, v = .slice (some ⟨g, 0, none⟩) H.length c ∧ w.cell? ⟨g, i, none⟩ = some (H.getD i E0).val ∧ w.frozen? ⟨g, i, none⟩ = false ∧ g < w.heap.size ∧ ∃ cur, BlkIs w g 22 cur := by
  obtain ⟨A, c, rfl, _, _⟩ := own_slice h.own
  obtain ⟨g, u, rfl, hu, hc, hf, hl, hb⟩ := own_at h.own hi
  rw [List.getElem?_map, List.getElem?_eq_getElem hi] at hu
  injection hu with hu
  exact ⟨g, c, rfl, by rw [hc, getD_at hi, ← hu], hf, hl, hb⟩
set_option maxHeartbeats 1600000 in
theorem swap_any {w : World} {D : Nat} {v : Value} {H : List E} (h : Rw w D v H) {i j : Nat} (hi : i < H.length) (hj : j < H.length) :
    ∃ g c, v = .slice (some ⟨g, 0, none⟩) H.length c ∧ Calls Try.prog 56 #[v, .int .i64 i, .int .i64 j] w fun e w' => e = .returned (.tuple #[]) ∧ ∃ w1, Alk w w1 ∧ w' = (w1.setCell ⟨g, i, none⟩ (H.getD j E0).val).setCell ⟨g, j, none⟩ (H.getD i E0).val := by
  obtain ⟨g, c, rfl, b1, f1, hl, cur, hb⟩ := at_row h hi
  obtain ⟨g2, c2, hv, b2, f2, _⟩ := at_row h hj
  injection hv with hv _ _
  injection hv with hv
  injection hv with hv
  subst hv
  clear h
  refine ⟨g, c, rfl, ?_⟩
  obtain ⟨ai, li, ci, ei⟩ : ∃ a n c, (H.getD i E0).val = .slice a n c := ⟨_, _, _, rfl⟩
  obtain ⟨aj, lj, cj, ej⟩ : ∃ a n c, (H.getD j E0).val = .slice a n c := ⟨_, _, _, rfl⟩
  rw [ei] at b1 ⊢
  rw [ej] at b2 ⊢
  clear ei ej
  generalize H.length = n at *
  have HF : Hid (∀ (u : Value) (k : Nat) (w1 : World), Alk w w1 → (w1.setCell ⟨g, k, none⟩ u).frozen? ⟨g, j, none⟩ = false ∧ ∃ x, (w1.setCell ⟨g, k, none⟩ u).cell? ⟨g, j, none⟩ = some x) := Lib.hid (fun u k w1 hk => ⟨BlkIs.froz (BlkIs.put (hk.blk hb) k u) j, by
    have h1 := BlkIs.cell (BlkIs.put (hk.blk hb) k u) j
    have h2 := BlkIs.cell hb j
    rw [b2] at h2
    have h3 : j < (cur.setIfInBounds k u).size := by rw [Array.size_setIfInBounds]; exact (Array.getElem?_eq_some_iff.1 h2.symm).1
    exact ⟨_, h1.trans (Array.getElem?_eq_getElem h3)⟩⟩)
  go_enter Try.func56, Try.ntmps56
  go_wp2_with fail
  have HK : Hid (Alk w w.drew) := Lib.hid ⟨rfl, rfl, rfl, rfl⟩
  have HF1 : Hid (∀ (u : Value) (k : Nat), (w.drew.setCell ⟨g, k, none⟩ u).frozen? ⟨g, j, none⟩ = false ∧ ∃ x, (w.drew.setCell ⟨g, k, none⟩ u).cell? ⟨g, j, none⟩ = some x) := Lib.hid (fun u k => HF.out u k _ HK.out)
  have b1 : w.drew.cell? ⟨g, i, none⟩ = _ := b1
  have b2 : w.drew.cell? ⟨g, j, none⟩ = _ := b2
  have f1 : w.drew.frozen? ⟨g, i, none⟩ = _ := f1
  refine wp_region_held_drew (S := (fun _ => True)) (by kernel_rfl) (trivial) (fun hHeld => ?_)
  clear HF hb
  generalize w.drew = w1 at *
  refine wpAnyH_take (i := 0) (v := .slice (some ⟨g, 0, none⟩) n c) rfl (by kernel_rfl) (by kernel_rfl) (by kernel_rfl) (fun _ _ _ h => h) (Or.inl ⟨by rfl, fun w hS => by first | (go_simp; done) | (go_simp; with_reducible rfl)⟩) hHeld ?_
  try simp only [Act.put, List.getElem_toArray, List.getElem_cons_zero, List.setIfInBounds_toArray, List.set_cons_zero, List.set_cons_succ]
  refine wpAnyH_take (i := 1) (v := .int .i64 i) rfl (by kernel_rfl) (by kernel_rfl) (by kernel_rfl) (fun _ _ _ h => h) (Or.inl ⟨by rfl, fun w hS => by first | (go_simp; done) | (go_simp; with_reducible rfl)⟩) hHeld ?_
  try simp only [Act.put, List.getElem_toArray, List.getElem_cons_zero, List.getElem_cons_succ, List.setIfInBounds_toArray, List.set_cons_zero, List.set_cons_succ]
  refine wpAnyH_take (i := 2) (v := .slice (some ⟨g, 0, none⟩) n c) rfl (by kernel_rfl) (by kernel_rfl) (by kernel_rfl) (fun _ _ _ h => h) (Or.inl ⟨by rfl, fun w hS => by first | (go_simp; done) | (go_simp; with_reducible rfl)⟩) hHeld ?_
  try simp only [Act.put, List.getElem_toArray, List.getElem_cons_zero, List.getElem_cons_succ, List.setIfInBounds_toArray, List.set_cons_zero, List.set_cons_succ]
  refine wpAnyH_take (i := 3) (v := .int .i64 j) rfl (by kernel_rfl) (by kernel_rfl) (by kernel_rfl) (fun _ _ _ h => h) (Or.inl ⟨by rfl, fun w hS => by first | (go_simp; done) | (go_simp; with_reducible rfl)⟩) hHeld ?_
  try simp only [Act.put, List.getElem_toArray, List.getElem_cons_zero, List.getElem_cons_succ, List.setIfInBounds_toArray, List.set_cons_zero, List.set_cons_succ]
  refine wpAnyH_take (i := 4) (v := .slice (some ⟨g, 0, none⟩) n c) rfl (by kernel_rfl) (by kernel_rfl) (by kernel_rfl) (fun _ _ _ h => h) (Or.inl ⟨by rfl, fun w hS => by first | (go_simp; done) | (go_simp; with_reducible rfl)⟩) hHeld ?_
  try simp only [Act.put, List.getElem_toArray, List.getElem_cons_zero, List.getElem_cons_succ, List.setIfInBounds_toArray, List.set_cons_zero, List.set_cons_succ]
  refine wpAnyH_take (i := 5) (v := .int .i64 j) rfl (by kernel_rfl) (by kernel_rfl) (by kernel_rfl) (fun _ _ _ h => h) (Or.inl ⟨by rfl, fun w hS => by first | (go_simp; done) | (go_simp; with_reducible rfl)⟩) hHeld ?_
  try simp only [Act.put, List.getElem_toArray, List.getElem_cons_zero, List.getElem_cons_succ, List.setIfInBounds_toArray, List.set_cons_zero, List.set_cons_succ]
  refine wpAnyH_take (i := 6) (v := .pointer (some ⟨g, j, none⟩)) rfl (by kernel_rfl) (by kernel_rfl) (by kernel_rfl) (fun _ _ _ h => h) (Or.inl ⟨by rfl, fun w hS => by first | (go_simp; done) | (go_simp; with_reducible rfl)⟩) hHeld ?_
  try simp only [Act.put, List.getElem_toArray, List.getElem_cons_zero, List.getElem_cons_succ, List.setIfInBounds_toArray, List.set_cons_zero, List.set_cons_succ]
  refine wpAnyH_take (i := 8) (v := .slice (some ⟨g, 0, none⟩) n c) rfl (by kernel_rfl) (by kernel_rfl) (by kernel_rfl) (fun _ _ _ h => h) (Or.inl ⟨by rfl, fun w hS => by first | (go_simp; done) | (go_simp; with_reducible rfl)⟩) hHeld ?_
  try simp only [Act.put, List.getElem_toArray, List.getElem_cons_zero, List.getElem_cons_succ, List.setIfInBounds_toArray, List.set_cons_zero, List.set_cons_succ]
  refine wpAnyH_take (i := 9) (v := .int .i64 i) rfl (by kernel_rfl) (by kernel_rfl) (by kernel_rfl) (fun _ _ _ h => h) (Or.inl ⟨by rfl, fun w hS => by first | (go_simp; done) | (go_simp; with_reducible rfl)⟩) hHeld ?_
  try simp only [Act.put, List.getElem_toArray, List.getElem_cons_zero, List.getElem_cons_succ, List.setIfInBounds_toArray, List.set_cons_zero, List.set_cons_succ]
  refine wpAnyH_take (i := 10) (v := .pointer (some ⟨g, i, none⟩)) rfl (by kernel_rfl) (by kernel_rfl) (by kernel_rfl) (fun _ _ _ h => h) (Or.inl ⟨by rfl, fun w hS => by first | (go_simp; done) | (go_simp; with_reducible rfl)⟩) hHeld ?_
  try simp only [Act.put, List.getElem_toArray, List.getElem_cons_zero, List.getElem_cons_succ, List.setIfInBounds_toArray, List.set_cons_zero, List.set_cons_succ]
  refine wpAnyH_ready (rs := [7, 11]) (by kernel_rfl) (by simp) ?_
  refine AllReadyH.cons rfl (fun K hK => ?_) (AllReadyH.cons rfl (fun K hK => ?_) AllReadyH.nil)
  go_simp
  refine hK.out _ _ ?_ (fun hHeld => ?_)
  · trivial
  clear hK K
  try simp only [Act.put, List.getElem_toArray, List.getElem_cons_zero, List.getElem_cons_succ, List.setIfInBounds_toArray, List.set_cons_zero, List.set_cons_succ]
  refine wpAnyH_ready (rs := [11]) (by kernel_rfl) (by simp) ?_
  refine AllReadyH.cons rfl (fun K hK => ?_) AllReadyH.nil
  go_simp
  refine hK.out _ _ ?_ (fun hHeld => ?_)
  · trivial
  clear hK K
  try simp only [Act.put, List.getElem_toArray, List.getElem_cons_zero, List.getElem_cons_succ, List.setIfInBounds_toArray, List.set_cons_zero, List.set_cons_succ]
  refine wpAnyH_take (i := 12) (v := .pointer (some ⟨g, i, none⟩)) rfl (by kernel_rfl) (by kernel_rfl) (by kernel_rfl) (fun _ _ _ h => h) (Or.inl ⟨by rfl, fun w hS => by first | (go_simp; done) | (go_simp; with_reducible rfl)⟩) hHeld ?_
  try simp only [Act.put, List.getElem_toArray, List.getElem_cons_zero, List.getElem_cons_succ, List.setIfInBounds_toArray, List.set_cons_zero, List.set_cons_succ]
  refine wpAnyH_ready (rs := [13]) (by kernel_rfl) (by simp) ?_
  refine AllReadyH.cons rfl (fun K hK => ?_) AllReadyH.nil
  go_simp
  refine hK.out _ _ ?_ (fun hHeld => ?_)
  · trivial
  clear hK K
  try simp only [Act.put, List.getElem_toArray, List.getElem_cons_zero, List.getElem_cons_succ, List.setIfInBounds_toArray, List.set_cons_zero, List.set_cons_succ]
  obtain ⟨f2, x2, y2⟩ := HF1.out (.slice aj lj cj) i
  generalize hw2 : w1.setCell ⟨g, i, none⟩ (.slice aj lj cj) = w2 at *
  refine wpAnyH_take (i := 14) (v := .pointer (some ⟨g, j, none⟩)) rfl (by kernel_rfl) (by kernel_rfl) (by kernel_rfl) (fun _ _ _ h => h) (Or.inl ⟨by rfl, fun w hS => by first | (go_simp; done) | (go_simp; with_reducible rfl)⟩) hHeld ?_
  try simp only [Act.put, List.getElem_toArray, List.getElem_cons_zero, List.getElem_cons_succ, List.setIfInBounds_toArray, List.set_cons_zero, List.set_cons_succ]
  refine wpAnyH_ready (rs := [15]) (by kernel_rfl) (by simp) ?_
  refine AllReadyH.cons rfl (fun K hK => ?_) AllReadyH.nil
  go_simp
  refine hK.out _ _ ?_ (fun hHeld => ?_)
  · trivial
  clear hK K
  try simp only [Act.put, List.getElem_toArray, List.getElem_cons_zero, List.getElem_cons_succ, List.setIfInBounds_toArray, List.set_cons_zero, List.set_cons_succ]
  refine wpAnyH_done (by kernel_rfl) ?_ _
  go_wp2_with fail
  go_end0
  exact ⟨rfl, w1, HK.out, by rw [hw2]⟩
  rotate_left
  go_simp
  refine hK.out _ _ ?_ (fun hHeld => ?_)
  · trivial
  clear hK K
  try simp only [Act.put, List.getElem_toArray, List.getElem_cons_zero, List.getElem_cons_succ, List.setIfInBounds_toArray, List.set_cons_zero, List.set_cons_succ]
  refine wpAnyH_ready (rs := [7]) (by kernel_rfl) (by simp) ?_
  refine AllReadyH.cons rfl (fun K hK => ?_) AllReadyH.nil
  go_simp
  refine hK.out _ _ ?_ (fun hHeld => ?_)
  · trivial
  clear hK K
  try simp only [Act.put, List.getElem_toArray, List.getElem_cons_zero, List.getElem_cons_succ, List.setIfInBounds_toArray, List.set_cons_zero, List.set_cons_succ]
  refine wpAnyH_take (i := 12) (v := .pointer (some ⟨g, i, none⟩)) rfl (by kernel_rfl) (by kernel_rfl) (by kernel_rfl) (fun _ _ _ h => h) (Or.inl ⟨by rfl, fun w hS => by first | (go_simp; done) | (go_simp; with_reducible rfl)⟩) hHeld ?_
  try simp only [Act.put, List.getElem_toArray, List.getElem_cons_zero, List.getElem_cons_succ, List.setIfInBounds_toArray, List.set_cons_zero, List.set_cons_succ]
  refine wpAnyH_ready (rs := [13]) (by kernel_rfl) (by simp) ?_
  refine AllReadyH.cons rfl (fun K hK => ?_) AllReadyH.nil
  go_simp
  refine hK.out _ _ ?_ (fun hHeld => ?_)
  · trivial
  clear hK K
  try simp only [Act.put, List.getElem_toArray, List.getElem_cons_zero, List.getElem_cons_succ, List.setIfInBounds_toArray, List.set_cons_zero, List.set_cons_succ]
  obtain ⟨f2, x2, y2⟩ := HF1.out (.slice aj lj cj) i
  generalize hw2 : w1.setCell ⟨g, i, none⟩ (.slice aj lj cj) = w2 at *
  refine wpAnyH_take (i := 14) (v := .pointer (some ⟨g, j, none⟩)) rfl (by kernel_rfl) (by kernel_rfl) (by kernel_rfl) (fun _ _ _ h => h) (Or.inl ⟨by rfl, fun w hS => by first | (go_simp; done) | (go_simp; with_reducible rfl)⟩) hHeld ?_
  try simp only [Act.put, List.getElem_toArray, List.getElem_cons_zero, List.getElem_cons_succ, List.setIfInBounds_toArray, List.set_cons_zero, List.set_cons_succ]
  refine wpAnyH_ready (rs := [15]) (by kernel_rfl) (by simp) ?_
  refine AllReadyH.cons rfl (fun K hK => ?_) AllReadyH.nil
  go_simp
  refine hK.out _ _ ?_ (fun hHeld => ?_)
  · trivial
  clear hK K
  try simp only [Act.put, List.getElem_toArray, List.getElem_cons_zero, List.getElem_cons_succ, List.setIfInBounds_toArray, List.set_cons_zero, List.set_cons_succ]
  refine wpAnyH_done (by kernel_rfl) ?_ _
  go_wp2_with fail
  go_end0
  exact ⟨rfl, w1, HK.out, by rw [hw2]⟩
end Ps
end Go.Proofs.Ytkpolakdamiiiaa
