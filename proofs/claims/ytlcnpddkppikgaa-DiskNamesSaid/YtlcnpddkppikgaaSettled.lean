/- settled, Arm and Read at the example's states. Conditions: as stated at each. -/
import Derived.Test.YtlcnpddkppikgaaNms
namespace Go.Proofs.Ytlcnpddkppikgaa
open Go.RowKit Go
theorem own_cells {w : World} {base n : Nat} {e : TypeId} {g cap : Nat} {xs : List Value} (h : w.ownsRow base e 1 (.slice (some ⟨g, 0, none⟩) n cap) n xs) :
    xs.length = n ∧ base ≤ g ∧ g < w.heap.size ∧ n ≤ cap ∧ cap ≤ maxLen ∧ ∀ j u, xs[j]? = some u → w.cell? (Addr.add ⟨g, 0, none⟩ j) = some u := by
  have hl := h.1
  rcases h.2 with ⟨hv, _⟩ | ⟨g', cap', cur, hv, hb, hh, hn, hc, hs, ht⟩
  · cases hv
  · injection hv with hv _ hcap
    injection hv with hv
    injection hv with hv
    subst hv
    subst hcap
    refine ⟨by simpa using hl, hb, (Array.getElem?_eq_some_iff.1 hh).1, hn, hc, fun j u hj => ?_⟩
    have hj' : j < n := by
      have := (List.getElem?_eq_some_iff.1 hj).1
      simp at hl
      omega
    have e1 : (Addr.add ⟨g, 0, none⟩ j) = ⟨g, j, none⟩ := by unfold Addr.add; split <;> simp_all
    rw [e1, cell_of_row w g j cur e (0, 0) hh]
    rw [← ht, List.getElem?_take] at hj
    simp at hj
    rw [← hj.2]
theorem own_nil (w : World) (base : Nat) (e : TypeId) : w.ownsRow base e 1 (.slice none 0 0) 0 [] := ⟨by simp, .inl ⟨rfl, rfl⟩⟩
theorem two_first (W : World) (t0 t1 : TypeId) (c0 c1 : Array Value) : BlkIs ((W.alloc (.cells c0 t0)).alloc (.cells c1 t1)) W.heap.size t0 c0 := (BlkIs.new W t0 c0).alloc _
theorem two_new (W : World) (t0 t1 : TypeId) (c0 c1 : Array Value) : BlkIs ((W.alloc (.cells c0 t0)).alloc (.cells c1 t1)) (W.heap.size + 1) t1 c1 := by
  have := BlkIs.new (W.alloc (.cells c0 t0)) t1 c1
  rwa [World.size_alloc] at this
set_option maxHeartbeats 800000 in
theorem settled_any (W : World) (N g n c k : Nat) (s : Int) (xs : List Value) (hown : W.ownsRow N 5 1 (.slice (some ⟨g, 0, none⟩) n c) n xs) (h1 : ∀ u ∈ xs, u.oneCell' = true) (hk : k ≤ n) (hk0 : 0 < k) (hn : n ≤ 500) :
    Calls Try.prog 24 #[.agg #[.slice (some ⟨g, 0, none⟩) n c, .int .i64 s], .int .i64 k] W fun e w' => ∃ g' c', e = .returned (.agg #[.slice (some ⟨g', 0, none⟩) k c', .int .i64 k]) ∧
      w'.ownsRow W.heap.size 5 1 (.slice (some ⟨g', 0, none⟩) k c') k (xs.take k) ∧ Below W.heap.size W w' := by
  obtain ⟨hl, hb, hg, hnc, hcm, hcell⟩ := own_cells hown
  obtain ⟨i0, hi, hz0, hz1, hz2⟩ := info_parts info5
  unfold maxLen at hcm
  have hx : ∀ o o' j u, (xs.take k)[j]? = some u → ((W.alloc o).alloc o').cell? (Addr.add ⟨g, 0, none⟩ j) = some u := fun o o' j u hj => by
    rw [List.getElem?_take] at hj
    split at hj
    · exact (World.cell?_alloc_lt _ o' _ (by rw [addr_block]; simp; omega)).trans ((World.cell?_alloc_lt W o _ (by rw [addr_block]; exact hg)).trans (hcell j u hj))
    · cases hj
  have hxl : (xs.take k).length = k * 1 := by rw [List.length_take]; omega
  have hx1 : ∀ u ∈ xs.take k, u.oneCell' = true := fun u hu => h1 u (List.mem_of_mem_take hu)
  have Hl := Lib.hid hl
  have Hx := Lib.hid hxl
  clear hl hxl
  go_enter Try.func24, Try.ntmps24
  go_wp2_with (at_builtin; refine wpList_append_lies _ (by rfl) _ _ _ (by rfl) W.heap.size 5 i0 _ 1 1 Try.underlying28 hi hz0 hz1 hz2 rfl (by decide) (.slice none 0 0) 0 [] (by rfl) (own_nil _ _ _) ⟨g, 0, none⟩ k c (xs.take k) (by rfl) Hx.out (hx _ _) hx1 hk0 (by unfold maxLen; omega) (by omega) (by simp; omega) _ rfl ?_; intro g' c' w1 hown1 hg1 hloc hlt; have hr := (two_new W _ _ _ _).grown_ hg1 (by simp [Value.ownBlock]); have r0 := hr.cell 0; have r1 := hr.cell 1; have f0 := hr.froz 0; have f1 := hr.froz 1)
  have hB : Below W.heap.size W w1 := (((Below.refl _ W).alloc (Nat.le_refl _) _).alloc (by simp) _).grown hg1 (by simp; omega) (fun j hj => by simp [Value.ownBlock] at hj)
  have hne : g' ≠ W.heap.size + 1 := fun e => by subst e; exact own_ne hown1 hr (by decide) rfl
  have hp := (hr.put 0 (.slice (some ⟨g', 0, none⟩) k c')).put 1 (.int .i64 k)
  have q0 := hp.cell 0
  have q1 := hp.cell 1
  refine bodyPost_ret (v := .agg #[.slice (some ⟨g', 0, none⟩) k c', .int .i64 k]) (by simp [results, Try.results24, go_sem, q0, q1]) rfl ⟨g', c', rfl, ?_, ?_⟩
  · have hown2 : w1.ownsRow W.heap.size 5 1 (.slice (some ⟨g', 0, none⟩) k c') k (xs.take k) := by simpa using hown1
    exact ownsRow_tn hown2 (((Tn.refl (fun i => i = W.heap.size + 1) w1).setCell (x := ⟨W.heap.size + 1, 0, none⟩) (.inl rfl) _).setCell (x := ⟨W.heap.size + 1, 1, none⟩) (.inl rfl) _) (fun j hj e => hne (by simp [Value.ownBlock] at hj; omega))
  · exact (hB.setCell (by simp) _).setCell (by simp) _
set_option maxHeartbeats 400000 in
theorem arm_any (W : World) (D M : Nat) (r x l b : Value) (n : Int) (hD : BlkIs W D 38 #[.map (some M), r, x, l, b]) (hl : ∃ m : Int, l = .int .i64 m) :
    Calls Try.prog 10 #[.pointer (some ⟨D, 0, none⟩), .int .i64 n] W fun e w' => e = .returned (.tuple #[]) ∧ w' = W.setCell ⟨D, 3, none⟩ (.int .i64 n) := by
  obtain ⟨m, rfl⟩ := hl
  have c0 := hD.cell 0
  have c3 := hD.cell 3
  have f3 := hD.froz 3
  go_enter Try.func10, Try.ntmps10
  go_wp2_with (go_at_call 22; refine (made_any _ D M c0).mono ?_; rintro e w' ⟨rfl, rfl⟩)
  go_end0
  exact ⟨rfl, rfl⟩
theorem own_empty (W : World) (e : TypeId) : (W.alloc (.cells #[] e)).ownsRow W.heap.size e 1 (.slice (some ⟨W.heap.size, 0, none⟩) 0 0) 0 [] :=
  ⟨by simp, .inr ⟨W.heap.size, 0, #[], rfl, Nat.le_refl _, heap_alloc_new W _, Nat.le_refl _, Nat.zero_le _, by simp, by simp⟩⟩
set_option maxHeartbeats 800000 in
theorem clone_any (W : World) (N g n c : Nat) (xs : List Value) (hown : W.ownsRow N 5 1 (.slice (some ⟨g, 0, none⟩) n c) n xs) (h1 : ∀ u ∈ xs, u.oneCell' = true) (hk0 : 0 < n) (hn : n ≤ 500) :
    Calls Try.prog 25 #[.slice (some ⟨g, 0, none⟩) n c] W fun e w' => ∃ g' c', e = .returned (.slice (some ⟨g', 0, none⟩) n c') ∧
      w'.ownsRow W.heap.size 5 1 (.slice (some ⟨g', 0, none⟩) n c') n xs ∧ Below W.heap.size W w' := by
  obtain ⟨hl, hb, hg, hnc, hcm, hcell⟩ := own_cells hown
  obtain ⟨i0, hi, hz0, hz1, hz2⟩ := info_parts info5
  unfold maxLen at hcm
  have hnl : ∀ (w : World), (binOp .eql 28 (.slice (some ⟨g, 0, none⟩) n c) (.slice none 0 0)).run Try.prog w = .ok (.bool false) w := fun w => Lib.run_eql_slice_nil w _ _ _ _ _ _ _ Try.underlying28
  have hx : ∀ o j u, xs[j]? = some u → (W.alloc o).cell? (Addr.add ⟨g, 0, none⟩ j) = some u := fun o j u hj => (World.cell?_alloc_lt W o _ (by rw [addr_block]; exact hg)).trans (hcell j u hj)
  have Hl := Lib.hid hl
  clear hl
  go_enter Try.func25, Try.ntmps25
  go_wp2_with (at_builtin; refine wpList_append_lies _ (by rfl) _ _ _ (by rfl) W.heap.size 5 i0 _ 1 1 Try.underlying28 hi hz0 hz1 hz2 rfl (by decide) _ 0 [] (by rfl) (own_empty W 5) ⟨g, 0, none⟩ n c xs (by rfl) (by rw [Hl.out, Nat.mul_one]) (hx _) h1 hk0 (by unfold maxLen; omega) (by omega) (by simp) _ rfl ?_; intro g' c' w1 hown1 hg1 hloc hlt)
  go_ret
  have hB : Below W.heap.size W w1 := ((Below.refl _ W).alloc (Nat.le_refl _) _).grown hg1 (by simp) (fun j hj => by simp [Value.ownBlock] at hj; omega)
  exact ⟨g', c', by simp, by simpa using hown1, hB⟩
end Go.Proofs.Ytlcnpddkppikgaa
