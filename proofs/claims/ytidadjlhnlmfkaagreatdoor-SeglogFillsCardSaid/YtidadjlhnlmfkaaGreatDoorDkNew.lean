/- disk.New and settled. Conditions: as stated at each. -/
import Derived.Test.YtidadjlhnlmfkaaGreatDoorDkRead
namespace Go.Proofs.YtidadjlhnlmfkaaGreatDoor
set_option maxRecDepth 100000
open Go.RowKit Go.Shelf Go
set_option maxHeartbeats 800000 in
theorem new_any (W : World) (n : Int) (hn : 0 ≤ n) :
    Calls Tryz.prog 8 #[.int .i64 n] W fun e w' => ∃ Dk M, e = .returned (.pointer (some ⟨Dk, 0, none⟩)) ∧ W.heap.size ≤ Dk ∧ W.heap.size ≤ M ∧ BlkIs w' Dk 55 #[.map (some M), .int .i64 n, .int .i64 0, .int .i64 0, .bool false] ∧ MapIs w' M 0 (.map []) ∧ Below W.heap.size W w' := by
  have hmm := @run_makeMap Tryz.prog
  go_enter Tryz.func8, Tryz.ntmps8
  go_wp2_with fail
  go_ret
  have hb := BlkIs.new (W.alloc (.map #[] 0)) 55 #[.map (some W.heap.size), .int .i64 n, .int .i64 0, .int .i64 0, .bool false]
  rw [World.size_alloc] at hb
  exact ⟨_, _, rfl, by omega, Nat.le_refl _, hb, World.ownsMap.alloc (World.ownsMap_made W Tryz.prog 9 rh) _, ((Below.refl _ W).alloc (Nat.le_refl _) _).alloc (by simp) _⟩
set_option maxRecDepth 20000 in
set_option maxHeartbeats 1600000 in
theorem settled_any (W : World) (N : Nat) (a : Option Addr) (n c k : Nat) (z : Int) (bs : List UInt8) (hown : Own5 W N (.slice a n c) bs) (hbs : bs.length = n) (hk : k ≤ n) (hn : n ≤ 500000000) :
    Calls Tryz.prog 35 #[.agg #[.slice a n c, .int .i64 z], .int .i64 k] W fun e w' => ∃ v, e = .returned (.agg #[v, .int .i64 k]) ∧ Own5 w' W.heap.size v (bs.take k) ∧ Below W.heap.size W w' := by
  have hS := Own5.bts hown
  obtain ⟨A, c', hv, hnc, hcm⟩ := own_slice hown
  injection hv with hv1 hv2 hv3
  clear hv2
  subst hv1
  subst hv3
  unfold maxLen at hcm
  have htk : (bs.take k).length = k := by rw [List.length_take]; omega
  have hB2 : Below W.heap.size W ((W.alloc (.cells #[.slice a n c, .int .i64 z] 71)).alloc (.cells #[.slice none 0 0, .int .i64 0] 71)) := ((Below.refl _ W).alloc (Nat.le_refl _) _).alloc (by simp) _
  have hS2 := (Cs.take hS k).below hB2
  rw [bv_take] at hS2
  have hP : ∀ v1 w1, Own5 w1 W.heap.size v1 (bs.take k) → ((W.alloc (.cells #[.slice a n c, .int .i64 z] 71)).alloc (.cells #[.slice none 0 0, .int .i64 0] 71)).grownBy w1 (Value.slice none 0 0).ownBlock → BlkIs w1 (W.heap.size + 1) 71 #[.slice none 0 0, .int .i64 0] ∧ Below W.heap.size W w1 := fun v1 w1 h1 h2 => by
    refine ⟨?_, grown_below hB2 (Nat.le_refl _) (Own5.nil _ _) h2⟩
    have := BlkIs.new (W.alloc (.cells #[.slice a n c, .int .i64 z] 71)) 71 #[.slice none 0 0, .int .i64 0]
    simp only [World.size_alloc] at this
    exact BlkIs.grown this h2 (by simp [Value.ownBlock])
  rcases a with _ | ad
  · obtain ⟨rfl, rfl⟩ : n = 0 ∧ c = 0 := by
      rcases hown.2 with ⟨h, _⟩ | ⟨g, cp, cur, h, _⟩ <;> injection h with h1 h2 h3
      · exact ⟨h2, h3⟩
      · cases h1
    obtain rfl : k = 0 := by omega
    go_enter Tryz.func35, Tryz.ntmps35
    go_wp2_with (at_builtin; refine app5 (.const (.slice none 0 0)) (.tmp 8) rfl rfl W.heap.size _ [] (bs.take 0) rfl (Own5.nil _ _) W.heap.size none 0 (by rw [htk]; rfl) hS2 (by rw [htk]; simp) (by simp; omega) ?_; intro v1 w1 h1 h2; rw [List.nil_append] at h1; obtain ⟨A1, c1, rfl, hn1, hm1⟩ := own_slice h1; obtain ⟨h3, h4⟩ := hP _ w1 h1 h2; have h5 : Own5 w1 W.heap.size _ _ := h1; rw [htk] at h5; clear h1 h2; simp only [htk]; have r0 := h3.cell 0; have r1 := h3.cell 1; have f0 := h3.froz 0; have f1 := h3.froz 1; have hlt := h3.lt)
    have hne : ∀ g, (Value.slice A1 0 c1).ownBlock = some g → ¬ g = W.heap.size + 1 := fun g hg e => Own5.not_blk h5 h3 (by decide) (by rw [hg, e])
    have hp := (h3.put 0 (.slice A1 0 c1)).put 1 (.int .i64 0)
    have q0 := hp.cell 0
    have q1 := hp.cell 1
    refine bodyPost_ret (v := .agg #[.slice A1 0 c1, .int .i64 0]) (by simp [results, Tryz.results35, go_sem, q0, q1]) rfl ⟨_, rfl, ?_, (h4.setCell (by simp) _).setCell (by simp) _⟩
    exact Own5.tn h5 (((Tn.refl (fun i => i = W.heap.size + 1) w1).setCell (x := ⟨W.heap.size + 1, 0, none⟩) (.inl rfl) _).setCell (x := ⟨W.heap.size + 1, 1, none⟩) (.inl rfl) _) hne
  · go_enter Tryz.func35, Tryz.ntmps35
    go_wp2_with (at_builtin; refine app5 (.const (.slice none 0 0)) (.tmp 8) rfl rfl W.heap.size _ [] (bs.take k) rfl (Own5.nil _ _) W.heap.size (some ad) c (by rw [htk]; rfl) hS2 (by rw [htk]; simp; omega) (by simp; omega) ?_; intro v1 w1 h1 h2; rw [List.nil_append] at h1; obtain ⟨A1, c1, rfl, hn1, hm1⟩ := own_slice h1; obtain ⟨h3, h4⟩ := hP _ w1 h1 h2; have h5 : Own5 w1 W.heap.size _ _ := h1; rw [htk] at h5; clear h1 h2; simp only [htk]; have r0 := h3.cell 0; have r1 := h3.cell 1; have f0 := h3.froz 0; have f1 := h3.froz 1; have hlt := h3.lt)
    have hne : ∀ g, (Value.slice A1 k c1).ownBlock = some g → ¬ g = W.heap.size + 1 := fun g hg e => Own5.not_blk h5 h3 (by decide) (by rw [hg, e])
    have hp := (h3.put 0 (.slice A1 k c1)).put 1 (.int .i64 k)
    have q0 := hp.cell 0
    have q1 := hp.cell 1
    refine bodyPost_ret (v := .agg #[.slice A1 k c1, .int .i64 k]) (by simp [results, Tryz.results35, go_sem, q0, q1]) rfl ⟨_, rfl, ?_, (h4.setCell (by simp) _).setCell (by simp) _⟩
    exact Own5.tn h5 (((Tn.refl (fun i => i = W.heap.size + 1) w1).setCell (x := ⟨W.heap.size + 1, 0, none⟩) (.inl rfl) _).setCell (x := ⟨W.heap.size + 1, 1, none⟩) (.inl rfl) _) hne
end Go.Proofs.YtidadjlhnlmfkaaGreatDoor
