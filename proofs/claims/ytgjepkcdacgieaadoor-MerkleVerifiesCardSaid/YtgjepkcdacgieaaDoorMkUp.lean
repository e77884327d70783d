/- The contract of the document's way up. Conditions: as stated. -/
import Derived.Test.YtgjepkcdacgieaaDoorMkSame
namespace Go.Proofs.YtgjepkcdacgieaaDoor
open Go.RowKit Go
theorem ret_blk3 {P : Program} {fn : Func} {R : Ending → World → Prop} {a : Act} {w : World} {p q : Tmp} {ty : TypeId} (hr : fn.results = #[.cell p ty, .tmp q]) (g : Nat) (t : TypeId) (cs : Array Value) (v : Value) (hg : BlkIs w g t cs) (d : TypeDesc)
    (hp : a.tmps.getD p undef = .pointer (some ⟨g, 0, none⟩)) (hq : a.tmps.getD q undef = v) (hu : P.underlying ty = some d) (hd : (match d with | .struct _ | .array _ _ => true | _ => false) = true) (hi : (P.info? ty).map (·.size) = some cs.size)
    (hde : a.defers = []) (hR : R (.returned (.tuple #[.agg cs, v])) w) : bodyPost P fn R .ret a w := by
  refine bodyPost_ret_by ?_ hde hR
  have hp' : a.tmps[p]?.getD undef = .pointer (some ⟨g, 0, none⟩) := by simpa using hp
  have hq' : a.tmps[q]?.getD undef = v := by simpa using hq
  simp [results, hr, hp', hq', asAddr, run_loadVar_row w g t ty cs (0, 0) d hg hu hd hi]
theorem two_blocks (w : World) (oA oB : Obj) : ((w.alloc oA).alloc oB).heap[w.heap.size]? = some oA ∧ ((w.alloc oA).alloc oB).heap[w.heap.size + 1]? = some oB := by
  have e : ∀ (w : World) (o : Obj), (w.alloc o).heap = w.heap.push o := fun _ _ => rfl
  refine ⟨?_, ?_⟩ <;> simp only [e, Array.getElem?_push, Array.size_push] <;> repeat (first | rw [if_pos trivial] | rw [if_pos (by omega)] | rw [if_neg (by omega)])
theorem range_tn {p : Nat → Prop} {w w' : World} {g o : Nat} {cs : List Value} (h : w.rangeAt g o cs) (k : Tn p w w') (hp : ¬ p g) : w'.rangeAt g o cs := fun j v hj => by
  have h1 := h j v hj
  have h2 := k.block g (World.block_lt_of_cell? w _ h1) hp
  rw [← h1]
  unfold World.cell?
  dsimp only
  rw [h2]
theorem range_lt {w : World} {g o : Nat} {x : List UInt8} (h : w.rangeAt g o (bv x)) (hx : 1 ≤ x.length) : g < w.heap.size := World.block_lt_of_cell? w _ (h 0 _ (bv_get x 0 (by omega)))
theorem upR_one (i : Nat) (leaf : List UInt8) (r : List (List UInt8)) : upR 1 i leaf r = (leaf, decide (r = [])) := by
  rcases r with _ | ⟨s, r⟩
  · rfl
  · rw [upR_end rfl]; rfl
set_option maxRecDepth 100000 in
set_option maxHeartbeats 3200000 in
theorem up_any : ∀ (K : Nat) (A : Option Addr) (p c n i : Nat) (leaf : List UInt8) (L : List (List UInt8)) (w : World), p ≤ K → L.length = p → i < n → n ≤ 9223372036854775807 → p ≤ 100000 → p ≤ c → c ≤ maxLen → leaf.length = 32 → Hs w w.heap.size A L →
    Calls Tryd.prog 39 #[.int .i64 n, .int .i64 i, .agg (bv leaf).toArray, .slice A p c] w
      fun e w' => e = .returned (.tuple #[.agg (bv (upR n i leaf L.reverse).1).toArray, .bool (upR n i leaf L.reverse).2]) ∧ Below w.heap.size w w'
  | K, A, p, c, n, i, leaf, L, w, hK, hp, hi, h63, h9, hc, hm, hleaf, h => by
    have HI := Lib.hid (isz26a hleaf)
    have HA := Lib.hid (bv_all leaf)
    have HZ : Hid ((bv (List.replicate 32 0)).toArray.size = (bv leaf).toArray.size) := Lib.hid (by rw [List.size_toArray, List.size_toArray, bv_length, bv_length, hleaf]; rfl)
    by_cases h1 : n = 1
    · subst h1
      rw [upR_one]
      have hR : ∀ b : Bool, b = decide (p = 0) → Hid (∀ w', Below w.heap.size w w' → (Ending.returned (.tuple #[.agg (bv leaf).toArray, .bool b]) = .returned (.tuple #[.agg (bv leaf).toArray, .bool (decide (L.reverse = []))]) ∧ Below w.heap.size w w')) := fun b hb => Lib.hid fun w' hw => ⟨by
        have : decide (L.reverse = []) = decide (p = 0) := by
          rw [decide_eq_decide, List.reverse_eq_nil_iff, ← List.length_eq_zero_iff, hp]
        rw [this, hb], hw⟩
      clear hp h hi
      generalize (bv leaf).toArray = X at *
      by_cases hp0 : p = 0
      · subst hp0
        have HR := hR true (by simp)
        clear hR
        go_enter Tryd.func39, Tryd.ntmps39
        go_wp2_with (first
          | (refine load_blk (.tmp 6) 26 w.heap.size 26 X (two_blocks w _ _).1 rfl rfl rfl _ Tryd.underlying26 rfl HI.out ?_)
          | (refine store_bl (.tmp 8) (.tmp 18) 26 (w.heap.size + 1) 26 (bv (List.replicate 32 0)).toArray X (two_blocks w _ _).2 rfl rfl rfl rfl rfl HI.out HZ.out HA.out ?_; intro w4 hb4 ht4)
          | fail)
        exact ret_blk3 rfl (w.heap.size + 1) 26 X _ hb4 _ rfl rfl Tryd.underlying26 rfl HI.out rfl (HR.out _ ((below2 w _ _).trans (ht4.below (by simp; omega) (fun i hi h => by omega))))
      · have hp1 : ((p : Int) == 0) = false := by simpa using hp0
        have hp2 : ¬ (p : Int) = 0 := by omega
        have HR := hR false (by simp [hp0])
        clear hR
        go_enter Tryd.func39, Tryd.ntmps39
        go_wp2_with (first
          | (refine load_blk (.tmp 6) 26 w.heap.size 26 X (two_blocks w _ _).1 rfl rfl rfl _ Tryd.underlying26 rfl HI.out ?_)
          | (refine store_bl (.tmp 8) (.tmp 18) 26 (w.heap.size + 1) 26 (bv (List.replicate 32 0)).toArray X (two_blocks w _ _).2 rfl rfl rfl rfl rfl HI.out HZ.out HA.out ?_; intro w4 hb4 ht4)
          | fail)
        exact ret_blk3 rfl (w.heap.size + 1) 26 X _ hb4 _ rfl rfl Tryd.underlying26 rfl HI.out rfl (HR.out _ ((below2 w _ _).trans (ht4.below (by simp; omega) (fun i hi h => by omega))))
    · have h2 : 2 ≤ n := by omega
      have n1 : ¬ (n : Int) = 1 := by omega
      have n1' : ((n : Int) == 1) = false := by simpa using n1
      by_cases hp0 : p = 0
      · subst hp0
        obtain rfl := List.eq_nil_of_length_eq_zero hp
        rw [show upR n i leaf [].reverse = (leaf, false) by rw [List.reverse_nil, upR]; simp [h1]]
        generalize (bv leaf).toArray = X at *
        clear hp h hi h1
        go_enter Tryd.func39, Tryd.ntmps39
        go_wp2_with (first
          | (refine load_blk (.tmp 6) 26 w.heap.size 26 X (two_blocks w _ _).1 rfl rfl rfl _ Tryd.underlying26 rfl HI.out ?_)
          | (refine store_bl (.tmp 8) (.tmp 25) 26 (w.heap.size + 1) 26 (bv (List.replicate 32 0)).toArray X (two_blocks w _ _).2 rfl rfl rfl rfl rfl HI.out HZ.out HA.out ?_; intro w4 hb4 ht4)
          | fail)
        exact ret_blk3 rfl (w.heap.size + 1) 26 X _ hb4 _ rfl rfl Tryd.underlying26 rfl HI.out rfl ⟨rfl, ((below2 w _ _).trans (ht4.below (by simp; omega) (fun i hi h => by omega)))⟩
      · match K, hK with
        | 0, hK => omega
        | K + 1, hK =>
        obtain ⟨q, rfl⟩ : ∃ q, p = q + 1 := ⟨p - 1, by omega⟩
        obtain ⟨init, s, rfl⟩ : ∃ init s, L = init ++ [s] := by
          rcases List.eq_nil_or_concat L with rfl | ⟨init, s, rfl⟩
          · simp at hp
          · exact ⟨init, s, by simp⟩
        have hq : init.length = q := by simpa using hp
        have hs32 : s.length = 32 := h.1 s (by simp)
        have hin : Hs w w.heap.size A init := by
          have := h.take q
          rwa [List.take_left' hq] at this
        obtain ⟨gs, os, rfl, hgB, hrs⟩ := h.at_ (k := q) (by simp [hq])
        rw [show (init ++ [s]).getD q [] = s by rw [List.getD_eq_getElem?_getD, List.getElem?_append_right (by omega), hq, Nat.sub_self]; rfl] at hrs
        obtain ⟨k, hk⟩ : ∃ k, k = spl n := ⟨_, rfl⟩
        have hk1 : 1 ≤ k := by rw [hk]; exact spl_pos n
        have hkn : k < n := by rw [hk]; exact spl_lt h2
        have HC : Hid (∀ w, Calls Tryd.prog 33 #[.int .i64 n] w fun e w' => e = .returned (.int .i64 k) ∧ w = w') := Lib.hid fun w => by rw [hk]; exact split_any n w h2 h63
        have KS : Hid (∀ W, Below w.heap.size w W → W.rangeAt gs (os + q * 32) (bv s)) := Lib.hid fun W hb => range_below hrs hb hgB
        have hlo := cutH_lo (some ⟨gs, os, none⟩) (q + 1) c q (by omega) hc
        have hlo' : Hid (∀ w', (Instr.slice 23 (.slice (some ⟨gs, os, none⟩) (q + 1) c) none (some (.int .i64 q)) none).run Tryd.prog w' = .ok (.slice (some ⟨gs, os, none⟩) q c) w') := Lib.hid hlo
        have hrev : (init ++ [s]).reverse = s :: init.reverse := by simp
        rw [hrev]
        have hlq : (q : Int) < (q : Int) + 1 := by omega
        have HS32 := Lib.hid hs32
        have HL32 := Lib.hid hleaf
        have HQ9 : q + 1 ≤ 100000 := h9
        clear hlo hrs hrev hs32 h hp hp0
        by_cases hik : i < k
        · have hik1 : (i : Int) < (k : Int) := by omega
          rw [upR_lo h1 (by rw [← hk]; exact hik), ← hk]
          have IH : Hid (∀ W, Below w.heap.size w W → Calls Tryd.prog 39 #[.int .i64 k, .int .i64 i, .agg (bv leaf).toArray, .slice (some ⟨gs, os, none⟩) q c] W fun e w' => e = .returned (.tuple #[.agg (bv (upR k i leaf init.reverse).1).toArray, .bool (upR k i leaf init.reverse).2]) ∧ Below W.heap.size W w') := Lib.hid fun W hb =>
            up_any K (some ⟨gs, os, none⟩) q c k i leaf init W (by omega) hq hik (by omega) (by omega) (by omega) hm hleaf ((hin.below hb).more hb.size)
          have hx := upR_length hleaf init.reverse k i
          generalize (upR k i leaf init.reverse).1 = x at *
          generalize (upR k i leaf init.reverse).2 = b at *
          have HX32 := Lib.hid hx
          have HZX : Hid ((bv (List.replicate 32 0)).toArray.size = (bv x).toArray.size) := Lib.hid (by rw [List.size_toArray, List.size_toArray, bv_length, bv_length, hx]; rfl)
          have HND : Hid (∀ W, Calls Tryd.prog 17 #[.agg (bv x).toArray, .agg (bv s).toArray] W fun e w' => e = .returned (.agg (bv (nodeS x s)).toArray) ∧ Below W.heap.size W w') := Lib.hid fun W => rnode_any x s W HX32.out HS32.out
          have HN32 := Lib.hid (nodeS_length x s)
          generalize nodeS x s = y at *
          clear hx hik hin hq hk h1 hleaf
          go_enter Tryd.func39, Tryd.ntmps39
          go_wp2_with fail
          refine (HC.out _).mono ?_
          rintro e w1 ⟨rfl, e1⟩
          have hb1 : Below w.heap.size w w1 := e1 ▸ below2 w _ _
          have hl1 : BlkIs w1 w.heap.size 26 (bv leaf).toArray := e1 ▸ (two_blocks w _ _).1
          have hr1 : ∃ z, BlkIs w1 (w.heap.size + 1) 26 z ∧ z.size = 32 := e1 ▸ ⟨_, (two_blocks w _ _).2, rfl⟩
          clear e1
          obtain ⟨z0, hr1, hz0⟩ := hr1
          have hlt1 := hr1.lt
          have HLF : Hid (∀ W, Below w1.heap.size w1 W → W.rangeAt w.heap.size 0 (bv leaf)) := Lib.hid fun W hb => BlkIs.sum ((hb.block _ hl1.lt).trans hl1)
          have k1 : Below w1.heap.size w1 w1.drew := (Below.refl _ w1).drew
          go_wp2_with fail
          refine wp_region_held_drew (S := (fun W => Below w1.heap.size w1 W)) (by kernel_rfl) (k1) (fun hHeld => ?_)
          refine wpAnyH_take (i := 0) (v := .int .i64 k) rfl (by kernel_rfl) (by kernel_rfl) (by kernel_rfl) (fun _ _ _ h => h) (Or.inl ⟨by rfl, fun w hS => by first | (go_simp; done) | (go_simp; with_reducible rfl)⟩) hHeld ?_
          try simp only [Act.put, List.getElem_toArray, List.getElem_cons_zero, List.setIfInBounds_toArray, List.set_cons_zero, List.set_cons_succ]
          refine wpAnyH_take (i := 1) (v := .int .i64 i) rfl (by kernel_rfl) (by kernel_rfl) (by kernel_rfl) (fun _ _ _ h => h) (Or.inl ⟨by rfl, fun w hS => by first | (go_simp; done) | (go_simp; with_reducible rfl)⟩) hHeld ?_
          try simp only [Act.put, List.getElem_toArray, List.getElem_cons_zero, List.getElem_cons_succ, List.setIfInBounds_toArray, List.set_cons_zero, List.set_cons_succ]
          refine wpAnyH_take (i := 2) (v := _) rfl (by kernel_rfl) (by kernel_rfl) (by kernel_rfl) (fun _ _ _ h => h) (yieldsIf_load_mid (by rfl) 26 (.tmp 6) rfl w.heap.size 0 rfl (bv leaf) _ (fun w h => (HLF.out w h)) Tryd.underlying26 rfl (isz26s HL32.out)) hHeld ?_
          try simp only [Act.put, List.getElem_toArray, List.getElem_cons_zero, List.getElem_cons_succ, List.setIfInBounds_toArray, List.set_cons_zero, List.set_cons_succ]
          refine wpAnyH_take (i := 3) (v := .slice (some ⟨gs, os, none⟩) (q + 1) c) rfl (by kernel_rfl) (by kernel_rfl) (by kernel_rfl) (fun _ _ _ h => h) (Or.inl ⟨by rfl, fun w hS => by first | (go_simp; done) | (go_simp; with_reducible rfl)⟩) hHeld ?_
          try simp only [Act.put, List.getElem_toArray, List.getElem_cons_zero, List.getElem_cons_succ, List.setIfInBounds_toArray, List.set_cons_zero, List.set_cons_succ]
          refine wpAnyH_take (i := 4) (v := .int .i64 q) rfl (by kernel_rfl) (by kernel_rfl) (by kernel_rfl) (fun _ _ _ h => h) (Or.inl ⟨by rfl, fun w hS => by first | (go_simp; done) | (go_simp; with_reducible rfl)⟩) hHeld ?_
          try simp only [Act.put, List.getElem_toArray, List.getElem_cons_zero, List.getElem_cons_succ, List.setIfInBounds_toArray, List.set_cons_zero, List.set_cons_succ]
          refine wpAnyH_take (i := 5) (v := .slice (some ⟨gs, os, none⟩) q c) rfl (by kernel_rfl) (by kernel_rfl) (by kernel_rfl) (fun _ _ _ h => h) (Or.inl ⟨by rfl, fun w hS => by (have hc := hlo'.out; first | (go_simp; done) | (go_simp; with_reducible rfl))⟩) hHeld ?_
          try simp only [Act.put, List.getElem_toArray, List.getElem_cons_zero, List.getElem_cons_succ, List.setIfInBounds_toArray, List.set_cons_zero, List.set_cons_succ]
          refine wpAnyH_ready (rs := [6, 10]) (by kernel_rfl) (by simp) ?_
          refine AllReadyH.cons rfl (fun K hK => ?_) (AllReadyH.cons rfl (fun K hK => ?_) AllReadyH.nil)
          go_simp
          go_wp2_with (go_at_call 39; refine (IH.out _ (hb1.trans (k1.mono (by omega)))).mono ?_; rintro e w2 ⟨rfl, hb2⟩; have k2 := k1.trans (hb2.mono k1.size))
          refine hK.out _ _ ?_ (fun hHeld => ?_)
          · exact k2
          clear hK K
          try simp only [Act.put, List.getElem_toArray, List.getElem_cons_zero, List.getElem_cons_succ, List.setIfInBounds_toArray, List.set_cons_zero, List.set_cons_succ]
          refine wpAnyH_take (i := 7) (v := .tuple #[.agg (bv x).toArray, .bool b]) rfl (by kernel_rfl) (by kernel_rfl) (by kernel_rfl) (fun _ _ _ h => h) (Or.inl ⟨by rfl, fun w hS => by first | (go_simp; done) | (go_simp; with_reducible rfl)⟩) hHeld ?_
          try simp only [Act.put, List.getElem_toArray, List.getElem_cons_zero, List.getElem_cons_succ, List.setIfInBounds_toArray, List.set_cons_zero, List.set_cons_succ]
          refine wpAnyH_take (i := 8) (v := .agg (bv x).toArray) rfl (by kernel_rfl) (by kernel_rfl) (by kernel_rfl) (fun _ _ _ h => h) (Or.inl ⟨by rfl, fun w hS => by first | (go_simp; done) | (go_simp; with_reducible rfl)⟩) hHeld ?_
          try simp only [Act.put, List.getElem_toArray, List.getElem_cons_zero, List.getElem_cons_succ, List.setIfInBounds_toArray, List.set_cons_zero, List.set_cons_succ]
          refine wpAnyH_take (i := 9) (v := .bool b) rfl (by kernel_rfl) (by kernel_rfl) (by kernel_rfl) (fun _ _ _ h => h) (Or.inl ⟨by rfl, fun w hS => by first | (go_simp; done) | (go_simp; with_reducible rfl)⟩) hHeld ?_
          try simp only [Act.put, List.getElem_toArray, List.getElem_cons_zero, List.getElem_cons_succ, List.setIfInBounds_toArray, List.set_cons_zero, List.set_cons_succ]
          refine wpAnyH_ready (rs := [10]) (by kernel_rfl) (by simp) ?_
          refine AllReadyH.cons rfl (fun K hK => ?_) AllReadyH.nil
          go_simp
          refine hK.out _ _ ?_ (fun hHeld => ?_)
          · exact k2.alloc k2.size _
          clear hK K
          try simp only [Act.put, List.getElem_toArray, List.getElem_cons_zero, List.getElem_cons_succ, List.setIfInBounds_toArray, List.set_cons_zero, List.set_cons_succ]
          have k3s := k2.alloc k2.size (.cells (bv (List.replicate 32 0)).toArray 26)
          have hge := k2.size
          refine wpAnyH_ready (rs := [11]) (by kernel_rfl) (by simp) ?_
          refine AllReadyH.cons rfl (fun K hK => ?_) AllReadyH.nil
          refine step_store (.tmp 12) (.tmp 42) 26 w2.heap.size 26 _ (bv x).toArray (BlkIs.new w2 _ _) rfl rfl rfl rfl rfl (isz26a HX32.out) HZX.out (bv_all x) ?_; intro w3 hx3 ht3
          refine hK.out _ _ ?_ (fun hHeld => ?_)
          · exact k3s.trans (ht3.below k3s.size (fun i hi h => by omega))
          clear hK K
          try simp only [Act.put, List.getElem_toArray, List.getElem_cons_zero, List.getElem_cons_succ, List.setIfInBounds_toArray, List.set_cons_zero, List.set_cons_succ]
          refine wpAnyH_take (i := 12) (v := .bool b) rfl (by kernel_rfl) (by kernel_rfl) (by kernel_rfl) (fun _ _ _ h => h) (Or.inl ⟨by rfl, fun w hS => by first | (go_simp; done) | (go_simp; with_reducible rfl)⟩) hHeld ?_
          try simp only [Act.put, List.getElem_toArray, List.getElem_cons_zero, List.getElem_cons_succ, List.setIfInBounds_toArray, List.set_cons_zero, List.set_cons_succ]
          refine wpAnyH_done (by kernel_rfl) ?_ _
          go_wp2_with fail
          have k3 := k3s.trans (ht3.below k3s.size (fun i hi h => by omega))
          generalize w2.heap.size = g12 at hx3 hge ⊢
          clear ht3 k3s k2 hb2
          rotate_left
          go_simp
          refine hK.out _ _ ?_ (fun hHeld => ?_)
          · exact k1.alloc k1.size _
          clear hK K
          try simp only [Act.put, List.getElem_toArray, List.getElem_cons_zero, List.getElem_cons_succ, List.setIfInBounds_toArray, List.set_cons_zero, List.set_cons_succ]
          have k1a := k1.alloc k1.size (.cells (bv (List.replicate 32 0)).toArray 26)
          refine wpAnyH_ready (rs := [6]) (by kernel_rfl) (by simp) ?_
          refine AllReadyH.cons rfl (fun K hK => ?_) AllReadyH.nil
          go_simp
          go_wp2_with (go_at_call 39; refine (IH.out _ (hb1.trans (k1a.mono (by omega)))).mono ?_; rintro e w2 ⟨rfl, hb2⟩; have k2 := k1a.trans (hb2.mono k1a.size))
          refine hK.out _ _ ?_ (fun hHeld => ?_)
          · exact k2
          clear hK K
          try simp only [Act.put, List.getElem_toArray, List.getElem_cons_zero, List.getElem_cons_succ, List.setIfInBounds_toArray, List.set_cons_zero, List.set_cons_succ]
          refine wpAnyH_take (i := 7) (v := .tuple #[.agg (bv x).toArray, .bool b]) rfl (by kernel_rfl) (by kernel_rfl) (by kernel_rfl) (fun _ _ _ h => h) (Or.inl ⟨by rfl, fun w hS => by first | (go_simp; done) | (go_simp; with_reducible rfl)⟩) hHeld ?_
          try simp only [Act.put, List.getElem_toArray, List.getElem_cons_zero, List.getElem_cons_succ, List.setIfInBounds_toArray, List.set_cons_zero, List.set_cons_succ]
          refine wpAnyH_take (i := 8) (v := .agg (bv x).toArray) rfl (by kernel_rfl) (by kernel_rfl) (by kernel_rfl) (fun _ _ _ h => h) (Or.inl ⟨by rfl, fun w hS => by first | (go_simp; done) | (go_simp; with_reducible rfl)⟩) hHeld ?_
          try simp only [Act.put, List.getElem_toArray, List.getElem_cons_zero, List.getElem_cons_succ, List.setIfInBounds_toArray, List.set_cons_zero, List.set_cons_succ]
          refine wpAnyH_take (i := 9) (v := .bool b) rfl (by kernel_rfl) (by kernel_rfl) (by kernel_rfl) (fun _ _ _ h => h) (Or.inl ⟨by rfl, fun w hS => by first | (go_simp; done) | (go_simp; with_reducible rfl)⟩) hHeld ?_
          try simp only [Act.put, List.getElem_toArray, List.getElem_cons_zero, List.getElem_cons_succ, List.setIfInBounds_toArray, List.set_cons_zero, List.set_cons_succ]
          have hz2 : BlkIs w2 w1.heap.size 26 (bv (List.replicate 32 0)).toArray := (hb2.block _ (by simp)).trans (BlkIs.new_at _ _ _ _ (by simp))
          have k3s := k2
          have hge : w1.heap.size ≤ w1.heap.size := Nat.le_refl _
          refine wpAnyH_ready (rs := [11]) (by kernel_rfl) (by simp) ?_
          refine AllReadyH.cons rfl (fun K hK => ?_) AllReadyH.nil
          refine step_store (.tmp 12) (.tmp 42) 26 w1.heap.size 26 _ (bv x).toArray hz2 rfl rfl rfl rfl rfl (isz26a HX32.out) HZX.out (bv_all x) ?_; intro w3 hx3 ht3
          refine hK.out _ _ ?_ (fun hHeld => ?_)
          · exact k3s.trans (ht3.below k3s.size (fun i hi h => by omega))
          clear hK K
          try simp only [Act.put, List.getElem_toArray, List.getElem_cons_zero, List.getElem_cons_succ, List.setIfInBounds_toArray, List.set_cons_zero, List.set_cons_succ]
          refine wpAnyH_take (i := 12) (v := .bool b) rfl (by kernel_rfl) (by kernel_rfl) (by kernel_rfl) (fun _ _ _ h => h) (Or.inl ⟨by rfl, fun w hS => by first | (go_simp; done) | (go_simp; with_reducible rfl)⟩) hHeld ?_
          try simp only [Act.put, List.getElem_toArray, List.getElem_cons_zero, List.getElem_cons_succ, List.setIfInBounds_toArray, List.set_cons_zero, List.set_cons_succ]
          refine wpAnyH_done (by kernel_rfl) ?_ _
          go_wp2_with fail
          have k3 := k3s.trans (ht3.below k3s.size (fun i hi h => by omega))
          have hge2 : ∃ g, g = w1.heap.size := ⟨_, rfl⟩
          obtain ⟨g12, hg12⟩ := hge2
          rw [← hg12] at hx3 ⊢
          have hge : w1.heap.size ≤ g12 := Nat.le_of_eq hg12.symm
          clear ht3 k3s k2 hb2 hz2 hg12 k1a
          rotate_left
          all_goals
            have hxs : w3.drew.rangeAt g12 0 (bv x) := BlkIs.sum ((Alk.drew w3).blk hx3)
            have hb3 : Below w.heap.size w w3.drew := (hb1.trans (k3.mono (by omega))).drew
            have hss := KS.out _ hb3
            have hr3 : BlkIs w3.drew (w.heap.size + 1) 26 z0 := (Alk.drew w3).blk ((k3.block _ hlt1).trans hr1)
            refine wp_region_held_drew (S := (fun W => W.rangeAt g12 0 (bv x) ∧ W.rangeAt gs (os + q * 32) (bv s))) (by kernel_rfl) (⟨hxs, hss⟩) (fun hHeld => ?_)
            refine wpAnyH_take (i := 0) (v := _) rfl (by kernel_rfl) (by kernel_rfl) (by kernel_rfl) (fun _ _ _ h => h) (yieldsIf_load_mid (by rfl) 26 (.tmp 12) rfl g12 0 rfl (bv x) _ (fun w h => h.1) Tryd.underlying26 rfl (isz26s HX32.out)) hHeld ?_
            try simp only [Act.put, List.getElem_toArray, List.getElem_cons_zero, List.setIfInBounds_toArray, List.set_cons_zero, List.set_cons_succ]
            refine wpAnyH_take (i := 1) (v := .slice (some ⟨gs, os, none⟩) (q + 1) c) rfl (by kernel_rfl) (by kernel_rfl) (by kernel_rfl) (fun _ _ _ h => h) (Or.inl ⟨by rfl, fun w hS => by first | (go_simp; done) | (go_simp; with_reducible rfl)⟩) hHeld ?_
            try simp only [Act.put, List.getElem_toArray, List.getElem_cons_zero, List.getElem_cons_succ, List.setIfInBounds_toArray, List.set_cons_zero, List.set_cons_succ]
            refine wpAnyH_take (i := 2) (v := .int .i64 q) rfl (by kernel_rfl) (by kernel_rfl) (by kernel_rfl) (fun _ _ _ h => h) (Or.inl ⟨by rfl, fun w hS => by first | (go_simp; done) | (go_simp; with_reducible rfl)⟩) hHeld ?_
            try simp only [Act.put, List.getElem_toArray, List.getElem_cons_zero, List.getElem_cons_succ, List.setIfInBounds_toArray, List.set_cons_zero, List.set_cons_succ]
            refine wpAnyH_take (i := 3) (v := .pointer (some ⟨gs, os + q * 32, none⟩)) rfl (by kernel_rfl) (by kernel_rfl) (by kernel_rfl) (fun _ _ _ h => h) (Or.inl ⟨by rfl, fun w hS => by first | (go_simp; done) | (go_simp; with_reducible rfl)⟩) hHeld ?_
            try simp only [Act.put, List.getElem_toArray, List.getElem_cons_zero, List.getElem_cons_succ, List.setIfInBounds_toArray, List.set_cons_zero, List.set_cons_succ]
            refine wpAnyH_take (i := 4) (v := _) rfl (by kernel_rfl) (by kernel_rfl) (by kernel_rfl) (fun _ _ _ h => h) (yieldsIf_load_mid (by rfl) 26 (.tmp 47) rfl gs (os + q * 32) rfl (bv s) _ (fun w h => h.2) Tryd.underlying26 rfl (isz26s HS32.out)) hHeld ?_
            try simp only [Act.put, List.getElem_toArray, List.getElem_cons_zero, List.getElem_cons_succ, List.setIfInBounds_toArray, List.set_cons_zero, List.set_cons_succ]
            refine wpAnyH_take (i := 6) (v := .bool b) rfl (by kernel_rfl) (by kernel_rfl) (by kernel_rfl) (fun _ _ _ h => h) (Or.inl ⟨by rfl, fun w hS => by first | (go_simp; done) | (go_simp; with_reducible rfl)⟩) hHeld ?_
            try simp only [Act.put, List.getElem_toArray, List.getElem_cons_zero, List.getElem_cons_succ, List.setIfInBounds_toArray, List.set_cons_zero, List.set_cons_succ]
            refine wpAnyH_ready (rs := [5]) (by kernel_rfl) (by simp) ?_
            refine AllReadyH.cons rfl (fun K hK => ?_) AllReadyH.nil
            go_simp
            go_wp2_with (go_at_call 17; refine (HND.out _).mono ?_; rintro e w5 ⟨rfl, hb5⟩)
            refine hK.out _ _ ?_ (fun hHeld => ?_)
            · exact ⟨range_below hxs hb5 (range_lt hxs (by rw [HX32.out]; omega)), range_below hss hb5 (range_lt hss (by rw [HS32.out]; omega))⟩
            clear hK K
            try simp only [Act.put, List.getElem_toArray, List.getElem_cons_zero, List.getElem_cons_succ, List.setIfInBounds_toArray, List.set_cons_zero, List.set_cons_succ]
            have hr5 : BlkIs w5 (w.heap.size + 1) 26 z0 := (hb5.block _ hr3.lt).trans hr3
            have hb5' : Below w.heap.size w w5 := hb3.trans (hb5.mono hb3.size)
            refine wpAnyH_ready (rs := [7]) (by kernel_rfl) (by simp) ?_
            refine AllReadyH.cons rfl (fun K hK => ?_) AllReadyH.nil
            refine step_store (.tmp 8) (.tmp 49) 26 (w.heap.size + 1) 26 z0 (bv y).toArray hr5 rfl rfl rfl rfl rfl (isz26a HN32.out) (by rw [hz0, List.size_toArray, bv_length, HN32.out]) (bv_all y) ?_; intro w6 hb6 ht6
            refine hK.out _ _ ?_ (fun hHeld => ?_)
            · exact ⟨range_tn hHeld.1 ht6 (by omega), range_tn hHeld.2 ht6 (by omega)⟩
            clear hK K
            try simp only [Act.put, List.getElem_toArray, List.getElem_cons_zero, List.getElem_cons_succ, List.setIfInBounds_toArray, List.set_cons_zero, List.set_cons_succ]
            refine wpAnyH_take (i := 8) (v := .bool b) rfl (by kernel_rfl) (by kernel_rfl) (by kernel_rfl) (fun _ _ _ h => h) (Or.inl ⟨by rfl, fun w hS => by first | (go_simp; done) | (go_simp; with_reducible rfl)⟩) hHeld ?_
            try simp only [Act.put, List.getElem_toArray, List.getElem_cons_zero, List.getElem_cons_succ, List.setIfInBounds_toArray, List.set_cons_zero, List.set_cons_succ]
            refine wpAnyH_done (by kernel_rfl) ?_ _
            go_wp2_with fail
            exact ret_blk3 rfl (w.heap.size + 1) 26 _ _ hb6 _ rfl rfl Tryd.underlying26 rfl (isz26a HN32.out) rfl ⟨rfl, hb5'.trans (ht6.below hb5'.size (fun i hi h => by omega))⟩
        · have hik1 : ¬ (i : Int) < (k : Int) := by omega
          have es1 : IntKind.i64.wrap ((n : Int) - (k : Int)) = (n : Int) - (k : Int) := IntWalk.i64_in _ (by omega)
          have es2 : IntKind.i64.wrap ((i : Int) - (k : Int)) = (i : Int) - (k : Int) := IntWalk.i64_in _ (by omega)
          rw [upR_hi h1 (by rw [← hk]; omega), ← hk]
          have IH : Hid (∀ W, Below w.heap.size w W → Calls Tryd.prog 39 #[.int .i64 ((n : Int) - (k : Int)), .int .i64 ((i : Int) - (k : Int)), .agg (bv leaf).toArray, .slice (some ⟨gs, os, none⟩) q c] W fun e w' => e = .returned (.tuple #[.agg (bv (upR (n - k) (i - k) leaf init.reverse).1).toArray, .bool (upR (n - k) (i - k) leaf init.reverse).2]) ∧ Below W.heap.size W w') := Lib.hid fun W hb => by
            rw [show (n : Int) - (k : Int) = ((n - k : Nat) : Int) from by omega, show (i : Int) - (k : Int) = ((i - k : Nat) : Int) from by omega]
            exact up_any K (some ⟨gs, os, none⟩) q c (n - k) (i - k) leaf init W (by omega) hq (by omega) (by omega) (by omega) (by omega) hm hleaf ((hin.below hb).more hb.size)
          have hx := upR_length hleaf init.reverse (n - k) (i - k)
          generalize (upR (n - k) (i - k) leaf init.reverse).1 = x at *
          generalize (upR (n - k) (i - k) leaf init.reverse).2 = b at *
          have HX32 := Lib.hid hx
          have HZX : Hid ((bv (List.replicate 32 0)).toArray.size = (bv x).toArray.size) := Lib.hid (by rw [List.size_toArray, List.size_toArray, bv_length, bv_length, hx]; rfl)
          have HND : Hid (∀ W, Calls Tryd.prog 17 #[.agg (bv s).toArray, .agg (bv x).toArray] W fun e w' => e = .returned (.agg (bv (nodeS s x)).toArray) ∧ Below W.heap.size W w') := Lib.hid fun W => rnode_any s x W HS32.out HX32.out
          have HN32 := Lib.hid (nodeS_length s x)
          generalize nodeS s x = y at *
          clear hx hik hin hq hk h1 hleaf
          go_enter Tryd.func39, Tryd.ntmps39
          go_wp2_with fail
          refine (HC.out _).mono ?_
          rintro e w1 ⟨rfl, e1⟩
          have hb1 : Below w.heap.size w w1 := e1 ▸ below2 w _ _
          have hl1 : BlkIs w1 w.heap.size 26 (bv leaf).toArray := e1 ▸ (two_blocks w _ _).1
          have hr1 : ∃ z, BlkIs w1 (w.heap.size + 1) 26 z ∧ z.size = 32 := e1 ▸ ⟨_, (two_blocks w _ _).2, rfl⟩
          clear e1
          obtain ⟨z0, hr1, hz0⟩ := hr1
          have hlt1 := hr1.lt
          have HLF : Hid (∀ W, Below w1.heap.size w1 W → W.rangeAt w.heap.size 0 (bv leaf)) := Lib.hid fun W hb => BlkIs.sum ((hb.block _ hl1.lt).trans hl1)
          have k1 : Below w1.heap.size w1 w1.drew := (Below.refl _ w1).drew
          go_wp2_with fail
          refine wp_region_held_drew (S := (fun W => Below w1.heap.size w1 W)) (by kernel_rfl) (k1) (fun hHeld => ?_)
          refine wpAnyH_take (i := 0) (v := .int .i64 n) rfl (by kernel_rfl) (by kernel_rfl) (by kernel_rfl) (fun _ _ _ h => h) (Or.inl ⟨by rfl, fun w hS => by first | (go_simp; done) | (go_simp; with_reducible rfl)⟩) hHeld ?_
          try simp only [Act.put, List.getElem_toArray, List.getElem_cons_zero, List.setIfInBounds_toArray, List.set_cons_zero, List.set_cons_succ]
          refine wpAnyH_take (i := 1) (v := .int .i64 k) rfl (by kernel_rfl) (by kernel_rfl) (by kernel_rfl) (fun _ _ _ h => h) (Or.inl ⟨by rfl, fun w hS => by first | (go_simp; done) | (go_simp; with_reducible rfl)⟩) hHeld ?_
          try simp only [Act.put, List.getElem_toArray, List.getElem_cons_zero, List.getElem_cons_succ, List.setIfInBounds_toArray, List.set_cons_zero, List.set_cons_succ]
          refine wpAnyH_take (i := 2) (v := .int .i64 ((n : Int) - (k : Int))) rfl (by kernel_rfl) (by kernel_rfl) (by kernel_rfl) (fun _ _ _ h => h) (Or.inl ⟨by rfl, fun w hS => by first | (go_simp; done) | (go_simp; with_reducible rfl)⟩) hHeld ?_
          try simp only [Act.put, List.getElem_toArray, List.getElem_cons_zero, List.getElem_cons_succ, List.setIfInBounds_toArray, List.set_cons_zero, List.set_cons_succ]
          refine wpAnyH_take (i := 3) (v := .int .i64 i) rfl (by kernel_rfl) (by kernel_rfl) (by kernel_rfl) (fun _ _ _ h => h) (Or.inl ⟨by rfl, fun w hS => by first | (go_simp; done) | (go_simp; with_reducible rfl)⟩) hHeld ?_
          try simp only [Act.put, List.getElem_toArray, List.getElem_cons_zero, List.getElem_cons_succ, List.setIfInBounds_toArray, List.set_cons_zero, List.set_cons_succ]
          refine wpAnyH_take (i := 4) (v := .int .i64 k) rfl (by kernel_rfl) (by kernel_rfl) (by kernel_rfl) (fun _ _ _ h => h) (Or.inl ⟨by rfl, fun w hS => by first | (go_simp; done) | (go_simp; with_reducible rfl)⟩) hHeld ?_
          try simp only [Act.put, List.getElem_toArray, List.getElem_cons_zero, List.getElem_cons_succ, List.setIfInBounds_toArray, List.set_cons_zero, List.set_cons_succ]
          refine wpAnyH_take (i := 5) (v := .int .i64 ((i : Int) - (k : Int))) rfl (by kernel_rfl) (by kernel_rfl) (by kernel_rfl) (fun _ _ _ h => h) (Or.inl ⟨by rfl, fun w hS => by first | (go_simp; done) | (go_simp; with_reducible rfl)⟩) hHeld ?_
          try simp only [Act.put, List.getElem_toArray, List.getElem_cons_zero, List.getElem_cons_succ, List.setIfInBounds_toArray, List.set_cons_zero, List.set_cons_succ]
          refine wpAnyH_take (i := 6) (v := _) rfl (by kernel_rfl) (by kernel_rfl) (by kernel_rfl) (fun _ _ _ h => h) (yieldsIf_load_mid (by rfl) 26 (.tmp 6) rfl w.heap.size 0 rfl (bv leaf) _ (fun w h => (HLF.out w h)) Tryd.underlying26 rfl (isz26s HL32.out)) hHeld ?_
          try simp only [Act.put, List.getElem_toArray, List.getElem_cons_zero, List.getElem_cons_succ, List.setIfInBounds_toArray, List.set_cons_zero, List.set_cons_succ]
          refine wpAnyH_take (i := 7) (v := .slice (some ⟨gs, os, none⟩) (q + 1) c) rfl (by kernel_rfl) (by kernel_rfl) (by kernel_rfl) (fun _ _ _ h => h) (Or.inl ⟨by rfl, fun w hS => by first | (go_simp; done) | (go_simp; with_reducible rfl)⟩) hHeld ?_
          try simp only [Act.put, List.getElem_toArray, List.getElem_cons_zero, List.getElem_cons_succ, List.setIfInBounds_toArray, List.set_cons_zero, List.set_cons_succ]
          refine wpAnyH_take (i := 8) (v := .int .i64 q) rfl (by kernel_rfl) (by kernel_rfl) (by kernel_rfl) (fun _ _ _ h => h) (Or.inl ⟨by rfl, fun w hS => by first | (go_simp; done) | (go_simp; with_reducible rfl)⟩) hHeld ?_
          try simp only [Act.put, List.getElem_toArray, List.getElem_cons_zero, List.getElem_cons_succ, List.setIfInBounds_toArray, List.set_cons_zero, List.set_cons_succ]
          refine wpAnyH_take (i := 9) (v := .slice (some ⟨gs, os, none⟩) q c) rfl (by kernel_rfl) (by kernel_rfl) (by kernel_rfl) (fun _ _ _ h => h) (Or.inl ⟨by rfl, fun w hS => by (have hc := hlo'.out; first | (go_simp; done) | (go_simp; with_reducible rfl))⟩) hHeld ?_
          try simp only [Act.put, List.getElem_toArray, List.getElem_cons_zero, List.getElem_cons_succ, List.setIfInBounds_toArray, List.set_cons_zero, List.set_cons_succ]
          refine wpAnyH_ready (rs := [10, 14]) (by kernel_rfl) (by simp) ?_
          refine AllReadyH.cons rfl (fun K hK => ?_) (AllReadyH.cons rfl (fun K hK => ?_) AllReadyH.nil)
          go_simp
          go_wp2_with (go_at_call 39; refine (IH.out _ (hb1.trans (k1.mono (by omega)))).mono ?_; rintro e w2 ⟨rfl, hb2⟩; have k2 := k1.trans (hb2.mono k1.size))
          refine hK.out _ _ ?_ (fun hHeld => ?_)
          · exact k2
          clear hK K
          try simp only [Act.put, List.getElem_toArray, List.getElem_cons_zero, List.getElem_cons_succ, List.setIfInBounds_toArray, List.set_cons_zero, List.set_cons_succ]
          refine wpAnyH_take (i := 11) (v := .tuple #[.agg (bv x).toArray, .bool b]) rfl (by kernel_rfl) (by kernel_rfl) (by kernel_rfl) (fun _ _ _ h => h) (Or.inl ⟨by rfl, fun w hS => by first | (go_simp; done) | (go_simp; with_reducible rfl)⟩) hHeld ?_
          try simp only [Act.put, List.getElem_toArray, List.getElem_cons_zero, List.getElem_cons_succ, List.setIfInBounds_toArray, List.set_cons_zero, List.set_cons_succ]
          refine wpAnyH_take (i := 12) (v := .agg (bv x).toArray) rfl (by kernel_rfl) (by kernel_rfl) (by kernel_rfl) (fun _ _ _ h => h) (Or.inl ⟨by rfl, fun w hS => by first | (go_simp; done) | (go_simp; with_reducible rfl)⟩) hHeld ?_
          try simp only [Act.put, List.getElem_toArray, List.getElem_cons_zero, List.getElem_cons_succ, List.setIfInBounds_toArray, List.set_cons_zero, List.set_cons_succ]
          refine wpAnyH_take (i := 13) (v := .bool b) rfl (by kernel_rfl) (by kernel_rfl) (by kernel_rfl) (fun _ _ _ h => h) (Or.inl ⟨by rfl, fun w hS => by first | (go_simp; done) | (go_simp; with_reducible rfl)⟩) hHeld ?_
          try simp only [Act.put, List.getElem_toArray, List.getElem_cons_zero, List.getElem_cons_succ, List.setIfInBounds_toArray, List.set_cons_zero, List.set_cons_succ]
          refine wpAnyH_ready (rs := [14]) (by kernel_rfl) (by simp) ?_
          refine AllReadyH.cons rfl (fun K hK => ?_) AllReadyH.nil
          go_simp
          refine hK.out _ _ ?_ (fun hHeld => ?_)
          · exact k2.alloc k2.size _
          clear hK K
          try simp only [Act.put, List.getElem_toArray, List.getElem_cons_zero, List.getElem_cons_succ, List.setIfInBounds_toArray, List.set_cons_zero, List.set_cons_succ]
          have k3s := k2.alloc k2.size (.cells (bv (List.replicate 32 0)).toArray 26)
          have hge := k2.size
          refine wpAnyH_ready (rs := [15]) (by kernel_rfl) (by simp) ?_
          refine AllReadyH.cons rfl (fun K hK => ?_) AllReadyH.nil
          refine step_store (.tmp 14) (.tmp 63) 26 w2.heap.size 26 _ (bv x).toArray (BlkIs.new w2 _ _) rfl rfl rfl rfl rfl (isz26a HX32.out) HZX.out (bv_all x) ?_; intro w3 hx3 ht3
          refine hK.out _ _ ?_ (fun hHeld => ?_)
          · exact k3s.trans (ht3.below k3s.size (fun i hi h => by omega))
          clear hK K
          try simp only [Act.put, List.getElem_toArray, List.getElem_cons_zero, List.getElem_cons_succ, List.setIfInBounds_toArray, List.set_cons_zero, List.set_cons_succ]
          refine wpAnyH_take (i := 16) (v := .bool b) rfl (by kernel_rfl) (by kernel_rfl) (by kernel_rfl) (fun _ _ _ h => h) (Or.inl ⟨by rfl, fun w hS => by first | (go_simp; done) | (go_simp; with_reducible rfl)⟩) hHeld ?_
          try simp only [Act.put, List.getElem_toArray, List.getElem_cons_zero, List.getElem_cons_succ, List.setIfInBounds_toArray, List.set_cons_zero, List.set_cons_succ]
          refine wpAnyH_done (by kernel_rfl) ?_ _
          go_wp2_with fail
          have k3 := k3s.trans (ht3.below k3s.size (fun i hi h => by omega))
          generalize w2.heap.size = g12 at hx3 hge ⊢
          clear ht3 k3s k2 hb2
          rotate_left
          go_simp
          refine hK.out _ _ ?_ (fun hHeld => ?_)
          · exact k1.alloc k1.size _
          clear hK K
          try simp only [Act.put, List.getElem_toArray, List.getElem_cons_zero, List.getElem_cons_succ, List.setIfInBounds_toArray, List.set_cons_zero, List.set_cons_succ]
          have k1a := k1.alloc k1.size (.cells (bv (List.replicate 32 0)).toArray 26)
          refine wpAnyH_ready (rs := [10]) (by kernel_rfl) (by simp) ?_
          refine AllReadyH.cons rfl (fun K hK => ?_) AllReadyH.nil
          go_simp
          go_wp2_with (go_at_call 39; refine (IH.out _ (hb1.trans (k1a.mono (by omega)))).mono ?_; rintro e w2 ⟨rfl, hb2⟩; have k2 := k1a.trans (hb2.mono k1a.size))
          refine hK.out _ _ ?_ (fun hHeld => ?_)
          · exact k2
          clear hK K
          try simp only [Act.put, List.getElem_toArray, List.getElem_cons_zero, List.getElem_cons_succ, List.setIfInBounds_toArray, List.set_cons_zero, List.set_cons_succ]
          refine wpAnyH_take (i := 11) (v := .tuple #[.agg (bv x).toArray, .bool b]) rfl (by kernel_rfl) (by kernel_rfl) (by kernel_rfl) (fun _ _ _ h => h) (Or.inl ⟨by rfl, fun w hS => by first | (go_simp; done) | (go_simp; with_reducible rfl)⟩) hHeld ?_
          try simp only [Act.put, List.getElem_toArray, List.getElem_cons_zero, List.getElem_cons_succ, List.setIfInBounds_toArray, List.set_cons_zero, List.set_cons_succ]
          refine wpAnyH_take (i := 12) (v := .agg (bv x).toArray) rfl (by kernel_rfl) (by kernel_rfl) (by kernel_rfl) (fun _ _ _ h => h) (Or.inl ⟨by rfl, fun w hS => by first | (go_simp; done) | (go_simp; with_reducible rfl)⟩) hHeld ?_
          try simp only [Act.put, List.getElem_toArray, List.getElem_cons_zero, List.getElem_cons_succ, List.setIfInBounds_toArray, List.set_cons_zero, List.set_cons_succ]
          refine wpAnyH_take (i := 13) (v := .bool b) rfl (by kernel_rfl) (by kernel_rfl) (by kernel_rfl) (fun _ _ _ h => h) (Or.inl ⟨by rfl, fun w hS => by first | (go_simp; done) | (go_simp; with_reducible rfl)⟩) hHeld ?_
          try simp only [Act.put, List.getElem_toArray, List.getElem_cons_zero, List.getElem_cons_succ, List.setIfInBounds_toArray, List.set_cons_zero, List.set_cons_succ]
          have hz2 : BlkIs w2 w1.heap.size 26 (bv (List.replicate 32 0)).toArray := (hb2.block _ (by simp)).trans (BlkIs.new_at _ _ _ _ (by simp))
          have k3s := k2
          have hge : w1.heap.size ≤ w1.heap.size := Nat.le_refl _
          refine wpAnyH_ready (rs := [15]) (by kernel_rfl) (by simp) ?_
          refine AllReadyH.cons rfl (fun K hK => ?_) AllReadyH.nil
          refine step_store (.tmp 14) (.tmp 63) 26 w1.heap.size 26 _ (bv x).toArray hz2 rfl rfl rfl rfl rfl (isz26a HX32.out) HZX.out (bv_all x) ?_; intro w3 hx3 ht3
          refine hK.out _ _ ?_ (fun hHeld => ?_)
          · exact k3s.trans (ht3.below k3s.size (fun i hi h => by omega))
          clear hK K
          try simp only [Act.put, List.getElem_toArray, List.getElem_cons_zero, List.getElem_cons_succ, List.setIfInBounds_toArray, List.set_cons_zero, List.set_cons_succ]
          refine wpAnyH_take (i := 16) (v := .bool b) rfl (by kernel_rfl) (by kernel_rfl) (by kernel_rfl) (fun _ _ _ h => h) (Or.inl ⟨by rfl, fun w hS => by first | (go_simp; done) | (go_simp; with_reducible rfl)⟩) hHeld ?_
          try simp only [Act.put, List.getElem_toArray, List.getElem_cons_zero, List.getElem_cons_succ, List.setIfInBounds_toArray, List.set_cons_zero, List.set_cons_succ]
          refine wpAnyH_done (by kernel_rfl) ?_ _
          go_wp2_with fail
          have k3 := k3s.trans (ht3.below k3s.size (fun i hi h => by omega))
          have hge2 : ∃ g, g = w1.heap.size := ⟨_, rfl⟩
          obtain ⟨g12, hg12⟩ := hge2
          rw [← hg12] at hx3 ⊢
          have hge : w1.heap.size ≤ g12 := Nat.le_of_eq hg12.symm
          clear ht3 k3s k2 hb2 hz2 hg12 k1a
          rotate_left
          all_goals
            have hxs : w3.drew.rangeAt g12 0 (bv x) := BlkIs.sum ((Alk.drew w3).blk hx3)
            have hb3 : Below w.heap.size w w3.drew := (hb1.trans (k3.mono (by omega))).drew
            have hss := KS.out _ hb3
            have hr3 : BlkIs w3.drew (w.heap.size + 1) 26 z0 := (Alk.drew w3).blk ((k3.block _ hlt1).trans hr1)
            refine wp_region_held_drew (S := (fun W => W.rangeAt g12 0 (bv x) ∧ W.rangeAt gs (os + q * 32) (bv s))) (by kernel_rfl) (⟨hxs, hss⟩) (fun hHeld => ?_)
            refine wpAnyH_take (i := 0) (v := .slice (some ⟨gs, os, none⟩) (q + 1) c) rfl (by kernel_rfl) (by kernel_rfl) (by kernel_rfl) (fun _ _ _ h => h) (Or.inl ⟨by rfl, fun w hS => by first | (go_simp; done) | (go_simp; with_reducible rfl)⟩) hHeld ?_
            try simp only [Act.put, List.getElem_toArray, List.getElem_cons_zero, List.setIfInBounds_toArray, List.set_cons_zero, List.set_cons_succ]
            refine wpAnyH_take (i := 1) (v := .int .i64 q) rfl (by kernel_rfl) (by kernel_rfl) (by kernel_rfl) (fun _ _ _ h => h) (Or.inl ⟨by rfl, fun w hS => by first | (go_simp; done) | (go_simp; with_reducible rfl)⟩) hHeld ?_
            try simp only [Act.put, List.getElem_toArray, List.getElem_cons_zero, List.getElem_cons_succ, List.setIfInBounds_toArray, List.set_cons_zero, List.set_cons_succ]
            refine wpAnyH_take (i := 2) (v := .pointer (some ⟨gs, os + q * 32, none⟩)) rfl (by kernel_rfl) (by kernel_rfl) (by kernel_rfl) (fun _ _ _ h => h) (Or.inl ⟨by rfl, fun w hS => by first | (go_simp; done) | (go_simp; with_reducible rfl)⟩) hHeld ?_
            try simp only [Act.put, List.getElem_toArray, List.getElem_cons_zero, List.getElem_cons_succ, List.setIfInBounds_toArray, List.set_cons_zero, List.set_cons_succ]
            refine wpAnyH_take (i := 3) (v := _) rfl (by kernel_rfl) (by kernel_rfl) (by kernel_rfl) (fun _ _ _ h => h) (yieldsIf_load_mid (by rfl) 26 (.tmp 67) rfl gs (os + q * 32) rfl (bv s) _ (fun w h => h.2) Tryd.underlying26 rfl (isz26s HS32.out)) hHeld ?_
            try simp only [Act.put, List.getElem_toArray, List.getElem_cons_zero, List.getElem_cons_succ, List.setIfInBounds_toArray, List.set_cons_zero, List.set_cons_succ]
            refine wpAnyH_take (i := 4) (v := _) rfl (by kernel_rfl) (by kernel_rfl) (by kernel_rfl) (fun _ _ _ h => h) (yieldsIf_load_mid (by rfl) 26 (.tmp 14) rfl g12 0 rfl (bv x) _ (fun w h => h.1) Tryd.underlying26 rfl (isz26s HX32.out)) hHeld ?_
            try simp only [Act.put, List.getElem_toArray, List.getElem_cons_zero, List.getElem_cons_succ, List.setIfInBounds_toArray, List.set_cons_zero, List.set_cons_succ]
            refine wpAnyH_take (i := 6) (v := .bool b) rfl (by kernel_rfl) (by kernel_rfl) (by kernel_rfl) (fun _ _ _ h => h) (Or.inl ⟨by rfl, fun w hS => by first | (go_simp; done) | (go_simp; with_reducible rfl)⟩) hHeld ?_
            try simp only [Act.put, List.getElem_toArray, List.getElem_cons_zero, List.getElem_cons_succ, List.setIfInBounds_toArray, List.set_cons_zero, List.set_cons_succ]
            refine wpAnyH_ready (rs := [5]) (by kernel_rfl) (by simp) ?_
            refine AllReadyH.cons rfl (fun K hK => ?_) AllReadyH.nil
            go_simp
            go_wp2_with (go_at_call 17; refine (HND.out _).mono ?_; rintro e w5 ⟨rfl, hb5⟩)
            refine hK.out _ _ ?_ (fun hHeld => ?_)
            · exact ⟨range_below hxs hb5 (range_lt hxs (by rw [HX32.out]; omega)), range_below hss hb5 (range_lt hss (by rw [HS32.out]; omega))⟩
            clear hK K
            try simp only [Act.put, List.getElem_toArray, List.getElem_cons_zero, List.getElem_cons_succ, List.setIfInBounds_toArray, List.set_cons_zero, List.set_cons_succ]
            have hr5 : BlkIs w5 (w.heap.size + 1) 26 z0 := (hb5.block _ hr3.lt).trans hr3
            have hb5' : Below w.heap.size w w5 := hb3.trans (hb5.mono hb3.size)
            refine wpAnyH_ready (rs := [7]) (by kernel_rfl) (by simp) ?_
            refine AllReadyH.cons rfl (fun K hK => ?_) AllReadyH.nil
            refine step_store (.tmp 8) (.tmp 70) 26 (w.heap.size + 1) 26 z0 (bv y).toArray hr5 rfl rfl rfl rfl rfl (isz26a HN32.out) (by rw [hz0, List.size_toArray, bv_length, HN32.out]) (bv_all y) ?_; intro w6 hb6 ht6
            refine hK.out _ _ ?_ (fun hHeld => ?_)
            · exact ⟨range_tn hHeld.1 ht6 (by omega), range_tn hHeld.2 ht6 (by omega)⟩
            clear hK K
            try simp only [Act.put, List.getElem_toArray, List.getElem_cons_zero, List.getElem_cons_succ, List.setIfInBounds_toArray, List.set_cons_zero, List.set_cons_succ]
            refine wpAnyH_take (i := 8) (v := .bool b) rfl (by kernel_rfl) (by kernel_rfl) (by kernel_rfl) (fun _ _ _ h => h) (Or.inl ⟨by rfl, fun w hS => by first | (go_simp; done) | (go_simp; with_reducible rfl)⟩) hHeld ?_
            try simp only [Act.put, List.getElem_toArray, List.getElem_cons_zero, List.getElem_cons_succ, List.setIfInBounds_toArray, List.set_cons_zero, List.set_cons_succ]
            refine wpAnyH_done (by kernel_rfl) ?_ _
            go_wp2_with fail
            exact ret_blk3 rfl (w.heap.size + 1) 26 _ _ hb6 _ rfl rfl Tryd.underlying26 rfl (isz26a HN32.out) rfl ⟨rfl, hb5'.trans (ht6.below hb5'.size (fun i hi h => by omega))⟩
termination_by K => K
end Go.Proofs.YtgjepkcdacgieaaDoor
