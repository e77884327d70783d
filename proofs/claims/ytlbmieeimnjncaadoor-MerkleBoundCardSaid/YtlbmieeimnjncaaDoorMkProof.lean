/- Contracts of proofs: the program's, the document's. Conditions: as stated at each. -/
import Derived.Test.YtlbmieeimnjncaaDoorMkBuild
namespace Go.Proofs.YtlbmieeimnjncaaDoor
set_option maxRecDepth 100000
open Go.RowKit Go
/-- what a way's call ends in. -/
def WayP (w : World) (N : Nat) (L : List (List UInt8)) (e : Ending) (w' : World) : Prop := ∃ v, e = .returned v ∧ OwnH w' N v L ∧ Below w.heap.size w w'
set_option maxRecDepth 100000 in
set_option maxHeartbeats 1600000 in
theorem proof1_any (G : Nat) : ∀ (K : Nat) (A : Option Addr) (n c i : Nat) (L : List (List UInt8)) (w : World), n ≤ K → L.length = n → 1 ≤ n → i < n → n ≤ 100000 → n ≤ c → c ≤ maxLen → Hs w w.heap.size A L →
    BlkIs w G 49 #[.func (.func 18) #[] #[.pointer (some ⟨G, 0, none⟩)]] → Glob w →
    Calls Tryd.prog 18 #[.slice A n c, .int .i64 i, .pointer (some ⟨G, 0, none⟩)] w (WayP w w.heap.size (wayS L i))
  | 0, A, n, c, i, L, w, hK, hn, h1, hi, h9, hc, hm, h, hG, hg => by omega
  | K + 1, A, n, c, i, L, w, hK, hn, h1, hi, h9, hc, hm, h, hG, hg => by
    have GS := Lib.hid hg.size
    by_cases h2 : n = 1
    · subst h2
      rw [wayS_one (by omega)]
      clear hn h hG
      go_enter Tryd.func18, Tryd.ntmps18
      go_wp2_with fail
      go_ret
      exact ⟨_, rfl, OwnH.nil _ _, Below.refl _ _⟩
    · have h2' : 2 ≤ n := by omega
      have n1 : ¬ (n : Int) = 1 := by omega
      have n1' : ((n : Int) == 1) = false := by simpa using n1
      obtain ⟨k, hk⟩ : ∃ k, k = spl n := ⟨_, rfl⟩
      have hk1 : 1 ≤ k := by rw [hk]; exact spl_pos n
      have hkn : k < n := by rw [hk]; exact spl_lt h2'
      have HC : Hid (∀ w, Calls Tryd.prog 19 #[.int .i64 n] w fun e w' => e = .returned (.int .i64 k) ∧ w = w') := Lib.hid fun w => by rw [hk]; exact cut_any n w h2' (by omega)
      have hwlo : i < k → wayS L i = wayS (L.take k) i ++ [rootS (L.drop k)] := fun h => by rw [hk, ← hn]; rw [hk, ← hn] at h; exact wayS_lo (by omega) h
      have hwhi : k ≤ i → wayS L i = wayS (L.drop k) (i - k) ++ [rootS (L.take k)] := fun h => by rw [hk, ← hn]; rw [hk, ← hn] at h; exact wayS_hi (by omega) h
      obtain ⟨A', hhi, hdr⟩ := cutH_hi A L n c k h hn (by omega) hc
      have hlo := cutH_lo A n c k (by omega) hc
      have hG1 : Hid (∀ W, Below w.heap.size w W → BlkIs W G 49 #[.func (.func 18) #[] #[.pointer (some ⟨G, 0, none⟩)]]) := Lib.hid fun W hb => (hb.block G hG.lt).trans hG
      have HF : Hid (∀ W, Below w.heap.size w W → W.cell? ⟨G, 0, none⟩ = some (.func (.func 18) #[] #[.pointer (some ⟨G, 0, none⟩)])) := Lib.hid fun W hb => (hG1.out W hb).cell 0
      have hGlt := hG.lt
      have hlo' : Hid (∀ w', (Instr.slice 23 (.slice A n c) none (some (.int .i64 k)) none).run Tryd.prog w' = .ok (.slice A k c) w') := Lib.hid hlo
      have hhi' : Hid (∀ w', (Instr.slice 23 (.slice A n c) (some (.int .i64 k)) none none).run Tryd.prog w' = .ok (.slice A' (n - k) (c - k)) w') := Lib.hid hhi
      clear hlo hhi
      by_cases hik : i < k
      · have hik1 : (i : Int) < (k : Int) := by omega
        rw [hwlo hik]
        have hlen : (wayS (L.take k) i).length + 1 ≤ 1000000000 := by have := (wayS_sms n (L.take k) i (by rw [List.length_take]; omega) (h.1.take k)).2; rw [List.length_take] at this; omega
        have IH : Hid (∀ W, Below w.heap.size w W → Calls Tryd.prog 18 #[.slice A k c, .int .i64 i, .pointer (some ⟨G, 0, none⟩)] W (WayP W W.heap.size (wayS (L.take k) i))) := Lib.hid fun W hb => 
          proof1_any G K A k c i (L.take k) W (by omega) (by rw [List.length_take]; omega) (by omega) (by omega) (by omega) (by omega) hm (((h.take k).below hb).more hb.size) (hG1.out W hb) (hg.below hb GS.out)
        have HR : Hid (∀ W, Below w.heap.size w W → Calls Tryd.prog 11 #[.slice A' (n - k) (c - k)] W fun e w' => e = .returned (.agg (bv (rootS (L.drop k))).toArray) ∧ Below W.heap.size W w') := Lib.hid fun W hb =>
          root_any A' (n - k) (c - k) (L.drop k) W (by rw [List.length_drop]; omega) (by omega) (by omega) (by omega) ((hdr.below hb).more hb.size) (hg.below hb GS.out)
        have hs32 : (rootS (L.drop k)).length = 32 := rootS_length (h.1.drop k)
        generalize wayS (L.take k) i = Y at *
        generalize rootS (L.drop k) = s at *
        have HS32 := Lib.hid hs32
        have HLEN := Lib.hid hlen
        clear hwlo hwhi hs32 hlen hk hn h hdr hG hg
        go_enter Tryd.func18, Tryd.ntmps18
        go_wp2_with (first
          | (go_at_call 19; refine (HC.out _).mono ?_; rintro e w1 ⟨rfl, rfl⟩)
          | fail)
        have k0 : Below w.heap.size w w.drew := (Below.refl _ w).drew
        refine wp_region_held_drew (S := (fun W => Below w.heap.size w W)) (by kernel_rfl) (k0) (fun hHeld => ?_)
        refine wpAnyH_take (i := 0) (v := .func (.func 18) #[] #[.pointer (some ⟨G, 0, none⟩)]) rfl (by kernel_rfl) (by kernel_rfl) (by kernel_rfl) (fun _ _ _ h => h) (Or.inl ⟨by rfl, fun w hS => by (have hc := HF.out w hS; first | (go_simp; done) | (go_simp; with_reducible rfl))⟩) hHeld ?_
        try simp only [Act.put, List.getElem_toArray, List.getElem_cons_zero, List.setIfInBounds_toArray, List.set_cons_zero, List.set_cons_succ]
        refine wpAnyH_take (i := 1) (v := .slice A n c) rfl (by kernel_rfl) (by kernel_rfl) (by kernel_rfl) (fun _ _ _ h => h) (Or.inl ⟨by rfl, fun w hS => by first | (go_simp; done) | (go_simp; with_reducible rfl)⟩) hHeld ?_
        try simp only [Act.put, List.getElem_toArray, List.getElem_cons_zero, List.getElem_cons_succ, List.setIfInBounds_toArray, List.set_cons_zero, List.set_cons_succ]
        refine wpAnyH_take (i := 2) (v := .int .i64 k) rfl (by kernel_rfl) (by kernel_rfl) (by kernel_rfl) (fun _ _ _ h => h) (Or.inl ⟨by rfl, fun w hS => by first | (go_simp; done) | (go_simp; with_reducible rfl)⟩) hHeld ?_
        try simp only [Act.put, List.getElem_toArray, List.getElem_cons_zero, List.getElem_cons_succ, List.setIfInBounds_toArray, List.set_cons_zero, List.set_cons_succ]
        refine wpAnyH_take (i := 3) (v := .slice A k c) rfl (by kernel_rfl) (by kernel_rfl) (by kernel_rfl) (fun _ _ _ h => h) (Or.inl ⟨by rfl, fun w hS => by (have hc := hlo'.out; first | (go_simp; done) | (go_simp; with_reducible rfl))⟩) hHeld ?_
        try simp only [Act.put, List.getElem_toArray, List.getElem_cons_zero, List.getElem_cons_succ, List.setIfInBounds_toArray, List.set_cons_zero, List.set_cons_succ]
        refine wpAnyH_take (i := 4) (v := .int .i64 i) rfl (by kernel_rfl) (by kernel_rfl) (by kernel_rfl) (fun _ _ _ h => h) (Or.inl ⟨by rfl, fun w hS => by first | (go_simp; done) | (go_simp; with_reducible rfl)⟩) hHeld ?_
        try simp only [Act.put, List.getElem_toArray, List.getElem_cons_zero, List.getElem_cons_succ, List.setIfInBounds_toArray, List.set_cons_zero, List.set_cons_succ]
        refine wpAnyH_take (i := 6) (v := .slice A n c) rfl (by kernel_rfl) (by kernel_rfl) (by kernel_rfl) (fun _ _ _ h => h) (Or.inl ⟨by rfl, fun w hS => by first | (go_simp; done) | (go_simp; with_reducible rfl)⟩) hHeld ?_
        try simp only [Act.put, List.getElem_toArray, List.getElem_cons_zero, List.getElem_cons_succ, List.setIfInBounds_toArray, List.set_cons_zero, List.set_cons_succ]
        refine wpAnyH_take (i := 7) (v := .int .i64 k) rfl (by kernel_rfl) (by kernel_rfl) (by kernel_rfl) (fun _ _ _ h => h) (Or.inl ⟨by rfl, fun w hS => by first | (go_simp; done) | (go_simp; with_reducible rfl)⟩) hHeld ?_
        try simp only [Act.put, List.getElem_toArray, List.getElem_cons_zero, List.getElem_cons_succ, List.setIfInBounds_toArray, List.set_cons_zero, List.set_cons_succ]
        refine wpAnyH_take (i := 8) (v := .slice A' (n - k) (c - k)) rfl (by kernel_rfl) (by kernel_rfl) (by kernel_rfl) (fun _ _ _ h => h) (Or.inl ⟨by rfl, fun w hS => by (have hc := hhi'.out; first | (go_simp; done) | (go_simp; with_reducible rfl))⟩) hHeld ?_
        try simp only [Act.put, List.getElem_toArray, List.getElem_cons_zero, List.getElem_cons_succ, List.setIfInBounds_toArray, List.set_cons_zero, List.set_cons_succ]
        refine wpAnyH_ready (rs := [5]) (by kernel_rfl) (by simp) ?_
        refine AllReadyH.cons rfl (fun K hK => ?_) AllReadyH.nil
        go_simp
        go_wp2_with (go_at_call 18; refine (IH.out _ hHeld).mono ?_; clear IH; rintro e w2 ⟨v2, rfl, ho2, hb2⟩; have k2 := k0.trans (hb2.mono k0.size); have ho2' := ho2.more k0.size)
        refine hK.out _ _ ?_ (fun hHeld => ?_)
        · exact k2
        clear hK K
        try simp only [Act.put, List.getElem_toArray, List.getElem_cons_zero, List.getElem_cons_succ, List.setIfInBounds_toArray, List.set_cons_zero, List.set_cons_succ]
        refine wpAnyH_ready (rs := [9]) (by kernel_rfl) (by simp) ?_
        refine AllReadyH.cons rfl (fun K hK => ?_) AllReadyH.nil
        go_simp
        go_wp2_with (go_at_call 11; refine (HR.out _ hHeld).mono ?_; clear HR; rintro e w3 ⟨rfl, hb3⟩; have k3 := k2.trans (hb3.mono k2.size); have ho3 := ho2'.kept hb3 (Nat.le_refl _))
        refine hK.out _ _ ?_ (fun hHeld => ?_)
        · exact k3
        clear hK K
        try simp only [Act.put, List.getElem_toArray, List.getElem_cons_zero, List.getElem_cons_succ, List.setIfInBounds_toArray, List.set_cons_zero, List.set_cons_succ]
        refine wpAnyH_ready (rs := [10]) (by kernel_rfl) (by simp) ?_
        refine AllReadyH.cons rfl (fun K hK => ?_) AllReadyH.nil
        refine step_build 23 1 #[(0, .tmp 25)] _ _ (run_build1 HS32.out _) rfl (by simp only [List.map_toArray, List.map_cons, List.map_nil]; rfl) rfl ?_
        refine hK.out _ _ ?_ (fun hHeld => ?_)
        · exact k3.alloc k3.size _
        clear hK K
        try simp only [Act.put, List.getElem_toArray, List.getElem_cons_zero, List.getElem_cons_succ, List.setIfInBounds_toArray, List.set_cons_zero, List.set_cons_succ]
        have ho4 := ho3.kept (below1 w3 (.cells (bv s).toArray 22)) (Nat.le_refl _)
        have hk4 := k3.alloc k3.size (.cells (bv s).toArray 22)
        have hc4 := (BlkIs.new w3 22 (bv s).toArray).sum
        refine wpAnyH_ready (rs := [11]) (by kernel_rfl) (by simp) ?_
        refine AllReadyH.cons rfl (fun K hK => ?_) AllReadyH.nil
        refine step_appH (.tmp 21) (.tmp 26) ho4 HS32.out hc4 rfl rfl rfl rfl HLEN.out hk4.size ?_; intro v5 w5 ho5 hb5
        refine hK.out _ _ ?_ (fun hHeld => ?_)
        · exact hk4.trans hb5
        clear hK K
        try simp only [Act.put, List.getElem_toArray, List.getElem_cons_zero, List.getElem_cons_succ, List.setIfInBounds_toArray, List.set_cons_zero, List.set_cons_succ]
        have k5 := hk4.trans hb5
        have HO5 := Lib.hid ho5
        have HK5 := Lib.hid k5
        clear ho5 k5 hb5 ho4 hc4 ho3 ho2 ho2'
        refine wpAnyH_take (i := 12) (v := v5) rfl (by kernel_rfl) (by kernel_rfl) (by kernel_rfl) (fun _ _ _ h => h) (Or.inl ⟨by rfl, fun w hS => by first | (go_simp; done) | (go_simp; with_reducible rfl)⟩) hHeld ?_
        try simp only [Act.put, List.getElem_toArray, List.getElem_cons_zero, List.getElem_cons_succ, List.setIfInBounds_toArray, List.set_cons_zero, List.set_cons_succ]
        refine wpAnyH_done (by kernel_rfl) ?_ _
        go_wp2_with fail
        go_ret
        exact ⟨_, rfl, HO5.out, HK5.out⟩
      · have hik1 : ¬ (i : Int) < (k : Int) := by omega
        have esub : IntKind.i64.wrap ((i : Int) - (k : Int)) = (i : Int) - (k : Int) := IntWalk.i64_in _ (by omega)
        have hik2 : k ≤ i := by omega
        rw [hwhi hik2]
        have hlen : (wayS (L.drop k) (i - k)).length + 1 ≤ 1000000000 := by have := (wayS_sms n (L.drop k) (i - k) (by rw [List.length_drop]; omega) (h.1.drop k)).2; rw [List.length_drop] at this; omega
        have IH : Hid (∀ W, Below w.heap.size w W → Calls Tryd.prog 18 #[.slice A' (n - k) (c - k), .int .i64 ((i : Int) - (k : Int)), .pointer (some ⟨G, 0, none⟩)] W (WayP W W.heap.size (wayS (L.drop k) (i - k)))) := Lib.hid fun W hb => by
          rw [show (i : Int) - (k : Int) = ((i - k : Nat) : Int) from by omega]
          exact 
          proof1_any G K A' (n - k) (c - k) (i - k) (L.drop k) W (by omega) (by rw [List.length_drop]; omega) (by omega) (by omega) (by omega) (by omega) (by omega) ((hdr.below hb).more hb.size) (hG1.out W hb) (hg.below hb GS.out)
        have HR : Hid (∀ W, Below w.heap.size w W → Calls Tryd.prog 11 #[.slice A k c] W fun e w' => e = .returned (.agg (bv (rootS (L.take k))).toArray) ∧ Below W.heap.size W w') := Lib.hid fun W hb =>
          root_any A k c (L.take k) W (by rw [List.length_take]; omega) (by omega) (by omega) hm (((h.take k).below hb).more hb.size) (hg.below hb GS.out)
        have hs32 : (rootS (L.take k)).length = 32 := rootS_length (h.1.take k)
        generalize wayS (L.drop k) (i - k) = Y at *
        generalize rootS (L.take k) = s at *
        have HS32 := Lib.hid hs32
        have HLEN := Lib.hid hlen
        clear hwlo hwhi hs32 hlen hk hn h hdr hG hg
        go_enter Tryd.func18, Tryd.ntmps18
        go_wp2_with (first
          | (go_at_call 19; refine (HC.out _).mono ?_; rintro e w1 ⟨rfl, rfl⟩)
          | fail)
        have k0 : Below w.heap.size w w.drew := (Below.refl _ w).drew
        refine wp_region_held_drew (S := (fun W => Below w.heap.size w W)) (by kernel_rfl) (k0) (fun hHeld => ?_)
        refine wpAnyH_take (i := 0) (v := .func (.func 18) #[] #[.pointer (some ⟨G, 0, none⟩)]) rfl (by kernel_rfl) (by kernel_rfl) (by kernel_rfl) (fun _ _ _ h => h) (Or.inl ⟨by rfl, fun w hS => by (have hc := HF.out w hS; first | (go_simp; done) | (go_simp; with_reducible rfl))⟩) hHeld ?_
        try simp only [Act.put, List.getElem_toArray, List.getElem_cons_zero, List.setIfInBounds_toArray, List.set_cons_zero, List.set_cons_succ]
        refine wpAnyH_take (i := 1) (v := .slice A n c) rfl (by kernel_rfl) (by kernel_rfl) (by kernel_rfl) (fun _ _ _ h => h) (Or.inl ⟨by rfl, fun w hS => by first | (go_simp; done) | (go_simp; with_reducible rfl)⟩) hHeld ?_
        try simp only [Act.put, List.getElem_toArray, List.getElem_cons_zero, List.getElem_cons_succ, List.setIfInBounds_toArray, List.set_cons_zero, List.set_cons_succ]
        refine wpAnyH_take (i := 2) (v := .int .i64 k) rfl (by kernel_rfl) (by kernel_rfl) (by kernel_rfl) (fun _ _ _ h => h) (Or.inl ⟨by rfl, fun w hS => by first | (go_simp; done) | (go_simp; with_reducible rfl)⟩) hHeld ?_
        try simp only [Act.put, List.getElem_toArray, List.getElem_cons_zero, List.getElem_cons_succ, List.setIfInBounds_toArray, List.set_cons_zero, List.set_cons_succ]
        refine wpAnyH_take (i := 3) (v := .slice A' (n - k) (c - k)) rfl (by kernel_rfl) (by kernel_rfl) (by kernel_rfl) (fun _ _ _ h => h) (Or.inl ⟨by rfl, fun w hS => by (have hc := hhi'.out; first | (go_simp; done) | (go_simp; with_reducible rfl))⟩) hHeld ?_
        try simp only [Act.put, List.getElem_toArray, List.getElem_cons_zero, List.getElem_cons_succ, List.setIfInBounds_toArray, List.set_cons_zero, List.set_cons_succ]
        refine wpAnyH_take (i := 4) (v := .int .i64 i) rfl (by kernel_rfl) (by kernel_rfl) (by kernel_rfl) (fun _ _ _ h => h) (Or.inl ⟨by rfl, fun w hS => by first | (go_simp; done) | (go_simp; with_reducible rfl)⟩) hHeld ?_
        try simp only [Act.put, List.getElem_toArray, List.getElem_cons_zero, List.getElem_cons_succ, List.setIfInBounds_toArray, List.set_cons_zero, List.set_cons_succ]
        refine wpAnyH_take (i := 5) (v := .int .i64 k) rfl (by kernel_rfl) (by kernel_rfl) (by kernel_rfl) (fun _ _ _ h => h) (Or.inl ⟨by rfl, fun w hS => by first | (go_simp; done) | (go_simp; with_reducible rfl)⟩) hHeld ?_
        try simp only [Act.put, List.getElem_toArray, List.getElem_cons_zero, List.getElem_cons_succ, List.setIfInBounds_toArray, List.set_cons_zero, List.set_cons_succ]
        refine wpAnyH_take (i := 6) (v := .int .i64 ((i : Int) - (k : Int))) rfl (by kernel_rfl) (by kernel_rfl) (by kernel_rfl) (fun _ _ _ h => h) (Or.inl ⟨by rfl, fun w hS => by first | (go_simp; done) | (go_simp; with_reducible rfl)⟩) hHeld ?_
        try simp only [Act.put, List.getElem_toArray, List.getElem_cons_zero, List.getElem_cons_succ, List.setIfInBounds_toArray, List.set_cons_zero, List.set_cons_succ]
        refine wpAnyH_take (i := 8) (v := .slice A n c) rfl (by kernel_rfl) (by kernel_rfl) (by kernel_rfl) (fun _ _ _ h => h) (Or.inl ⟨by rfl, fun w hS => by first | (go_simp; done) | (go_simp; with_reducible rfl)⟩) hHeld ?_
        try simp only [Act.put, List.getElem_toArray, List.getElem_cons_zero, List.getElem_cons_succ, List.setIfInBounds_toArray, List.set_cons_zero, List.set_cons_succ]
        refine wpAnyH_take (i := 9) (v := .int .i64 k) rfl (by kernel_rfl) (by kernel_rfl) (by kernel_rfl) (fun _ _ _ h => h) (Or.inl ⟨by rfl, fun w hS => by first | (go_simp; done) | (go_simp; with_reducible rfl)⟩) hHeld ?_
        try simp only [Act.put, List.getElem_toArray, List.getElem_cons_zero, List.getElem_cons_succ, List.setIfInBounds_toArray, List.set_cons_zero, List.set_cons_succ]
        refine wpAnyH_take (i := 10) (v := .slice A k c) rfl (by kernel_rfl) (by kernel_rfl) (by kernel_rfl) (fun _ _ _ h => h) (Or.inl ⟨by rfl, fun w hS => by (have hc := hlo'.out; first | (go_simp; done) | (go_simp; with_reducible rfl))⟩) hHeld ?_
        try simp only [Act.put, List.getElem_toArray, List.getElem_cons_zero, List.getElem_cons_succ, List.setIfInBounds_toArray, List.set_cons_zero, List.set_cons_succ]
        refine wpAnyH_ready (rs := [7]) (by kernel_rfl) (by simp) ?_
        refine AllReadyH.cons rfl (fun K hK => ?_) AllReadyH.nil
        go_simp
        go_wp2_with (go_at_call 18; refine (IH.out _ hHeld).mono ?_; clear IH; rintro e w2 ⟨v2, rfl, ho2, hb2⟩; have k2 := k0.trans (hb2.mono k0.size); have ho2' := ho2.more k0.size)
        refine hK.out _ _ ?_ (fun hHeld => ?_)
        · exact k2
        clear hK K
        try simp only [Act.put, List.getElem_toArray, List.getElem_cons_zero, List.getElem_cons_succ, List.setIfInBounds_toArray, List.set_cons_zero, List.set_cons_succ]
        refine wpAnyH_ready (rs := [11]) (by kernel_rfl) (by simp) ?_
        refine AllReadyH.cons rfl (fun K hK => ?_) AllReadyH.nil
        go_simp
        go_wp2_with (go_at_call 11; refine (HR.out _ hHeld).mono ?_; clear HR; rintro e w3 ⟨rfl, hb3⟩; have k3 := k2.trans (hb3.mono k2.size); have ho3 := ho2'.kept hb3 (Nat.le_refl _))
        refine hK.out _ _ ?_ (fun hHeld => ?_)
        · exact k3
        clear hK K
        try simp only [Act.put, List.getElem_toArray, List.getElem_cons_zero, List.getElem_cons_succ, List.setIfInBounds_toArray, List.set_cons_zero, List.set_cons_succ]
        refine wpAnyH_ready (rs := [12]) (by kernel_rfl) (by simp) ?_
        refine AllReadyH.cons rfl (fun K hK => ?_) AllReadyH.nil
        refine step_build 23 1 #[(0, .tmp 39)] _ _ (run_build1 HS32.out _) rfl (by simp only [List.map_toArray, List.map_cons, List.map_nil]; rfl) rfl ?_
        refine hK.out _ _ ?_ (fun hHeld => ?_)
        · exact k3.alloc k3.size _
        clear hK K
        try simp only [Act.put, List.getElem_toArray, List.getElem_cons_zero, List.getElem_cons_succ, List.setIfInBounds_toArray, List.set_cons_zero, List.set_cons_succ]
        have ho4 := ho3.kept (below1 w3 (.cells (bv s).toArray 22)) (Nat.le_refl _)
        have hk4 := k3.alloc k3.size (.cells (bv s).toArray 22)
        have hc4 := (BlkIs.new w3 22 (bv s).toArray).sum
        refine wpAnyH_ready (rs := [13]) (by kernel_rfl) (by simp) ?_
        refine AllReadyH.cons rfl (fun K hK => ?_) AllReadyH.nil
        refine step_appH (.tmp 35) (.tmp 40) ho4 HS32.out hc4 rfl rfl rfl rfl HLEN.out hk4.size ?_; intro v5 w5 ho5 hb5
        refine hK.out _ _ ?_ (fun hHeld => ?_)
        · exact hk4.trans hb5
        clear hK K
        try simp only [Act.put, List.getElem_toArray, List.getElem_cons_zero, List.getElem_cons_succ, List.setIfInBounds_toArray, List.set_cons_zero, List.set_cons_succ]
        have k5 := hk4.trans hb5
        have HO5 := Lib.hid ho5
        have HK5 := Lib.hid k5
        clear ho5 k5 hb5 ho4 hc4 ho3 ho2 ho2'
        refine wpAnyH_take (i := 14) (v := v5) rfl (by kernel_rfl) (by kernel_rfl) (by kernel_rfl) (fun _ _ _ h => h) (Or.inl ⟨by rfl, fun w hS => by first | (go_simp; done) | (go_simp; with_reducible rfl)⟩) hHeld ?_
        try simp only [Act.put, List.getElem_toArray, List.getElem_cons_zero, List.getElem_cons_succ, List.setIfInBounds_toArray, List.set_cons_zero, List.set_cons_succ]
        refine wpAnyH_done (by kernel_rfl) ?_ _
        go_wp2_with fail
        go_ret
        exact ⟨_, rfl, HO5.out, HK5.out⟩
end Go.Proofs.YtlbmieeimnjncaaDoor
/- Contracts of Proof: the program's, the document's. Conditions: as stated at each. -/
namespace Go.Proofs.YtlbmieeimnjncaaDoor
set_option maxRecDepth 100000
open Go.RowKit Go
theorem store_new1 (w : World) (t : TypeId) (v u : Value) (hu : u.oneCell' = true) : (store ⟨w.heap.size, 0, none⟩ u).run Tryd.prog (w.alloc (.cells #[v] t)) = .ok () ((w.alloc (.cells #[v] t)).setCell ⟨w.heap.size, 0, none⟩ u) := by
  have h := BlkIs.new w t #[v]
  have h1 := h.cell 0
  have h2 := h.froz 0
  generalize w.alloc (.cells #[v] t) = W at *
  have h3 : W.cell? ⟨w.heap.size, 0, none⟩ = some v := h1
  rw [run_store _ _ _ _ _ hu]
  go_simp
set_option maxRecDepth 100000 in
set_option maxHeartbeats 1600000 in
theorem proof_yes (A : Option Addr) (n c i : Nat) (L : List (List UInt8)) (w : World) (hn : L.length = n) (hi : i < n) (h9 : n ≤ 100000) (hc : n ≤ c) (hm : c ≤ maxLen) (h : Hs w w.heap.size A L) (hg : Glob w) :
    Calls Tryd.prog 10 #[.slice A n c, .int .i64 i] w fun e w' => ∃ v, e = .returned (.tuple #[v, .int .i64 0]) ∧ OwnH w' w.heap.size v (wayS L i) ∧ Below w.heap.size w w' := by
  have GS := Lib.hid hg.size
  have i1 : ¬ (i : Int) < 0 := by omega
  have i2 : ¬ (n : Int) ≤ (i : Int) := by omega
  have hmf : ∀ (fn : Fn) (first cap : Array Value) (w : World), (Instr.makeFunc fn first cap).run Tryd.prog w = .ok (.func fn first cap) w := fun _ _ _ _ => rfl
  have HS : Hid (∀ W, Below w.heap.size w W → BlkIs W w.heap.size 49 #[.func (.func 18) #[] #[.pointer (some ⟨w.heap.size, 0, none⟩)]] → Calls Tryd.prog 18 #[.slice A n c, .int .i64 i, .pointer (some ⟨w.heap.size, 0, none⟩)] W (WayP W W.heap.size (wayS L i))) := Lib.hid fun W hb hG =>
    proof1_any w.heap.size n A n c i L W (Nat.le_refl _) hn (by omega) hi h9 hc hm ((h.below hb).more hb.size) hG (hg.below hb GS.out)
  have hst := store_new1 w 49 .nilFunc (.func (.func 18) #[] #[.pointer (some ⟨w.heap.size, 0, none⟩)]) rfl
  clear hn h hg
  go_enter Tryd.func10, Tryd.ntmps10
  go_wp2_with fail
  refine (HS.out _ (below1 w _) (BlkIs.new w _ _)).mono ?_
  rintro e w2 ⟨v, rfl, ho, hb2⟩
  have HO := Lib.hid (ho.more (by simp : w.heap.size ≤ _))
  have HB : Hid (Below w.heap.size w w2) := Lib.hid ((below1 w _).trans (hb2.mono (by simp)))
  clear ho hb2 hst
  go_wp2_with fail
  go_ret2
  exact ⟨_, rfl, HO.out, HB.out⟩
set_option maxHeartbeats 800000 in
theorem proof_no (A : Option Addr) (n c : Nat) (i : Int) (w : World) (hi : i < 0 ∨ (n : Int) ≤ i) :
    Calls Tryd.prog 10 #[.slice A n c, .int .i64 i] w fun e w' => e = .returned (.tuple #[.slice none 0 0, .int .i64 1]) ∧ w = w' := by
  by_cases i1 : i < 0
  · clear hi
    go_enter Tryd.func10, Tryd.ntmps10
    go_wp2_with fail
    go_ret2
    exact ⟨rfl, rfl⟩
  · have i1 : ¬ i < 0 := by omega
    have i2 : (n : Int) ≤ i := by omega
    clear hi
    go_enter Tryd.func10, Tryd.ntmps10
    go_wp2_with fail
    go_ret2
    exact ⟨rfl, rfl⟩
end Go.Proofs.YtlbmieeimnjncaaDoor
