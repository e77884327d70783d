/- Contracts of roots: the program's, the document's. Conditions: as stated at each. -/
import Derived.Test.YtlbmieeimnjncaaDoorMkRNode
namespace Go.Proofs.YtlbmieeimnjncaaDoor
set_option maxRecDepth 100000
open Go.RowKit Go
theorem cutH_hi (A : Option Addr) (L : List (List UInt8)) (n c k : Nat) {w : World} {B : Nat} (h : Hs w B A L) (hn : L.length = n) (hk : k ≤ n) (hc : n ≤ c) :
    ∃ A', (∀ w', (Instr.slice 23 (.slice A n c) (some (.int .i64 k)) none none).run Tryd.prog w' = .ok (.slice A' (n - k) (c - k)) w') ∧ Hs w B A' (L.drop k) := by
  refine ⟨_, fun w' => ?_, h.drop (k := k) c (by omega) (by omega)⟩
  obtain ⟨i, hi, hz, h0, h1⟩ := info_parts info26
  have e1 : (k : Int) ≤ (n : Int) := by omega
  simp [Instr.slice, run_underlying Tryd.underlying23, Instr.sliceBounds, Instr.sliceBound, asIntOf, Sem.run_bind, hk, sizeOf, typeInfo, hi, h0]
theorem cutH_lo (A : Option Addr) (n c k : Nat) (hk : k ≤ n) (hc : n ≤ c) (w' : World) : (Instr.slice 23 (.slice A n c) none (some (.int .i64 k)) none).run Tryd.prog w' = .ok (.slice A k c) w' := by
  obtain ⟨i, hi, hz, h0, h1⟩ := info_parts info26
  have e1 : (k : Int) ≤ (c : Int) := by omega
  have e2 : k ≤ c := by omega
  simp [Instr.slice, run_underlying Tryd.underlying23, Instr.sliceBounds, Instr.sliceBound, asIntOf, Sem.run_bind, e2, sizeOf, typeInfo, hi, add_0]
set_option maxRecDepth 100000 in
set_option maxHeartbeats 1600000 in
theorem root1_any (G : Nat) : ∀ (K : Nat) (A : Option Addr) (n c : Nat) (L : List (List UInt8)) (w : World), n ≤ K → L.length = n → 1 ≤ n → n ≤ 100000 → n ≤ c → c ≤ maxLen → Hs w w.heap.size A L →
    BlkIs w G 37 #[.func (.func 21) #[] #[.pointer (some ⟨G, 0, none⟩)]] → Glob w →
    Calls Tryd.prog 21 #[.slice A n c, .pointer (some ⟨G, 0, none⟩)] w fun e w' => e = .returned (.agg (bv (rootS L)).toArray) ∧ Below w.heap.size w w'
  | 0, A, n, c, L, w, hK, hn, h1, h9, hc, hm, h, hG, hg => by omega
  | K + 1, A, n, c, L, w, hK, hn, h1, h9, hc, hm, h, hG, hg => by
    have GS := Lib.hid hg.size
    have HR := Lib.hid (rootS_length h.1)
    by_cases h2 : n = 1
    · subst h2
      obtain ⟨x, rfl⟩ := List.length_eq_one_iff.1 hn
      obtain ⟨g, o, rfl, hgB, hrng⟩ := h.at_ (k := 0) (by simp)
      have hx : x.length = 32 := h.1 x (by simp)
      have hr1 : rootS [x] = x := rootS_one x
      rw [hr1]
      have HN := Lib.hid hn
      have HRG : Hid (∀ W', Below w.heap.size w W' → W'.rangeAt g o (bv x)) := Lib.hid fun W' hb => by
        have := range_below hrng hb hgB
        simpa using this
      have HI := Lib.hid (isz26s hx)
      have HIA := Lib.hid (isz26a hx)
      have HA := Lib.hid (bv_all x)
      have HX32 : Hid ((bv x).toArray.size = 32) := Lib.hid (by rw [List.size_toArray, bv_length, hx])
      clear hrng hx hr1 HR hn h hG
      go_enter Tryd.func21, Tryd.ntmps21
      go_wp2_with (first
        | (refine wpList_load_mid rfl 22 (.tmp 9) rfl g o rfl (bv x) _ (HRG.out _ (below1 w _)) Tryd.underlying22 rfl HI.out ?_)
        | (refine store_bl (.tmp 3) (.tmp 10) 22 w.heap.size 22 _ (bv x).toArray (BlkIs.new w _ _) rfl rfl rfl rfl rfl HIA.out (by rw [HX32.out]; rfl) HA.out ?_; intro w4 hb4 ht4)
        | fail)
      refine ret_blk rfl w.heap.size 22 _ hb4 _ rfl Tryd.underlying22 rfl HIA.out rfl ⟨rfl, ?_⟩
      exact (below1 w _).trans (ht4.below (by simp) (fun i hi h => by omega))
    · have h2' : 2 ≤ n := by omega
      have n1 : ¬ (n : Int) = 1 := by omega
      obtain ⟨k, hk⟩ : ∃ k, k = spl n := ⟨_, rfl⟩
      have hk1 : 1 ≤ k := by rw [hk]; exact spl_pos n
      have hkn : k < n := by rw [hk]; exact spl_lt h2'
      have HC : Hid (∀ w, Calls Tryd.prog 19 #[.int .i64 n] w fun e w' => e = .returned (.int .i64 k) ∧ w = w') := Lib.hid fun w => by rw [hk]; exact cut_any n w h2' (by omega)
      have hrt : rootS L = nodeS (rootS (L.take k)) (rootS (L.drop k)) := by rw [hk, ← hn]; exact rootS_two (by omega)
      rw [hrt]
      obtain ⟨A', hhi, hdr⟩ := cutH_hi A L n c k h hn (by omega) hc
      have hlo := cutH_lo A n c k (by omega) hc
      have hG1 : Hid (∀ W, Below w.heap.size w W → BlkIs W G 37 #[.func (.func 21) #[] #[.pointer (some ⟨G, 0, none⟩)]]) := Lib.hid fun W hb => (hb.block G hG.lt).trans hG
      have HF : Hid (∀ W, Below w.heap.size w W → W.cell? ⟨G, 0, none⟩ = some (.func (.func 21) #[] #[.pointer (some ⟨G, 0, none⟩)])) := Lib.hid fun W hb => (hG1.out W hb).cell 0
      have IH1 : Hid (∀ W, Below w.heap.size w W → Calls Tryd.prog 21 #[.slice A k c, .pointer (some ⟨G, 0, none⟩)] W fun e w' => e = .returned (.agg (bv (rootS (L.take k))).toArray) ∧ Below W.heap.size W w') := Lib.hid fun W hb =>
        root1_any G K A k c (L.take k) W (by omega) (by rw [List.length_take]; omega) hk1 (by omega) (by omega) hm (((h.take k).below hb).more hb.size) (hG1.out W hb) (hg.below hb GS.out)
      have IH2 : Hid (∀ W, Below w.heap.size w W → Calls Tryd.prog 21 #[.slice A' (n - k) (c - k), .pointer (some ⟨G, 0, none⟩)] W fun e w' => e = .returned (.agg (bv (rootS (L.drop k))).toArray) ∧ Below W.heap.size W w') := Lib.hid fun W hb =>
        root1_any G K A' (n - k) (c - k) (L.drop k) W (by omega) (by rw [List.length_drop]; omega) (by omega) (by omega) (by omega) (by omega) ((hdr.below hb).more hb.size) (hG1.out W hb) (hg.below hb GS.out)
      have HND : Hid (∀ W, Below w.heap.size w W → Calls Tryd.prog 12 #[.agg (bv (rootS (L.take k))).toArray, .agg (bv (rootS (L.drop k))).toArray] W fun e w' => e = .returned (.agg (bv (nodeS (rootS (L.take k)) (rootS (L.drop k)))).toArray) ∧ Below W.heap.size W w') := Lib.hid fun W hb =>
        node_any _ _ W (rootS_length (h.1.take k)) (rootS_length (h.1.drop k)) (hg.below hb GS.out)
      have HXL : (nodeS (rootS (L.take k)) (rootS (L.drop k))).length = 32 := nodeS_length _ _
      generalize nodeS (rootS (L.take k)) (rootS (L.drop k)) = s at *
      have HI := Lib.hid (isz26a HXL)
      have HA := Lib.hid (bv_all s)
      have HX32 : Hid ((bv s).toArray.size = 32) := Lib.hid (by rw [List.size_toArray, bv_length, HXL])
      generalize (bv s).toArray = X at *
      generalize (bv (rootS (L.take k))).toArray = X1 at *
      generalize (bv (rootS (L.drop k))).toArray = X2 at *
      have hGlt := hG.lt
      have hlo' : Hid (∀ w', (Instr.slice 23 (.slice A n c) none (some (.int .i64 k)) none).run Tryd.prog w' = .ok (.slice A k c) w') := Lib.hid hlo
      have hhi' : Hid (∀ w', (Instr.slice 23 (.slice A n c) (some (.int .i64 k)) none none).run Tryd.prog w' = .ok (.slice A' (n - k) (c - k)) w') := Lib.hid hhi
      clear hrt hk hn h hdr hG hg HXL hlo hhi HR
      go_enter Tryd.func21, Tryd.ntmps21
      go_wp2_with fail
      refine (HC.out _).mono ?_
      rintro e w1 ⟨rfl, e1⟩
      have hb1 : Below w.heap.size w w1 := e1 ▸ below1 w _
      have hr1 : ∃ z, BlkIs w1 w.heap.size 22 z ∧ z.size = 32 := e1 ▸ ⟨_, BlkIs.new w _ _, rfl⟩
      clear e1
      obtain ⟨z0, hr1, hz0⟩ := hr1
      have HZ0 : Hid (z0.size = X.size) := Lib.hid (by rw [hz0, HX32.out])
      have hlt1 := hr1.lt
      have k1 : Below w1.heap.size w1 w1.drew := (Below.refl _ w1).drew
      clear hz0
      go_wp2_with fail
      refine wp_region_held_drew (S := (fun W => Below w.heap.size w W)) (by kernel_rfl) (hb1.drew) (fun hHeld => ?_)
      refine wpAnyH_take (i := 0) (v := .func (.func 21) #[] #[.pointer (some ⟨G, 0, none⟩)]) rfl (by kernel_rfl) (by kernel_rfl) (by kernel_rfl) (fun _ _ _ h => h) (Or.inl ⟨by rfl, fun w hS => by (have hc := HF.out w hS; first | (go_simp; done) | (go_simp; with_reducible rfl))⟩) hHeld ?_
      try simp only [Act.put, List.getElem_toArray, List.getElem_cons_zero, List.setIfInBounds_toArray, List.set_cons_zero, List.set_cons_succ]
      refine wpAnyH_take (i := 1) (v := .slice A n c) rfl (by kernel_rfl) (by kernel_rfl) (by kernel_rfl) (fun _ _ _ h => h) (Or.inl ⟨by rfl, fun w hS => by first | (go_simp; done) | (go_simp; with_reducible rfl)⟩) hHeld ?_
      try simp only [Act.put, List.getElem_toArray, List.getElem_cons_zero, List.getElem_cons_succ, List.setIfInBounds_toArray, List.set_cons_zero, List.set_cons_succ]
      refine wpAnyH_take (i := 2) (v := .int .i64 k) rfl (by kernel_rfl) (by kernel_rfl) (by kernel_rfl) (fun _ _ _ h => h) (Or.inl ⟨by rfl, fun w hS => by first | (go_simp; done) | (go_simp; with_reducible rfl)⟩) hHeld ?_
      try simp only [Act.put, List.getElem_toArray, List.getElem_cons_zero, List.getElem_cons_succ, List.setIfInBounds_toArray, List.set_cons_zero, List.set_cons_succ]
      refine wpAnyH_take (i := 3) (v := .slice A k c) rfl (by kernel_rfl) (by kernel_rfl) (by kernel_rfl) (fun _ _ _ h => h) (Or.inl ⟨by rfl, fun w hS => by (have hc := hlo'.out; first | (go_simp; done) | (go_simp; with_reducible rfl))⟩) hHeld ?_
      try simp only [Act.put, List.getElem_toArray, List.getElem_cons_zero, List.getElem_cons_succ, List.setIfInBounds_toArray, List.set_cons_zero, List.set_cons_succ]
      refine wpAnyH_take (i := 5) (v := .func (.func 21) #[] #[.pointer (some ⟨G, 0, none⟩)]) rfl (by kernel_rfl) (by kernel_rfl) (by kernel_rfl) (fun _ _ _ h => h) (Or.inl ⟨by rfl, fun w hS => by (have hc := HF.out w hS; first | (go_simp; done) | (go_simp; with_reducible rfl))⟩) hHeld ?_
      try simp only [Act.put, List.getElem_toArray, List.getElem_cons_zero, List.getElem_cons_succ, List.setIfInBounds_toArray, List.set_cons_zero, List.set_cons_succ]
      refine wpAnyH_take (i := 6) (v := .slice A n c) rfl (by kernel_rfl) (by kernel_rfl) (by kernel_rfl) (fun _ _ _ h => h) (Or.inl ⟨by rfl, fun w hS => by first | (go_simp; done) | (go_simp; with_reducible rfl)⟩) hHeld ?_
      try simp only [Act.put, List.getElem_toArray, List.getElem_cons_zero, List.getElem_cons_succ, List.setIfInBounds_toArray, List.set_cons_zero, List.set_cons_succ]
      refine wpAnyH_take (i := 7) (v := .int .i64 k) rfl (by kernel_rfl) (by kernel_rfl) (by kernel_rfl) (fun _ _ _ h => h) (Or.inl ⟨by rfl, fun w hS => by first | (go_simp; done) | (go_simp; with_reducible rfl)⟩) hHeld ?_
      try simp only [Act.put, List.getElem_toArray, List.getElem_cons_zero, List.getElem_cons_succ, List.setIfInBounds_toArray, List.set_cons_zero, List.set_cons_succ]
      refine wpAnyH_take (i := 8) (v := .slice A' (n - k) (c - k)) rfl (by kernel_rfl) (by kernel_rfl) (by kernel_rfl) (fun _ _ _ h => h) (Or.inl ⟨by rfl, fun w hS => by (have hc := hhi'.out; first | (go_simp; done) | (go_simp; with_reducible rfl))⟩) hHeld ?_
      try simp only [Act.put, List.getElem_toArray, List.getElem_cons_zero, List.getElem_cons_succ, List.setIfInBounds_toArray, List.set_cons_zero, List.set_cons_succ]
      refine wpAnyH_ready (rs := [4]) (by kernel_rfl) (by simp) ?_
      refine AllReadyH.cons rfl (fun K hK => ?_) AllReadyH.nil
      go_simp
      go_wp2_with (go_at_call 21; refine (IH1.out _ hHeld).mono ?_; clear IH1; rintro e w2 ⟨rfl, hb2⟩; have k2 := k1.trans (hb2.mono k1.size))
      refine hK.out _ _ ?_ (fun hHeld => ?_)
      · exact hHeld.trans (hb2.mono hHeld.size)
      clear hK K
      try simp only [Act.put, List.getElem_toArray, List.getElem_cons_zero, List.getElem_cons_succ, List.setIfInBounds_toArray, List.set_cons_zero, List.set_cons_succ]
      refine wpAnyH_ready (rs := [9]) (by kernel_rfl) (by simp) ?_
      refine AllReadyH.cons rfl (fun K hK => ?_) AllReadyH.nil
      go_simp
      go_wp2_with (go_at_call 21; refine (IH2.out _ hHeld).mono ?_; clear IH2; rintro e w3 ⟨rfl, hb3⟩; have k3 := k2.trans (hb3.mono k2.size))
      refine hK.out _ _ ?_ (fun hHeld => ?_)
      · exact hHeld.trans (hb3.mono hHeld.size)
      clear hK K
      try simp only [Act.put, List.getElem_toArray, List.getElem_cons_zero, List.getElem_cons_succ, List.setIfInBounds_toArray, List.set_cons_zero, List.set_cons_succ]
      refine wpAnyH_ready (rs := [10]) (by kernel_rfl) (by simp) ?_
      refine AllReadyH.cons rfl (fun K hK => ?_) AllReadyH.nil
      go_simp
      go_wp2_with (go_at_call 12; refine (HND.out _ hHeld).mono ?_; clear HND; rintro e w4 ⟨rfl, hb4⟩; have k4 := k3.trans (hb4.mono k3.size))
      refine hK.out _ _ ?_ (fun hHeld => ?_)
      · exact hHeld.trans (hb4.mono hHeld.size)
      clear hK K
      try simp only [Act.put, List.getElem_toArray, List.getElem_cons_zero, List.getElem_cons_succ, List.setIfInBounds_toArray, List.set_cons_zero, List.set_cons_succ]
      have hr4 := (k4.block _ hlt1).trans hr1
      have hb4' : Below w.heap.size w w4 := hb1.trans (k4.mono (by omega))
      refine wpAnyH_ready (rs := [11]) (by kernel_rfl) (by simp) ?_
      refine AllReadyH.cons rfl (fun K hK => ?_) AllReadyH.nil
      refine step_store (.tmp 3) (.tmp 24) 22 w.heap.size 22 z0 X hr4 rfl rfl rfl rfl rfl HI.out HZ0.out HA.out ?_; intro w5 hb5 ht5
      refine hK.out _ _ ?_ (fun hHeld => ?_)
      · exact hb4'.trans (ht5.below hb4'.size (fun i hi h => by omega))
      clear hK K
      try simp only [Act.put, List.getElem_toArray, List.getElem_cons_zero, List.getElem_cons_succ, List.setIfInBounds_toArray, List.set_cons_zero, List.set_cons_succ]
      refine wpAnyH_done (by kernel_rfl) ?_ _
      go_wp2_with fail
      exact ret_blk rfl w.heap.size 22 X hb5 _ rfl Tryd.underlying22 rfl HI.out rfl ⟨rfl, hHeld⟩
end Go.Proofs.YtlbmieeimnjncaaDoor
/- Contracts of Root: the program's, the document's. Conditions: as stated at each. -/
namespace Go.Proofs.YtlbmieeimnjncaaDoor
set_option maxRecDepth 100000
open Go.RowKit Go
theorem store_new2 (w : World) (t : TypeId) (v u : Value) (hu : u.oneCell' = true) (o : Obj) : (store ⟨w.heap.size + 1, 0, none⟩ u).run Tryd.prog ((w.alloc o).alloc (.cells #[v] t)) = .ok () (((w.alloc o).alloc (.cells #[v] t)).setCell ⟨w.heap.size + 1, 0, none⟩ u) := by
  have h := BlkIs.new_at (w.alloc o) t #[v] (w.heap.size + 1) (by simp)
  have h1 := h.cell 0
  have h2 := h.froz 0
  generalize (w.alloc o).alloc (.cells #[v] t) = W at *
  have h3 : W.cell? ⟨w.heap.size + 1, 0, none⟩ = some v := h1
  rw [run_store _ _ _ _ _ hu]
  go_simp
set_option maxRecDepth 100000 in
set_option maxHeartbeats 1600000 in
theorem root_any (A : Option Addr) (n c : Nat) (L : List (List UInt8)) (w : World) (hn : L.length = n) (h9 : n ≤ 100000) (hc : n ≤ c) (hm : c ≤ maxLen) (h : Hs w w.heap.size A L) (hg : Glob w) :
    Calls Tryd.prog 11 #[.slice A n c] w fun e w' => e = .returned (.agg (bv (rootS L)).toArray) ∧ Below w.heap.size w w' := by
  have GS := Lib.hid hg.size
  have HL := rootS_length h.1
  have HI := Lib.hid (isz26a HL)
  have HA := Lib.hid (bv_all (rootS L))
  have HX32 : Hid ((bv (rootS L)).toArray.size = 32) := Lib.hid (by rw [List.size_toArray, bv_length, HL])
  by_cases h0 : n = 0
  · subst h0
    have hL := List.eq_nil_of_length_eq_zero hn
    have HS : Hid (∀ W, Below w.heap.size w W → Calls Tryd.prog 20 #[.slice none 0 0] W fun e w' => e = .returned (.agg (bv (rootS L)).toArray) ∧ Below W.heap.size W w') := Lib.hid fun W hb => by
      rw [hL, rootS_nil]
      exact sum_any none 0 0 [] W Cs.nil (Nat.zero_le _) (by simp) (by unfold maxLen; omega) (by simp) (hg.below hb GS.out)
    generalize (bv (rootS L)).toArray = X at *
    clear hL hn h hg HL
    go_enter Tryd.func11, Tryd.ntmps11
    go_wp2_with fail
    refine (HS.out _ (below1 w _)).mono ?_
    rintro e w2 ⟨rfl, hb2⟩
    have hr2 : ∃ z, BlkIs w2 w.heap.size 22 z ∧ z.size = 32 := ⟨_, (hb2.block _ (by simp)).trans (BlkIs.new w _ _), rfl⟩
    have hbl : Below w.heap.size w w2 := (below1 w _).trans (hb2.mono (by simp))
    obtain ⟨z0, hr, hz0⟩ := hr2
    have HZ0 : Hid (z0.size = X.size) := Lib.hid (by rw [hz0, HX32.out])
    have HB := Lib.hid hbl
    clear hz0 hbl hb2
    go_wp2_with (first
      | (refine store_bl (.tmp 2) (.tmp 7) 22 w.heap.size 22 z0 X hr rfl rfl rfl rfl rfl HI.out HZ0.out HA.out ?_; intro w4 hb4 ht4)
      | fail)
    exact ret_blk rfl w.heap.size 22 X hb4 _ rfl Tryd.underlying22 rfl HI.out rfl ⟨rfl, HB.out.trans (ht4.below HB.out.size (fun i hi h => by omega))⟩
  · have n0 : ¬ (n : Int) = 0 := by omega
    have n0' : ((n : Int) == 0) = false := by simpa using n0
    have hmf : ∀ (fn : Fn) (first cap : Array Value) (w : World), (Instr.makeFunc fn first cap).run Tryd.prog w = .ok (.func fn first cap) w := fun _ _ _ _ => rfl
    have HS : Hid (∀ W, Below w.heap.size w W → BlkIs W (w.heap.size + 1) 37 #[.func (.func 21) #[] #[.pointer (some ⟨w.heap.size + 1, 0, none⟩)]] →
        Calls Tryd.prog 21 #[.slice A n c, .pointer (some ⟨w.heap.size + 1, 0, none⟩)] W fun e w' => e = .returned (.agg (bv (rootS L)).toArray) ∧ Below W.heap.size W w') := Lib.hid fun W hb hG =>
      root1_any (w.heap.size + 1) n A n c L W (Nat.le_refl _) hn (by omega) h9 hc hm ((h.below hb).more hb.size) hG (hg.below hb GS.out)
    generalize (bv (rootS L)).toArray = X at *
    have hst := store_new2 w 37 .nilFunc (.func (.func 21) #[] #[.pointer (some ⟨w.heap.size + 1, 0, none⟩)]) rfl
    clear hn h hg HL
    go_enter Tryd.func11, Tryd.ntmps11
    go_wp2_with fail
    have hb1 := below2 w (.cells (bv (List.replicate 32 0)).toArray 22) (.cells #[.func (.func 21) #[] #[.pointer (some ⟨w.heap.size + 1, 0, none⟩)]] 37)
    have hG := BlkIs.new_at (w.alloc (.cells (bv (List.replicate 32 0)).toArray 22)) 37 #[.func (.func 21) #[] #[.pointer (some ⟨w.heap.size + 1, 0, none⟩)]] (w.heap.size + 1) (by simp)
    have hr1 := (BlkIs.new w 22 (bv (List.replicate 32 0)).toArray).alloc (.cells #[.func (.func 21) #[] #[.pointer (some ⟨w.heap.size + 1, 0, none⟩)]] 37)
    refine (HS.out _ hb1 hG).mono ?_
    rintro e w2 ⟨rfl, hb2⟩
    have hr2 : ∃ z, BlkIs w2 w.heap.size 22 z ∧ z.size = 32 := ⟨_, (hb2.block _ hr1.lt).trans hr1, rfl⟩
    have hbl : Below w.heap.size w w2 := hb1.trans (hb2.mono hb1.size)
    obtain ⟨z0, hr, hz0⟩ := hr2
    have HZ0 : Hid (z0.size = X.size) := Lib.hid (by rw [hz0, HX32.out])
    have HB := Lib.hid hbl
    clear hz0 hbl hb2 hr1 hG hb1 hst
    go_wp2_with (first
      | (refine store_bl (.tmp 2) (.tmp 11) 22 w.heap.size 22 z0 X hr rfl rfl rfl rfl rfl HI.out HZ0.out HA.out ?_; intro w4 hb4 ht4)
      | fail)
    exact ret_blk rfl w.heap.size 22 X hb4 _ rfl Tryd.underlying22 rfl HI.out rfl ⟨rfl, HB.out.trans (ht4.below HB.out.size (fun i hi h => by omega))⟩
end Go.Proofs.YtlbmieeimnjncaaDoor
