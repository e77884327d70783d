/- RcWrB. Conditions: as stated at each. -/
import Derived.Test.YteapnkedpmcokaaGreatDoorRm33
import Derived.Test.YteapnkedpmcokaaGreatDoorRm35
/- The writer's purged and seal. Conditions: as stated at each. -/
namespace Go.Proofs.YteapnkedpmcokaaGreatDoor
set_option maxRecDepth 100000
namespace Rc
open Go.RowKit Go Go.Proofs.YteapnkedpmcokaaGreatDoor.Pa
attribute [local go_sem] Oper.semAt_some
theorem pc_33 {leaf : L} (h : leaf.length = 32) (i t : Int) : (pc i t leaf)[33]? = some (.int .i64 t) := by
  unfold pc
  rw [List.getElem?_append_right (by simp), List.getElem?_append_right (by simp [bv_length, h])]
  simp [bv_length, h]
theorem numS_lt (b : L) : numS b < 4294967296 := by
  unfold numS
  have h0 := (b.getD 0 0).toNat_lt
  have h1 := (b.getD 1 0).toNat_lt
  have h2 := (b.getD 2 0).toNat_lt
  have h3 := (b.getD 3 0).toNat_lt
  omega
/-- a seal is read again from its bytes just if its numbers have their bounds. -/
theorem seal_same {s : Sl} (hs : s.ok) : ((parseR (bytesS s)).2 = 0 ∧ eqS (parseR (bytesS s)).1 s = true ∧ sealB s = true) ∨ (sealB s = false ∧ ((parseR (bytesS s)).2 = 60 ∨ ((parseR (bytesS s)).2 = 0 ∧ eqS (parseR (bytesS s)).1 s = false))) := by
  have hl := bytesS_length hs
  unfold parseR
  by_cases h : (bytesS s).length = 72 ∧ 1 ≤ (parseS (bytesS s)).seg ∧ (parseS (bytesS s)).seg ≤ 999999
  · rw [if_pos h]
    by_cases e : parseS (bytesS s) = s
    · refine .inl ⟨rfl, eqS_iff.2 e, ?_⟩
      have h1 := h.2
      have h3 : (s.count : Int) = (numS ((bytesS s).drop 4) : Int) := by conv => lhs; rw [← e]
                                                                         rfl
      have h4 := numS_lt ((bytesS s).drop 4)
      rw [e] at h1
      unfold sealB
      rw [decide_eq_true_eq]
      omega
    · refine .inr ⟨?_, .inr ⟨rfl, ?_⟩⟩
      · cases hq : sealB s with
        | false => rfl
        | true =>
          unfold sealB at hq
          rw [decide_eq_true_eq] at hq
          exact absurd (parse_bytes hs (by omega) (by omega) hq.2.2.1 hq.2.2.2) e
      · cases hq : eqS (parseS (bytesS s)) s with
        | false => rfl
        | true => exact absurd (eqS_iff.1 hq) e
  · rw [if_neg h]
    refine .inr ⟨?_, .inl rfl⟩
    cases hq : sealB s with
    | false => rfl
    | true =>
      unfold sealB at hq
      rw [decide_eq_true_eq] at hq
      have e := parse_bytes hs (by omega) (by omega) hq.2.2.1 hq.2.2.2
      exact absurd ⟨hl, by rw [e]; exact hq.1, by rw [e]; exact hq.2.1⟩ h
set_option maxHeartbeats 3200000 in
theorem wpurged_any {W : World} {g M B : Nat} {X : List Value} {vb : Value} {l : L} {r : R} (hW : WrS W g X vb) (hO : Own5 W M vb l) (hR : RecAt W B X r) (hM : M ≤ W.heap.size) (hl : l.length ≤ 100) :
    Calls Tryz.prog 104 #[.pointer (some ⟨g, 0, none⟩)] W (WrP W g M X (decide (1 ≤ r.pid ∧ r.pid ≤ 1099511627776 ∧ 0 ≤ r.pat)) 160 (l ++ (eightB r.pid ++ (eightB r.pat ++ r.leaf)))) := by
  obtain ⟨v1, v2, rfl, _, hk⟩ := hR
  have HY := Lib.hid (fields hW.rng hk).p
  have HLF := Lib.hid hk.leaf
  have HI : Hid ((Tryz.prog.info? 30).map (·.size) = some (pc r.pid r.pat r.leaf).length) := Lib.hid (by rw [pc_length hk.leaf]; exact isz_p)
  have HSZ : Hid ((pc r.pid r.pat r.leaf).toArray.size = 34) := Lib.hid (by rw [List.size_toArray, pc_length hk.leaf])
  have HALL : Hid ((pc r.pid r.pat r.leaf).toArray.all (·.oneCell') = true) := Lib.hid (Array.all_eq_true_iff_forall_mem.2 fun u hu => by
    have hu' : u ∈ pc r.pid r.pat r.leaf := by simpa using hu
    simp only [pc, List.mem_append, List.mem_cons, List.not_mem_nil, or_false] at hu'
    rcases hu' with rfl | hu' | rfl
    · rfl
    · exact bv_one _ u hu'
    · rfl)
  have H0 : Hid ((pc r.pid r.pat r.leaf)[0]? = some (.int .i64 r.pid)) := Lib.hid rfl
  have H33 := Lib.hid (pc_33 hk.leaf r.pid r.pat)
  have HBT : Hid (∀ (w : World) (P : Nat), BlkIs w P 30 (pc r.pid r.pat r.leaf).toArray → Bts w (P + 1) (some ⟨P, 1, none⟩) r.leaf) := Lib.hid fun w P hb j u hj => by
    have h1 : w.rangeAt P 0 ([.int .i64 r.pid] ++ (bv r.leaf ++ [.int .i64 r.pat])) := blk_rng hb
    have h2 := rng_l (rng_r h1 (n := 1) rfl)
    exact ⟨_, rfl, Nat.lt_succ_self _, by rw [add_at]; exact h2 j u hj⟩
  have HW := Lib.hid hW
  have HO := Lib.hid hO
  clear hk hW hO
  generalize rc r v1 v2 = X at *
  generalize pc r.pid r.pat r.leaf = Y at *
  generalize r.pid = i at *
  generalize r.pat = t at *
  generalize r.leaf = lf at *
  have hgl := HW.out.lt
  have HIA : Hid ((Tryz.prog.info? 30).map (·.size) = some Y.toArray.size) := Lib.hid (by rw [HSZ.out]; exact isz_p)
  go_enter Tryz.func104, Tryz.ntmps104
  go_upto_region 1 with (first
    | (refine wpList_load_mid rfl 30 (.tmp 6) rfl g 7 rfl Y _ HY.out Tryz.underlying30 rfl HI.out ?_)
    | (refine store_bl (.tmp 2) (.tmp 7) 30 W.heap.size 30 _ Y.toArray (BlkIs.new W _ _) rfl rfl rfl rfl rfl HIA.out (by rw [HSZ.out]; rfl) HALL.out ?_; intro w3 hb3 ht3)
    | fail)
  have hbW : Below W.heap.size W w3 := ((Below.refl _ W).alloc (Nat.le_refl _) _).trans (ht3.below (by simp) (fun i hi h => by omega))
  have HW3 := Lib.hid (HW.out.below hbW hgl)
  have HO3 := Lib.hid (own_kept HO.out hbW (Nat.le_refl _))
  have HF3 : Hid (Fr g M W w3) := Lib.hid (fr_below hbW)
  have hsz3 := hbW.size
  have HP3 := Lib.hid hb3
  have c0 : w3.cell? ⟨W.heap.size, 0, none⟩ = some (.int .i64 i) := hb3.get H0.out
  have c33 : w3.cell? ⟨W.heap.size, 33, none⟩ = some (.int .i64 t) := hb3.get H33.out
  have hne : W.heap.size ≠ g := by omega
  clear hb3 ht3 hbW HI HIA HSZ HALL HY HW HO H0
  by_cases h1 : 1 ≤ i
  · by_cases h2 : i ≤ 1099511627776
    · by_cases h3 : 0 ≤ t
      · have HQ : Hid (decide (1 ≤ i ∧ i ≤ 1099511627776 ∧ 0 ≤ t) = true) := Lib.hid (decide_eq_true ⟨h1, h2, h3⟩)
        generalize decide (1 ≤ i ∧ i ≤ 1099511627776 ∧ 0 ≤ t) = ok at *
        go_wp2_with (first
          | (go_at_call 60; refine (need_t (by first | rfl | (simp; done)) _).mono ?_; rintro e w' ⟨rfl, rfl⟩)
          | fail)
        refine (wnumber_any i HW3.out HO3.out (by omega) (by omega)).mono ?_
        rintro e w4 ⟨rfl, hF4, vb4, hW4, hO4⟩
        have HP4 := Lib.hid (hF4.kp _ _ _ hne (by decide) HP3.out)
        have HF4 := Lib.hid (HF3.out.trans hF4)
        have HW4 := Lib.hid hW4
        have HO4 := Lib.hid hO4
        have c33b : w4.cell? ⟨W.heap.size, 33, none⟩ = some (.int .i64 t) := HP4.out.get H33.out
        have hsz4 := HF4.out.size
        clear hF4 hW4 hO4 c0 c33 HP3 HW3 HO3 HF3 hsz3
        go_wp2_with fail
        refine (wnumber_any t HW4.out HO4.out (by omega) (by simp [eightB]; omega)).mono ?_
        rintro e w5 ⟨rfl, hF5, vb5, hW5, hO5⟩
        have HP5 := Lib.hid (hF5.kp _ _ _ hne (by decide) HP4.out)
        have HF5 := Lib.hid (HF4.out.trans hF5).drew
        have hbt := HBT.out w5 W.heap.size HP5.out
        have HBT5 : Hid (Bts w5.drew (W.heap.size + 1) (some ⟨W.heap.size, 1, none⟩) lf) := Lib.hid (hbt.below (Below.drew (Below.refl (W.heap.size + 1) w5)))
        have HW5 : Hid (WrS w5.drew g X vb5) := Lib.hid ⟨hW5.blk, hW5.len⟩
        have HO5 : Hid (Own5 w5.drew M vb5 (l ++ eightB i ++ eightB t)) := Lib.hid hO5
        have hsz5 : W.heap.size ≤ w5.drew.heap.size := HF5.out.size
        clear hF5 hW5 hO5 c33b HP4 HW4 HO4 HF4 hsz4 hbt HP5 HBT H33
        go_wp2_with fail
        generalize hlt : l ++ eightB i ++ eightB t = lt at *
        have HLT : Hid (lt.length ≤ 116) := Lib.hid (by rw [← hlt]; simp [eightB]; omega)
        have HLQ : Hid (l ++ (eightB i ++ (eightB t ++ lf)) = lt ++ lf) := Lib.hid (by rw [← hlt]; simp)
        clear hlt
        refine wp_region_key ((fun Y => WrS Y g X vb5)) 10 (by kernel_rfl) (HW5.out) (fun hHeld => ?_)
        generalize w5.drew = w6 at *
        refine wpAnyK_take (i := 0) (v := .pointer (some ⟨g, 0, none⟩)) rfl (by kernel_rfl) (by kernel_rfl) (by kernel_rfl) (by kernel_rfl) (fun _ _ _ h => h) (Or.inl ⟨by rfl, fun w hS => by first | (go_simp; done) | (go_simp; with_reducible rfl)⟩) hHeld ?_
        try simp only [Act.put, List.getElem_toArray, List.getElem_cons_zero, List.setIfInBounds_toArray, List.set_cons_zero, List.set_cons_succ]
        refine wpAnyK_take (i := 1) (v := .pointer (some ⟨g, 0, none⟩)) rfl (by kernel_rfl) (by kernel_rfl) (by kernel_rfl) (by kernel_rfl) (fun _ _ _ h => h) (Or.inl ⟨by rfl, fun w hS => by first | (go_simp; done) | (go_simp; with_reducible rfl)⟩) hHeld ?_
        try simp only [Act.put, List.getElem_toArray, List.getElem_cons_zero, List.getElem_cons_succ, List.setIfInBounds_toArray, List.set_cons_zero, List.set_cons_succ]
        refine wpAnyK_take (i := 2) (v := .pointer (some ⟨g, 0, none⟩)) rfl (by kernel_rfl) (by kernel_rfl) (by kernel_rfl) (by kernel_rfl) (fun _ _ _ h => h) (Or.inl ⟨by rfl, fun w hS => by (have c := hS.b; first | (go_simp; done) | (go_simp; with_reducible rfl))⟩) hHeld ?_
        try simp only [Act.put, List.getElem_toArray, List.getElem_cons_zero, List.getElem_cons_succ, List.setIfInBounds_toArray, List.set_cons_zero, List.set_cons_succ]
        refine wpAnyK_take (i := 3) (v := .pointer (some ⟨g, 109, none⟩)) rfl (by kernel_rfl) (by kernel_rfl) (by kernel_rfl) (by kernel_rfl) (fun _ _ _ h => h) (Or.inl ⟨by rfl, fun w hS => by first | (go_simp; done) | (go_simp; with_reducible rfl)⟩) hHeld ?_
        try simp only [Act.put, List.getElem_toArray, List.getElem_cons_zero, List.getElem_cons_succ, List.setIfInBounds_toArray, List.set_cons_zero, List.set_cons_succ]
        refine wpAnyK_take (i := 4) (v := vb5) rfl (by kernel_rfl) (by kernel_rfl) (by kernel_rfl) (by kernel_rfl) (fun _ _ _ h => h) (Or.inl ⟨by rfl, fun w hS => by (have c := hS.b; first | (go_simp; done) | (go_simp; with_reducible rfl))⟩) hHeld ?_
        try simp only [Act.put, List.getElem_toArray, List.getElem_cons_zero, List.getElem_cons_succ, List.setIfInBounds_toArray, List.set_cons_zero, List.set_cons_succ]
        refine wpAnyK_take (i := 5) (v := .pointer (some ⟨W.heap.size, 1, none⟩)) rfl (by kernel_rfl) (by kernel_rfl) (by kernel_rfl) (by kernel_rfl) (fun _ _ _ h => h) (Or.inl ⟨by rfl, fun w hS => by first | (go_simp; done) | (go_simp; with_reducible rfl)⟩) hHeld ?_
        try simp only [Act.put, List.getElem_toArray, List.getElem_cons_zero, List.getElem_cons_succ, List.setIfInBounds_toArray, List.set_cons_zero, List.set_cons_succ]
        refine wpAnyK_take (i := 6) (v := .slice (some ⟨W.heap.size, 1, none⟩) 32 32) rfl (by kernel_rfl) (by kernel_rfl) (by kernel_rfl) (by kernel_rfl) (fun _ _ _ h => h) (Or.inl ⟨by rfl, fun w hS => by (have hsl := isl26o W.heap.size 1; first | (go_simp; done) | (go_simp; with_reducible rfl))⟩) hHeld ?_
        try simp only [Act.put, List.getElem_toArray, List.getElem_cons_zero, List.getElem_cons_succ, List.setIfInBounds_toArray, List.set_cons_zero, List.set_cons_succ]
        refine wpAnyK_ready (rs := [7]) (by kernel_rfl) (by simp) ?_
        refine AllReadyK.cons rfl (fun K hK => ?_) AllReadyK.nil
        (refine En.step5 (.tmp 34) (.tmp 36) rfl rfl (N := M) (l := lt) (m := lf) rfl HO5.out (B := W.heap.size + 1) (c := 32) (by rw [HLF.out]; rfl) HBT5.out (by have := HLT.out; rw [HLF.out]; omega) (by omega) ?_; intro v7 w7 h7 g7; obtain ⟨A7, c7, rfl, _, _⟩ := own_slice h7)
        refine hK.out _ _ ?_ (fun hHeld => ?_)
        · exact HW5.out.own HO5.out g7
        clear hK K
        try simp only [Act.put, List.getElem_toArray, List.getElem_cons_zero, List.getElem_cons_succ, List.setIfInBounds_toArray, List.set_cons_zero, List.set_cons_succ]
        have HF7 : Hid (Fr g M W w7) := Lib.hid (Fr.app HF5.out HO5.out g7)
        have HW7 : Hid (WrS w7 g X vb5) := Lib.hid (HW5.out.own HO5.out g7)
        have HO7 : Hid (Own5 w7 M (.slice A7 (lt ++ lf).length c7) (lt ++ lf)) := Lib.hid h7
        clear h7 g7 HW5 HO5 HF5 HBT5
        generalize (lt ++ lf).length = n7 at *
        refine wpAnyK_take (i := 8) (v := .pointer (some ⟨g, 0, none⟩)) rfl (by kernel_rfl) (by kernel_rfl) (by kernel_rfl) (by kernel_rfl) (fun _ _ _ h => h) (Or.inl ⟨by rfl, fun w hS => by (have c := hS.b; first | (go_simp; done) | (go_simp; with_reducible rfl))⟩) hHeld ?_
        try simp only [Act.put, List.getElem_toArray, List.getElem_cons_zero, List.getElem_cons_succ, List.setIfInBounds_toArray, List.set_cons_zero, List.set_cons_succ]
        refine wpAnyK_take (i := 9) (v := .pointer (some ⟨g, 109, none⟩)) rfl (by kernel_rfl) (by kernel_rfl) (by kernel_rfl) (by kernel_rfl) (fun _ _ _ h => h) (Or.inl ⟨by rfl, fun w hS => by first | (go_simp; done) | (go_simp; with_reducible rfl)⟩) hHeld ?_
        try simp only [Act.put, List.getElem_toArray, List.getElem_cons_zero, List.getElem_cons_succ, List.setIfInBounds_toArray, List.set_cons_zero, List.set_cons_succ]
        have cb := HW7.out.b
        have cf := HW7.out.froz
        refine wpAnyK_ready (rs := [10]) (by kernel_rfl) (by simp) ?_
        refine AllReadyK.late rfl (by kernel_rfl) (fun K hK => ?_) AllReadyK.nil
        go_simp
        refine hK.out _ _ ?_ (fun _ => ?_)
        · trivial
        clear hK K
        try simp only [Act.put, List.getElem_toArray, List.getElem_cons_zero, List.getElem_cons_succ, List.setIfInBounds_toArray, List.set_cons_zero, List.set_cons_succ]
        refine wpAnyK_done (by kernel_rfl) ?_ _
        go_wp2_with fail
        go_end0
        unfold WrP
        exact ⟨HF7.out.put 109 _, .inl ⟨HQ.out, rfl, .slice A7 n7 c7, HW7.out.put _, by rw [HLQ.out]; exact En.own_far HO7.out (fun g' hg' e => En.own_blk HO7.out HW7.out.blk (by decide) (by rw [hg', e])) _⟩⟩
      · have HQ : Hid (decide (1 ≤ i ∧ i ≤ 1099511627776 ∧ 0 ≤ t) = false) := Lib.hid (decide_eq_false (by omega))
        generalize decide (1 ≤ i ∧ i ≤ 1099511627776 ∧ 0 ≤ t) = ok at *
        go_wp2_with (first
          | (go_at_call 60; refine (need_f (by first | rfl | (simp; done)) _).mono ?_; rintro e w' ⟨rfl, rfl⟩)
          | fail)
        refine ⟨rfl, ?_⟩
        unfold WrP
        exact ⟨HF3.out, .inr ⟨HQ.out, rfl⟩⟩
    · have HQ : Hid (decide (1 ≤ i ∧ i ≤ 1099511627776 ∧ 0 ≤ t) = false) := Lib.hid (decide_eq_false (by omega))
      generalize decide (1 ≤ i ∧ i ≤ 1099511627776 ∧ 0 ≤ t) = ok at *
      go_wp2_with (first
        | (go_at_call 60; refine (need_f (by first | rfl | (simp; done)) _).mono ?_; rintro e w' ⟨rfl, rfl⟩)
        | fail)
      refine ⟨rfl, ?_⟩
      unfold WrP
      exact ⟨HF3.out, .inr ⟨HQ.out, rfl⟩⟩
  · have HQ : Hid (decide (1 ≤ i ∧ i ≤ 1099511627776 ∧ 0 ≤ t) = false) := Lib.hid (decide_eq_false (by omega))
    generalize decide (1 ≤ i ∧ i ≤ 1099511627776 ∧ 0 ≤ t) = ok at *
    go_wp2_with (first
      | (go_at_call 60; refine (need_f (by first | rfl | (simp; done)) _).mono ?_; rintro e w' ⟨rfl, rfl⟩)
      | fail)
    refine ⟨rfl, ?_⟩
    unfold WrP
    exact ⟨HF3.out, .inr ⟨HQ.out, rfl⟩⟩
end Rc
end Go.Proofs.YteapnkedpmcokaaGreatDoor
