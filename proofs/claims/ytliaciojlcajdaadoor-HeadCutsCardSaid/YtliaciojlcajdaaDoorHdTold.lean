/- head.reader.told. Conditions: as stated at each. -/
import Derived.Test.YtliaciojlcajdaaDoorHdRead
namespace Go.Proofs.YtliaciojlcajdaaDoor
set_option maxRecDepth 100000
namespace Hd
open Go.RowKit Go Go.Proofs.YtliaciojlcajdaaDoor.Pa
def trimF (f : F) : F := (f.1, trimB f.2)
theorem belowA (w : World) (o : Obj) : Below w.heap.size w (w.alloc o) := (Below.refl _ w).alloc (Nat.le_refl _) _
theorem gv_at {gs : List G} {k : Nat} (h : k < gs.length) : (gv gs)[k]? = some (.string (str (gs.getD k (([], []), .nilIface)).1.1), (gs.getD k (([], []), .nilIface)).2) := by
  simp [gv, List.getD, h]
theorem run_build47 (s t : ByteArray) (w : World) : (Instr.build 47 #[(0, .string s), (1, .string t)]).run Tryd.prog w = .ok (.agg #[.string s, .string t]) w := by kernel_rfl
set_option maxHeartbeats 1600000 in
theorem told_any {w : World} {N R : Nat} {fs : List F} {sz : Int} (h : Rd w N R fs sz) (hfs : fs.length ≤ 1000000) (hfl : ∀ f ∈ fs, f.2.length ≤ 1000000) :
    Calls Tryd.prog 24 #[.pointer (some ⟨R, 0, none⟩)] w fun e w' => ∃ v, e = .returned v ∧ OwnA w' w.heap.size v (fs.map trimF) ∧ Below w.heap.size w w' := by
  obtain ⟨v, gs, M, hR, hNR, hgs, hown, hbod⟩ := h
  obtain ⟨Av, cv, rfl, hcv, hmv⟩ := own_slice2 hown
  have hprs := own_prs hown
  have hgn : (gv gs).length = gs.length := gv_length gs
  have hgf : gs.length = fs.length := by rw [← hgs]; simp
  rw [hgn] at hR hcv
  have x0 := (hR.cell 0).trans (rfl : _ = some (Value.slice Av gs.length cv))
  have HELT : Hid (∀ k (hk : k < gs.length), ∃ (g o : Nat) (A : Option Addr) (c : Nat) (nm bd : List UInt8), Av = some ⟨g, o, none⟩ ∧ g < w.heap.size ∧ w.cell? ⟨g, o + k * 2, none⟩ = some (.string (str nm)) ∧ w.cell? ⟨g, o + k * 2 + 1, none⟩ = some (.slice A bd.length c) ∧ Bts w w.heap.size A bd ∧ bd.length ≤ c ∧ c ≤ maxLen ∧ bd.length ≤ 1000000 ∧ (fs.map trimF).take (k + 1) = (fs.map trimF).take k ++ [(nm, trimB bd)]) := Lib.hid fun k hk => by
    have hm : gs[k] ∈ gs := List.getElem_mem hk
    obtain ⟨g, o, e1, e2, e3, e4⟩ := hprs.at_ (gv_at hk)
    have hd : gs.getD k (([], []), .nilIface) = gs[k] := by simp [List.getD, hk]
    rw [hd] at e3 e4
    have ho := hbod.own _ hm
    obtain ⟨A, c, e5, e6, e7⟩ := own5_len ho
    have hfk : fs[k]'(by omega) = (gs[k]).1 := by simp [← hgs]
    refine ⟨g, o, A, c, (gs[k]).1.1, (gs[k]).1.2, e1, e2, e3, ?_, ?_, e6, e7, ?_, ?_⟩
    · rw [← e5, Nat.add_assoc]; exact e4
    · rw [e5] at ho; exact ho.bts
    · rw [← hfk]; exact hfl _ (List.getElem_mem _)
    · rw [List.take_succ_eq_append_getElem (by simp; omega)]
      simp [hfk, trimF]
  have hlen : gs.length ≤ 1000000 := by omega
  clear hprs hown hbod hR hcv
  have HEND : Hid ((fs.map trimF).take gs.length = fs.map trimF) := Lib.hid (List.take_of_length_le (by simp; omega))
  have HTL : Hid (∀ k, k ≤ gs.length → ((fs.map trimF).take k).length = k) := Lib.hid fun k hk => by simp; omega
  clear hgs hgn hgf hfs hfl
  generalize gs.length = n at *
  generalize fs.map trimF = ts at *
  go_enter Tryd.func24, Tryd.ntmps24
  go_wp2_with fail
  go_loopw [3, 5, 11] (fun x3 _ i wr => ∃ k : Nat, k ≤ n ∧ i = .int .i64 k ∧ OwnA wr w.heap.size x3 (ts.take k) ∧ Below w.heap.size w wr) (fun _ _ i _ => n - (intOf i).toNat)
  case atStart => exact ⟨0, Nat.zero_le _, rfl, World.ownsRow_nil _ _ _ _, Below.refl _ _⟩
  case round =>
    obtain ⟨k, hk, rfl, hown, hbel⟩ := hrel
    by_cases hlt : k < n
    · obtain ⟨g, o, A, c, nm, bd, rfl, hg, e3, e4, hbts, hbc, hcm, hbl, hnext⟩ := HELT.out k hlt
      have y3 := (hbel.cell (p := ⟨g, o + k * 2, none⟩) hg).trans e3
      have y4 := (hbel.cell (p := ⟨g, o + k * 2 + 1, none⟩) hg).trans e4
      obtain ⟨A3, c3, rfl, hc3, hm3⟩ := own_slice2 hown
      have HFL : Hid ((fv (ts.take k)).length = k) := Lib.hid (by rw [fv_length]; exact HTL.out k hk)
      have hown' : wr.ownsRow w.heap.size 47 2 (.slice A3 (fv (ts.take k)).length c3) (fv (ts.take k)).length (pc (fv (ts.take k))) := hown
      have HOW := Lib.hid hown'
      have hzr : w.heap.size ≤ wr.heap.size := hbel.size
      have HBW := Lib.hid (hbts.below hbel)
      have HNX := Lib.hid hnext
      have HBL := Lib.hid hbel
      have HBM := Lib.hid (And.intro hbc hcm)
      clear hown hown' hbts hnext hbel hbc hcm hbl
      generalize hbd : bd.length = bn at *
      have HBD := Lib.hid hbd
      clear hbd
      go_wp2_with fail
      have hq := BlkIs.new wr 68 #[.string (str nm), .slice A bn c]
      have ha : Below wr.heap.size wr (wr.alloc (.cells #[.string (str nm), .slice A bn c] 68)) := belowA wr _
      have hsz1 : (wr.alloc (.cells #[.string (str nm), .slice A bn c] 68)).heap.size = wr.heap.size + 1 := by simp
      generalize wr.alloc (.cells #[.string (str nm), .slice A bn c] 68) = w1 at *
      have z0 := (hq.cell 0).trans (rfl : _ = some (Value.string (str nm)))
      have z1 := (hq.cell 1).trans (rfl : _ = some (Value.slice A bn c))
      have hd1 : Below w1.heap.size w1 w1.drew := (Below.refl _ _).drew
      have HTR : Hid (Calls Tryd.prog 41 #[.slice A bn c, .string ⟨#[32, 9]⟩] w1.drew fun e w' => ∃ A' c', e = .returned (.slice A' (trimB bd).length c') ∧ Bts w' w.heap.size A' (trimB bd) ∧ Below w1.heap.size w1.drew w') := Lib.hid (by
        have hb1 : Bts w1.drew w.heap.size A bd := (HBW.out.below (ha.mono hzr)).below (hd1.mono (by omega))
        have := btrim_any hb1 (by show w.heap.size ≤ w1.heap.size; omega) c (by rw [HBD.out]; exact HBM.out.1) HBM.out.2
        rw [HBD.out] at this
        exact this)
      have hbq := hq.lt
      refine wp_region_held_drew (S := (fun X => X.cell? ⟨wr.heap.size, 0, none⟩ = some (.string (str nm)) ∧ X.cell? ⟨wr.heap.size, 1, none⟩ = some (.slice A bn c))) (by kernel_rfl) (⟨z0, z1⟩) (fun hHeld => ?_)
      refine wpAnyH_take (i := 0) (v := .slice A3 (fv (ts.take k)).length c3) rfl (by kernel_rfl) (by kernel_rfl) (by kernel_rfl) (fun _ _ _ h => h) (Or.inl ⟨by rfl, fun w hS => by first | (go_simp; done) | (go_simp; with_reducible rfl)⟩) hHeld ?_
      try simp only [Act.put, List.getElem_toArray, List.getElem_cons_zero, List.setIfInBounds_toArray, List.set_cons_zero, List.set_cons_succ]
      refine wpAnyH_take (i := 1) (v := .pointer (some ⟨wr.heap.size, 0, none⟩)) rfl (by kernel_rfl) (by kernel_rfl) (by kernel_rfl) (fun _ _ _ h => h) (Or.inl ⟨by rfl, fun w hS => by first | (go_simp; done) | (go_simp; with_reducible rfl)⟩) hHeld ?_
      try simp only [Act.put, List.getElem_toArray, List.getElem_cons_zero, List.getElem_cons_succ, List.setIfInBounds_toArray, List.set_cons_zero, List.set_cons_succ]
      refine wpAnyH_take (i := 2) (v := .string (str nm)) rfl (by kernel_rfl) (by kernel_rfl) (by kernel_rfl) (fun _ _ _ h => h) (Or.inl ⟨by rfl, fun w hS => by obtain ⟨s1, s2⟩ := hS; (first | (go_simp; done) | (go_simp; with_reducible rfl))⟩) hHeld ?_
      try simp only [Act.put, List.getElem_toArray, List.getElem_cons_zero, List.getElem_cons_succ, List.setIfInBounds_toArray, List.set_cons_zero, List.set_cons_succ]
      refine wpAnyH_take (i := 3) (v := .pointer (some ⟨wr.heap.size, 1, none⟩)) rfl (by kernel_rfl) (by kernel_rfl) (by kernel_rfl) (fun _ _ _ h => h) (Or.inl ⟨by rfl, fun w hS => by first | (go_simp; done) | (go_simp; with_reducible rfl)⟩) hHeld ?_
      try simp only [Act.put, List.getElem_toArray, List.getElem_cons_zero, List.getElem_cons_succ, List.setIfInBounds_toArray, List.set_cons_zero, List.set_cons_succ]
      refine wpAnyH_take (i := 4) (v := .slice A bn c) rfl (by kernel_rfl) (by kernel_rfl) (by kernel_rfl) (fun _ _ _ h => h) (Or.inl ⟨by rfl, fun w hS => by obtain ⟨s1, s2⟩ := hS; (first | (go_simp; done) | (go_simp; with_reducible rfl))⟩) hHeld ?_
      try simp only [Act.put, List.getElem_toArray, List.getElem_cons_zero, List.getElem_cons_succ, List.setIfInBounds_toArray, List.set_cons_zero, List.set_cons_succ]
      refine wpAnyH_ready (rs := [5]) (by kernel_rfl) (by simp) ?_
      refine AllReadyH.cons rfl (fun K hK => ?_) AllReadyH.nil
      go_simp
      go_wp2_with ((refine HTR.out.mono ?_; rintro e w2 ⟨A', c', rfl, hb2, hbe2⟩; have hB2 := hd1.trans hbe2; have hq2 := (hB2.block _ hbq).trans hq))
      refine hK.out _ _ ?_ (fun hHeld => ?_)
      · exact ⟨(BlkIs.cell hq2 0).trans rfl, (BlkIs.cell hq2 1).trans rfl⟩
      clear hK K
      try simp only [Act.put, List.getElem_toArray, List.getElem_cons_zero, List.getElem_cons_succ, List.setIfInBounds_toArray, List.set_cons_zero, List.set_cons_succ]
      have hst := conv_str hb2 c'
      generalize (trimB bd).length = tn at *
      refine wpAnyH_ready (rs := [6]) (by kernel_rfl) (by simp) ?_
      refine AllReadyH.cons rfl (fun K hK => ?_) AllReadyH.nil
      go_simp
      refine hK.out _ _ ?_ (fun hHeld => ?_)
      · exact ⟨(BlkIs.cell hq2 0).trans rfl, (BlkIs.cell hq2 1).trans rfl⟩
      clear hK K
      try simp only [Act.put, List.getElem_toArray, List.getElem_cons_zero, List.getElem_cons_succ, List.setIfInBounds_toArray, List.set_cons_zero, List.set_cons_succ]
      have hbu := fun w => run_build47 (str nm) (str (trimB bd)) w
      refine wpAnyH_ready (rs := [7]) (by kernel_rfl) (by simp) ?_
      refine AllReadyH.cons rfl (fun K hK => ?_) AllReadyH.nil
      go_simp
      refine hK.out _ _ ?_ (fun hHeld => ?_)
      · exact ⟨(BlkIs.cell hq2 0).trans rfl, (BlkIs.cell hq2 1).trans rfl⟩
      clear hK K
      try simp only [Act.put, List.getElem_toArray, List.getElem_cons_zero, List.getElem_cons_succ, List.setIfInBounds_toArray, List.set_cons_zero, List.set_cons_succ]
      clear hbu hst
      have ha2 : Below w2.heap.size w2 (w2.alloc (.cells #[.string (str nm), .string (str (trimB bd))] 47)) := belowA w2 _
      have hq3 := BlkIs.new w2 47 #[.string (str nm), .string (str (trimB bd))]
      have hq4 := BlkIs.alloc (g := wr.heap.size) (t := 68) (cs := #[.string (str nm), .slice A bn c]) hq2 (.cells #[.string (str nm), .string (str (trimB bd))] 47)
      have HQ := Lib.hid (And.intro ha2 (And.intro hq3 hq4))
      have HB2 := Lib.hid (And.intro hB2 hq2)
      clear ha2 hq3 hq4 hq2
      refine wpAnyH_ready (rs := [8]) (by kernel_rfl) (by simp) ?_
      refine AllReadyH.cons rfl (fun K hK => ?_) AllReadyH.nil
      go_simp
      refine hK.out _ _ ?_ (fun hHeld => ?_)
      · exact ⟨(BlkIs.cell HQ.out.2.2 0).trans rfl, (BlkIs.cell HQ.out.2.2 1).trans rfl⟩
      clear hK K
      try simp only [Act.put, List.getElem_toArray, List.getElem_cons_zero, List.getElem_cons_succ, List.setIfInBounds_toArray, List.set_cons_zero, List.set_cons_succ]
      generalize w2.alloc (.cells #[.string (str nm), .string (str (trimB bd))] 47) = w3 at *
      have c30 := (HQ.out.2.1.cell 0).trans (rfl : _ = some (Value.string (str nm)))
      have c31 := (HQ.out.2.1.cell 1).trans (rfl : _ = some (Value.string (str (trimB bd))))
      have hz2 : w1.heap.size ≤ w2.heap.size := HB2.out.1.size
      have hB3 : Below wr.heap.size wr w3 := (ha.trans (HB2.out.1.mono (by omega))).trans (HQ.out.1.mono (by omega))
      have hO3 := own_kept2 HOW.out hB3 (Nat.le_refl _)
      have hz3 : w.heap.size ≤ w3.heap.size := Nat.le_trans hzr hB3.size
      have hkb : (fv (ts.take k)).length + 1 ≤ 1000000000 := by rw [HFL.out]; omega
      have hne : (Value.slice A3 (fv (ts.take k)).length c3).ownBlock ≠ some wr.heap.size := fun e => by
        have := (HOW.out.lt _ e).2
        omega
      have HO3 := Lib.hid hO3
      have HB3 := Lib.hid hB3
      clear hO3 hB3
      refine wpAnyH_ready (rs := [9]) (by kernel_rfl) (by simp) ?_
      refine AllReadyH.cons rfl (fun K hK => ?_) AllReadyH.nil
      (refine stepP (.tmp 15) (.tmp 23) Tryd.underlying24 info47 (by rfl) (by decide) (by rfl) (by rfl) (by rfl) HO3.out (p := (.string (str nm), .string (str (trimB bd)))) (by rfl) (by rfl) (by rfl) c30 c31 hkb hz3 ?_; intro v4 w4 ho4 hg4 hv4; have hq5 := BlkIs.grown HQ.out.2.2 hg4 hne)
      refine hK.out _ _ ?_ (fun hHeld => ?_)
      · exact ⟨(BlkIs.cell hq5 0).trans rfl, (BlkIs.cell hq5 1).trans rfl⟩
      clear hK K
      try simp only [Act.put, List.getElem_toArray, List.getElem_cons_zero, List.getElem_cons_succ, List.setIfInBounds_toArray, List.set_cons_zero, List.set_cons_succ]
      refine wpAnyH_ready (rs := [10]) (by kernel_rfl) (by simp) ?_
      refine AllReadyH.cons rfl (fun K hK => ?_) AllReadyH.nil
      go_simp
      refine hK.out _ _ ?_ (fun hHeld => ?_)
      · exact ⟨(BlkIs.cell hq5 0).trans rfl, (BlkIs.cell hq5 1).trans rfl⟩
      clear hK K
      try simp only [Act.put, List.getElem_toArray, List.getElem_cons_zero, List.getElem_cons_succ, List.setIfInBounds_toArray, List.set_cons_zero, List.set_cons_succ]
      refine wpAnyH_done (by kernel_rfl) ?_ _
      have hO5 : OwnA w4 w.heap.size v4 (ts.take (k + 1)) := by
        unfold OwnA
        rw [HNX.out, fv_append]
        exact ho4
      have hB5 : Below w.heap.size w w4 := (HBL.out.trans (HB3.out.mono hzr)).grown hg4 hz3 (fun b hb => (HOW.out.lt b hb).1)
      have HF := Lib.hid (And.intro hO5 hB5)
      clear hO5 hB5 ho4 hg4 hv4 hq5
      go_wp2_with fail
      go_roundw
      case rel => exact ⟨k + 1, by omega, by go_num, HF.out⟩
      case measure => simp [intOf]; omega
    · have hkn : k = n := by omega
      have HF : Hid (OwnA wr w.heap.size u3 ts ∧ Below w.heap.size w wr) := Lib.hid ⟨by rw [← HEND.out, ← hkn]; exact hown, hbel⟩
      clear hown hbel
      go_wp2_with fail
      go_ret
      exact ⟨_, rfl, HF.out⟩
end Hd
end Go.Proofs.YtliaciojlcajdaaDoor
