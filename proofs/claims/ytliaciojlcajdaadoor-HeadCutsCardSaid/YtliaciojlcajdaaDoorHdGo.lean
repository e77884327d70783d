/- head.reader.goOn, begin. Conditions: as stated at each. -/
import Derived.Test.YtliaciojlcajdaaDoorHdMem
namespace Go.Proofs.YtliaciojlcajdaaDoor
set_option maxRecDepth 100000
namespace Hd
open Go.RowKit Go Go.Proofs.YtliaciojlcajdaaDoor.Pa
theorem goOnL_snoc (fs : List F) (f : F) (s : List UInt8) : goOnL (fs ++ [f]) s = fs ++ [(f.1, f.2 ++ s)] := by
  unfold goOnL
  rw [show (fs ++ [f]).length - 1 = fs.length by simp]
  apply List.ext_getElem?
  intro i
  rw [List.getElem?_modify]
  rcases Nat.lt_trichotomy i fs.length with h | h | h
  · rw [List.getElem?_append_left h, List.getElem?_append_left h]
    have hne : fs.length ≠ i := by omega
    simp [hne]
  · subst h
    simp
  · rw [List.getElem?_eq_none (by simp; omega), List.getElem?_eq_none (by simp; omega)]
    rfl
theorem bad_empty : ∀ (w : World) (R : Nat) (sz : Int) (x : Value) (A : Option Addr) (c : Nat), BlkIs w R 50 #[.slice A 0 c, .int .i64 sz] →
    Calls Tryd.prog 38 #[.pointer (some ⟨R, 0, none⟩), x] w fun e w' => e = bad 80 ∧ w = w' := by
  intro w R sz x A c h
  have h0 := h.cell 0
  go_enter Tryd.func38, Tryd.ntmps38
  go_wp2_with (first
    | (go_at_call 42; refine (Fa.nd_f (by first | rfl | (simp; done) | (simp; omega) | decide) _ _).mono ?_; rintro e w' ⟨rfl, rfl⟩)
    | fail)
  exact ⟨rfl, rfl, rfl⟩
theorem own5_len {w : World} {N : Nat} {v : Value} {l : List UInt8} (h : Own5 w N v l) : ∃ A c, v = .slice A l.length c ∧ l.length ≤ c ∧ c ≤ maxLen := own_slice h
set_option maxHeartbeats 1600000 in
theorem goOn_any {w : World} {N R : Nat} {fs : List F} {f : F} {sz : Int} (h : Rd w N R (fs ++ [f]) sz) {B c : Nat} {A : Option Addr} {s : List UInt8} (hs : Bts w B A s) (hl : s.length ≤ 1000000) (hf : f.2.length ≤ 1000000) (hfs : fs.length ≤ 1000000) :
    Calls Tryd.prog 38 #[.pointer (some ⟨R, 0, none⟩), .slice A s.length c] w fun e w' => e = .returned (.tuple #[]) ∧ Rd w' N R (fs ++ [(f.1, f.2 ++ s)]) sz ∧ Below N w w' ∧ Keep w w' := by
  obtain ⟨v, gs, M, hR, hNR, hgs, hown, hbod⟩ := h
  obtain ⟨ini, tl, rfl, hini, htl⟩ := List.map_eq_append_iff.1 hgs
  obtain ⟨⟨f', u⟩, rfl, hf'⟩ : ∃ x, tl = [x] ∧ x.1 = f := by
    match tl, htl with
    | [x], e => exact ⟨x, rfl, by simpa using e⟩
  subst hf'
  have hf2 : f'.2.length ≤ 1000000 := hf
  have hu : Own5 w M u f'.2 := hbod.last (f', u) (by simp)
  obtain ⟨Av, cv, rfl, hcv, hmv⟩ := own_slice2 hown
  obtain ⟨g, rfl, hNg, hg, hrange, hfz⟩ := own_range hown (by rw [gv_append, pc_append]; simp [gv, pc])
  have hn : (gv (ini ++ [(f', u)])).length = ini.length + 1 := by rw [gv_length]; simp
  have hcell := hrange (ini.length * 2 + 1) u (by
    have := (pc_get (xs := gv (ini ++ [(f', u)])) (k := ini.length) (p := (.string (str f'.1), u)) (by rw [gv_append]; simp [gv])).2
    exact this)
  rw [Nat.zero_add] at hcell
  have hfr := hfz (ini.length * 2 + 1)
  have hR0 := hR.cell 0
  rw [hn] at hR0 hcv hown hR
  obtain ⟨A', c', rfl, hc', hm'⟩ := own5_len hu
  have hsl : ((ini.length + 1 : Nat) : Int) - 1 = (ini.length : Int) := by omega
  have hl0 : ¬ (ini.length : Int) < 0 := by omega
  have hlt : (ini.length : Int) < ((ini.length + 1 : Nat) : Int) := by omega
  have hB0 : Below w.heap.size w w.drew := (Below.refl _ _).drew
  have HU := Lib.hid hu
  have HS := Lib.hid hs
  have HBD := Lib.hid hbod
  have HRR := Lib.hid hR
  have HOW := Lib.hid hown
  have hRlt := hR.lt
  have hML := hbod.le'
  have hgR : g ≠ R := by
    have := own_blk hown hR (by decide)
    intro e
    exact this (by rw [e]; rfl)
  have hki : ini.length ≤ 1000000 := by rw [← hini] at hfs; simpa using hfs
  have hkb : (ini.length : Int) ≤ 1000000 := by omega
  clear hu hs hbod hR hown hrange hfz hgs hfs
  generalize hk : ini.length = k at *
  have HK := Lib.hid hk
  clear hk hsl
  obtain ⟨n, hn1⟩ : ∃ n, n = k + 1 := ⟨_, rfl⟩
  rw [← hn1] at hR0 hcv hlt HOW HRR
  have hx1 : (n : Int) - 1 = (k : Int) := by omega
  have hkn : k < n := by omega
  have hk0 : (0 : Int) ≤ k := by omega
  have HN1 := Lib.hid hn1
  have hMd : M ≤ w.drew.heap.size := hML
  have hbl : f'.2.length + s.length ≤ 1000000000 := by omega
  clear hn1
  go_enter Tryd.func38, Tryd.ntmps38
  go_wp2_with (first
    | (go_at_call 42; refine (Fa.nd_t (by first | rfl | (simp; done) | (simp; omega) | decide) _ _).mono ?_; rintro e w' ⟨rfl, rfl⟩)
    | fail)
  have HKP : Hid (∀ w2, w.drew.grownBy w2 (Value.slice A' f'.2.length c').ownBlock → w2.cell? ⟨R, 0, none⟩ = some (.slice (some ⟨g, 0, none⟩) n cv) ∧ w2.cell? ⟨g, k * 2 + 1, none⟩ = some (.slice A' f'.2.length c') ∧ w2.frozen? ⟨g, k * 2 + 1, none⟩ = false ∧ BlkIs w2 R 50 #[.slice (some ⟨g, 0, none⟩) n cv, .int .i64 sz] ∧ w2.ownsRow N 68 2 (.slice (some ⟨g, 0, none⟩) n cv) n (pc (gv (ini ++ [(f', Value.slice A' f'.2.length c')])))) := Lib.hid fun w2 hg2 => by
    have e1 : (Value.slice A' f'.2.length c').ownBlock ≠ some R := own_blk HU.out HRR.out (by decide)
    have e2 : (Value.slice A' f'.2.length c').ownBlock ≠ some g := own_ne2 HOW.out HU.out (by decide) g rfl
    have hR2 : BlkIs w2 R 50 _ := BlkIs.grown (W := w.drew) HRR.out hg2 e1
    have ho2 : w2.ownsRow N 68 2 (.slice (some ⟨g, 0, none⟩) n cv) n (pc (gv (ini ++ [(f', Value.slice A' f'.2.length c')]))) := own_same HOW.out fun b hb => by
      have : g = b := by simpa [Value.ownBlock] using hb
      subst this
      exact hg2.block g hg (fun e => e2 e.symm)
    obtain ⟨g', e', _, _, hr2, hf2⟩ := own_range ho2 (by rw [gv_append, pc_append]; simp [gv, pc])
    injection e' with e'
    injection e' with e'
    subst e'
    have := hr2 (k * 2 + 1) (Value.slice A' f'.2.length c') ((pc_get (xs := gv (ini ++ [(f', Value.slice A' f'.2.length c')])) (k := k) (p := (.string (str f'.1), _)) (by rw [gv_append, ← HK.out]; simp [gv])).2)
    rw [Nat.zero_add] at this
    exact ⟨(hR2.cell 0).trans rfl, this, hf2 _, hR2, ho2⟩
  refine wp_region_key ((fun w' => w'.cell? ⟨R, 0, none⟩ = some (.slice (some ⟨g, 0, none⟩) n cv) ∧ w'.cell? ⟨g, k * 2 + 1, none⟩ = some (.slice A' f'.2.length c') ∧ w'.frozen? ⟨g, k * 2 + 1, none⟩ = false)) 17 (by kernel_rfl) (⟨hR0, hcell, hfr⟩) (fun hHeld => ?_)
  refine wpAnyK_take (i := 0) (v := .pointer (some ⟨R, 0, none⟩)) rfl (by kernel_rfl) (by kernel_rfl) (by kernel_rfl) (by kernel_rfl) (fun _ _ _ h => h) (Or.inl ⟨by rfl, fun w hS => by first | (go_simp; done) | (go_simp; with_reducible rfl)⟩) hHeld ?_
  try simp only [Act.put, List.getElem_toArray, List.getElem_cons_zero, List.setIfInBounds_toArray, List.set_cons_zero, List.set_cons_succ]
  refine wpAnyK_take (i := 1) (v := .pointer (some ⟨R, 0, none⟩)) rfl (by kernel_rfl) (by kernel_rfl) (by kernel_rfl) (by kernel_rfl) (fun _ _ _ h => h) (Or.inl ⟨by rfl, fun w hS => by first | (go_simp; done) | (go_simp; with_reducible rfl)⟩) hHeld ?_
  try simp only [Act.put, List.getElem_toArray, List.getElem_cons_zero, List.getElem_cons_succ, List.setIfInBounds_toArray, List.set_cons_zero, List.set_cons_succ]
  refine wpAnyK_take (i := 2) (v := .pointer (some ⟨R, 0, none⟩)) rfl (by kernel_rfl) (by kernel_rfl) (by kernel_rfl) (by kernel_rfl) (fun _ _ _ h => h) (Or.inl ⟨by rfl, fun w hS => by first | (go_simp; done) | (go_simp; with_reducible rfl)⟩) hHeld ?_
  try simp only [Act.put, List.getElem_toArray, List.getElem_cons_zero, List.getElem_cons_succ, List.setIfInBounds_toArray, List.set_cons_zero, List.set_cons_succ]
  refine wpAnyK_take (i := 3) (v := .slice (some ⟨g, 0, none⟩) n cv) rfl (by kernel_rfl) (by kernel_rfl) (by kernel_rfl) (by kernel_rfl) (fun _ _ _ h => h) (Or.inl ⟨by rfl, fun w hS => by obtain ⟨s1, s2, s3⟩ := hS; (first | (go_simp; done) | (go_simp; with_reducible rfl))⟩) hHeld ?_
  try simp only [Act.put, List.getElem_toArray, List.getElem_cons_zero, List.getElem_cons_succ, List.setIfInBounds_toArray, List.set_cons_zero, List.set_cons_succ]
  refine wpAnyK_take (i := 4) (v := .int .i64 k) rfl (by kernel_rfl) (by kernel_rfl) (by kernel_rfl) (by kernel_rfl) (fun _ _ _ h => h) (Or.inl ⟨by rfl, fun w hS => by first | (go_simp; done) | (go_simp; with_reducible rfl)⟩) hHeld ?_
  try simp only [Act.put, List.getElem_toArray, List.getElem_cons_zero, List.getElem_cons_succ, List.setIfInBounds_toArray, List.set_cons_zero, List.set_cons_succ]
  refine wpAnyK_take (i := 5) (v := .pointer (some ⟨R, 0, none⟩)) rfl (by kernel_rfl) (by kernel_rfl) (by kernel_rfl) (by kernel_rfl) (fun _ _ _ h => h) (Or.inl ⟨by rfl, fun w hS => by first | (go_simp; done) | (go_simp; with_reducible rfl)⟩) hHeld ?_
  try simp only [Act.put, List.getElem_toArray, List.getElem_cons_zero, List.getElem_cons_succ, List.setIfInBounds_toArray, List.set_cons_zero, List.set_cons_succ]
  refine wpAnyK_take (i := 6) (v := .pointer (some ⟨R, 0, none⟩)) rfl (by kernel_rfl) (by kernel_rfl) (by kernel_rfl) (by kernel_rfl) (fun _ _ _ h => h) (Or.inl ⟨by rfl, fun w hS => by first | (go_simp; done) | (go_simp; with_reducible rfl)⟩) hHeld ?_
  try simp only [Act.put, List.getElem_toArray, List.getElem_cons_zero, List.getElem_cons_succ, List.setIfInBounds_toArray, List.set_cons_zero, List.set_cons_succ]
  refine wpAnyK_take (i := 7) (v := .pointer (some ⟨R, 0, none⟩)) rfl (by kernel_rfl) (by kernel_rfl) (by kernel_rfl) (by kernel_rfl) (fun _ _ _ h => h) (Or.inl ⟨by rfl, fun w hS => by first | (go_simp; done) | (go_simp; with_reducible rfl)⟩) hHeld ?_
  try simp only [Act.put, List.getElem_toArray, List.getElem_cons_zero, List.getElem_cons_succ, List.setIfInBounds_toArray, List.set_cons_zero, List.set_cons_succ]
  refine wpAnyK_take (i := 8) (v := .slice (some ⟨g, 0, none⟩) n cv) rfl (by kernel_rfl) (by kernel_rfl) (by kernel_rfl) (by kernel_rfl) (fun _ _ _ h => h) (Or.inl ⟨by rfl, fun w hS => by obtain ⟨s1, s2, s3⟩ := hS; (first | (go_simp; done) | (go_simp; with_reducible rfl))⟩) hHeld ?_
  try simp only [Act.put, List.getElem_toArray, List.getElem_cons_zero, List.getElem_cons_succ, List.setIfInBounds_toArray, List.set_cons_zero, List.set_cons_succ]
  refine wpAnyK_take (i := 9) (v := .int .i64 k) rfl (by kernel_rfl) (by kernel_rfl) (by kernel_rfl) (by kernel_rfl) (fun _ _ _ h => h) (Or.inl ⟨by rfl, fun w hS => by first | (go_simp; done) | (go_simp; with_reducible rfl)⟩) hHeld ?_
  try simp only [Act.put, List.getElem_toArray, List.getElem_cons_zero, List.getElem_cons_succ, List.setIfInBounds_toArray, List.set_cons_zero, List.set_cons_succ]
  refine wpAnyK_take (i := 10) (v := .pointer (some ⟨g, k * 2, none⟩)) rfl (by kernel_rfl) (by kernel_rfl) (by kernel_rfl) (by kernel_rfl) (fun _ _ _ h => h) (Or.inl ⟨by rfl, fun w hS => by first | (go_simp; done) | (go_simp; with_reducible rfl)⟩) hHeld ?_
  try simp only [Act.put, List.getElem_toArray, List.getElem_cons_zero, List.getElem_cons_succ, List.setIfInBounds_toArray, List.set_cons_zero, List.set_cons_succ]
  refine wpAnyK_take (i := 11) (v := .pointer (some ⟨g, k * 2 + 1, none⟩)) rfl (by kernel_rfl) (by kernel_rfl) (by kernel_rfl) (by kernel_rfl) (fun _ _ _ h => h) (Or.inl ⟨by rfl, fun w hS => by first | (go_simp; done) | (go_simp; with_reducible rfl)⟩) hHeld ?_
  try simp only [Act.put, List.getElem_toArray, List.getElem_cons_zero, List.getElem_cons_succ, List.setIfInBounds_toArray, List.set_cons_zero, List.set_cons_succ]
  refine wpAnyK_take (i := 12) (v := .slice A' f'.2.length c') rfl (by kernel_rfl) (by kernel_rfl) (by kernel_rfl) (by kernel_rfl) (fun _ _ _ h => h) (Or.inl ⟨by rfl, fun w hS => by obtain ⟨s1, s2, s3⟩ := hS; (first | (go_simp; done) | (go_simp; with_reducible rfl))⟩) hHeld ?_
  try simp only [Act.put, List.getElem_toArray, List.getElem_cons_zero, List.getElem_cons_succ, List.setIfInBounds_toArray, List.set_cons_zero, List.set_cons_succ]
  refine wpAnyK_take (i := 13) (v := .slice A s.length c) rfl (by kernel_rfl) (by kernel_rfl) (by kernel_rfl) (by kernel_rfl) (fun _ _ _ h => h) (Or.inl ⟨by rfl, fun w hS => by first | (go_simp; done) | (go_simp; with_reducible rfl)⟩) hHeld ?_
  try simp only [Act.put, List.getElem_toArray, List.getElem_cons_zero, List.getElem_cons_succ, List.setIfInBounds_toArray, List.set_cons_zero, List.set_cons_succ]
  refine wpAnyK_ready (rs := [14]) (by kernel_rfl) (by simp) ?_
  refine AllReadyK.cons rfl (fun K hK => ?_) AllReadyK.nil
  (refine step5b (.tmp 26) (.tmp 27) (by rfl) (by rfl) (by rfl) (HU.out) (by rfl) (by rfl) (HS.out) hbl hMd ?_; intro v2 w2 ho2 hg2; have hk2 := HKP.out w2 hg2)
  refine hK.out _ _ ?_ (fun hHeld => ?_)
  · exact ⟨hk2.1, hk2.2.1, hk2.2.2.1⟩
  clear hK K
  try simp only [Act.put, List.getElem_toArray, List.getElem_cons_zero, List.getElem_cons_succ, List.setIfInBounds_toArray, List.set_cons_zero, List.set_cons_succ]
  refine wpAnyK_take (i := 15) (v := .pointer (some ⟨g, k * 2, none⟩)) rfl (by kernel_rfl) (by kernel_rfl) (by kernel_rfl) (by kernel_rfl) (fun _ _ _ h => h) (Or.inl ⟨by rfl, fun w hS => by first | (go_simp; done) | (go_simp; with_reducible rfl)⟩) hHeld ?_
  try simp only [Act.put, List.getElem_toArray, List.getElem_cons_zero, List.getElem_cons_succ, List.setIfInBounds_toArray, List.set_cons_zero, List.set_cons_succ]
  refine wpAnyK_take (i := 16) (v := .pointer (some ⟨g, k * 2 + 1, none⟩)) rfl (by kernel_rfl) (by kernel_rfl) (by kernel_rfl) (by kernel_rfl) (fun _ _ _ h => h) (Or.inl ⟨by rfl, fun w hS => by first | (go_simp; done) | (go_simp; with_reducible rfl)⟩) hHeld ?_
  try simp only [Act.put, List.getElem_toArray, List.getElem_cons_zero, List.getElem_cons_succ, List.setIfInBounds_toArray, List.set_cons_zero, List.set_cons_succ]
  have q2 := hk2.2.2.1
  have q1 := hk2.2.1
  have HK2 := Lib.hid hk2
  clear hk2
  obtain ⟨A2, c2, rfl, hc2, hm2⟩ := own5_len ho2
  generalize hq : (f'.2 ++ s).length = q at *
  refine wpAnyK_ready (rs := [17]) (by kernel_rfl) (by simp) ?_
  refine AllReadyK.late rfl (by kernel_rfl) (fun K hK => ?_) AllReadyK.nil
  go_simp
  refine hK.out _ _ ?_ (fun _ => ?_)
  · trivial
  clear hK K
  try simp only [Act.put, List.getElem_toArray, List.getElem_cons_zero, List.getElem_cons_succ, List.setIfInBounds_toArray, List.set_cons_zero, List.set_cons_succ]
  refine wpAnyK_done (by kernel_rfl) ?_ _
  have ho3 := own_set HK2.out.2.2.2.2 (k * 2 + 1) (.slice A2 q c2)
  rw [show (pc (gv (ini ++ [(f', Value.slice A' f'.2.length c')]))).set (k * 2 + 1) (.slice A2 q c2) = pc (gv (ini ++ [((f'.1, f'.2 ++ s), Value.slice A2 q c2)])) by
    rw [gv_append, gv_append, pc_append, pc_append, ← HK.out, List.set_append_right _ _ (by rw [pc_length, gv_length]; omega), pc_length, gv_length]
    simp [gv, pc]] at ho3
  have hR3 := HK2.out.2.2.2.1.far (x := ⟨g, k * 2 + 1, none⟩) hgR.symm (.slice A2 q c2)
  have hbg : ∀ b, b < w.heap.size → (Value.slice A' f'.2.length c').ownBlock ≠ some b → b ≠ g → (w2.setCell ⟨g, k * 2 + 1, none⟩ (.slice A2 q c2)).heap[b]? = w.heap[b]? := fun b h1 h2 h3 =>
    (Below.heap_setCell _ _ _ _ h3).trans (hg2.block b h1 (fun e => h2 e.symm))
  have ho2n : (Value.slice A2 q c2).ownBlock ≠ some g := by
    intro e
    exact own_ne2 ho2 HK2.out.2.2.2.2 (by decide) g e rfl
  have ho5 : Own5 (w2.setCell ⟨g, k * 2 + 1, none⟩ (.slice A2 q c2)) M (.slice A2 q c2) (f'.2 ++ s) := own_same ho2 fun b hb => Below.heap_setCell _ _ _ _ (fun e => ho2n (by rw [hb, e]))
  clear hq
  have hz2 : w.heap.size ≤ w2.heap.size := hg2.size
  have hlow := HBD.out.low
  have hown' := HBD.out.own
  go_wp2_with fail
  go_end0
  refine ⟨rfl, ⟨_, ini ++ [((f'.1, f'.2 ++ s), Value.slice A2 q c2)], M, hR3, hNR, by rw [List.map_append, hini]; rfl, ?_, ?_⟩, ?_, ?_⟩
  · have hnn : (gv (ini ++ [((f'.1, f'.2 ++ s), Value.slice A2 q c2)])).length = n := by rw [gv_length, HN1.out, ← HK.out]; simp
    rw [hnn]
    exact ho3
  · refine ⟨HBD.out.le, Nat.le_trans hML (by simpa using hz2), ?_, ?_, ?_⟩
    · intro x hx
      rcases List.mem_append.1 hx with hx | hx
      · obtain ⟨i, hi, e⟩ := List.getElem_of_mem hx
        have hx2 := hown' x (List.mem_append_left _ hx)
        refine own_same hx2 fun b hb => ?_
        have hbM := hlow i x (by simp; omega) (by rw [List.getElem?_append_left hi, List.getElem?_eq_getElem hi, e]) b hb
        refine hbg b (by omega) (fun e2 => ?_) (fun e2 => ?_)
        · have := (HU.out.lt b e2).1
          omega
        · exact own_ne2 hx2 HOW.out (by decide) b hb (by rw [e2]; rfl)
      · rw [List.mem_singleton] at hx
        rw [hx]
        exact own_more ho5 HBD.out.le
    · intro i x hi hx b hb
      rw [List.length_append, List.length_singleton] at hi
      rw [List.getElem?_append_left (by omega)] at hx
      exact hlow i x (by simp; omega) (by rw [List.getElem?_append_left (by omega)]; exact hx) b hb
    · intro x hx
      simp at hx
      rw [← hx]
      exact ho5
  · refine ⟨hg2.os, hg2.tape, hg2.output, by simpa using hz2, fun b hb => hbg b (by omega) (fun e => ?_) (by omega)⟩
    have := (HU.out.lt b e).1
    have := HBD.out.le
    omega
  · intro i o hi ho
    refine (hbg i (Array.getElem?_eq_some_iff.1 hi).1 (fun e => ?_) (fun e => ?_)).trans hi
    · obtain ⟨cs, fr, hh⟩ := own_type HU.out e
      rw [hi] at hh
      injection hh with hh
      exact (ho _ _ _ hh).2.1 rfl
    · obtain ⟨cs, fr, hh⟩ := own_type HOW.out (show (Value.slice (some ⟨g, 0, none⟩) n cv).ownBlock = some i by rw [e]; rfl)
      rw [hi] at hh
      injection hh with hh
      exact (ho _ _ _ hh).1 rfl
theorem run_build68 (s : ByteArray) (A : Option Addr) (n c : Nat) (w : World) : (Instr.build 68 #[(0, .string s), (1, .slice A n c)]).run Tryd.prog w = .ok (.agg #[.string s, .slice A n c]) w := by kernel_rfl
set_option maxHeartbeats 1600000 in
theorem begin_any {w : World} {N R : Nat} {fs : List F} {sz : Int} (h : Rd w N R fs sz) (hNw : N ≤ w.heap.size) (nm : List UInt8) {B c : Nat} {A : Option Addr} {bd : List UInt8} (hs : Bts w B A bd) (hl : bd.length ≤ 1000000) (hA : A ≠ none) (hfs : fs.length ≤ 1000000) :
    Calls Tryd.prog 39 #[.pointer (some ⟨R, 0, none⟩), .string (str nm), .slice A bd.length c] w fun e w' => e = .returned (.tuple #[]) ∧ Rd w' N R (fs ++ [(nm, bd)]) sz ∧ Below N w w' ∧ Keep w w' := by
  obtain ⟨v, gs, M, hR, hNR, hgs, hown, hbod⟩ := h
  obtain ⟨Av, cv, rfl, hcv, hmv⟩ := own_slice2 hown
  have hgl : gs.length ≤ 1000000 := by rw [← hgs] at hfs; simpa using hfs
  have hB0 : Below w.heap.size w w.drew := (Below.refl _ _).drew
  have HCL : Hid (Calls Tryd.prog 49 #[.slice A bd.length c] w.drew fun e w' => ∃ v, e = .returned v ∧ Own5 w' w.heap.size v bd ∧ Below w.heap.size w.drew w') := Lib.hid (clone_any (w := w.drew) hs c hl hA)
  have HR := Lib.hid hR
  have HOW := Lib.hid hown
  have HBD := Lib.hid hbod
  have hRlt := hR.lt
  have HRC : Hid (∀ w', Below w.heap.size w w' → w'.cell? ⟨R, 0, none⟩ = some (.slice Av (gv gs).length cv) ∧ w'.frozen? ⟨R, 0, none⟩ = false) := Lib.hid fun w' hb => by
    have := (hb.block R hRlt).trans HR.out
    exact ⟨(BlkIs.cell this 0).trans rfl, BlkIs.froz this 0⟩
  have HGL := Lib.hid (gv_length gs)
  have hgn : (gv gs).length + 1 ≤ 1000000000 := by rw [gv_length]; omega
  have hgsf := Lib.hid hgs
  clear hR hown hbod hs hgs hfs
  generalize hbl : bd.length = bn at *
  have HBL := Lib.hid hbl
  clear hbl
  go_enter Tryd.func39, Tryd.ntmps39
  go_wp2_with fail
  refine wp_region_key ((fun w' => w'.cell? ⟨R, 0, none⟩ = some (.slice Av (gv gs).length cv) ∧ w'.frozen? ⟨R, 0, none⟩ = false)) 13 (by kernel_rfl) (HRC.out _ hB0) (fun hHeld => ?_)
  refine wpAnyK_take (i := 0) (v := .pointer (some ⟨R, 0, none⟩)) rfl (by kernel_rfl) (by kernel_rfl) (by kernel_rfl) (by kernel_rfl) (fun _ _ _ h => h) (Or.inl ⟨by rfl, fun w hS => by first | (go_simp; done) | (go_simp; with_reducible rfl)⟩) hHeld ?_
  try simp only [Act.put, List.getElem_toArray, List.getElem_cons_zero, List.setIfInBounds_toArray, List.set_cons_zero, List.set_cons_succ]
  refine wpAnyK_take (i := 1) (v := .pointer (some ⟨R, 0, none⟩)) rfl (by kernel_rfl) (by kernel_rfl) (by kernel_rfl) (by kernel_rfl) (fun _ _ _ h => h) (Or.inl ⟨by rfl, fun w hS => by first | (go_simp; done) | (go_simp; with_reducible rfl)⟩) hHeld ?_
  try simp only [Act.put, List.getElem_toArray, List.getElem_cons_zero, List.getElem_cons_succ, List.setIfInBounds_toArray, List.set_cons_zero, List.set_cons_succ]
  refine wpAnyK_take (i := 2) (v := .pointer (some ⟨R, 0, none⟩)) rfl (by kernel_rfl) (by kernel_rfl) (by kernel_rfl) (by kernel_rfl) (fun _ _ _ h => h) (Or.inl ⟨by rfl, fun w hS => by first | (go_simp; done) | (go_simp; with_reducible rfl)⟩) hHeld ?_
  try simp only [Act.put, List.getElem_toArray, List.getElem_cons_zero, List.getElem_cons_succ, List.setIfInBounds_toArray, List.set_cons_zero, List.set_cons_succ]
  refine wpAnyK_take (i := 3) (v := .pointer (some ⟨R, 0, none⟩)) rfl (by kernel_rfl) (by kernel_rfl) (by kernel_rfl) (by kernel_rfl) (fun _ _ _ h => h) (Or.inl ⟨by rfl, fun w hS => by first | (go_simp; done) | (go_simp; with_reducible rfl)⟩) hHeld ?_
  try simp only [Act.put, List.getElem_toArray, List.getElem_cons_zero, List.getElem_cons_succ, List.setIfInBounds_toArray, List.set_cons_zero, List.set_cons_succ]
  refine wpAnyK_take (i := 4) (v := .slice Av (gv gs).length cv) rfl (by kernel_rfl) (by kernel_rfl) (by kernel_rfl) (by kernel_rfl) (fun _ _ _ h => h) (Or.inl ⟨by rfl, fun w hS => by obtain ⟨s1, s2⟩ := hS; (first | (go_simp; done) | (go_simp; with_reducible rfl))⟩) hHeld ?_
  try simp only [Act.put, List.getElem_toArray, List.getElem_cons_zero, List.getElem_cons_succ, List.setIfInBounds_toArray, List.set_cons_zero, List.set_cons_succ]
  refine wpAnyK_take (i := 5) (v := .string (str nm)) rfl (by kernel_rfl) (by kernel_rfl) (by kernel_rfl) (by kernel_rfl) (fun _ _ _ h => h) (Or.inl ⟨by rfl, fun w hS => by first | (go_simp; done) | (go_simp; with_reducible rfl)⟩) hHeld ?_
  try simp only [Act.put, List.getElem_toArray, List.getElem_cons_zero, List.getElem_cons_succ, List.setIfInBounds_toArray, List.set_cons_zero, List.set_cons_succ]
  refine wpAnyK_take (i := 6) (v := .slice A bn c) rfl (by kernel_rfl) (by kernel_rfl) (by kernel_rfl) (by kernel_rfl) (fun _ _ _ h => h) (Or.inl ⟨by rfl, fun w hS => by first | (go_simp; done) | (go_simp; with_reducible rfl)⟩) hHeld ?_
  try simp only [Act.put, List.getElem_toArray, List.getElem_cons_zero, List.getElem_cons_succ, List.setIfInBounds_toArray, List.set_cons_zero, List.set_cons_succ]
  refine wpAnyK_ready (rs := [7]) (by kernel_rfl) (by simp) ?_
  refine AllReadyK.cons rfl (fun K hK => ?_) AllReadyK.nil
  go_simp
  go_wp2_with ((refine HCL.out.mono ?_; rintro e w1 ⟨vb, rfl, ho1, hb1⟩; have k1 := hB0.trans (hb1.mono hB0.size)))
  refine hK.out _ _ ?_ (fun hHeld => ?_)
  · exact HRC.out _ k1
  clear hK K
  try simp only [Act.put, List.getElem_toArray, List.getElem_cons_zero, List.getElem_cons_succ, List.setIfInBounds_toArray, List.set_cons_zero, List.set_cons_succ]
  obtain ⟨Ab, cb, hvb, hcb, hmb⟩ := own5_len ho1
  rw [HBL.out] at hvb hcb
  subst hvb
  have HBU := Lib.hid (fun w => run_build68 (str nm) Ab bn cb w)
  refine wpAnyK_take (i := 8) (v := .agg #[.string (str nm), .slice Ab bn cb]) rfl (by kernel_rfl) (by kernel_rfl) (by kernel_rfl) (by kernel_rfl) (fun _ _ _ h => h) (Or.inl ⟨by rfl, fun w hS => by have hbu := HBU.out w; (first | (go_simp; done) | (go_simp; with_reducible rfl))⟩) hHeld ?_
  try simp only [Act.put, List.getElem_toArray, List.getElem_cons_zero, List.getElem_cons_succ, List.setIfInBounds_toArray, List.set_cons_zero, List.set_cons_succ]
  have kb1 : w.heap.size ≤ w1.heap.size := hb1.size
  have k2 : Below w.heap.size w (w1.alloc (.cells #[.string (str nm), .slice Ab bn cb] 68)) := k1.alloc kb1 _
  have hq2 := BlkIs.new w1 68 #[.string (str nm), .slice Ab bn cb]
  have hsz2 : (w1.alloc (.cells #[.string (str nm), .slice Ab bn cb] 68)).heap.size = w1.heap.size + 1 := by simp
  have HQ2 := Lib.hid (And.intro hq2 (And.intro k2 hsz2))
  have HO1 := Lib.hid ho1
  clear ho1 hq2 hsz2
  refine wpAnyK_ready (rs := [9]) (by kernel_rfl) (by simp) ?_
  refine AllReadyK.cons rfl (fun K hK => ?_) AllReadyK.nil
  go_simp
  refine hK.out _ _ ?_ (fun hHeld => ?_)
  · exact HRC.out _ HQ2.out.2.1
  clear hK K
  try simp only [Act.put, List.getElem_toArray, List.getElem_cons_zero, List.getElem_cons_succ, List.setIfInBounds_toArray, List.set_cons_zero, List.set_cons_succ]
  generalize hw2 : w1.alloc (.cells #[.string (str nm), .slice Ab bn cb] 68) = w2 at *
  have hO2 : w2.ownsRow N 68 2 (.slice Av (gv gs).length cv) (gv gs).length (pc (gv gs)) := own_kept2 HOW.out HQ2.out.2.1 (Nat.le_refl _)
  have hV2 : Own5 w2 w.heap.size (.slice Ab bn cb) bd := by
    rw [← hw2]
    exact own_kept HO1.out ((Below.refl w1.heap.size w1).alloc (Nat.le_refl _) _) (Nat.le_refl _)
  have hN2 : N ≤ w2.heap.size := by have := HQ2.out.2.2; omega
  have HW2 := Lib.hid hw2
  have c20 := (HQ2.out.1.cell 0).trans (rfl : _ = some (Value.string (str nm)))
  have c21 := (HQ2.out.1.cell 1).trans (rfl : _ = some (Value.slice Ab bn cb))
  have HV2 := Lib.hid hV2
  have HO2 := Lib.hid hO2
  clear hw2 hV2 hO2
  have hR2 : BlkIs w2 R 50 #[.slice Av (gv gs).length cv, .int .i64 sz] := (HQ2.out.2.1.block R hRlt).trans HR.out
  have hne : (Value.slice Av (gv gs).length cv).ownBlock ≠ some R := own_blk HOW.out HR.out (by decide)
  have HR2 := Lib.hid hR2
  clear hR2
  refine wpAnyK_ready (rs := [10]) (by kernel_rfl) (by simp) ?_
  refine AllReadyK.cons rfl (fun K hK => ?_) AllReadyK.nil
  (refine stepP (.tmp 10) (.tmp 15) Tryd.underlying48 info68 (by rfl) (by decide) (by rfl) (by rfl) (by rfl) HO2.out (p := (.string (str nm), .slice Ab bn cb)) (by rfl) (by rfl) (by rfl) c20 c21 hgn hN2 ?_; intro v3 w3 ho3 hg3 hv3; have hR3 := BlkIs.grown HR2.out hg3 hne)
  refine hK.out _ _ ?_ (fun hHeld => ?_)
  · exact ⟨(hR3.cell 0).trans rfl, hR3.froz 0⟩
  clear hK K
  try simp only [Act.put, List.getElem_toArray, List.getElem_cons_zero, List.getElem_cons_succ, List.setIfInBounds_toArray, List.set_cons_zero, List.set_cons_succ]
  refine wpAnyK_take (i := 11) (v := .pointer (some ⟨R, 0, none⟩)) rfl (by kernel_rfl) (by kernel_rfl) (by kernel_rfl) (by kernel_rfl) (fun _ _ _ h => h) (Or.inl ⟨by rfl, fun w hS => by first | (go_simp; done) | (go_simp; with_reducible rfl)⟩) hHeld ?_
  try simp only [Act.put, List.getElem_toArray, List.getElem_cons_zero, List.getElem_cons_succ, List.setIfInBounds_toArray, List.set_cons_zero, List.set_cons_succ]
  refine wpAnyK_take (i := 12) (v := .pointer (some ⟨R, 0, none⟩)) rfl (by kernel_rfl) (by kernel_rfl) (by kernel_rfl) (by kernel_rfl) (fun _ _ _ h => h) (Or.inl ⟨by rfl, fun w hS => by first | (go_simp; done) | (go_simp; with_reducible rfl)⟩) hHeld ?_
  try simp only [Act.put, List.getElem_toArray, List.getElem_cons_zero, List.getElem_cons_succ, List.setIfInBounds_toArray, List.set_cons_zero, List.set_cons_succ]
  have q1 := (hR3.cell 0).trans (rfl : _ = some (Value.slice Av (gv gs).length cv))
  have q2 := hR3.froz 0
  have HR3 := Lib.hid hR3
  clear hR3
  obtain ⟨A3, c3, hv3', hc3, hm3⟩ := own_slice2 ho3
  have HL3 : Hid ((gv gs ++ [(Value.string (str nm), Value.slice Ab bn cb)]).length = gs.length + 1) := Lib.hid (by rw [List.length_append, gv_length]; rfl)
  rw [HL3.out] at ho3 hv3' hc3
  subst hv3'
  have HO3 := Lib.hid ho3
  clear ho3
  generalize gs.length + 1 = n3 at *
  refine wpAnyK_ready (rs := [13]) (by kernel_rfl) (by simp) ?_
  refine AllReadyK.late rfl (by kernel_rfl) (fun K hK => ?_) AllReadyK.nil
  go_simp
  refine hK.out _ _ ?_ (fun _ => ?_)
  · trivial
  clear hK K
  try simp only [Act.put, List.getElem_toArray, List.getElem_cons_zero, List.getElem_cons_succ, List.setIfInBounds_toArray, List.set_cons_zero, List.set_cons_succ]
  refine wpAnyK_done (by kernel_rfl) ?_ _
  have hR4 := HR3.out.put 0 (.slice A3 n3 c3)
  have hz3 : w2.heap.size ≤ w3.heap.size := hg3.size
  have hz2 : w2.heap.size = w1.heap.size + 1 := HQ2.out.2.2
  have hfin : ∀ b, b < w2.heap.size → (Value.slice Av (gv gs).length cv).ownBlock ≠ some b → b ≠ R → (w3.setCell ⟨R, 0, none⟩ (.slice A3 n3 c3)).heap[b]? = w2.heap[b]? := fun b h1 h2 h3 =>
    (Below.heap_setCell _ _ _ _ h3).trans (hg3.block b h1 (fun e => h2 e.symm))
  have hO4 := own_same (w' := w3.setCell ⟨R, 0, none⟩ (.slice A3 n3 c3)) HO3.out fun b hb => Below.heap_setCell _ _ _ _ (fun e => own_blk HO3.out HR3.out (by decide) (by rw [hb, e]))
  have h5 : ∀ {K : Nat} {u : Value} {l : List UInt8}, Own5 w2 K u l → Own5 (w3.setCell ⟨R, 0, none⟩ (.slice A3 n3 c3)) K u l := fun {K u l} hu => own_same hu fun b hb =>
    hfin b (hu.lt b hb).2 (fun e => own_ne2 hu HO2.out (by decide) b hb e) (fun e => own_blk hu HR2.out (by decide) (by rw [hb, e]))
  go_wp2_with fail
  go_end0
  refine ⟨rfl, ⟨_, gs ++ [((nm, bd), .slice Ab bn cb)], w.heap.size, hR4, hNR, by rw [List.map_append, hgsf.out]; rfl, ?_, ?_⟩, ?_, ?_⟩
  · rw [show gv (gs ++ [((nm, bd), Value.slice Ab bn cb)]) = gv gs ++ [(Value.string (str nm), Value.slice Ab bn cb)] by rw [gv_append]; rfl, HL3.out]
    exact hO4
  · refine ⟨hNw, by simp; omega, ?_, ?_, ?_⟩
    · intro x hx
      rcases List.mem_append.1 hx with hx | hx
      · exact h5 (own_kept (HBD.out.own x hx) HQ2.out.2.1 (Nat.le_refl _))
      · rw [List.mem_singleton] at hx
        rw [hx]
        exact own_more (h5 HV2.out) hNw
    · intro i x hi hx b hb
      rw [List.length_append, List.length_singleton] at hi
      rw [List.getElem?_append_left (by omega)] at hx
      exact ((HBD.out.own x (List.mem_of_getElem? hx)).lt b hb).2
    · intro x hx
      simp at hx
      rw [← hx]
      exact h5 HV2.out
  · have k2' := HQ2.out.2.1
    have hsz := k2'.size
    refine ⟨hg3.os.trans k2'.os, hg3.tape.trans k2'.tape, hg3.output.trans k2'.output, by simp; omega, fun b hb => (hfin b (by omega) (fun e => ?_) (by omega)).trans (k2'.block b (by omega))⟩
    have := (HOW.out.lt b e).1
    omega
  · intro i o hi ho
    have hsz := HQ2.out.2.1.size
    have hlt := (Array.getElem?_eq_some_iff.1 hi).1
    refine (hfin i (by omega) (fun e => ?_) (fun e => ?_)).trans ((HQ2.out.2.1.block i hlt).trans hi)
    · obtain ⟨cs, fr, hh⟩ := own_type HOW.out e
      rw [hi] at hh
      injection hh with hh
      exact (ho _ _ _ hh).1 rfl
    · have := HR.out
      unfold BlkIs at this
      rw [← e, hi] at this
      injection this with this
      exact (ho _ _ _ this).2.2 rfl
end Hd
end Go.Proofs.YtliaciojlcajdaaDoor
