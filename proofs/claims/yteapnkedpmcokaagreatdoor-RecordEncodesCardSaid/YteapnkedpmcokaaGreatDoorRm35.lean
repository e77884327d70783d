/- SeParse. Conditions: as stated at each. -/
import Derived.Test.YteapnkedpmcokaaGreatDoorRm34
import Derived.Test.YteapnkedpmcokaaGreatDoorRm26
/- Contracts of Parse: the program's, the document's. Conditions: as stated at each. -/
namespace Go.Proofs.YteapnkedpmcokaaGreatDoor
set_option maxRecDepth 100000
open Go.RowKit Go
/-- what Parse answers. -/
def parseR (l : List UInt8) : Sl × Int := if l.length = 72 ∧ 1 ≤ (parseS l).seg ∧ (parseS l).seg ≤ 999999 then (parseS l, 0) else (zeroS, 60)
theorem parseR_ok (l : List UInt8) : (parseR l).1.ok := by
  unfold parseR
  split
  · next h => exact parseS_ok h.1
  · exact zeroS_ok
theorem run_build39p (a b : Int) (w : World) : (Instr.build 32 #[(0, .int .i64 a), (1, .int .i64 b)]).run Tryz.prog w = .ok (.agg (sc ⟨a, b, List.replicate 32 0, List.replicate 32 0⟩).toArray) w := by kernel_rfl
theorem splice_cells (a b c m : List Value) (o : Nat) (ho : a.length = o) (hb : b.length = m.length) : splice (a ++ (b ++ c)) o m = a ++ (m ++ c) := by
  unfold splice
  rw [List.take_left' ho, ← hb, ← List.drop_drop, List.drop_left' ho, List.drop_left' rfl]
theorem splice_root (s : Sl) (r : List UInt8) (hs : s.ok) (hr : r.length = 32) : splice (sc s) 2 (bv r) = sc ⟨s.seg, s.count, r, s.prev⟩ :=
  splice_cells [.int .i64 s.seg, .int .i64 s.count] (bv s.root) (bv s.prev) (bv r) 2 rfl (by rw [bv_length, bv_length, hs.1, hr])
theorem splice_prev (s : Sl) (r : List UInt8) (hs : s.ok) (hr : r.length = 32) : splice (sc s) 34 (bv r) = sc ⟨s.seg, s.count, s.root, r⟩ := by
  have h := splice_cells ([.int .i64 s.seg, .int .i64 s.count] ++ bv s.root) (bv s.prev) [] (bv r) 34 (by simp [bv_length, hs.1]) (by rw [bv_length, bv_length, hs.2, hr])
  rw [List.append_nil, List.append_nil, List.append_assoc, List.append_assoc] at h
  exact h
theorem bts_src {W : World} {B g o : Nat} {l : List UInt8} (h : Bts W B (some ⟨g, o, none⟩) l) : ∀ j v, (bv l)[j]? = some v → W.cell? ((⟨g, o, none⟩ : Addr).add j) = some v := fun j v hj => by
  obtain ⟨ad, e, _, hc⟩ := h j v hj
  injection e with e
  subst e
  exact hc
theorem bts_plain {W : World} {B : Nat} {A : Option Addr} {l : List UInt8} (h : Bts W B A l) (hl : 0 < l.length) : ∃ g o, A = some ⟨g, o, none⟩ ∧ g < B := by
  obtain ⟨⟨g, o, sp⟩, rfl, hg, hc0⟩ := h.at_ (k := 0) hl
  have hsp : sp = none := World.cell?_spot (a := ⟨g, o, sp⟩) (v := .int .u8 ((l.getD 0 0).toNat : Int)) (by simpa [Addr.add] using hc0)
  subst hsp
  exact ⟨g, o, rfl, hg⟩
theorem bts_drop {W : World} {B g o : Nat} {l : List UInt8} (h : Bts W B (some ⟨g, o, none⟩) l) (k : Nat) : Bts W B (some ⟨g, o + k, none⟩) (l.drop k) := by
  have := h.drop_eq k
  rwa [add_at] at this
set_option maxHeartbeats 800000 in
theorem parse_len (A : Option Addr) (n c : Nat) (w : World) (hn : n ≠ 72) :
    Calls Tryz.prog 112 #[.slice A n c] w fun e w' => e = .returned (.tuple #[.agg (sc zeroS).toArray, .int .i64 60]) ∧ Below w.heap.size w w' := by
  have hne : (((n : Int)) != 72) = true := by simp; omega
  have h1 : ¬ (n : Int) = 72 := by omega
  have h0 : BlkIs (w.alloc (.cells (sc zeroS).toArray 32)) w.heap.size 32 (sc zeroS).toArray := BlkIs.new w _ _
  have hb := below1 w (.cells (sc zeroS).toArray 32)
  clear hn
  go_enter Tryz.func112, Tryz.ntmps112
  go_wp2_with (first
    | (refine build_ops 32 #[] #[] _ (run_build39z _) rfl rfl rfl ?_)
    | (refine store_bl (.tmp 2) (.tmp 8) 32 w.heap.size 32 _ (sc zeroS).toArray h0 rfl rfl rfl rfl rfl (isz39a zeroS_ok) (sc_size zeroS_ok zeroS_ok) (sc_all _) ?_; intro w3 hb3 ht3)
    | fail)
  exact ret_sl rfl w.heap.size 32 _ _ hb3 _ rfl rfl Tryz.underlying32 rfl (isz39a zeroS_ok) rfl ⟨rfl, hb.trans (ht3.below hb.size (fun i hi h => by omega))⟩
set_option maxHeartbeats 800000 in
theorem rparse_len (A : Option Addr) (n c : Nat) (w : World) (hn : n ≠ 72) :
    Calls Tryz.prog 27 #[.slice A n c] w fun e w' => e = .returned (.tuple #[.agg (sc zeroS).toArray, .int .i64 60]) ∧ Below w.heap.size w w' := by
  have hne : (((n : Int)) != 72) = true := by simp; omega
  have h1 : ¬ (n : Int) = 72 := by omega
  have h0 : BlkIs (w.alloc (.cells (sc zeroS).toArray 32)) w.heap.size 32 (sc zeroS).toArray := BlkIs.new w _ _
  have hb := below1 w (.cells (sc zeroS).toArray 32)
  clear hn
  go_enter Tryz.func27, Tryz.ntmps27
  go_wp2_with (first
    | (refine build_ops 32 #[] #[] _ (run_build39z _) rfl rfl rfl ?_)
    | (refine store_bl (.tmp 2) (.tmp 9) 32 w.heap.size 32 _ (sc zeroS).toArray h0 rfl rfl rfl rfl rfl (isz39a zeroS_ok) (sc_size zeroS_ok zeroS_ok) (sc_all _) ?_; intro w3 hb3 ht3)
    | fail)
  exact ret_sl rfl w.heap.size 32 _ _ hb3 _ rfl rfl Tryz.underlying32 rfl (isz39a zeroS_ok) rfl ⟨rfl, hb.trans (ht3.below hb.size (fun i hi h => by omega))⟩
set_option maxHeartbeats 6400000 in
theorem parse_any (A : Option Addr) (B c : Nat) (l : List UInt8) (w : World) (h : Bts w B A l) (hB : B ≤ w.heap.size) (hl : l.length = 72) (hc : 72 ≤ c) :
    Calls Tryz.prog 112 #[.slice A 72 c] w fun e w' => e = .returned (.tuple #[.agg (sc (parseR l).1).toArray, .int .i64 (parseR l).2]) ∧ Below w.heap.size w w' := by
  have HL := Lib.hid hl
  have HL4 : Hid ((l.drop 4).length = 68) := Lib.hid (by rw [List.length_drop, hl])
  obtain ⟨ga, oa, rfl, hga⟩ := bts_plain h (by omega)
  have h0 : BlkIs (w.alloc (.cells (sc zeroS).toArray 32)) w.heap.size 32 (sc zeroS).toArray := BlkIs.new w _ _
  have hb := below1 w (.cells (sc zeroS).toArray 32)
  obtain ⟨W0, hW0⟩ : ∃ W0, W0 = w.alloc (.cells (sc zeroS).toArray 32) := ⟨_, rfl⟩
  have hsz : W0.heap.size = w.heap.size + 1 := by rw [hW0]; simp
  have HBT : Hid (∀ W, Below W0.heap.size W0 W → Bts W B (some ⟨ga, oa, none⟩) l) := Lib.hid fun W hW => h.below ((hb.mono hB).trans (by rw [← hW0]; exact hW.mono (by omega)))
  have HBT4 : Hid (∀ W, Below W0.heap.size W0 W → Bts W B (some ⟨ga, oa + 4, none⟩) (l.drop 4)) := Lib.hid fun W hW => bts_drop (HBT.out W hW) 4
  have H0C : Hid (∀ w', (Instr.slice 25 (.slice (some ⟨ga, oa, none⟩) 72 c) (some (.int .i64 0)) none none).run Tryz.prog w' = .ok (.slice (some ⟨ga, oa, none⟩) 72 c) w') := Lib.hid fun w' => cut45 ga oa 72 c 0 (by omega) (by omega) w'
  have H4C : Hid (∀ w', (Instr.slice 25 (.slice (some ⟨ga, oa, none⟩) 72 c) (some (.int .i64 4)) none none).run Tryz.prog w' = .ok (.slice (some ⟨ga, oa + 4, none⟩) 68 (c - 4)) w') := Lib.hid fun w' => cut45 ga oa 72 c 4 (by omega) (by omega) w'
  have H8C : Hid (∀ w', (Instr.slice 25 (.slice (some ⟨ga, oa, none⟩) 72 c) (some (.int .i64 8)) none none).run Tryz.prog w' = .ok (.slice (some ⟨ga, oa + 8, none⟩) 64 (c - 8)) w') := Lib.hid fun w' => cut45 ga oa 72 c 8 (by omega) (by omega) w'
  have H40C : Hid (∀ w', (Instr.slice 25 (.slice (some ⟨ga, oa, none⟩) 72 c) (some (.int .i64 40)) none none).run Tryz.prog w' = .ok (.slice (some ⟨ga, oa + 40, none⟩) 32 (c - 40)) w') := Lib.hid fun w' => cut45 ga oa 72 c 40 (by omega) (by omega) w'
  obtain ⟨p0, hp0⟩ : ∃ p0 : Sl, p0 = ⟨(numS l : Nat), (numS (l.drop 4) : Nat), List.replicate 32 0, List.replicate 32 0⟩ := ⟨_, rfl⟩
  have HP0 : Hid (Sl.ok p0) := Lib.hid (by rw [hp0]; exact ⟨by simp, by simp⟩)
  have HBP : Hid (∀ w, (Instr.build 32 #[(0, .int .i64 (numS l : Nat)), (1, .int .i64 (numS (l.drop 4) : Nat))]).run Tryz.prog w = .ok (.agg (sc p0).toArray) w) := Lib.hid fun w => by rw [hp0]; exact run_build39p _ _ w
  have HPP := Lib.hid hp0
  clear hp0
  have HP1 : Hid (Sl.ok ⟨(numS l : Nat), (numS (l.drop 4) : Nat), (l.drop 8).take 32, List.replicate 32 0⟩) := Lib.hid ⟨by simp [hl], by simp⟩
  have HP2 : Hid (Sl.ok (parseS l)) := Lib.hid (parseS_ok hl)
  have HR1 : Hid (((l.drop 8).take 32).length = 32) := Lib.hid (by simp [hl])
  have HR2 : Hid (((l.drop 40).take 32).length = 32) := Lib.hid (by simp [hl])
  have HSEG : Hid ((parseS l).seg = (numS l : Nat)) := Lib.hid rfl
  have HPR : Hid (parseR l = if 1 ≤ (numS l : Int) ∧ (numS l : Int) ≤ 999999 then (parseS l, 0) else (zeroS, 60)) := Lib.hid (by unfold parseR; simp only [hl, true_and]; rfl)
  have hw0 : w.heap.size < W0.heap.size := by omega
  clear h hl hB hga
  have HI2 := Lib.hid (isl26o (w.heap.size + 1) 2)
  have HI34 := Lib.hid (isl26o (w.heap.size + 1) 34)
  go_enter Tryz.func112, Tryz.ntmps112
  go_wp2_with fail
  rw [← hW0] at h0 hb
  first | rw [← hW0] | (change Code.wp _ _ _ _ (w.alloc (.cells (sc zeroS).toArray 32)); rw [← hW0])
  clear hW0
  have kd : Below W0.heap.size W0 W0.drew := (Below.refl _ W0).drew
  refine wp_region_held_drew (S := (fun W => Below W0.heap.size W0 W)) (by kernel_rfl) (kd) (fun hHeld => ?_)
  refine wpAnyH_take (i := 0) (v := .slice (some ⟨ga, oa, none⟩) 72 c) rfl (by kernel_rfl) (by kernel_rfl) (by kernel_rfl) (fun _ _ _ h => h) (Or.inl ⟨by rfl, fun w hS => by first | (go_simp; done) | (go_simp; with_reducible rfl)⟩) hHeld ?_
  try simp only [Act.put, List.getElem_toArray, List.getElem_cons_zero, List.setIfInBounds_toArray, List.set_cons_zero, List.set_cons_succ]
  refine wpAnyH_take (i := 1) (v := .slice (some ⟨ga, oa, none⟩) 72 c) rfl (by kernel_rfl) (by kernel_rfl) (by kernel_rfl) (fun _ _ _ h => h) (Or.inl ⟨by rfl, fun w hS => by (have hc := H0C.out; first | (go_simp; done) | (go_simp; with_reducible rfl))⟩) hHeld ?_
  try simp only [Act.put, List.getElem_toArray, List.getElem_cons_zero, List.getElem_cons_succ, List.setIfInBounds_toArray, List.set_cons_zero, List.set_cons_succ]
  refine wpAnyH_take (i := 3) (v := .slice (some ⟨ga, oa, none⟩) 72 c) rfl (by kernel_rfl) (by kernel_rfl) (by kernel_rfl) (fun _ _ _ h => h) (Or.inl ⟨by rfl, fun w hS => by first | (go_simp; done) | (go_simp; with_reducible rfl)⟩) hHeld ?_
  try simp only [Act.put, List.getElem_toArray, List.getElem_cons_zero, List.getElem_cons_succ, List.setIfInBounds_toArray, List.set_cons_zero, List.set_cons_succ]
  refine wpAnyH_take (i := 4) (v := .slice (some ⟨ga, oa + 4, none⟩) 68 (c - 4)) rfl (by kernel_rfl) (by kernel_rfl) (by kernel_rfl) (fun _ _ _ h => h) (Or.inl ⟨by rfl, fun w hS => by (have hc := H4C.out; first | (go_simp; done) | (go_simp; with_reducible rfl))⟩) hHeld ?_
  try simp only [Act.put, List.getElem_toArray, List.getElem_cons_zero, List.getElem_cons_succ, List.setIfInBounds_toArray, List.set_cons_zero, List.set_cons_succ]
  refine wpAnyH_ready (rs := [2, 7]) (by kernel_rfl) (by simp) ?_
  refine AllReadyH.cons rfl (fun K hK => ?_) (AllReadyH.cons rfl (fun K hK => ?_) AllReadyH.nil)
  focus
    skip
    go_simp
    go_wp2_with (go_at_call 118; refine (number_any (some ⟨ga, oa, none⟩) B 72 c l _ (HBT.out _ kd) HL.out (by omega)).mono ?_; rintro e wa ⟨rfl, rfl⟩)
    refine hK.out _ _ ?_ (fun hHeld => ?_)
    · exact kd
    clear hK K
    try simp only [Act.put, List.getElem_toArray, List.getElem_cons_zero, List.getElem_cons_succ, List.setIfInBounds_toArray, List.set_cons_zero, List.set_cons_succ]
    refine wpAnyH_ready (rs := [5, 7]) (by kernel_rfl) (by simp) ?_
    refine AllReadyH.cons rfl (fun K hK => ?_) (AllReadyH.cons rfl (fun K hK => ?_) AllReadyH.nil)
    focus
      skip
      go_simp
      go_wp2_with (go_at_call 118; refine (number_any (some ⟨ga, oa + 4, none⟩) B 68 (c - 4) (l.drop 4) _ (HBT4.out _ kd) HL4.out (by omega)).mono ?_; rintro e wb ⟨rfl, rfl⟩)
      refine hK.out _ _ ?_ (fun hHeld => ?_)
      · exact kd
      clear hK K
      try simp only [Act.put, List.getElem_toArray, List.getElem_cons_zero, List.getElem_cons_succ, List.setIfInBounds_toArray, List.set_cons_zero, List.set_cons_succ]
      refine wpAnyH_take (i := 6) (v := _) rfl (by kernel_rfl) (by kernel_rfl) (by kernel_rfl) (fun _ _ _ h => h) (yields_build 32 #[(0, .tmp 11), (1, .tmp 14)] #[(0, .int .i64 (numS l : Nat)), (1, .int .i64 (numS (l.drop 4) : Nat))] _ HBP.out rfl (by simp only [List.map_toArray, List.map_cons, List.map_nil]; rfl) rfl) hHeld ?_
      try simp only [Act.put, List.getElem_toArray, List.getElem_cons_zero, List.getElem_cons_succ, List.setIfInBounds_toArray, List.set_cons_zero, List.set_cons_succ]
      refine wpAnyH_ready (rs := [7]) (by kernel_rfl) (by simp) ?_
      refine AllReadyH.cons rfl (fun K hK => ?_) AllReadyH.nil
      go_simp
      refine hK.out _ _ ?_ (fun hHeld => ?_)
      · exact kd.alloc kd.size _
      clear hK K
      try simp only [Act.put, List.getElem_toArray, List.getElem_cons_zero, List.getElem_cons_succ, List.setIfInBounds_toArray, List.set_cons_zero, List.set_cons_succ]
      have k4 := kd.alloc kd.size (.cells (sc zeroS).toArray 32)
      have b4 := BlkIs.new_at W0.drew 32 (sc zeroS).toArray (w.heap.size + 1) (by simp; omega)
      refine wpAnyH_ready (rs := [8]) (by kernel_rfl) (by simp) ?_
      refine AllReadyH.cons rfl (fun K hK => ?_) AllReadyH.nil
      refine step_store (.tmp 4) (.tmp 15) 32 (w.heap.size + 1) 32 _ (sc p0).toArray b4 rfl rfl rfl rfl rfl (isz39a HP0.out) (sc_size zeroS_ok HP0.out) (sc_all _) ?_; intro w4 hb4 ht4
      refine hK.out _ _ ?_ (fun hHeld => ?_)
      · exact k4.trans (ht4.below k4.size (fun i hi h => by omega))
      clear hK K
      try simp only [Act.put, List.getElem_toArray, List.getElem_cons_zero, List.getElem_cons_succ, List.setIfInBounds_toArray, List.set_cons_zero, List.set_cons_succ]
      refine wpAnyH_done (by kernel_rfl) ?_ _
      have K4 : Below W0.heap.size W0 w4 := k4.trans (ht4.below k4.size (fun i hi h => by omega))
    rotate_left
    focus
      skip
      go_simp
      refine hK.out _ _ ?_ (fun hHeld => ?_)
      · exact kd.alloc kd.size _
      clear hK K
      try simp only [Act.put, List.getElem_toArray, List.getElem_cons_zero, List.getElem_cons_succ, List.setIfInBounds_toArray, List.set_cons_zero, List.set_cons_succ]
      have k3 := kd.alloc kd.size (.cells (sc zeroS).toArray 32)
      have b3 := BlkIs.new_at W0.drew 32 (sc zeroS).toArray (w.heap.size + 1) (by simp; omega)
      refine wpAnyH_ready (rs := [5]) (by kernel_rfl) (by simp) ?_
      refine AllReadyH.cons rfl (fun K hK => ?_) AllReadyH.nil
      go_simp
      go_wp2_with (go_at_call 118; refine (number_any (some ⟨ga, oa + 4, none⟩) B 68 (c - 4) (l.drop 4) _ (HBT4.out _ k3) HL4.out (by omega)).mono ?_; rintro e wb ⟨rfl, rfl⟩)
      refine hK.out _ _ ?_ (fun hHeld => ?_)
      · exact k3
      clear hK K
      try simp only [Act.put, List.getElem_toArray, List.getElem_cons_zero, List.getElem_cons_succ, List.setIfInBounds_toArray, List.set_cons_zero, List.set_cons_succ]
      have k4 := k3
      have b4 := b3
      refine wpAnyH_take (i := 6) (v := _) rfl (by kernel_rfl) (by kernel_rfl) (by kernel_rfl) (fun _ _ _ h => h) (yields_build 32 #[(0, .tmp 11), (1, .tmp 14)] #[(0, .int .i64 (numS l : Nat)), (1, .int .i64 (numS (l.drop 4) : Nat))] _ HBP.out rfl (by simp only [List.map_toArray, List.map_cons, List.map_nil]; rfl) rfl) hHeld ?_
      try simp only [Act.put, List.getElem_toArray, List.getElem_cons_zero, List.getElem_cons_succ, List.setIfInBounds_toArray, List.set_cons_zero, List.set_cons_succ]
      refine wpAnyH_ready (rs := [8]) (by kernel_rfl) (by simp) ?_
      refine AllReadyH.cons rfl (fun K hK => ?_) AllReadyH.nil
      refine step_store (.tmp 4) (.tmp 15) 32 (w.heap.size + 1) 32 _ (sc p0).toArray b4 rfl rfl rfl rfl rfl (isz39a HP0.out) (sc_size zeroS_ok HP0.out) (sc_all _) ?_; intro w4 hb4 ht4
      refine hK.out _ _ ?_ (fun hHeld => ?_)
      · exact k4.trans (ht4.below k4.size (fun i hi h => by omega))
      clear hK K
      try simp only [Act.put, List.getElem_toArray, List.getElem_cons_zero, List.getElem_cons_succ, List.setIfInBounds_toArray, List.set_cons_zero, List.set_cons_succ]
      refine wpAnyH_done (by kernel_rfl) ?_ _
      have K4 : Below W0.heap.size W0 w4 := k4.trans (ht4.below k4.size (fun i hi h => by omega))
    rotate_left
  rotate_left 2
  focus
    skip
    go_simp
    refine hK.out _ _ ?_ (fun hHeld => ?_)
    · exact kd.alloc kd.size _
    clear hK K
    try simp only [Act.put, List.getElem_toArray, List.getElem_cons_zero, List.getElem_cons_succ, List.setIfInBounds_toArray, List.set_cons_zero, List.set_cons_succ]
    have k2 := kd.alloc kd.size (.cells (sc zeroS).toArray 32)
    have b2 := BlkIs.new_at W0.drew 32 (sc zeroS).toArray (w.heap.size + 1) (by simp; omega)
    refine wpAnyH_ready (rs := [2]) (by kernel_rfl) (by simp) ?_
    refine AllReadyH.cons rfl (fun K hK => ?_) AllReadyH.nil
    go_simp
    go_wp2_with (go_at_call 118; refine (number_any (some ⟨ga, oa, none⟩) B 72 c l _ (HBT.out _ k2) HL.out (by omega)).mono ?_; rintro e wa ⟨rfl, rfl⟩)
    refine hK.out _ _ ?_ (fun hHeld => ?_)
    · exact k2
    clear hK K
    try simp only [Act.put, List.getElem_toArray, List.getElem_cons_zero, List.getElem_cons_succ, List.setIfInBounds_toArray, List.set_cons_zero, List.set_cons_succ]
    refine wpAnyH_ready (rs := [5]) (by kernel_rfl) (by simp) ?_
    refine AllReadyH.cons rfl (fun K hK => ?_) AllReadyH.nil
    go_simp
    go_wp2_with (go_at_call 118; refine (number_any (some ⟨ga, oa + 4, none⟩) B 68 (c - 4) (l.drop 4) _ (HBT4.out _ k2) HL4.out (by omega)).mono ?_; rintro e wb ⟨rfl, rfl⟩)
    refine hK.out _ _ ?_ (fun hHeld => ?_)
    · exact k2
    clear hK K
    try simp only [Act.put, List.getElem_toArray, List.getElem_cons_zero, List.getElem_cons_succ, List.setIfInBounds_toArray, List.set_cons_zero, List.set_cons_succ]
    have k4 := k2
    have b4 := b2
    refine wpAnyH_take (i := 6) (v := _) rfl (by kernel_rfl) (by kernel_rfl) (by kernel_rfl) (fun _ _ _ h => h) (yields_build 32 #[(0, .tmp 11), (1, .tmp 14)] #[(0, .int .i64 (numS l : Nat)), (1, .int .i64 (numS (l.drop 4) : Nat))] _ HBP.out rfl (by simp only [List.map_toArray, List.map_cons, List.map_nil]; rfl) rfl) hHeld ?_
    try simp only [Act.put, List.getElem_toArray, List.getElem_cons_zero, List.getElem_cons_succ, List.setIfInBounds_toArray, List.set_cons_zero, List.set_cons_succ]
    refine wpAnyH_ready (rs := [8]) (by kernel_rfl) (by simp) ?_
    refine AllReadyH.cons rfl (fun K hK => ?_) AllReadyH.nil
    refine step_store (.tmp 4) (.tmp 15) 32 (w.heap.size + 1) 32 _ (sc p0).toArray b4 rfl rfl rfl rfl rfl (isz39a HP0.out) (sc_size zeroS_ok HP0.out) (sc_all _) ?_; intro w4 hb4 ht4
    refine hK.out _ _ ?_ (fun hHeld => ?_)
    · exact k4.trans (ht4.below k4.size (fun i hi h => by omega))
    clear hK K
    try simp only [Act.put, List.getElem_toArray, List.getElem_cons_zero, List.getElem_cons_succ, List.setIfInBounds_toArray, List.set_cons_zero, List.set_cons_succ]
    refine wpAnyH_done (by kernel_rfl) ?_ _
    have K4 : Below W0.heap.size W0 w4 := k4.trans (ht4.below k4.size (fun i hi h => by omega))
  rotate_left
  all_goals
    have H0 : Hid (BlkIs w4 w.heap.size 32 (sc zeroS).toArray) := Lib.hid ((K4.block _ hw0).trans h0)
    have H4 : Hid (BlkIs w4 (w.heap.size + 1) 32 (sc ⟨(numS l : Nat), (numS (l.drop 4) : Nat), List.replicate 32 0, List.replicate 32 0⟩).toArray) := Lib.hid (by rw [← HPP.out]; exact hb4)
    have HK4 := Lib.hid K4
    clear hb4 ht4 K4 k4 b4
    have HP0 : Hid (Sl.ok ⟨(numS l : Nat), (numS (l.drop 4) : Nat), List.replicate 32 0, List.replicate 32 0⟩) := Lib.hid (by rw [← HPP.out]; exact HP0.out)
    go_wp2_with fail
    have kd4 : Below W0.heap.size W0 w4.drew := HK4.out.drew
    refine wp_region_held_drew (S := (fun _ => True)) (by kernel_rfl) (trivial) (fun hHeld => ?_)
    refine wpAnyH_take (i := 0) (v := .pointer (some ⟨w.heap.size + 1, 2, none⟩)) rfl (by kernel_rfl) (by kernel_rfl) (by kernel_rfl) (fun _ _ _ h => h) (Or.inl ⟨by rfl, fun w hS => by first | (go_simp; done) | (go_simp; with_reducible rfl)⟩) hHeld ?_
    try simp only [Act.put, List.getElem_toArray, List.getElem_cons_zero, List.setIfInBounds_toArray, List.set_cons_zero, List.set_cons_succ]
    refine wpAnyH_take (i := 1) (v := .slice (some ⟨w.heap.size + 1, 2, none⟩) 32 32) rfl (by kernel_rfl) (by kernel_rfl) (by kernel_rfl) (fun _ _ _ h => h) (Or.inl ⟨by rfl, fun w hS => by (have hc := HI2.out; first | (go_simp; done) | (go_simp; with_reducible rfl))⟩) hHeld ?_
    try simp only [Act.put, List.getElem_toArray, List.getElem_cons_zero, List.getElem_cons_succ, List.setIfInBounds_toArray, List.set_cons_zero, List.set_cons_succ]
    refine wpAnyH_take (i := 2) (v := .slice (some ⟨ga, oa, none⟩) 72 c) rfl (by kernel_rfl) (by kernel_rfl) (by kernel_rfl) (fun _ _ _ h => h) (Or.inl ⟨by rfl, fun w hS => by first | (go_simp; done) | (go_simp; with_reducible rfl)⟩) hHeld ?_
    try simp only [Act.put, List.getElem_toArray, List.getElem_cons_zero, List.getElem_cons_succ, List.setIfInBounds_toArray, List.set_cons_zero, List.set_cons_succ]
    refine wpAnyH_take (i := 3) (v := .slice (some ⟨ga, oa + 8, none⟩) 64 (c - 8)) rfl (by kernel_rfl) (by kernel_rfl) (by kernel_rfl) (fun _ _ _ h => h) (Or.inl ⟨by rfl, fun w hS => by (have hc := H8C.out; first | (go_simp; done) | (go_simp; with_reducible rfl))⟩) hHeld ?_
    try simp only [Act.put, List.getElem_toArray, List.getElem_cons_zero, List.getElem_cons_succ, List.setIfInBounds_toArray, List.set_cons_zero, List.set_cons_succ]
    refine wpAnyH_ready (rs := [4]) (by kernel_rfl) (by simp) ?_
    refine AllReadyH.cons rfl (fun K hK => ?_) AllReadyH.nil
    refine step_copy5 (.tmp 17) (.tmp 19) (w.heap.size + 1) 2 32 32 ⟨ga, oa + 8, none⟩ 64 (c - 8) (sc ⟨(numS l : Nat), (numS (l.drop 4) : Nat), List.replicate 32 0, List.replicate 32 0⟩) (bv ((l.drop 8).take 32)) 32 ((Alk.drew _).blk H4.out) rfl rfl rfl rfl (by rw [bv_length, HR1.out]; rfl) (bts_src ((bts_drop (HBT.out _ kd4) 8).take 32)) (by rw [bv_length, HR1.out, sc_length HP0.out]; omega) (bv_one _) ?_; intro w5 hb5 ht5
    refine hK.out _ _ ?_ (fun hHeld => ?_)
    · trivial
    clear hK K
    try simp only [Act.put, List.getElem_toArray, List.getElem_cons_zero, List.getElem_cons_succ, List.setIfInBounds_toArray, List.set_cons_zero, List.set_cons_succ]
    refine wpAnyH_done (by kernel_rfl) ?_ _
    rw [splice_root _ _ HP0.out HR1.out] at hb5
    have H5 : Hid (BlkIs w5 (w.heap.size + 1) 32 (sc ⟨(numS l : Nat), (numS (l.drop 4) : Nat), (l.drop 8).take 32, List.replicate 32 0⟩).toArray) := Lib.hid hb5
    have H05 : Hid (BlkIs w5 w.heap.size 32 (sc zeroS).toArray) := Lib.hid (BlkIs.tn ((Alk.drew _).blk H0.out) ht5 (by omega))
    have HK5 : Hid (Below W0.heap.size W0 w5) := Lib.hid (kd4.trans (ht5.below kd4.size (fun i hi h => by omega)))
    clear hb5 ht5 kd4
    go_wp2_with fail
    have kd5 : Below W0.heap.size W0 w5.drew := HK5.out.drew
    refine wp_region_held_drew (S := (fun _ => True)) (by kernel_rfl) (trivial) (fun hHeld => ?_)
    refine wpAnyH_take (i := 0) (v := .pointer (some ⟨w.heap.size + 1, 34, none⟩)) rfl (by kernel_rfl) (by kernel_rfl) (by kernel_rfl) (fun _ _ _ h => h) (Or.inl ⟨by rfl, fun w hS => by first | (go_simp; done) | (go_simp; with_reducible rfl)⟩) hHeld ?_
    try simp only [Act.put, List.getElem_toArray, List.getElem_cons_zero, List.setIfInBounds_toArray, List.set_cons_zero, List.set_cons_succ]
    refine wpAnyH_take (i := 1) (v := .slice (some ⟨w.heap.size + 1, 34, none⟩) 32 32) rfl (by kernel_rfl) (by kernel_rfl) (by kernel_rfl) (fun _ _ _ h => h) (Or.inl ⟨by rfl, fun w hS => by (have hc := HI34.out; first | (go_simp; done) | (go_simp; with_reducible rfl))⟩) hHeld ?_
    try simp only [Act.put, List.getElem_toArray, List.getElem_cons_zero, List.getElem_cons_succ, List.setIfInBounds_toArray, List.set_cons_zero, List.set_cons_succ]
    refine wpAnyH_take (i := 2) (v := .slice (some ⟨ga, oa, none⟩) 72 c) rfl (by kernel_rfl) (by kernel_rfl) (by kernel_rfl) (fun _ _ _ h => h) (Or.inl ⟨by rfl, fun w hS => by first | (go_simp; done) | (go_simp; with_reducible rfl)⟩) hHeld ?_
    try simp only [Act.put, List.getElem_toArray, List.getElem_cons_zero, List.getElem_cons_succ, List.setIfInBounds_toArray, List.set_cons_zero, List.set_cons_succ]
    refine wpAnyH_take (i := 3) (v := .slice (some ⟨ga, oa + 40, none⟩) 32 (c - 40)) rfl (by kernel_rfl) (by kernel_rfl) (by kernel_rfl) (fun _ _ _ h => h) (Or.inl ⟨by rfl, fun w hS => by (have hc := H40C.out; first | (go_simp; done) | (go_simp; with_reducible rfl))⟩) hHeld ?_
    try simp only [Act.put, List.getElem_toArray, List.getElem_cons_zero, List.getElem_cons_succ, List.setIfInBounds_toArray, List.set_cons_zero, List.set_cons_succ]
    refine wpAnyH_ready (rs := [4]) (by kernel_rfl) (by simp) ?_
    refine AllReadyH.cons rfl (fun K hK => ?_) AllReadyH.nil
    refine step_copy5 (.tmp 22) (.tmp 24) (w.heap.size + 1) 34 32 32 ⟨ga, oa + 40, none⟩ 32 (c - 40) (sc ⟨(numS l : Nat), (numS (l.drop 4) : Nat), (l.drop 8).take 32, List.replicate 32 0⟩) (bv ((l.drop 40).take 32)) 32 ((Alk.drew _).blk H5.out) rfl rfl rfl rfl (by rw [bv_length, HR2.out]; rfl) (bts_src ((bts_drop (HBT.out _ kd5) 40).take 32)) (by rw [bv_length, HR2.out, sc_length HP1.out]; omega) (bv_one _) ?_; intro w6 hb6 ht6
    refine hK.out _ _ ?_ (fun hHeld => ?_)
    · trivial
    clear hK K
    try simp only [Act.put, List.getElem_toArray, List.getElem_cons_zero, List.getElem_cons_succ, List.setIfInBounds_toArray, List.set_cons_zero, List.set_cons_succ]
    refine wpAnyH_done (by kernel_rfl) ?_ _
    rw [splice_prev _ _ HP1.out HR2.out] at hb6
    have H6 : BlkIs w6 (w.heap.size + 1) 32 (sc (parseS l)).toArray := hb6
    have H06 : Hid (BlkIs w6 w.heap.size 32 (sc zeroS).toArray) := Lib.hid (BlkIs.tn ((Alk.drew _).blk H05.out) ht6 (by omega))
    have HK6 : Hid (Below w.heap.size w w6) := Lib.hid (hb.trans ((kd5.trans (ht6.below kd5.size (fun i hi h => by omega))).mono (by omega)))
    have c0 := sc_seg H6
    rw [HSEG.out] at c0
    have r6 := blk_rng H6
    clear hb6 ht6 kd5 H6
    by_cases hseg : 1 ≤ (numS l : Int) ∧ (numS l : Int) ≤ 999999
    · have HF : Hid (parseR l = (parseS l, 0)) := Lib.hid (by rw [HPR.out, if_pos hseg])
      go_wp2_with (first
        | (refine (segment_yes _ _ hseg.1 hseg.2).mono ?_; rintro e w7 ⟨rfl, rfl⟩)
        | (refine load_wt (by rfl) 32 (.tmp 4) rfl (w.heap.size + 1) 0 rfl (sc (parseS l)) _ r6 Tryz.underlying32 rfl (isz39s HP2.out) ?_)
        | (refine store_bl (.tmp 2) (.tmp 31) 32 w.heap.size 32 _ (sc (parseS l)).toArray H06.out rfl rfl rfl rfl rfl (isz39a HP2.out) (sc_size zeroS_ok HP2.out) (sc_all _) ?_; intro w8 hb8 ht8)
        | fail)
      exact ret_sl rfl w.heap.size 32 _ _ hb8 _ rfl rfl Tryz.underlying32 rfl (isz39a HP2.out) rfl ⟨by rw [HF.out]; rfl, HK6.out.trans (ht8.below HK6.out.size (fun i hi h => by omega))⟩
    · have HF : Hid (parseR l = (zeroS, 60)) := Lib.hid (by rw [HPR.out, if_neg hseg])
      have hno : (numS l : Int) < 1 ∨ 999999 < (numS l : Int) := by omega
      clear hseg
      have HNO := Lib.hid hno
      clear hno
      go_wp2_with (first
        | (refine (segment_no _ _ HNO.out).mono ?_; rintro e w7 ⟨rfl, rfl⟩)
        | (refine build_ops 32 #[] #[] _ (run_build39z _) rfl rfl rfl ?_)
        | (refine store_bl (.tmp 2) (.tmp 30) 32 w.heap.size 32 _ (sc zeroS).toArray H06.out rfl rfl rfl rfl rfl (isz39a zeroS_ok) (sc_size zeroS_ok zeroS_ok) (sc_all _) ?_; intro w8 hb8 ht8)
        | fail)
      exact ret_sl rfl w.heap.size 32 _ _ hb8 _ rfl rfl Tryz.underlying32 rfl (isz39a zeroS_ok) rfl ⟨by rw [HF.out]; rfl, HK6.out.trans (ht8.below HK6.out.size (fun i hi h => by omega))⟩
/-- between two rounds. -/
def mixB (r : List UInt8) (k : Nat) : List UInt8 := r.take k ++ List.replicate (32 - k) 0
theorem mixB_length {r : List UInt8} (hr : r.length = 32) {k : Nat} (hk : k ≤ 32) : (mixB r k).length = 32 := by simp [mixB, hr]; omega
theorem mixB_set {r : List UInt8} (hr : r.length = 32) {k : Nat} (hk : k < 32) : (bv (mixB r k)).set k (.int .u8 ((r.getD k 0).toNat : Int)) = bv (mixB r (k + 1)) := by
  obtain ⟨j, hj⟩ : ∃ j, 32 - k = j + 1 := ⟨31 - k, by omega⟩
  have ht : (r.take k).length = k := by rw [List.length_take]; omega
  unfold mixB
  rw [hj, show 32 - (k + 1) = j from by omega, List.replicate_succ, List.take_succ_eq_append_getElem (by omega), bv_append, bv_append, bv_append, List.set_append_right _ _ (by rw [bv_length, ht]; exact Nat.le_refl _), bv_length, ht, Nat.sub_self, List.append_assoc, List.getD_eq_getElem?_getD, List.getElem?_eq_getElem (by omega)]
  rfl
theorem mixB_get {r : List UInt8} (hr : r.length = 32) {k : Nat} (hk : k < 32) : (bv (mixB r k))[k]? = some (.int .u8 0) := by
  obtain ⟨j, hj⟩ : ∃ j, 32 - k = j + 1 := ⟨31 - k, by omega⟩
  have ht : (r.take k).length = k := by rw [List.length_take]; omega
  unfold mixB
  rw [hj, List.replicate_succ, bv_append, List.getElem?_append_right (by rw [bv_length, ht]; exact Nat.le_refl _), bv_length, ht, Nat.sub_self]
  rfl
theorem mixB_all {r : List UInt8} (hr : r.length = 32) : mixB r 32 = r := by
  unfold mixB
  rw [List.take_of_length_le (by omega)]
  simp
theorem mixB_none (r : List UInt8) : mixB r 0 = List.replicate 32 0 := by simp [mixB]
theorem sc_set_root (a b : Int) {r p : List UInt8} (hr : r.length = 32) {k : Nat} (hk : k < 32) : (sc ⟨a, b, mixB r k, p⟩).toArray.setIfInBounds (2 + k) (.int .u8 ((r.getD k 0).toNat : Int)) = (sc ⟨a, b, mixB r (k + 1), p⟩).toArray := by
  apply Array.toList_inj.1
  rw [Array.toList_setIfInBounds]
  show ([Value.int .i64 a, Value.int .i64 b] ++ (bv (mixB r k) ++ bv p)).set (2 + k) _ = [Value.int .i64 a, Value.int .i64 b] ++ (bv (mixB r (k + 1)) ++ bv p)
  rw [← mixB_set hr hk, List.set_append_right _ _ (by show 2 ≤ 2 + k; omega), show 2 + k - [Value.int .i64 a, Value.int .i64 b].length = k from by show 2 + k - 2 = k; omega, List.set_append_left _ _ (by rw [bv_length, mixB_length hr (by omega)]; exact hk)]
theorem sc_set_prev (a b : Int) {q r : List UInt8} (hq : q.length = 32) (hr : r.length = 32) {k : Nat} (hk : k < 32) : (sc ⟨a, b, q, mixB r k⟩).toArray.setIfInBounds (34 + k) (.int .u8 ((r.getD k 0).toNat : Int)) = (sc ⟨a, b, q, mixB r (k + 1)⟩).toArray := by
  apply Array.toList_inj.1
  rw [Array.toList_setIfInBounds]
  show ([Value.int .i64 a, Value.int .i64 b] ++ (bv q ++ bv (mixB r k))).set (34 + k) _ = [Value.int .i64 a, Value.int .i64 b] ++ (bv q ++ bv (mixB r (k + 1)))
  rw [← mixB_set hr hk, List.set_append_right _ _ (by show 2 ≤ 34 + k; omega), show 34 + k - [Value.int .i64 a, Value.int .i64 b].length = 32 + k from by show 34 + k - 2 = 32 + k; omega, List.set_append_right _ _ (by rw [bv_length, hq]; omega), bv_length, hq, show 32 + k - 32 = k from by omega]
set_option maxHeartbeats 6400000 in
theorem rparse_any (A : Option Addr) (B c : Nat) (l : List UInt8) (w : World) (h : Bts w B A l) (hB : B ≤ w.heap.size) (hl : l.length = 72) (hc : 72 ≤ c) :
    Calls Tryz.prog 27 #[.slice A 72 c] w fun e w' => e = .returned (.tuple #[.agg (sc (parseR l).1).toArray, .int .i64 (parseR l).2]) ∧ Below w.heap.size w w' := by
  have HL := Lib.hid hl
  have HL4 : Hid ((l.drop 4).length = 68) := Lib.hid (by rw [List.length_drop, hl])
  obtain ⟨ga, oa, rfl, hga⟩ := bts_plain h (by omega)
  have h0 : BlkIs (w.alloc (.cells (sc zeroS).toArray 32)) w.heap.size 32 (sc zeroS).toArray := BlkIs.new w _ _
  have hb := below1 w (.cells (sc zeroS).toArray 32)
  obtain ⟨W0, hW0⟩ : ∃ W0, W0 = w.alloc (.cells (sc zeroS).toArray 32) := ⟨_, rfl⟩
  have hsz : W0.heap.size = w.heap.size + 1 := by rw [hW0]; simp
  have HBT : Hid (∀ W, Below W0.heap.size W0 W → Bts W B (some ⟨ga, oa, none⟩) l) := Lib.hid fun W hW => h.below ((hb.mono hB).trans (by rw [← hW0]; exact hW.mono (by omega)))
  have HBT4 : Hid (∀ W, Below W0.heap.size W0 W → Bts W B (some ⟨ga, oa + 4, none⟩) (l.drop 4)) := Lib.hid fun W hW => bts_drop (HBT.out W hW) 4
  have H0C : Hid (∀ w', (Instr.slice 25 (.slice (some ⟨ga, oa, none⟩) 72 c) (some (.int .i64 0)) none none).run Tryz.prog w' = .ok (.slice (some ⟨ga, oa, none⟩) 72 c) w') := Lib.hid fun w' => cut45 ga oa 72 c 0 (by omega) (by omega) w'
  have H4C : Hid (∀ w', (Instr.slice 25 (.slice (some ⟨ga, oa, none⟩) 72 c) (some (.int .i64 4)) none none).run Tryz.prog w' = .ok (.slice (some ⟨ga, oa + 4, none⟩) 68 (c - 4)) w') := Lib.hid fun w' => cut45 ga oa 72 c 4 (by omega) (by omega) w'
  have H8C : Hid (∀ w', (Instr.slice 25 (.slice (some ⟨ga, oa, none⟩) 72 c) (some (.int .i64 8)) none none).run Tryz.prog w' = .ok (.slice (some ⟨ga, oa + 8, none⟩) 64 (c - 8)) w') := Lib.hid fun w' => cut45 ga oa 72 c 8 (by omega) (by omega) w'
  have H40C : Hid (∀ w', (Instr.slice 25 (.slice (some ⟨ga, oa, none⟩) 72 c) (some (.int .i64 40)) none none).run Tryz.prog w' = .ok (.slice (some ⟨ga, oa + 40, none⟩) 32 (c - 40)) w') := Lib.hid fun w' => cut45 ga oa 72 c 40 (by omega) (by omega) w'
  obtain ⟨p0, hp0⟩ : ∃ p0 : Sl, p0 = ⟨(numS l : Nat), (numS (l.drop 4) : Nat), List.replicate 32 0, List.replicate 32 0⟩ := ⟨_, rfl⟩
  have HP0 : Hid (Sl.ok p0) := Lib.hid (by rw [hp0]; exact ⟨by simp, by simp⟩)
  have HBP : Hid (∀ w, (Instr.build 32 #[(0, .int .i64 (numS l : Nat)), (1, .int .i64 (numS (l.drop 4) : Nat))]).run Tryz.prog w = .ok (.agg (sc p0).toArray) w) := Lib.hid fun w => by rw [hp0]; exact run_build39p _ _ w
  have HPP := Lib.hid hp0
  clear hp0
  have HP1 : Hid (Sl.ok ⟨(numS l : Nat), (numS (l.drop 4) : Nat), (l.drop 8).take 32, List.replicate 32 0⟩) := Lib.hid ⟨by simp [hl], by simp⟩
  have HP2 : Hid (Sl.ok (parseS l)) := Lib.hid (parseS_ok hl)
  have HR1 : Hid (((l.drop 8).take 32).length = 32) := Lib.hid (by simp [hl])
  have HR2 : Hid (((l.drop 40).take 32).length = 32) := Lib.hid (by simp [hl])
  have HSEG : Hid ((parseS l).seg = (numS l : Nat)) := Lib.hid rfl
  have HPR : Hid (parseR l = if 1 ≤ (numS l : Int) ∧ (numS l : Int) ≤ 999999 then (parseS l, 0) else (zeroS, 60)) := Lib.hid (by unfold parseR; simp only [hl, true_and]; rfl)
  have hw0 : w.heap.size < W0.heap.size := by omega
  have hgB : ga < w.heap.size := by omega
  clear h hl hB hga
  go_enter Tryz.func27, Tryz.ntmps27
  go_wp2_with fail
  rw [← hW0] at h0 hb
  first | rw [← hW0] | (change Code.wp _ _ _ _ (w.alloc (.cells (sc zeroS).toArray 32)); rw [← hW0])
  clear hW0
  have kd : Below W0.heap.size W0 W0.drew := (Below.refl _ W0).drew
  refine wp_region_held_drew (S := (fun W => Below W0.heap.size W0 W)) (by kernel_rfl) (kd) (fun hHeld => ?_)
  refine wpAnyH_take (i := 0) (v := .slice (some ⟨ga, oa, none⟩) 72 c) rfl (by kernel_rfl) (by kernel_rfl) (by kernel_rfl) (fun _ _ _ h => h) (Or.inl ⟨by rfl, fun w hS => by first | (go_simp; done) | (go_simp; with_reducible rfl)⟩) hHeld ?_
  try simp only [Act.put, List.getElem_toArray, List.getElem_cons_zero, List.setIfInBounds_toArray, List.set_cons_zero, List.set_cons_succ]
  refine wpAnyH_take (i := 2) (v := .slice (some ⟨ga, oa, none⟩) 72 c) rfl (by kernel_rfl) (by kernel_rfl) (by kernel_rfl) (fun _ _ _ h => h) (Or.inl ⟨by rfl, fun w hS => by first | (go_simp; done) | (go_simp; with_reducible rfl)⟩) hHeld ?_
  try simp only [Act.put, List.getElem_toArray, List.getElem_cons_zero, List.getElem_cons_succ, List.setIfInBounds_toArray, List.set_cons_zero, List.set_cons_succ]
  refine wpAnyH_take (i := 3) (v := .slice (some ⟨ga, oa + 4, none⟩) 68 (c - 4)) rfl (by kernel_rfl) (by kernel_rfl) (by kernel_rfl) (fun _ _ _ h => h) (Or.inl ⟨by rfl, fun w hS => by (have hc := H4C.out; first | (go_simp; done) | (go_simp; with_reducible rfl))⟩) hHeld ?_
  try simp only [Act.put, List.getElem_toArray, List.getElem_cons_zero, List.getElem_cons_succ, List.setIfInBounds_toArray, List.set_cons_zero, List.set_cons_succ]
  refine wpAnyH_ready (rs := [1, 6]) (by kernel_rfl) (by simp) ?_
  refine AllReadyH.cons rfl (fun K hK => ?_) (AllReadyH.cons rfl (fun K hK => ?_) AllReadyH.nil)
  focus
    skip
    go_simp
    go_wp2_with (go_at_call 44; refine (rnumber_any (some ⟨ga, oa, none⟩) B 72 c l _ (HBT.out _ kd) HL.out (by omega)).mono ?_; rintro e wa ⟨rfl, nwa, ewa⟩; have kwa : Below W0.heap.size W0 wa := kd.trans ((ewa ▸ (Alk.drewN _ nwa).below _ : Below _ _ wa)); have swa : wa.heap.size = _ := congrArg (fun W : World => W.heap.size) ewa;  clear ewa)
    refine hK.out _ _ ?_ (fun hHeld => ?_)
    · exact kwa
    clear hK K
    try simp only [Act.put, List.getElem_toArray, List.getElem_cons_zero, List.getElem_cons_succ, List.setIfInBounds_toArray, List.set_cons_zero, List.set_cons_succ]
    refine wpAnyH_ready (rs := [4, 6]) (by kernel_rfl) (by simp) ?_
    refine AllReadyH.cons rfl (fun K hK => ?_) (AllReadyH.cons rfl (fun K hK => ?_) AllReadyH.nil)
    focus
      skip
      go_simp
      go_wp2_with (go_at_call 44; refine (rnumber_any (some ⟨ga, oa + 4, none⟩) B 68 (c - 4) (l.drop 4) _ (HBT4.out _ kwa) HL4.out (by omega)).mono ?_; rintro e wb ⟨rfl, nwb, ewb⟩; have kwb : Below W0.heap.size W0 wb := kwa.trans ((ewb ▸ (Alk.drewN _ nwb).below _ : Below _ _ wb)); have swb : wb.heap.size = _ := congrArg (fun W : World => W.heap.size) ewb;  clear ewb)
      refine hK.out _ _ ?_ (fun hHeld => ?_)
      · exact kwb
      clear hK K
      try simp only [Act.put, List.getElem_toArray, List.getElem_cons_zero, List.getElem_cons_succ, List.setIfInBounds_toArray, List.set_cons_zero, List.set_cons_succ]
      refine wpAnyH_take (i := 5) (v := _) rfl (by kernel_rfl) (by kernel_rfl) (by kernel_rfl) (fun _ _ _ h => h) (yields_build 32 #[(0, .tmp 11), (1, .tmp 14)] #[(0, .int .i64 (numS l : Nat)), (1, .int .i64 (numS (l.drop 4) : Nat))] _ HBP.out rfl (by simp only [List.map_toArray, List.map_cons, List.map_nil]; rfl) rfl) hHeld ?_
      try simp only [Act.put, List.getElem_toArray, List.getElem_cons_zero, List.getElem_cons_succ, List.setIfInBounds_toArray, List.set_cons_zero, List.set_cons_succ]
      refine wpAnyH_ready (rs := [6]) (by kernel_rfl) (by simp) ?_
      refine AllReadyH.cons rfl (fun K hK => ?_) AllReadyH.nil
      go_simp
      refine hK.out _ _ ?_ (fun hHeld => ?_)
      · exact kwb.alloc kwb.size _
      clear hK K
      try simp only [Act.put, List.getElem_toArray, List.getElem_cons_zero, List.getElem_cons_succ, List.setIfInBounds_toArray, List.set_cons_zero, List.set_cons_succ]
      have k4 := kwb.alloc kwb.size (.cells (sc zeroS).toArray 32)
      have b4 := BlkIs.new_at wb 32 (sc zeroS).toArray (w.heap.size + 1) (by have := swa; have := swb; simp at *; omega)
      refine wpAnyH_ready (rs := [7]) (by kernel_rfl) (by simp) ?_
      refine AllReadyH.cons rfl (fun K hK => ?_) AllReadyH.nil
      refine step_store (.tmp 4) (.tmp 15) 32 (w.heap.size + 1) 32 _ (sc p0).toArray b4 rfl rfl rfl rfl rfl (isz39a HP0.out) (sc_size zeroS_ok HP0.out) (sc_all _) ?_; intro w4 hb4 ht4
      refine hK.out _ _ ?_ (fun hHeld => ?_)
      · exact k4.trans (ht4.below k4.size (fun i hi h => by omega))
      clear hK K
      try simp only [Act.put, List.getElem_toArray, List.getElem_cons_zero, List.getElem_cons_succ, List.setIfInBounds_toArray, List.set_cons_zero, List.set_cons_succ]
      refine wpAnyH_done (by kernel_rfl) ?_ _
      have K4 : Below W0.heap.size W0 w4 := k4.trans (ht4.below k4.size (fun i hi h => by omega))
    rotate_left
    focus
      skip
      go_simp
      refine hK.out _ _ ?_ (fun hHeld => ?_)
      · exact kwa.alloc kwa.size _
      clear hK K
      try simp only [Act.put, List.getElem_toArray, List.getElem_cons_zero, List.getElem_cons_succ, List.setIfInBounds_toArray, List.set_cons_zero, List.set_cons_succ]
      have k3 := kwa.alloc kwa.size (.cells (sc zeroS).toArray 32)
      have b3 := BlkIs.new_at wa 32 (sc zeroS).toArray (w.heap.size + 1) (by have := swa; simp at *; omega)
      refine wpAnyH_ready (rs := [4]) (by kernel_rfl) (by simp) ?_
      refine AllReadyH.cons rfl (fun K hK => ?_) AllReadyH.nil
      go_simp
      go_wp2_with (go_at_call 44; refine (rnumber_any (some ⟨ga, oa + 4, none⟩) B 68 (c - 4) (l.drop 4) _ (HBT4.out _ k3) HL4.out (by omega)).mono ?_; rintro e wb ⟨rfl, nwb, ewb⟩; have kwb : Below W0.heap.size W0 wb := k3.trans ((ewb ▸ (Alk.drewN _ nwb).below _ : Below _ _ wb)); have swb : wb.heap.size = _ := congrArg (fun W : World => W.heap.size) ewb; have bwb : BlkIs wb (w.heap.size + 1) 32 (sc zeroS).toArray := ewb ▸ (Alk.drewN _ nwb).blk b3; clear ewb)
      refine hK.out _ _ ?_ (fun hHeld => ?_)
      · exact kwb
      clear hK K
      try simp only [Act.put, List.getElem_toArray, List.getElem_cons_zero, List.getElem_cons_succ, List.setIfInBounds_toArray, List.set_cons_zero, List.set_cons_succ]
      have k4 := kwb
      have b4 := bwb
      refine wpAnyH_take (i := 5) (v := _) rfl (by kernel_rfl) (by kernel_rfl) (by kernel_rfl) (fun _ _ _ h => h) (yields_build 32 #[(0, .tmp 11), (1, .tmp 14)] #[(0, .int .i64 (numS l : Nat)), (1, .int .i64 (numS (l.drop 4) : Nat))] _ HBP.out rfl (by simp only [List.map_toArray, List.map_cons, List.map_nil]; rfl) rfl) hHeld ?_
      try simp only [Act.put, List.getElem_toArray, List.getElem_cons_zero, List.getElem_cons_succ, List.setIfInBounds_toArray, List.set_cons_zero, List.set_cons_succ]
      refine wpAnyH_ready (rs := [7]) (by kernel_rfl) (by simp) ?_
      refine AllReadyH.cons rfl (fun K hK => ?_) AllReadyH.nil
      refine step_store (.tmp 4) (.tmp 15) 32 (w.heap.size + 1) 32 _ (sc p0).toArray b4 rfl rfl rfl rfl rfl (isz39a HP0.out) (sc_size zeroS_ok HP0.out) (sc_all _) ?_; intro w4 hb4 ht4
      refine hK.out _ _ ?_ (fun hHeld => ?_)
      · exact k4.trans (ht4.below k4.size (fun i hi h => by omega))
      clear hK K
      try simp only [Act.put, List.getElem_toArray, List.getElem_cons_zero, List.getElem_cons_succ, List.setIfInBounds_toArray, List.set_cons_zero, List.set_cons_succ]
      refine wpAnyH_done (by kernel_rfl) ?_ _
      have K4 : Below W0.heap.size W0 w4 := k4.trans (ht4.below k4.size (fun i hi h => by omega))
    rotate_left
  rotate_left 2
  focus
    skip
    go_simp
    refine hK.out _ _ ?_ (fun hHeld => ?_)
    · exact kd.alloc kd.size _
    clear hK K
    try simp only [Act.put, List.getElem_toArray, List.getElem_cons_zero, List.getElem_cons_succ, List.setIfInBounds_toArray, List.set_cons_zero, List.set_cons_succ]
    have k2 := kd.alloc kd.size (.cells (sc zeroS).toArray 32)
    have b2 := BlkIs.new_at W0.drew 32 (sc zeroS).toArray (w.heap.size + 1) (by simp; omega)
    refine wpAnyH_ready (rs := [1]) (by kernel_rfl) (by simp) ?_
    refine AllReadyH.cons rfl (fun K hK => ?_) AllReadyH.nil
    go_simp
    go_wp2_with (go_at_call 44; refine (rnumber_any (some ⟨ga, oa, none⟩) B 72 c l _ (HBT.out _ k2) HL.out (by omega)).mono ?_; rintro e wa ⟨rfl, nwa, ewa⟩; have kwa : Below W0.heap.size W0 wa := k2.trans ((ewa ▸ (Alk.drewN _ nwa).below _ : Below _ _ wa)); have swa : wa.heap.size = _ := congrArg (fun W : World => W.heap.size) ewa; have bwa : BlkIs wa (w.heap.size + 1) 32 (sc zeroS).toArray := ewa ▸ (Alk.drewN _ nwa).blk b2; clear ewa)
    refine hK.out _ _ ?_ (fun hHeld => ?_)
    · exact kwa
    clear hK K
    try simp only [Act.put, List.getElem_toArray, List.getElem_cons_zero, List.getElem_cons_succ, List.setIfInBounds_toArray, List.set_cons_zero, List.set_cons_succ]
    refine wpAnyH_ready (rs := [4]) (by kernel_rfl) (by simp) ?_
    refine AllReadyH.cons rfl (fun K hK => ?_) AllReadyH.nil
    go_simp
    go_wp2_with (go_at_call 44; refine (rnumber_any (some ⟨ga, oa + 4, none⟩) B 68 (c - 4) (l.drop 4) _ (HBT4.out _ kwa) HL4.out (by omega)).mono ?_; rintro e wb ⟨rfl, nwb, ewb⟩; have kwb : Below W0.heap.size W0 wb := kwa.trans ((ewb ▸ (Alk.drewN _ nwb).below _ : Below _ _ wb)); have swb : wb.heap.size = _ := congrArg (fun W : World => W.heap.size) ewb; have bwb : BlkIs wb (w.heap.size + 1) 32 (sc zeroS).toArray := ewb ▸ (Alk.drewN _ nwb).blk bwa; clear ewb)
    refine hK.out _ _ ?_ (fun hHeld => ?_)
    · exact kwb
    clear hK K
    try simp only [Act.put, List.getElem_toArray, List.getElem_cons_zero, List.getElem_cons_succ, List.setIfInBounds_toArray, List.set_cons_zero, List.set_cons_succ]
    have k4 := kwb
    have b4 := bwb
    refine wpAnyH_take (i := 5) (v := _) rfl (by kernel_rfl) (by kernel_rfl) (by kernel_rfl) (fun _ _ _ h => h) (yields_build 32 #[(0, .tmp 11), (1, .tmp 14)] #[(0, .int .i64 (numS l : Nat)), (1, .int .i64 (numS (l.drop 4) : Nat))] _ HBP.out rfl (by simp only [List.map_toArray, List.map_cons, List.map_nil]; rfl) rfl) hHeld ?_
    try simp only [Act.put, List.getElem_toArray, List.getElem_cons_zero, List.getElem_cons_succ, List.setIfInBounds_toArray, List.set_cons_zero, List.set_cons_succ]
    refine wpAnyH_ready (rs := [7]) (by kernel_rfl) (by simp) ?_
    refine AllReadyH.cons rfl (fun K hK => ?_) AllReadyH.nil
    refine step_store (.tmp 4) (.tmp 15) 32 (w.heap.size + 1) 32 _ (sc p0).toArray b4 rfl rfl rfl rfl rfl (isz39a HP0.out) (sc_size zeroS_ok HP0.out) (sc_all _) ?_; intro w4 hb4 ht4
    refine hK.out _ _ ?_ (fun hHeld => ?_)
    · exact k4.trans (ht4.below k4.size (fun i hi h => by omega))
    clear hK K
    try simp only [Act.put, List.getElem_toArray, List.getElem_cons_zero, List.getElem_cons_succ, List.setIfInBounds_toArray, List.set_cons_zero, List.set_cons_succ]
    refine wpAnyH_done (by kernel_rfl) ?_ _
    have K4 : Below W0.heap.size W0 w4 := k4.trans (ht4.below k4.size (fun i hi h => by omega))
  rotate_left
  all_goals
    have H0 : Hid (BlkIs w4 w.heap.size 32 (sc zeroS).toArray) := Lib.hid ((K4.block _ hw0).trans h0)
    have H4 : Hid (BlkIs w4 (w.heap.size + 1) 32 (sc ⟨(numS l : Nat), (numS (l.drop 4) : Nat), mixB ((l.drop 8).take 32) 0, mixB ((l.drop 40).take 32) 0⟩).toArray) := Lib.hid (by rw [mixB_none, mixB_none, ← HPP.out]; exact hb4)
    have HK4 := Lib.hid K4
    clear hb4 ht4 K4 k4 b4
    go_wp2_with fail
    go_loopw [5] (fun i wr => ∃ k : Nat, k ≤ 32 ∧ i = .int .i64 k ∧ BlkIs wr (w.heap.size + 1) 32 (sc ⟨(numS l : Nat), (numS (l.drop 4) : Nat), mixB ((l.drop 8).take 32) k, mixB ((l.drop 40).take 32) k⟩).toArray ∧ BlkIs wr w.heap.size 32 (sc zeroS).toArray ∧ Below W0.heap.size W0 wr) (fun i _ => 32 - (intOf i).toNat)
    case atStart => exact ⟨0, by omega, rfl, H4.out, H0.out, HK4.out⟩
    case round =>
      obtain ⟨k, hk, rfl, hbk, hb0, hbw⟩ := hrel
      by_cases hlt : k < 32
      · have r1 := bts_src (bts_drop (HBT.out _ hbw.drew) 8) k _ (bv_get _ k (by rw [List.length_drop, HL.out]; omega))
        have r2 := bts_src (bts_drop (HBT.out _ hbw.drew) 40) k _ (bv_get _ k (by rw [List.length_drop, HL.out]; omega))
        rw [add_at, Nat.add_assoc] at r1 r2
        have g1 : ((l.drop 8).take 32).getD k 0 = (l.drop 8).getD k 0 := by simp [List.getD_eq_getElem?_getD, hlt]
        have g2 : ((l.drop 40).take 32).getD k 0 = (l.drop 40).getD k 0 := by simp [List.getD_eq_getElem?_getD, hlt]
        have S1 := Lib.hid (sc_set_root (numS l : Nat) (numS (l.drop 4) : Nat) (p := mixB ((l.drop 40).take 32) k) HR1.out hlt)
        have S2 := Lib.hid (sc_set_prev (numS l : Nat) (numS (l.drop 4) : Nat) (mixB_length HR1.out (show k + 1 ≤ 32 by omega)) HR2.out hlt)
        rw [g1] at S1
        rw [g2] at S2
        have dk : BlkIs wr.drew (w.heap.size + 1) 32 (sc ⟨(numS l : Nat), (numS (l.drop 4) : Nat), mixB ((l.drop 8).take 32) k, mixB ((l.drop 40).take 32) k⟩).toArray := (Alk.drew _).blk hbk
        have c1 : wr.drew.cell? ⟨w.heap.size + 1, 2 + k, none⟩ = some (.int .u8 0) := sc_root dk k _ (mixB_get HR1.out hlt)
        have c2 : wr.drew.cell? ⟨w.heap.size + 1, 34 + k, none⟩ = some (.int .u8 0) := sc_prev ⟨mixB_length HR1.out (by omega), mixB_length HR2.out (by omega)⟩ dk k _ (mixB_get HR2.out hlt)
        have f1 := dk.froz (2 + k)
        have HD0 : Hid (BlkIs wr.drew w.heap.size 32 (sc zeroS).toArray) := Lib.hid ((Alk.drew _).blk hb0)
        have HBW : Hid (Below W0.heap.size W0 wr.drew) := Lib.hid hbw.drew
        have HDK := Lib.hid dk
        generalize (l.drop 8).getD k 0 = u1 at *
        generalize (l.drop 40).getD k 0 = u2 at *
        have a1 : ga ≠ w.heap.size + 1 := by omega
        have k72 : (8 : Int) + (k : Int) < 72 := by omega
        have k72' : (40 : Int) + (k : Int) < 72 := by omega
        have k32 : (k : Int) < 32 := by omega
        have z8 : 0 ≤ (8 : Int) + (k : Int) := by omega
        have z40 : 0 ≤ (40 : Int) + (k : Int) := by omega
        have n8 : ((8 : Int) + (k : Int)).toNat = 8 + k := by omega
        have n40 : ((40 : Int) + (k : Int)).toNat = 40 + k := by omega
        have w8 : IntKind.i64.wrap (8 + (k : Int)) = 8 + (k : Int) := IntWalk.i64_in _ (by omega)
        have w40 : IntKind.i64.wrap (40 + (k : Int)) = 40 + (k : Int) := IntWalk.i64_in _ (by omega)
        clear hbk hb0 hbw dk g1 g2
        go_wp2_with fail
        refine wp_region_held_drew (S := (fun W => W.cell? ⟨ga, oa + (8 + k), none⟩ = some (.int .u8 (u1.toNat : Int)) ∧ W.cell? ⟨ga, oa + (40 + k), none⟩ = some (.int .u8 (u2.toNat : Int)))) (by kernel_rfl) (⟨r1, r2⟩) (fun hHeld => ?_)
        generalize wr.drew = X0 at *
        refine wpAnyH_take (i := 0) (v := .int .i64 k) rfl (by kernel_rfl) (by kernel_rfl) (by kernel_rfl) (fun _ _ _ h => h) (Or.inl ⟨by rfl, fun w hS => by first | (go_simp; done) | (go_simp; with_reducible rfl)⟩) hHeld ?_
        try simp only [Act.put, List.getElem_toArray, List.getElem_cons_zero, List.setIfInBounds_toArray, List.set_cons_zero, List.set_cons_succ]
        refine wpAnyH_take (i := 1) (v := .int .i64 k) rfl (by kernel_rfl) (by kernel_rfl) (by kernel_rfl) (fun _ _ _ h => h) (Or.inl ⟨by rfl, fun w hS => by first | (go_simp; done) | (go_simp; with_reducible rfl)⟩) hHeld ?_
        try simp only [Act.put, List.getElem_toArray, List.getElem_cons_zero, List.getElem_cons_succ, List.setIfInBounds_toArray, List.set_cons_zero, List.set_cons_succ]
        refine wpAnyH_take (i := 2) (v := .slice (some ⟨ga, oa, none⟩) 72 c) rfl (by kernel_rfl) (by kernel_rfl) (by kernel_rfl) (fun _ _ _ h => h) (Or.inl ⟨by rfl, fun w hS => by first | (go_simp; done) | (go_simp; with_reducible rfl)⟩) hHeld ?_
        try simp only [Act.put, List.getElem_toArray, List.getElem_cons_zero, List.getElem_cons_succ, List.setIfInBounds_toArray, List.set_cons_zero, List.set_cons_succ]
        refine wpAnyH_take (i := 3) (v := .int .i64 k) rfl (by kernel_rfl) (by kernel_rfl) (by kernel_rfl) (fun _ _ _ h => h) (Or.inl ⟨by rfl, fun w hS => by first | (go_simp; done) | (go_simp; with_reducible rfl)⟩) hHeld ?_
        try simp only [Act.put, List.getElem_toArray, List.getElem_cons_zero, List.getElem_cons_succ, List.setIfInBounds_toArray, List.set_cons_zero, List.set_cons_succ]
        refine wpAnyH_take (i := 4) (v := .int .i64 (8 + (k : Int))) rfl (by kernel_rfl) (by kernel_rfl) (by kernel_rfl) (fun _ _ _ h => h) (Or.inl ⟨by rfl, fun w hS => by first | (go_simp; done) | (go_simp; with_reducible rfl)⟩) hHeld ?_
        try simp only [Act.put, List.getElem_toArray, List.getElem_cons_zero, List.getElem_cons_succ, List.setIfInBounds_toArray, List.set_cons_zero, List.set_cons_succ]
        refine wpAnyH_take (i := 5) (v := .pointer (some ⟨ga, oa + (8 + k), none⟩)) rfl (by kernel_rfl) (by kernel_rfl) (by kernel_rfl) (fun _ _ _ h => h) (Or.inl ⟨by rfl, fun w hS => by first | (go_simp; done) | (go_simp; with_reducible rfl)⟩) hHeld ?_
        try simp only [Act.put, List.getElem_toArray, List.getElem_cons_zero, List.getElem_cons_succ, List.setIfInBounds_toArray, List.set_cons_zero, List.set_cons_succ]
        refine wpAnyH_take (i := 6) (v := .int .u8 (u1.toNat : Int)) rfl (by kernel_rfl) (by kernel_rfl) (by kernel_rfl) (fun _ _ _ h => h) (Or.inl ⟨by rfl, fun w hS => by (have hc1 := hS.1; have hc2 := hS.2; first | (go_simp; done) | (go_simp; with_reducible rfl))⟩) hHeld ?_
        try simp only [Act.put, List.getElem_toArray, List.getElem_cons_zero, List.getElem_cons_succ, List.setIfInBounds_toArray, List.set_cons_zero, List.set_cons_succ]
        refine wpAnyH_take (i := 7) (v := .slice (some ⟨ga, oa, none⟩) 72 c) rfl (by kernel_rfl) (by kernel_rfl) (by kernel_rfl) (fun _ _ _ h => h) (Or.inl ⟨by rfl, fun w hS => by first | (go_simp; done) | (go_simp; with_reducible rfl)⟩) hHeld ?_
        try simp only [Act.put, List.getElem_toArray, List.getElem_cons_zero, List.getElem_cons_succ, List.setIfInBounds_toArray, List.set_cons_zero, List.set_cons_succ]
        refine wpAnyH_take (i := 8) (v := .int .i64 k) rfl (by kernel_rfl) (by kernel_rfl) (by kernel_rfl) (fun _ _ _ h => h) (Or.inl ⟨by rfl, fun w hS => by first | (go_simp; done) | (go_simp; with_reducible rfl)⟩) hHeld ?_
        try simp only [Act.put, List.getElem_toArray, List.getElem_cons_zero, List.getElem_cons_succ, List.setIfInBounds_toArray, List.set_cons_zero, List.set_cons_succ]
        refine wpAnyH_take (i := 9) (v := .int .i64 (40 + (k : Int))) rfl (by kernel_rfl) (by kernel_rfl) (by kernel_rfl) (fun _ _ _ h => h) (Or.inl ⟨by rfl, fun w hS => by first | (go_simp; done) | (go_simp; with_reducible rfl)⟩) hHeld ?_
        try simp only [Act.put, List.getElem_toArray, List.getElem_cons_zero, List.getElem_cons_succ, List.setIfInBounds_toArray, List.set_cons_zero, List.set_cons_succ]
        refine wpAnyH_take (i := 10) (v := .pointer (some ⟨ga, oa + (40 + k), none⟩)) rfl (by kernel_rfl) (by kernel_rfl) (by kernel_rfl) (fun _ _ _ h => h) (Or.inl ⟨by rfl, fun w hS => by first | (go_simp; done) | (go_simp; with_reducible rfl)⟩) hHeld ?_
        try simp only [Act.put, List.getElem_toArray, List.getElem_cons_zero, List.getElem_cons_succ, List.setIfInBounds_toArray, List.set_cons_zero, List.set_cons_succ]
        refine wpAnyH_take (i := 11) (v := .int .u8 (u2.toNat : Int)) rfl (by kernel_rfl) (by kernel_rfl) (by kernel_rfl) (fun _ _ _ h => h) (Or.inl ⟨by rfl, fun w hS => by (have hc1 := hS.1; have hc2 := hS.2; first | (go_simp; done) | (go_simp; with_reducible rfl))⟩) hHeld ?_
        try simp only [Act.put, List.getElem_toArray, List.getElem_cons_zero, List.getElem_cons_succ, List.setIfInBounds_toArray, List.set_cons_zero, List.set_cons_succ]
        refine wpAnyH_take (i := 12) (v := .pointer (some ⟨w.heap.size + 1, 2, none⟩)) rfl (by kernel_rfl) (by kernel_rfl) (by kernel_rfl) (fun _ _ _ h => h) (Or.inl ⟨by rfl, fun w hS => by first | (go_simp; done) | (go_simp; with_reducible rfl)⟩) hHeld ?_
        try simp only [Act.put, List.getElem_toArray, List.getElem_cons_zero, List.getElem_cons_succ, List.setIfInBounds_toArray, List.set_cons_zero, List.set_cons_succ]
        refine wpAnyH_take (i := 13) (v := .pointer (some ⟨w.heap.size + 1, 2 + k, none⟩)) rfl (by kernel_rfl) (by kernel_rfl) (by kernel_rfl) (fun _ _ _ h => h) (Or.inl ⟨by rfl, fun w hS => by first | (go_simp; done) | (go_simp; with_reducible rfl)⟩) hHeld ?_
        try simp only [Act.put, List.getElem_toArray, List.getElem_cons_zero, List.getElem_cons_succ, List.setIfInBounds_toArray, List.set_cons_zero, List.set_cons_succ]
        refine wpAnyH_take (i := 15) (v := .pointer (some ⟨w.heap.size + 1, 34, none⟩)) rfl (by kernel_rfl) (by kernel_rfl) (by kernel_rfl) (fun _ _ _ h => h) (Or.inl ⟨by rfl, fun w hS => by first | (go_simp; done) | (go_simp; with_reducible rfl)⟩) hHeld ?_
        try simp only [Act.put, List.getElem_toArray, List.getElem_cons_zero, List.getElem_cons_succ, List.setIfInBounds_toArray, List.set_cons_zero, List.set_cons_succ]
        have q1 : ∀ (i : Nat) (v u : Value), X0.cell? ⟨ga, i, none⟩ = some u → (X0.setCell ⟨w.heap.size + 1, 2 + k, none⟩ v).cell? ⟨ga, i, none⟩ = some u := fun i v u hu => (World.cell?_setCell_other _ _ _ _ (fun e => a1 (by injection e with e _ _; exact e.symm))).trans hu
        refine wpAnyH_ready (rs := [14]) (by kernel_rfl) (by simp) ?_
        refine AllReadyH.cons rfl (fun K hK => ?_) AllReadyH.nil
        go_simp
        refine hK.out _ _ ?_ (fun hHeld => ?_)
        · exact ⟨q1 _ _ _ hHeld.1, q1 _ _ _ hHeld.2⟩
        clear hK K
        try simp only [Act.put, List.getElem_toArray, List.getElem_cons_zero, List.getElem_cons_succ, List.setIfInBounds_toArray, List.set_cons_zero, List.set_cons_succ]
        have p1 := HDK.out.put (2 + k) (.int .u8 (u1.toNat : Int))
        rw [S1.out] at p1
        have p0 := HD0.out.far (x := ⟨w.heap.size + 1, 2 + k, none⟩) (by show w.heap.size ≠ w.heap.size + 1; omega) (.int .u8 (u1.toNat : Int))
        have pb := HBW.out.setCell (p := ⟨w.heap.size + 1, 2 + k, none⟩) (by show W0.heap.size ≤ w.heap.size + 1; omega) (.int .u8 (u1.toNat : Int))
        have c2' : (X0.setCell ⟨w.heap.size + 1, 2 + k, none⟩ (.int .u8 (u1.toNat : Int))).cell? ⟨w.heap.size + 1, 34 + k, none⟩ = some (.int .u8 0) := sc_prev ⟨mixB_length HR1.out (by omega), mixB_length HR2.out (by omega)⟩ p1 k _ (mixB_get HR2.out hlt)
        have f2 := p1.froz (34 + k)
        generalize X0.setCell ⟨w.heap.size + 1, 2 + k, none⟩ (.int .u8 (u1.toNat : Int)) = X1 at *
        clear c1 c2 f1 q1
        refine wpAnyH_take (i := 16) (v := .pointer (some ⟨w.heap.size + 1, 34 + k, none⟩)) rfl (by kernel_rfl) (by kernel_rfl) (by kernel_rfl) (fun _ _ _ h => h) (Or.inl ⟨by rfl, fun w hS => by first | (go_simp; done) | (go_simp; with_reducible rfl)⟩) hHeld ?_
        try simp only [Act.put, List.getElem_toArray, List.getElem_cons_zero, List.getElem_cons_succ, List.setIfInBounds_toArray, List.set_cons_zero, List.set_cons_succ]
        have q2 : ∀ (i : Nat) (v u : Value), X1.cell? ⟨ga, i, none⟩ = some u → (X1.setCell ⟨w.heap.size + 1, 34 + k, none⟩ v).cell? ⟨ga, i, none⟩ = some u := fun i v u hu => (World.cell?_setCell_other _ _ _ _ (fun e => a1 (by injection e with e _ _; exact e.symm))).trans hu
        refine wpAnyH_ready (rs := [17]) (by kernel_rfl) (by simp) ?_
        refine AllReadyH.cons rfl (fun K hK => ?_) AllReadyH.nil
        go_simp
        refine hK.out _ _ ?_ (fun hHeld => ?_)
        · exact ⟨q2 _ _ _ hHeld.1, q2 _ _ _ hHeld.2⟩
        clear hK K
        try simp only [Act.put, List.getElem_toArray, List.getElem_cons_zero, List.getElem_cons_succ, List.setIfInBounds_toArray, List.set_cons_zero, List.set_cons_succ]
        refine wpAnyH_done (by kernel_rfl) ?_ _
        have p2 := p1.put (34 + k) (.int .u8 (u2.toNat : Int))
        rw [S2.out] at p2
        have p02 := p0.far (x := ⟨w.heap.size + 1, 34 + k, none⟩) (by show w.heap.size ≠ w.heap.size + 1; omega) (.int .u8 (u2.toNat : Int))
        have pb2 := pb.setCell (p := ⟨w.heap.size + 1, 34 + k, none⟩) (by show W0.heap.size ≤ w.heap.size + 1; omega) (.int .u8 (u2.toNat : Int))
        generalize X1.setCell ⟨w.heap.size + 1, 34 + k, none⟩ (.int .u8 (u2.toNat : Int)) = X2 at *
        clear p1 p0 pb c2' f2 q2 r1 r2
        go_wp2_with fail
        go_roundw
        case rel => exact ⟨k + 1, by omega, by go_num, p2, p02, pb2⟩
        case measure => simp [intOf]; omega
      · obtain rfl : k = 32 := by omega
        rw [mixB_all HR1.out, mixB_all HR2.out] at hbk
        have H6 : BlkIs wr (w.heap.size + 1) 32 (sc (parseS l)).toArray := hbk
        have H06 := Lib.hid hb0
        have HK6 : Hid (Below w.heap.size w wr) := Lib.hid (hb.trans (hbw.mono (by omega)))
        have c0 := sc_seg H6
        rw [HSEG.out] at c0
        have r6 := blk_rng H6
        clear hbk hb0 hbw H6
        by_cases hseg : 1 ≤ (numS l : Int) ∧ (numS l : Int) ≤ 999999
        · have HF : Hid (parseR l = (parseS l, 0)) := Lib.hid (by rw [HPR.out, if_pos hseg])
          have s1 : ¬ (numS l : Int) < 1 := by omega
          have s2 : ¬ 999999 < (numS l : Int) := by omega
          clear hseg
          go_wp2_with (first
            | (refine load_wt (by rfl) 32 (.tmp 4) rfl (w.heap.size + 1) 0 rfl (sc (parseS l)) _ r6 Tryz.underlying32 rfl (isz39s HP2.out) ?_)
            | (refine store_bl (.tmp 2) (.tmp 45) 32 w.heap.size 32 _ (sc (parseS l)).toArray H06.out rfl rfl rfl rfl rfl (isz39a HP2.out) (sc_size zeroS_ok HP2.out) (sc_all _) ?_; intro w8 hb8 ht8)
            | fail)
          exact ret_sl rfl w.heap.size 32 _ _ hb8 _ rfl rfl Tryz.underlying32 rfl (isz39a HP2.out) rfl ⟨by rw [HF.out]; rfl, HK6.out.trans (ht8.below HK6.out.size (fun i hi h => by omega))⟩
        · have HF : Hid (parseR l = (zeroS, 60)) := Lib.hid (by rw [HPR.out, if_neg hseg])
          have hno : (numS l : Int) < 1 ∨ (¬ (numS l : Int) < 1 ∧ 999999 < (numS l : Int)) := by omega
          clear hseg
          rcases hno with s1 | ⟨s1, s2⟩
          · go_wp2_with (first
              | (refine build_ops 32 #[] #[] _ (run_build39z _) rfl rfl rfl ?_)
              | (refine store_bl (.tmp 2) (.tmp 44) 32 w.heap.size 32 _ (sc zeroS).toArray H06.out rfl rfl rfl rfl rfl (isz39a zeroS_ok) (sc_size zeroS_ok zeroS_ok) (sc_all _) ?_; intro w8 hb8 ht8)
              | fail)
            exact ret_sl rfl w.heap.size 32 _ _ hb8 _ rfl rfl Tryz.underlying32 rfl (isz39a zeroS_ok) rfl ⟨by rw [HF.out]; rfl, HK6.out.trans (ht8.below HK6.out.size (fun i hi h => by omega))⟩
          · go_wp2_with (first
              | (refine build_ops 32 #[] #[] _ (run_build39z _) rfl rfl rfl ?_)
              | (refine store_bl (.tmp 2) (.tmp 44) 32 w.heap.size 32 _ (sc zeroS).toArray H06.out rfl rfl rfl rfl rfl (isz39a zeroS_ok) (sc_size zeroS_ok zeroS_ok) (sc_all _) ?_; intro w8 hb8 ht8)
              | fail)
            exact ret_sl rfl w.heap.size 32 _ _ hb8 _ rfl rfl Tryz.underlying32 rfl (isz39a zeroS_ok) rfl ⟨by rw [HF.out]; rfl, HK6.out.trans (ht8.below HK6.out.size (fun i hi h => by omega))⟩
end Go.Proofs.YteapnkedpmcokaaGreatDoor
