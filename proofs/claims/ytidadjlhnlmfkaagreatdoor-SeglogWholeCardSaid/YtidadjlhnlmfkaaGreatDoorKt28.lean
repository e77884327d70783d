/- SlDie2 SlDie3 SlDie4 SlDie5 SlDie6 SlDead. Conditions: as stated at each. -/
import Derived.Test.YtidadjlhnlmfkaaGreatDoorKt27
import Derived.Test.YtidadjlhnlmfkaaGreatDoorKt21
/- A log's roll where the power fails. Conditions: as stated at each. -/
namespace Go.Proofs.YtidadjlhnlmfkaaGreatDoor
open Go.RowKit Go.Shelf Go Go.Maps
set_option maxHeartbeats 1600000 in
set_option maxRecDepth 20000 in
theorem roll_die1 (W : World) (N : Nat) (Ft : Nat → Prop) (Dk k : Nat) (F : Files) (rm x : Int) (L G : Nat) (nm : ByteArray) (sz : Int) (g : List (Nat × Nat)) (bs : List UInt8) (z : Nat) (need : Nat)
    (h : LogS W N Ft Dk k F rm x 1 false L G nm sz g false) (hl : g.length < 999999) (hn : nmOk nm) (hf : F (fileN nm g.length) = some (bs, z)) (hbs : bs.length ≤ 100000000) (hk : k + 3 < maxLen) (hx : 0 ≤ x) (hx2 : x ≤ 100000000) (hr : x + need ≤ rm) (hr2 : rm ≤ 1000000000000) :
    Calls Tryz.prog 28 #[.pointer (some ⟨L, 0, none⟩), .int .i64 need] W fun e w' => e = bad 10 ∧ LgPost W N Ft Dk (k + 1) F rm x 1 true L G nm sz g true w' := by
  have c0 := BlkIs.cell h.2.1 0
  have c4 := BlkIs.cell h.2.1 4
  have h9 : ((g.length : Int) == 999999) = false := by simp; omega
  have h9' : ((g.length : Int) != 999999) = true := by simp; omega
  have hlt : ¬ rm - x < (need : Int) := by omega
  have hle : (need : Int) ≤ rm - x := by omega
  go_enter Tryz.func28, Tryz.ntmps28
  go_wp2_with (first
    | (go_at_call 52; refine (need_ok _ _).mono ?_; rintro e w' ⟨rfl, rfl⟩)
    | (go_at_call 37; refine (look_up _ L Dk nm sz G _ false h.2.1 h.1).mono ?_; rintro e w' ⟨rfl, rfl⟩)
    | (go_at_call 55; refine (free_S W N Ft Dk k F rm x 1 h.1 hx hx2 (by omega) hr2).mono ?_; rintro e w1 ⟨rfl, hb1⟩))
  have hw1 := h.below hb1
  refine (lsync_die w1 N Ft Dk k F rm x L G nm sz g bs z hw1 (by omega) hn hf hbs (by omega) hx hx2).mono ?_
  rintro e w2 ⟨rfl, hp2⟩
  have HP := Lib.hid (LgPost.of_below h hb1 hp2)
  clear hp2
  unfold bad
  go_wp2_with fail
  exact ⟨rfl, rfl, HP.out⟩
set_option maxHeartbeats 1600000 in
set_option maxRecDepth 20000 in
theorem roll_die2 (W : World) (N : Nat) (Ft : Nat → Prop) (Dk k : Nat) (F : Files) (rm x : Int) (L G : Nat) (nm : ByteArray) (sz : Int) (g : List (Nat × Nat)) (bs : List UInt8) (z : Nat) (need : Nat)
    (h : LogS W N Ft Dk k F rm x 2 false L G nm sz g false) (hl : g.length < 999999) (hn : nmOk nm) (hf : F (fileN nm g.length) = some (bs, z)) (hbs : bs.length ≤ 100000000) (hf2 : F (fileN nm (g.length + 1)) = none) (hk : k + 3 < maxLen) (hx : 0 ≤ x) (hx2 : x ≤ 100000000) (hr : x + need ≤ rm) (hr2 : rm ≤ 1000000000000) :
    Calls Tryz.prog 28 #[.pointer (some ⟨L, 0, none⟩), .int .i64 need] W fun e w' => e = bad 10 ∧ LgPost W N Ft Dk (k + 2) (F.upd (fileN nm g.length) (some (bs, bs.length))) rm x 1 true L G nm sz g false w' := by
  have c0 := BlkIs.cell h.2.1 0
  have c4 := BlkIs.cell h.2.1 4
  have h9 : ((g.length : Int) == 999999) = false := by simp; omega
  have h9' : ((g.length : Int) != 999999) = true := by simp; omega
  have hlt : ¬ rm - x < (need : Int) := by omega
  have hle : (need : Int) ≤ rm - x := by omega
  have hne : fileN nm (g.length + 1) ≠ fileN nm g.length := fun e => by have := fileN_inj (by omega) (by omega) e; omega
  go_enter Tryz.func28, Tryz.ntmps28
  go_wp2_with (first
    | (go_at_call 52; refine (need_ok _ _).mono ?_; rintro e w' ⟨rfl, rfl⟩)
    | (go_at_call 37; refine (look_up _ L Dk nm sz G _ false h.2.1 h.1).mono ?_; rintro e w' ⟨rfl, rfl⟩)
    | (go_at_call 55; refine (free_S W N Ft Dk k F rm x 2 h.1 hx hx2 (by omega) hr2).mono ?_; rintro e w1 ⟨rfl, hb1⟩))
  have hw1 := h.below hb1
  refine (lsync_ok w1 N Ft Dk k F rm x 2 L G nm sz g bs z hw1 (by omega) hn hf hbs (by omega) hx hx2 (by omega) (by omega)).mono ?_
  rintro e w2 ⟨rfl, hp2⟩
  rw [show lfA 2 = 1 from rfl] at hp2
  have c4' := BlkIs.cell hp2.1.2.1 4
  have HP2 := Lib.hid hp2
  have hbeg := Lib.hid (begin_die w2 N (NewFt Ft w1 w2) Dk (k + 1) (F.upd (fileN nm g.length) (some (bs, bs.length))) rm x L G nm sz g hp2.1 hl hn (by unfold Files.upd; rw [if_neg hne]; exact hf2) (by omega) hx hx2)
  clear hp2
  go_wp2_with fail
  refine hbeg.out.mono ?_
  rintro e w3 ⟨rfl, hp3⟩
  have HP := Lib.hid (LgPost.of_below h hb1 (LgPost.trans hw1 HP2.out hp3))
  clear hp3
  unfold bad
  go_wp2_with fail
  exact ⟨rfl, rfl, HP.out⟩
end Go.Proofs.YtidadjlhnlmfkaaGreatDoor
/- A log's Append where the power fails in its roll. Conditions: as stated at each. -/
namespace Go.Proofs.YtidadjlhnlmfkaaGreatDoor
open Go.RowKit Go.Shelf Go Go.Maps
set_option maxHeartbeats 1600000 in
set_option maxRecDepth 20000 in
theorem app_roll_die (W : World) (N : Nat) (Ft : Nat → Prop) (Dk k : Nat) (F F' : Files) (rm x lf : Int) (L G : Nat) (nm : ByteArray) (sz : Int) (g0 : List (Nat × Nat)) (c z : Nat) (dd : Bool) (B2 B3 B6 : Nat) (A : Option Addr) (cp : Nat) (r : List UInt8)
    (h : LogS W N Ft Dk k F rm x lf false L G nm sz (g0 ++ [(c, z)]) false) (hl : g0.length + 1 < 999999) (hm : r.length ≤ 1000000)
    (hA : Bts W W.heap.size A r) (hcp : r.length ≤ cp) (hcm : cp ≤ maxLen) (hB2 : BlkIs W B2 32 #[.pointer (some ⟨L, 0, none⟩)]) (hB3 : BlkIs W B3 26 #[.slice A r.length cp]) (hz : sz ≤ (z : Int))
    (hro : ∀ w2, LogS w2 N Ft Dk k F rm x lf false L G nm sz (g0 ++ [(c, z)]) false → Calls Tryz.prog 28 #[.pointer (some ⟨L, 0, none⟩), .int .i64 (rec1 r).length] w2 fun e w' => e = bad 10 ∧ LgPost w2 N Ft Dk (k + 3) F' rm x 1 true L G nm sz (g0 ++ [(c, z)]) dd w') :
    Calls Tryz.prog 24 #[.pointer (some ⟨B3, 0, none⟩), .pointer (some ⟨B2, 0, none⟩), .pointer (some ⟨B6, 0, none⟩)] W fun e w' => e = bad 10 ∧ LgPost W N Ft Dk (k + 3) F' rm x 1 true L G nm sz (g0 ++ [(c, z)]) dd w' := by
  have b2 := hB2.cell 0
  have b3 := hB3.cell 0
  have hlen : (g0 ++ [(c, z)]).length = g0.length + 1 := by simp
  have hL := h.2.1
  rw [hlen] at hL
  have hL' : LogB W L Dk nm sz G ((g0.length : Int) + 1) false := hL
  have hx0 : ∀ w (v u : Value), (Instr.extract (.tuple #[v, u]) 0).run Tryz.prog w = .ok v w := fun _ _ _ => by kernel_rfl
  have hx1 : ∀ w (v u : Value), (Instr.extract (.tuple #[v, u]) 1).run Tryz.prog w = .ok u w := fun _ _ _ => by kernel_rfl
  have hrl : (rec1 r).length ≤ 1000008 := by rw [rec1_length r]; omega
  have hlt2 := hB2.lt
  have HRO := Lib.hid hro
  clear hro
  go_enter Tryz.func24, Tryz.ntmps24
  go_wp2_with fail
  refine (fput_any A W.heap.size cp r W hA (Nat.le_refl _) hcp hcm hm).mono ?_
  rintro e w1 ⟨v, rfl, ho, hb1⟩
  have h1' := h.below hb1
  have hL1 : LogB w1 L Dk nm sz G ((g0.length : Int) + 1) false := (hb1.block L h.ltL).trans hL'
  have b2' := (hb1.cell (p := ⟨B2, 0, none⟩) hlt2).trans b2
  have hfl := Lib.hid (full_any w1 L Dk nm sz G k (g0 ++ [(c, z)]) g0.length c z false hL1 h1'.2.2.1 (by rw [hlen]; omega) get_last)
  obtain ⟨Av, cv, rfl, hv1, hv2⟩ := own_slice ho
  have HO := Lib.hid ho
  clear ho
  go_upto_if 14 with (first
    | (go_at_call 26; refine (must_ok _).mono ?_; rintro e w' ⟨rfl, rfl⟩)
    | (go_at_call 27; refine hfl.out.mono ?_; rintro e w2 ⟨rfl, hk2⟩))
  have ht := h1'.alk hk2
  have hb2 : Below W.heap.size W w2 := hb1.trans (below_alk hk2 hb1.size)
  have c2' := (hb2.cell (p := ⟨B2, 0, none⟩) hlt2).trans b2
  have hr := Lib.hid (HRO.out w2 ht)
  have HH := Lib.hid h
  have HB := Lib.hid hb2
  clear hfl ht h1'
  go_wp2_with fail
  refine hr.out.mono ?_
  rintro e w3 ⟨rfl, hp3⟩
  have HP := Lib.hid (LgPost.of_below HH.out HB.out hp3)
  clear hp3
  unfold bad
  go_wp2_with fail
  exact ⟨rfl, rfl, HP.out⟩
end Go.Proofs.YtidadjlhnlmfkaaGreatDoor
/- A log's Append where the power fails as the record is appended. Conditions: as stated at each. -/
namespace Go.Proofs.YtidadjlhnlmfkaaGreatDoor
open Go.RowKit Go.Shelf Go Go.Maps
theorem app_held {W w2 w3 w4 : World} {N Dk k k' L G B2 : Nat} {Ft : Nat → Prop} {F F' : Files} {rm x x' lf lf' : Int} {b b' : Bool} {nm : ByteArray} {sz : Int} {g0 : List (Nat × Nat)} {c z : Nat} (h : LogS W N Ft Dk k F rm x lf b L G nm sz (g0 ++ [(c, z)]) false) (hB2 : BlkIs W B2 32 #[.pointer (some ⟨L, 0, none⟩)])
    (h2 : ¬ OwnL Ft L G B2) (hb2 : Below W.heap.size W w2) (hb3 : Below w2.heap.size w2 w3) (hT4 : Tn Ft w3 w4) (_ : LogS w3 N Ft Dk k F rm x lf b L G nm sz (g0 ++ [(c, z)]) false) (_ : DiskS w4 N (NewFt Ft w3 w4) Dk k' F' rm x' lf' b') (hL : LogB W L Dk nm sz G ((g0.length + 1 : Nat) : Int) false) :
    w4.cell? ⟨B2, 0, none⟩ = some (.pointer (some ⟨L, 0, none⟩)) ∧ w4.cell? ⟨L, 0, none⟩ = some (.pointer (some ⟨Dk, 0, none⟩)) ∧ w4.cell? ⟨L, 4, none⟩ = some (.int .i64 ((g0.length : Int) + 1)) := by
  have hb : Below W.heap.size W w3 := hb2.trans (hb3.mono hb2.size)
  have e1 : BlkIs w3 B2 32 #[.pointer (some ⟨L, 0, none⟩)] := (hb.block B2 hB2.lt).trans hB2
  have e2 : LogB w3 L Dk nm sz G ((g0.length + 1 : Nat) : Int) false := (hb.block L h.ltL).trans hL
  have e3 := e1.tn hT4 (fun e => h2 (.inl e))
  have e4 : LogB w4 L Dk nm sz G ((g0.length + 1 : Nat) : Int) false := BlkIs.tn e2 hT4 h.2.2.2.1
  exact ⟨e3.cell 0, BlkIs.cell e4 0, BlkIs.cell e4 4⟩
theorem app_died {W w2 w3 w4 : World} {N Dk k L G : Nat} {Ft : Nat → Prop} {F F' : Files} {rm x x' lf lf' : Int} {b b' : Bool} {nm : ByteArray} {sz : Int} {g : List (Nat × Nat)} (h : LogS W N Ft Dk k F rm x lf b L G nm sz g false)
    (hb2 : Below W.heap.size W w2) (hb3 : Below w2.heap.size w2 w3) (hT4 : Tn Ft w3 w4) (hC : LogS w3 N Ft Dk k F rm x lf b L G nm sz g false) (hD4 : DiskS w4 N (NewFt Ft w3 w4) Dk (k + 1) F' rm x' lf' b') : LgPost W N Ft Dk (k + 1) F' rm x' lf' b' L G nm sz g false w4 := by
  have hb : Below W.heap.size W w3 := hb2.trans (hb3.mono hb2.size)
  exact LgPost.up h.2.2.2.1 h.ltL h.2.2.2.2 h.ltG hb.size (Nat.le_refl _) (hC.disk hD4 hT4 (Nat.le_succ k)) (OwnL.of ((Tn.of_below hb).trans hT4))
set_option linter.unusedSimpArgs false in
set_option maxHeartbeats 1600000 in
set_option maxRecDepth 20000 in
theorem app_die (W : World) (N : Nat) (Ft : Nat → Prop) (Dk k : Nat) (F : Files) (rm x : Int) (L G : Nat) (nm : ByteArray) (sz : Int) (g0 : List (Nat × Nat)) (c z : Nat) (bs : List UInt8) (sf : Nat) (B2 B3 B6 : Nat) (A : Option Addr) (cp : Nat) (r : List UInt8)
    (h : LogS W N Ft Dk k F rm x 1 false L G nm sz (g0 ++ [(c, z)]) false) (hl : g0.length + 1 < 999999) (hm : r.length ≤ 1000000)
    (hA : Bts W W.heap.size A r) (hcp : r.length ≤ cp) (hcm : cp ≤ maxLen) (hB2 : BlkIs W B2 32 #[.pointer (some ⟨L, 0, none⟩)]) (hB3 : BlkIs W B3 26 #[.slice A r.length cp]) (hz : (z : Int) < sz)
    (hn : nmOk nm) (hf : F (fileN nm (g0.length + 1)) = some (bs, sf)) (hbs : bs.length ≤ 100000000) (hk : k + 5 < maxLen) (hx : 0 ≤ x) (hx2 : x ≤ 100000000) (hr : x + (rec1 r).length ≤ rm) (hN : N ≤ W.heap.size) (h2 : ¬ OwnL Ft L G B2) :
    Calls Tryz.prog 24 #[.pointer (some ⟨B3, 0, none⟩), .pointer (some ⟨B2, 0, none⟩), .pointer (some ⟨B6, 0, none⟩)] W fun e w' => e = bad 10 ∧ LgPost W N Ft Dk (k + 1) (F.upd (fileN nm (g0.length + 1)) (some (bs ++ rec1 r, sf))) rm (x + (rec1 r).length) 1 true L G nm sz (g0 ++ [(c, z)]) false w' := by
  have b2 := hB2.cell 0
  have b3 := hB3.cell 0
  have hlen : (g0 ++ [(c, z)]).length = g0.length + 1 := by simp
  have hL := h.2.1
  rw [hlen] at hL
  have hL' : LogB W L Dk nm sz G ((g0.length : Int) + 1) false := hL
  have hx0 : ∀ w (v u : Value), (Instr.extract (.tuple #[v, u]) 0).run Tryz.prog w = .ok v w := fun _ _ _ => by kernel_rfl
  have hx1 : ∀ w (v u : Value), (Instr.extract (.tuple #[v, u]) 1).run Tryz.prog w = .ok u w := fun _ _ _ => by kernel_rfl
  have hrl : (rec1 r).length ≤ 1000008 := by rw [rec1_length r]; omega
  have hlt2 := hB2.lt
  go_enter Tryz.func24, Tryz.ntmps24
  go_wp2_with fail
  refine (fput_any A W.heap.size cp r W hA (Nat.le_refl _) hcp hcm hm).mono ?_
  rintro e w1 ⟨v, rfl, ho, hb1⟩
  have h1' := h.below hb1
  have hL1 : LogB w1 L Dk nm sz G ((g0.length : Int) + 1) false := (hb1.block L h.ltL).trans hL'
  have b2' := (hb1.cell (p := ⟨B2, 0, none⟩) hlt2).trans b2
  have hfl := Lib.hid (full_any w1 L Dk nm sz G k (g0 ++ [(c, z)]) g0.length c z false hL1 h1'.2.2.1 (by rw [hlen]; omega) get_last)
  obtain ⟨Av, cv, rfl, hv1, hv2⟩ := own_slice ho
  have HO := Lib.hid ho
  clear ho
  go_upto_if 14 with (first
    | (go_at_call 26; refine (must_ok _).mono ?_; rintro e w' ⟨rfl, rfl⟩)
    | (go_at_call 27; refine hfl.out.mono ?_; rintro e w2 ⟨rfl, hk2⟩))
  have ht := h1'.alk hk2
  have hb2 : Below W.heap.size W w2 := hb1.trans (below_alk hk2 hb1.size)
  have c2' := (hb2.cell (p := ⟨B2, 0, none⟩) hlt2).trans b2
  have HB := Lib.hid hb2
  have tO : Own5 w2 W.heap.size (.slice Av (rec1 r).length cv) (rec1 r) := own_kept HO.out (below_alk hk2 (Nat.le_refl _)) (Nat.le_refl _)
  have tbt := Own5.bts tO
  have tb2 : BlkIs w2 B2 32 _ := (hb2.block B2 hlt2).trans hB2
  have tL : LogB w2 L Dk nm sz G ((g0.length : Int) + 1) false := (hb2.block L h.ltL).trans hL'
  have tA : Below w2.heap.size w2 w2.drew := (Below.refl _ w2).drew
  have sB2 := tb2.cell 0
  have sL0 := BlkIs.cell tL 0
  have sL4 := BlkIs.cell tL 4
  have sS : ∀ W', Below w2.heap.size w2 W' → W'.cell? ⟨B2, 0, none⟩ = some (.pointer (some ⟨L, 0, none⟩)) ∧ W'.cell? ⟨L, 0, none⟩ = some (.pointer (some ⟨Dk, 0, none⟩)) ∧ W'.cell? ⟨L, 4, none⟩ = some (.int .i64 ((g0.length : Int) + 1)) := fun W' hb =>
    ⟨(hb.cell (p := ⟨B2, 0, none⟩) tb2.lt).trans sB2, (hb.cell (p := ⟨L, 0, none⟩) tL.lt).trans sL0, (hb.cell (p := ⟨L, 4, none⟩) tL.lt).trans sL4⟩
  have SS := Lib.hid sS
  have hn6 : nm.size ≤ 1000000 := by have := hn.1; omega
  have hnb := nameB_fileN hn (g0.length + 1)
  have tD := ht.below tA
  have tLd : LogB w2.drew L Dk nm sz G ((g0.length : Int) + 1) false := tL
  have HH := Lib.hid h
  have HT := Lib.hid ht
  have hzz := hb2.size
  clear sS hfl h1' hb2 tO
  go_wp2_with fail
  refine wp_region_held_drew (S := fun w' => w'.cell? ⟨B2, 0, none⟩ = some (.pointer (some ⟨L, 0, none⟩)) ∧ w'.cell? ⟨L, 0, none⟩ = some (.pointer (some ⟨Dk, 0, none⟩)) ∧ w'.cell? ⟨L, 4, none⟩ = some (.int .i64 ((g0.length : Int) + 1))) (by kernel_rfl) (SS.out _ tA) (fun hHeld => ?_)
  refine wpAnyH_take (i := 0) (v := .pointer (some ⟨L, 0, none⟩)) rfl (by kernel_rfl) (by kernel_rfl) (by kernel_rfl) (fun _ _ _ h => h) (Or.inl ⟨by rfl, fun w hS => by (obtain ⟨s1, s2, s3⟩ := hS; first | (go_simp; done) | (go_simp; with_reducible rfl))⟩) hHeld ?_
  try simp only [Act.put, List.setIfInBounds_toArray, List.set_cons_zero, List.set_cons_succ]
  refine wpAnyH_take (i := 1) (v := .pointer (some ⟨L, 0, none⟩)) rfl (by kernel_rfl) (by kernel_rfl) (by kernel_rfl) (fun _ _ _ h => h) (Or.inl ⟨by rfl, fun w hS => by (obtain ⟨s1, s2, s3⟩ := hS; first | (go_simp; done) | (go_simp; with_reducible rfl))⟩) hHeld ?_
  try simp only [Act.put, List.setIfInBounds_toArray, List.set_cons_zero, List.set_cons_succ]
  refine wpAnyH_take (i := 2) (v := .pointer (some ⟨L, 0, none⟩)) rfl (by kernel_rfl) (by kernel_rfl) (by kernel_rfl) (fun _ _ _ h => h) (Or.inl ⟨by rfl, fun w hS => by (obtain ⟨s1, s2, s3⟩ := hS; first | (go_simp; done) | (go_simp; with_reducible rfl))⟩) hHeld ?_
  try simp only [Act.put, List.setIfInBounds_toArray, List.set_cons_zero, List.set_cons_succ]
  refine wpAnyH_take (i := 3) (v := .pointer (some ⟨Dk, 0, none⟩)) rfl (by kernel_rfl) (by kernel_rfl) (by kernel_rfl) (fun _ _ _ h => h) (Or.inl ⟨by rfl, fun w hS => by (obtain ⟨s1, s2, s3⟩ := hS; first | (go_simp; done) | (go_simp; with_reducible rfl))⟩) hHeld ?_
  try simp only [Act.put, List.setIfInBounds_toArray, List.set_cons_zero, List.set_cons_succ]
  refine wpAnyH_take (i := 4) (v := .pointer (some ⟨L, 0, none⟩)) rfl (by kernel_rfl) (by kernel_rfl) (by kernel_rfl) (fun _ _ _ h => h) (Or.inl ⟨by rfl, fun w hS => by (obtain ⟨s1, s2, s3⟩ := hS; first | (go_simp; done) | (go_simp; with_reducible rfl))⟩) hHeld ?_
  try simp only [Act.put, List.setIfInBounds_toArray, List.set_cons_zero, List.set_cons_succ]
  refine wpAnyH_take (i := 5) (v := .pointer (some ⟨L, 0, none⟩)) rfl (by kernel_rfl) (by kernel_rfl) (by kernel_rfl) (fun _ _ _ h => h) (Or.inl ⟨by rfl, fun w hS => by (obtain ⟨s1, s2, s3⟩ := hS; first | (go_simp; done) | (go_simp; with_reducible rfl))⟩) hHeld ?_
  try simp only [Act.put, List.setIfInBounds_toArray, List.set_cons_zero, List.set_cons_succ]
  refine wpAnyH_take (i := 6) (v := .pointer (some ⟨L, 0, none⟩)) rfl (by kernel_rfl) (by kernel_rfl) (by kernel_rfl) (fun _ _ _ h => h) (Or.inl ⟨by rfl, fun w hS => by (obtain ⟨s1, s2, s3⟩ := hS; first | (go_simp; done) | (go_simp; with_reducible rfl))⟩) hHeld ?_
  try simp only [Act.put, List.setIfInBounds_toArray, List.set_cons_zero, List.set_cons_succ]
  refine wpAnyH_take (i := 7) (v := .pointer (some ⟨L, 4, none⟩)) rfl (by kernel_rfl) (by kernel_rfl) (by kernel_rfl) (fun _ _ _ h => h) (Or.inl ⟨by rfl, fun w hS => by (obtain ⟨s1, s2, s3⟩ := hS; first | (go_simp; done) | (go_simp; with_reducible rfl))⟩) hHeld ?_
  try simp only [Act.put, List.setIfInBounds_toArray, List.set_cons_zero, List.set_cons_succ]
  refine wpAnyH_take (i := 8) (v := .int .i64 ((g0.length : Int) + 1)) rfl (by kernel_rfl) (by kernel_rfl) (by kernel_rfl) (fun _ _ _ h => h) (Or.inl ⟨by rfl, fun w hS => by (obtain ⟨s1, s2, s3⟩ := hS; first | (go_simp; done) | (go_simp; with_reducible rfl))⟩) hHeld ?_
  try simp only [Act.put, List.setIfInBounds_toArray, List.set_cons_zero, List.set_cons_succ]
  refine wpAnyH_take (i := 10) (v := .slice Av (rec1 r).length cv) rfl (by kernel_rfl) (by kernel_rfl) (by kernel_rfl) (fun _ _ _ h => h) (Or.inl ⟨by rfl, fun w hS => by (obtain ⟨s1, s2, s3⟩ := hS; first | (go_simp; done) | (go_simp; with_reducible rfl))⟩) hHeld ?_
  try simp only [Act.put, List.setIfInBounds_toArray, List.set_cons_zero, List.set_cons_succ]
  refine wpAnyH_ready (rs := [9]) (by kernel_rfl) (by simp) ?_
  refine AllReadyH.cons rfl (fun K hK => ?_) AllReadyH.nil
  go_simp
  go_wp2_with (go_at_call 30; refine (lfile_any _ L Dk nm sz G _ false (g0.length + 1) tLd (by omega) hn6).mono ?_; rintro e w3 ⟨rfl, hb3⟩)
  refine hK.out _ _ ?_ (fun hHeld => ?_)
  · exact SS.out _ (tA.trans hb3)
  clear hK K
  try simp only [Act.put, List.setIfInBounds_toArray, List.set_cons_zero, List.set_cons_succ]
  have hC := tD.below hb3
  have tB3 := tA.trans hb3
  have ha := Lib.hid (append_die w3 N Ft Dk k F _ rm x Av w2.heap.size cv bs sf (rec1 r) hC.1 hnb hf (by omega) hx hx2 hbs (by omega) hr (by have := tB3.size; omega) (tbt.below tB3) (by have := tB3.size; omega))
  have HC := Lib.hid hC
  have HBB := Lib.hid tB3
  have hLC := BlkIs.cell hC.2.1 0
  clear hC tB3
  refine wpAnyH_ready (rs := [11]) (by kernel_rfl) (by simp) ?_
  refine AllReadyH.cons rfl (fun K hK => ?_) AllReadyH.nil
  go_simp
  go_wp2_with (go_at_call 29; refine ha.out.mono ?_; rintro e w4 ⟨rfl, hD4, hT4⟩; have HD4 := Lib.hid hD4; have HT4 := Lib.hid hT4; clear hD4)
  refine hK.out _ _ ?_ (fun hHeld => ?_)
  · exact app_held HH.out hB2 h2 HB.out HBB.out HT4.out HC.out HD4.out hL
  clear hK K
  try simp only [Act.put, List.setIfInBounds_toArray, List.set_cons_zero, List.set_cons_succ]
  refine wpAnyH_ready (rs := [12]) (by kernel_rfl) (by simp) ?_
  refine AllReadyH.cons rfl (fun K hK => ?_) AllReadyH.nil
  go_simp
  go_wp2_with (go_at_call 26; refine (must_bad _ 10 (by decide)).mono ?_; rintro e w5 ⟨rfl, rfl⟩; unfold bad)
  exact ⟨rfl, rfl, app_died HH.out HB.out HBB.out HT4.out HC.out HD4.out⟩
end Go.Proofs.YtidadjlhnlmfkaaGreatDoor
/- A log's Append where the power fails as the record is appended to a new segment. Conditions: as stated at each. -/
namespace Go.Proofs.YtidadjlhnlmfkaaGreatDoor
open Go.RowKit Go.Shelf Go Go.Maps
theorem app_held2 {wc w3 w4 : World} {N Dk k L G B2 : Nat} {Ft : Nat → Prop} {F : Files} {rm x lf last : Int} {b : Bool} {nm : ByteArray} {sz : Int} {g : List (Nat × Nat)} (h : LogS wc N Ft Dk k F rm x lf b L G nm sz g false) (hB2 : BlkIs wc B2 32 #[.pointer (some ⟨L, 0, none⟩)])
    (h2 : ¬ Ft B2) (hb3 : Below wc.heap.size wc w3) (hT4 : Tn Ft w3 w4) (hL : LogB wc L Dk nm sz G last false) :
    w4.cell? ⟨B2, 0, none⟩ = some (.pointer (some ⟨L, 0, none⟩)) ∧ w4.cell? ⟨L, 0, none⟩ = some (.pointer (some ⟨Dk, 0, none⟩)) ∧ w4.cell? ⟨L, 4, none⟩ = some (.int .i64 last) := by
  have e1 : BlkIs w3 B2 32 #[.pointer (some ⟨L, 0, none⟩)] := (hb3.block B2 hB2.lt).trans hB2
  have e2 : LogB w3 L Dk nm sz G last false := (hb3.block L h.ltL).trans hL
  have e3 := e1.tn hT4 h2
  have e4 : LogB w4 L Dk nm sz G last false := BlkIs.tn e2 hT4 h.2.2.2.1
  exact ⟨e3.cell 0, BlkIs.cell e4 0, BlkIs.cell e4 4⟩
set_option linter.unusedSimpArgs false in
set_option maxHeartbeats 1600000 in
set_option maxRecDepth 20000 in
theorem app_die3 (W : World) (N : Nat) (Ft : Nat → Prop) (Dk k : Nat) (F : Files) (rm x : Int) (L G : Nat) (nm : ByteArray) (sz : Int) (g0 : List (Nat × Nat)) (c z : Nat) (bs : List UInt8) (sf : Nat) (B2 B3 B6 : Nat) (A : Option Addr) (cp : Nat) (r : List UInt8)
    (h : LogS W N Ft Dk k F rm x 3 false L G nm sz (g0 ++ [(c, z)]) false) (hl : g0.length + 1 < 999999) (hm : r.length ≤ 1000000)
    (hA : Bts W W.heap.size A r) (hcp : r.length ≤ cp) (hcm : cp ≤ maxLen) (hB2 : BlkIs W B2 32 #[.pointer (some ⟨L, 0, none⟩)]) (hB3 : BlkIs W B3 26 #[.slice A r.length cp]) (hz : sz ≤ (z : Int)) (hlow : Low W Ft) (hr2 : rm ≤ 1000000000000) (okf : F (fileN nm (g0.length + 2)) = none)
    (hn : nmOk nm) (hf : F (fileN nm (g0.length + 1)) = some (bs, sf)) (hbs : bs.length ≤ 100000000) (hk : k + 5 < maxLen) (hx : 0 ≤ x) (hx2 : x ≤ 100000000) (hr : x + (rec1 r).length ≤ rm) (hN : N ≤ W.heap.size) (h2 : ¬ OwnL Ft L G B2) :
    Calls Tryz.prog 24 #[.pointer (some ⟨B3, 0, none⟩), .pointer (some ⟨B2, 0, none⟩), .pointer (some ⟨B6, 0, none⟩)] W fun e w' => e = bad 10 ∧ LgPost W N Ft Dk (k + 4) (((F.upd (fileN nm (g0.length + 1)) (some (bs, bs.length))).upd (fileN nm (g0.length + 2)) (some ([], 0))).upd (fileN nm (g0.length + 2)) (some ([] ++ rec1 r, 0))) rm (x + (rec1 r).length) 1 true L G nm sz (g0 ++ [(c, z)] ++ [(0, 0)]) false w' := by
  have b2 := hB2.cell 0
  have b3 := hB3.cell 0
  have hlen : (g0 ++ [(c, z)]).length = g0.length + 1 := by simp
  have hL := h.2.1
  rw [hlen] at hL
  have hL' : LogB W L Dk nm sz G ((g0.length : Int) + 1) false := hL
  have hx0 : ∀ w (v u : Value), (Instr.extract (.tuple #[v, u]) 0).run Tryz.prog w = .ok v w := fun _ _ _ => by kernel_rfl
  have hx1 : ∀ w (v u : Value), (Instr.extract (.tuple #[v, u]) 1).run Tryz.prog w = .ok u w := fun _ _ _ => by kernel_rfl
  have hrl : (rec1 r).length ≤ 1000008 := by rw [rec1_length r]; omega
  have hlt2 := hB2.lt
  go_enter Tryz.func24, Tryz.ntmps24
  go_wp2_with fail
  refine (fput_any A W.heap.size cp r W hA (Nat.le_refl _) hcp hcm hm).mono ?_
  rintro e w1 ⟨v, rfl, ho, hb1⟩
  have h1' := h.below hb1
  have hL1 : LogB w1 L Dk nm sz G ((g0.length : Int) + 1) false := (hb1.block L h.ltL).trans hL'
  have b2' := (hb1.cell (p := ⟨B2, 0, none⟩) hlt2).trans b2
  have hfl := Lib.hid (full_any w1 L Dk nm sz G k (g0 ++ [(c, z)]) g0.length c z false hL1 h1'.2.2.1 (by rw [hlen]; omega) get_last)
  obtain ⟨Av, cv, rfl, hv1, hv2⟩ := own_slice ho
  have HO := Lib.hid ho
  clear ho
  go_upto_if 14 with (first
    | (go_at_call 26; refine (must_ok _).mono ?_; rintro e w' ⟨rfl, rfl⟩)
    | (go_at_call 27; refine hfl.out.mono ?_; rintro e w2 ⟨rfl, hk2⟩))
  have ht := h1'.alk hk2
  have hb2 : Below W.heap.size W w2 := hb1.trans (below_alk hk2 hb1.size)
  have c2' := (hb2.cell (p := ⟨B2, 0, none⟩) hlt2).trans b2
  have hro := Lib.hid (roll_ok w2 N Ft Dk k F rm x 3 L G nm sz (g0 ++ [(c, z)]) bs sf (rec1 r).length ht (by rw [hlen]; omega) hn (by rw [hlen]; exact hf) hbs (by rw [hlen]; exact okf) (by omega) hx hx2 hr hr2 (by omega) (by omega) (by omega))
  have tO2 : Own5 w2 W.heap.size (.slice Av (rec1 r).length cv) (rec1 r) := own_kept HO.out (below_alk hk2 (Nat.le_refl _)) (Nat.le_refl _)
  have TO2 := Lib.hid tO2
  have tb2' : BlkIs w2 B2 32 _ := (hb2.block B2 hlt2).trans hB2
  have HH := Lib.hid h
  have HT := Lib.hid ht
  have HB := Lib.hid hb2
  have hzz := hb2.size
  have LO := Lib.hid hlow
  clear hfl h1' tO2 ht hlow
  go_wp2_with (go_at_call 28; refine hro.out.mono ?_; rintro e wc ⟨rfl, hp5⟩)
  rw [hlen] at hp5
  rw [show lfA (lfA 3) = 1 from rfl] at hp5
  have HP5 := Lib.hid hp5
  have ht : LogS wc N (NewFt Ft w2 wc) Dk (k + 3) _ rm x 1 false L G nm sz (g0 ++ [(c, z)] ++ [(0, 0)]) false := hp5.1
  have tO : Own5 wc W.heap.size (.slice Av (rec1 r).length cv) (rec1 r) := Own5.tn TO2.out hp5.2 (fun g hg hp => by
    have hgl := (Own5.blk_lt TO2.out hg).1
    rcases hp with hp | rfl | rfl
    · have := LO.out g hp
      omega
    · have := HH.out.ltL
      omega
    · have := HH.out.ltG
      omega)
  have tb2 : BlkIs wc B2 32 #[.pointer (some ⟨L, 0, none⟩)] := tb2'.tn hp5.2 h2
  have hn2t : ¬ NewFt Ft w2 wc B2 := newFt_not (fun e => h2 (.inl e)) tb2'.lt
  have hz5 := hp5.2.size
  have htf : ((F.upd (fileN nm (g0.length + 1)) (some (bs, bs.length))).upd (fileN nm (g0.length + 2)) (some ([], 0))) (fileN nm (g0.length + 2)) = some ([], 0) := by
    unfold Files.upd
    rw [if_pos rfl]
  clear hp5 hro
  obtain ⟨Ftc, hFtc⟩ : ∃ Ftc, Ftc = NewFt Ft w2 wc := ⟨_, rfl⟩
  obtain ⟨Fc, hFc⟩ : ∃ Fc, Fc = ((F.upd (fileN nm (g0.length + 1)) (some (bs, bs.length))).upd (fileN nm (g0.length + 2)) (some ([], 0))) := ⟨_, rfl⟩
  rw [← hFtc] at hn2t
  have ht : LogS wc N Ftc Dk (k + 3) Fc rm x 1 false L G nm sz (g0 ++ [(c, z)] ++ [(0, 0)]) false := by rw [hFtc, hFc]; exact ht
  rw [← hFc] at htf
  have HFt := Lib.hid hFtc
  have HFc := Lib.hid hFc
  clear hFtc hFc
  have tbt := Own5.bts tO
  have tlen : (g0 ++ [(c, z)] ++ [(0, 0)]).length = g0.length + 2 := by simp
  have tL : LogB wc L Dk nm sz G ((g0.length : Int) + 2) false := by
    have := ht.2.1
    rw [tlen] at this
    exact this
  have tA : Below wc.heap.size wc wc.drew := (Below.refl _ wc).drew
  have sB2 := tb2.cell 0
  have sL0 := BlkIs.cell tL 0
  have sL4 := BlkIs.cell tL 4
  have sS : ∀ W', Below wc.heap.size wc W' → W'.cell? ⟨B2, 0, none⟩ = some (.pointer (some ⟨L, 0, none⟩)) ∧ W'.cell? ⟨L, 0, none⟩ = some (.pointer (some ⟨Dk, 0, none⟩)) ∧ W'.cell? ⟨L, 4, none⟩ = some (.int .i64 ((g0.length : Int) + 2)) := fun W' hb =>
    ⟨(hb.cell (p := ⟨B2, 0, none⟩) tb2.lt).trans sB2, (hb.cell (p := ⟨L, 0, none⟩) tL.lt).trans sL0, (hb.cell (p := ⟨L, 4, none⟩) tL.lt).trans sL4⟩
  have SS := Lib.hid sS
  have hn6 : nm.size ≤ 1000000 := by have := hn.1; omega
  have hnb := nameB_fileN hn (g0.length + 2)
  have tD := ht.below tA
  have tLd : LogB wc.drew L Dk nm sz G ((g0.length : Int) + 2) false := tL
  have HTC := Lib.hid ht
  clear sS tO ht
  refine wp_region_held_drew (S := fun w' => w'.cell? ⟨B2, 0, none⟩ = some (.pointer (some ⟨L, 0, none⟩)) ∧ w'.cell? ⟨L, 0, none⟩ = some (.pointer (some ⟨Dk, 0, none⟩)) ∧ w'.cell? ⟨L, 4, none⟩ = some (.int .i64 ((g0.length : Int) + 2))) (by kernel_rfl) (SS.out _ tA) (fun hHeld => ?_)
  refine wpAnyH_take (i := 0) (v := .pointer (some ⟨L, 0, none⟩)) rfl (by kernel_rfl) (by kernel_rfl) (by kernel_rfl) (fun _ _ _ h => h) (Or.inl ⟨by rfl, fun w hS => by (obtain ⟨s1, s2, s3⟩ := hS; first | (go_simp; done) | (go_simp; with_reducible rfl))⟩) hHeld ?_
  try simp only [Act.put, List.setIfInBounds_toArray, List.set_cons_zero, List.set_cons_succ]
  refine wpAnyH_take (i := 1) (v := .pointer (some ⟨L, 0, none⟩)) rfl (by kernel_rfl) (by kernel_rfl) (by kernel_rfl) (fun _ _ _ h => h) (Or.inl ⟨by rfl, fun w hS => by (obtain ⟨s1, s2, s3⟩ := hS; first | (go_simp; done) | (go_simp; with_reducible rfl))⟩) hHeld ?_
  try simp only [Act.put, List.setIfInBounds_toArray, List.set_cons_zero, List.set_cons_succ]
  refine wpAnyH_take (i := 2) (v := .pointer (some ⟨L, 0, none⟩)) rfl (by kernel_rfl) (by kernel_rfl) (by kernel_rfl) (fun _ _ _ h => h) (Or.inl ⟨by rfl, fun w hS => by (obtain ⟨s1, s2, s3⟩ := hS; first | (go_simp; done) | (go_simp; with_reducible rfl))⟩) hHeld ?_
  try simp only [Act.put, List.setIfInBounds_toArray, List.set_cons_zero, List.set_cons_succ]
  refine wpAnyH_take (i := 3) (v := .pointer (some ⟨Dk, 0, none⟩)) rfl (by kernel_rfl) (by kernel_rfl) (by kernel_rfl) (fun _ _ _ h => h) (Or.inl ⟨by rfl, fun w hS => by (obtain ⟨s1, s2, s3⟩ := hS; first | (go_simp; done) | (go_simp; with_reducible rfl))⟩) hHeld ?_
  try simp only [Act.put, List.setIfInBounds_toArray, List.set_cons_zero, List.set_cons_succ]
  refine wpAnyH_take (i := 4) (v := .pointer (some ⟨L, 0, none⟩)) rfl (by kernel_rfl) (by kernel_rfl) (by kernel_rfl) (fun _ _ _ h => h) (Or.inl ⟨by rfl, fun w hS => by (obtain ⟨s1, s2, s3⟩ := hS; first | (go_simp; done) | (go_simp; with_reducible rfl))⟩) hHeld ?_
  try simp only [Act.put, List.setIfInBounds_toArray, List.set_cons_zero, List.set_cons_succ]
  refine wpAnyH_take (i := 5) (v := .pointer (some ⟨L, 0, none⟩)) rfl (by kernel_rfl) (by kernel_rfl) (by kernel_rfl) (fun _ _ _ h => h) (Or.inl ⟨by rfl, fun w hS => by (obtain ⟨s1, s2, s3⟩ := hS; first | (go_simp; done) | (go_simp; with_reducible rfl))⟩) hHeld ?_
  try simp only [Act.put, List.setIfInBounds_toArray, List.set_cons_zero, List.set_cons_succ]
  refine wpAnyH_take (i := 6) (v := .pointer (some ⟨L, 0, none⟩)) rfl (by kernel_rfl) (by kernel_rfl) (by kernel_rfl) (fun _ _ _ h => h) (Or.inl ⟨by rfl, fun w hS => by (obtain ⟨s1, s2, s3⟩ := hS; first | (go_simp; done) | (go_simp; with_reducible rfl))⟩) hHeld ?_
  try simp only [Act.put, List.setIfInBounds_toArray, List.set_cons_zero, List.set_cons_succ]
  refine wpAnyH_take (i := 7) (v := .pointer (some ⟨L, 4, none⟩)) rfl (by kernel_rfl) (by kernel_rfl) (by kernel_rfl) (fun _ _ _ h => h) (Or.inl ⟨by rfl, fun w hS => by (obtain ⟨s1, s2, s3⟩ := hS; first | (go_simp; done) | (go_simp; with_reducible rfl))⟩) hHeld ?_
  try simp only [Act.put, List.setIfInBounds_toArray, List.set_cons_zero, List.set_cons_succ]
  refine wpAnyH_take (i := 8) (v := .int .i64 ((g0.length : Int) + 2)) rfl (by kernel_rfl) (by kernel_rfl) (by kernel_rfl) (fun _ _ _ h => h) (Or.inl ⟨by rfl, fun w hS => by (obtain ⟨s1, s2, s3⟩ := hS; first | (go_simp; done) | (go_simp; with_reducible rfl))⟩) hHeld ?_
  try simp only [Act.put, List.setIfInBounds_toArray, List.set_cons_zero, List.set_cons_succ]
  refine wpAnyH_take (i := 10) (v := .slice Av (rec1 r).length cv) rfl (by kernel_rfl) (by kernel_rfl) (by kernel_rfl) (fun _ _ _ h => h) (Or.inl ⟨by rfl, fun w hS => by (obtain ⟨s1, s2, s3⟩ := hS; first | (go_simp; done) | (go_simp; with_reducible rfl))⟩) hHeld ?_
  try simp only [Act.put, List.setIfInBounds_toArray, List.set_cons_zero, List.set_cons_succ]
  refine wpAnyH_ready (rs := [9]) (by kernel_rfl) (by simp) ?_
  refine AllReadyH.cons rfl (fun K hK => ?_) AllReadyH.nil
  go_simp
  go_wp2_with (go_at_call 30; refine (lfile_any _ L Dk nm sz G _ false (g0.length + 2) tLd (by omega) hn6).mono ?_; rintro e w3 ⟨rfl, hb3⟩)
  refine hK.out _ _ ?_ (fun hHeld => ?_)
  · exact SS.out _ (tA.trans hb3)
  clear hK K
  try simp only [Act.put, List.setIfInBounds_toArray, List.set_cons_zero, List.set_cons_succ]
  have hC := tD.below hb3
  have tB3 := tA.trans hb3
  have ha := Lib.hid (append_die w3 N Ftc Dk (k + 3) Fc _ rm x Av wc.heap.size cv [] 0 (rec1 r) hC.1 hnb htf (by omega) hx hx2 (by simp) (by omega) hr (by have := tB3.size; omega) (tbt.below tB3) (by have := tB3.size; omega))
  have HC := Lib.hid hC
  have HBB := Lib.hid tB3
  have hLC := BlkIs.cell hC.2.1 0
  clear hC tB3
  refine wpAnyH_ready (rs := [11]) (by kernel_rfl) (by simp) ?_
  refine AllReadyH.cons rfl (fun K hK => ?_) AllReadyH.nil
  go_simp
  go_wp2_with (go_at_call 29; refine ha.out.mono ?_; rintro e w4 ⟨rfl, hD4, hT4⟩; have HD4 := Lib.hid hD4; have HT4 := Lib.hid hT4; clear hD4)
  refine hK.out _ _ ?_ (fun hHeld => ?_)
  · exact app_held2 HTC.out tb2 hn2t HBB.out HT4.out tL
  clear hK K
  try simp only [Act.put, List.setIfInBounds_toArray, List.set_cons_zero, List.set_cons_succ]
  refine wpAnyH_ready (rs := [12]) (by kernel_rfl) (by simp) ?_
  refine AllReadyH.cons rfl (fun K hK => ?_) AllReadyH.nil
  go_simp
  go_wp2_with (go_at_call 26; refine (must_bad _ 10 (by decide)).mono ?_; rintro e w5 ⟨rfl, rfl⟩; unfold bad)
  have hl := app_died HTC.out (Below.refl _ wc) HBB.out HT4.out HC.out HD4.out
  have h5 := HP5.out
  have e1 := HFt.out
  have e2 := HFc.out
  subst e1
  rw [← e2] at h5
  have hfin := LgPost.of_below HH.out HB.out (LgPost.trans HT.out h5 hl)
  subst e2
  exact ⟨rfl, rfl, hfin⟩
end Go.Proofs.YtidadjlhnlmfkaaGreatDoor
/- (*seglog.Log).Append where the power fails. Conditions: as stated at each. -/
namespace Go.Proofs.YtidadjlhnlmfkaaGreatDoor
open Go.RowKit Go.Shelf Go Go.Maps
/-- behind the closure that died, in the boxes' world. -/
def DieQ (W W5 : World) (N : Nat) (Ft : Nat → Prop) (Dk k : Nat) (F : Files) (rm x : Int) (L G : Nat) (nm : ByteArray) (sz : Int) (g : List (Nat × Nat)) (dd : Bool) (w' : World) : Prop :=
  BlkIs w' (W.heap.size + 1 + 1) 37 #[.int .i64 0, .int .i64 0] ∧ BlkIs w' (W.heap.size + 1 + 1 + 1) 37 #[.int .i64 0, .int .i64 0] ∧ LogS w' N (NewFt Ft W5 w') Dk k F rm x 1 true L G nm sz g dd ∧ Tn (fun i => OwnL Ft L G i ∨ i = W.heap.size + 1 + 1 + 1 + 1) W5 w'
set_option maxHeartbeats 3200000 in
set_option maxRecDepth 20000 in
theorem append_dies (W : World) (N : Nat) (Ft : Nat → Prop) (Dk k k' : Nat) (F F' : Files) (rm x x' lf : Int) (L G : Nat) (nm : ByteArray) (sz : Int) (g g' : List (Nat × Nat)) (dd : Bool) (A : Option Addr) (cp : Nat) (r : List UInt8)
    (h : LogS W N Ft Dk k F rm x lf false L G nm sz g false) (hlow : Low W Ft)
    (hdie : ∀ W5 B2 B3 B6, Below W.heap.size W W5 → BlkIs W5 B2 32 #[.pointer (some ⟨L, 0, none⟩)] → BlkIs W5 B3 26 #[.slice A r.length cp] → ¬ OwnL Ft L G B2 →
      Calls Tryz.prog 24 #[.pointer (some ⟨B3, 0, none⟩), .pointer (some ⟨B2, 0, none⟩), .pointer (some ⟨B6, 0, none⟩)] W5 fun e w' => e = bad 10 ∧ LgPost W5 N Ft Dk k' F' rm x' 1 true L G nm sz g' dd w') :
    Calls Tryz.prog 10 #[.pointer (some ⟨L, 0, none⟩), .slice A r.length cp] W fun e w' => e = .returned (.tuple #[.agg #[.int .i64 0, .int .i64 0], .int .i64 10]) ∧ LgPost W N Ft Dk k' F' rm x' 1 true L G nm sz g' true w' := by
  have hmf : ∀ (fn : Fn) (first cap : Array Value) (w : World), (Instr.makeFunc fn first cap).run Tryz.prog w = .ok (.func fn first cap) w := fun _ _ _ _ => rfl
  have hen : ∀ args w, (callFunc 24 args).run Tryz.prog w = .ok (.enter 24 args) w := enters_of Tryz.func24 (by kernel_rfl) rfl
  obtain ⟨n0, n1, n2, n3, n4, nB⟩ := five_new W 32 26 37 37 33 #[.pointer (some ⟨L, 0, none⟩)] #[.slice A r.length cp] #[.int .i64 0, .int .i64 0] #[.int .i64 0, .int .i64 0] #[.int .i64 0]
  have kB := four_below W 32 26 37 37 #[.pointer (some ⟨L, 0, none⟩)] #[.slice A r.length cp] #[.int .i64 0, .int .i64 0] #[.int .i64 0, .int .i64 0]
  have hlL := h.ltL
  have hlG := h.ltG
  have out : ∀ j, W.heap.size ≤ j → ¬ OwnL Ft L G j := fun j hj e => by
    rcases e with e | rfl | rfl
    · have := hlow j e
      omega
    · omega
    · omega
  have happ := Lib.hid (hdie _ _ _ (W.heap.size + 1 + 1 + 1) nB n0 n1 (out _ (Nat.le_refl _)))
  have hL4 : LogB _ L Dk nm sz G ((g.length : Nat) : Int) false := (kB.block L hlL).trans h.2.1
  have hcall := Lib.hid (call_c 24 _ _ L Dk nm sz G _ (fun y w' => y = 10 ∧ DieQ W (((((W.alloc (.cells #[.pointer (some ⟨L, 0, none⟩)] 32)).alloc (.cells #[.slice A r.length cp] 26)).alloc (.cells #[.int .i64 0, .int .i64 0] 37)).alloc (.cells #[.int .i64 0, .int .i64 0] 37)).alloc (.cells #[.int .i64 0] 33)) N Ft Dk k' F' rm x' L G nm sz g' dd w') hL4 (hen _)
    (fun w' hq => ⟨dd, BlkIs.cell hq.2.2.2.1.2.1 5, BlkIs.froz hq.2.2.2.1.2.1 5⟩) (happ.out.mono (by
    rintro e w' ⟨rfl, q1, q2⟩
    have hs : ((((W.alloc (.cells #[.pointer (some ⟨L, 0, none⟩)] 32)).alloc (.cells #[.slice A r.length cp] 26)).alloc (.cells #[.int .i64 0, .int .i64 0] 37)).alloc (.cells #[.int .i64 0, .int .i64 0] 37)).heap.size = W.heap.size + 1 + 1 + 1 + 1 := by simp
    rw [hs]
    refine ⟨n4.tn q2 (out _ (by omega)), .inr ⟨10, rfl, rfl, ?_⟩⟩
    have T8 := (Tn.refl (fun i => i = W.heap.size + 1 + 1 + 1 + 1) w').setCell (x := ⟨W.heap.size + 1 + 1 + 1 + 1, 0, none⟩) (.inl rfl) (.int .i64 10)
    refine ⟨(n2.tn q2 (out _ (by omega))).far (x := ⟨W.heap.size + 1 + 1 + 1 + 1, 0, none⟩) (by show W.heap.size + 1 + 1 ≠ W.heap.size + 1 + 1 + 1 + 1; omega) _, (n3.tn q2 (out _ (by omega))).far (x := ⟨W.heap.size + 1 + 1 + 1 + 1, 0, none⟩) (by show W.heap.size + 1 + 1 + 1 ≠ W.heap.size + 1 + 1 + 1 + 1; omega) _, ?_, ?_⟩
    · rw [← newFt_size (W2 := w'.setCell ⟨W.heap.size + 1 + 1 + 1 + 1, 0, none⟩ (.int .i64 10)) (size_set _ _ _)]
      refine q1.keep T8 (fun i hi e => ?_)
      have e : i = W.heap.size + 1 + 1 + 1 + 1 := e
      rw [e] at hi
      rcases hi with (hi | ⟨hi, _⟩) | hi | hi
      · exact out _ (by omega) (.inl hi)
      · simp at hi
        omega
      · omega
      · omega
    · exact (q2.mono (fun i _ h => .inl h)).setCell (.inl (.inr rfl)) _)))
  clear happ
  go_enter Tryz.func10, Tryz.ntmps10
  go_wp2_with fail
  refine hcall.out.mono ?_
  rintro e w' ⟨y, rfl, ⟨hy, rfl, _⟩ | ⟨rfl, w1, ⟨_, d1, d2, d3, d4⟩, rfl⟩⟩
  · exact absurd rfl hy
  · have hLne : ∀ j, W.heap.size ≤ j → j ≠ L := fun j hj e => by omega
    have hb4 := d1.far (x := ⟨L, 5, none⟩) (hLne _ (by omega)) (.bool true)
    have hb6 := d2.far (x := ⟨L, 5, none⟩) (hLne _ (by omega)) (.bool true)
    have hS := Lib.hid (d3.set (dead' := true) ⟨rfl, rfl⟩)
    have hT := Lib.hid (d4.setCell (x := ⟨L, 5, none⟩) (.inl (.inl (.inr (.inl rfl)))) (.bool true))
    have hsz := size_set w1 ⟨L, 5, none⟩ (.bool true)
    have hft := Lib.hid (newFt_size (Ft := Ft) (W := (((((W.alloc (.cells #[.pointer (some ⟨L, 0, none⟩)] 32)).alloc (.cells #[.slice A r.length cp] 26)).alloc (.cells #[.int .i64 0, .int .i64 0] 37)).alloc (.cells #[.int .i64 0, .int .i64 0] 37)).alloc (.cells #[.int .i64 0] 33))) (W1 := w1) (W2 := w1.setCell ⟨L, 5, none⟩ (.bool true)) hsz)
    generalize w1.setCell ⟨L, 5, none⟩ (.bool true) = w' at *
    have c60 := hb6.cell 0
    have c61 := hb6.cell 1
    have c40 := hb4.cell 0
    have c41 := hb4.cell 1
    have f4 := hb4.froz 0
    have f41 := hb4.froz 1
    clear d1 d2 d3 d4 hcall hsz
    go_wp2_with fail
    have b5 := (hb4.put 0 (.int .i64 0)).put 1 (.int .i64 0)
    have r0 := b5.cell 0
    have r1 := b5.cell 1
    have T8 := ((Tn.refl (fun i => i = W.heap.size + 1 + 1) w').setCell (x := ⟨W.heap.size + 1 + 1, 0, none⟩) (.inl rfl) (.int .i64 0)).setCell (x := ⟨W.heap.size + 1 + 1, 1, none⟩) (.inl rfl) (.int .i64 0)
    have hS2 := hS.out
    rw [hft.out] at hS2
    have hE8 := hS2.keep T8 (fun i hi e => by
      have e : i = W.heap.size + 1 + 1 := e
      rw [e] at hi
      rcases hi with (hi | ⟨hi, _⟩) | hi | hi
      · exact out _ (by omega) (.inl hi)
      · simp at hi
        omega
      · omega
      · omega)
    have TT := Tn.from_new (q := OwnL Ft L G) nB hT.out (fun i hi e => e.elim id (fun e => by omega))
    refine bodyPost_ret (v := .tuple #[.agg #[.int .i64 0, .int .i64 0], .int .i64 10]) (by simp [results, Tryz.results10, go_sem, r0, r1]) rfl ?_
    exact ⟨rfl, LgPost.up h.2.2.2.1 hlL h.2.2.2.2 hlG nB.size T8.size hE8 ((TT.setCell (.inr (by show W.heap.size ≤ W.heap.size + 1 + 1; omega)) _).setCell (.inr (by show W.heap.size ≤ W.heap.size + 1 + 1; omega)) _)⟩
end Go.Proofs.YtidadjlhnlmfkaaGreatDoor
/- (*seglog.Log).Append of a log that is dead. Conditions: as stated at each. -/
namespace Go.Proofs.YtidadjlhnlmfkaaGreatDoor
open Go.RowKit Go.Shelf Go Go.Maps
set_option maxHeartbeats 400000 in
theorem call_dead (v : Value) (W : World) (L Dk : Nat) (nm : ByteArray) (sz : Int) (G : Nat) (last : Int) (hL : LogB W L Dk nm sz G last true) :
    Calls Tryz.prog 22 #[.pointer (some ⟨L, 0, none⟩), v] W fun e w' => e = .returned (.int .i64 10) ∧ W = w' := by
  have c0 := BlkIs.cell hL 0
  have c5 := BlkIs.cell hL 5
  go_enter Tryz.func22, Tryz.ntmps22
  go_wp2_with fail
  go_ret
  exact ⟨rfl, rfl⟩
set_option maxHeartbeats 1600000 in
set_option maxRecDepth 20000 in
theorem append_dead (W : World) (N : Nat) (Ft : Nat → Prop) (Dk k : Nat) (F : Files) (rm x lf : Int) (b : Bool) (L G : Nat) (nm : ByteArray) (sz : Int) (g : List (Nat × Nat)) (A : Option Addr) (cp n : Nat)
    (h : LogS W N Ft Dk k F rm x lf b L G nm sz g true) :
    Calls Tryz.prog 10 #[.pointer (some ⟨L, 0, none⟩), .slice A n cp] W fun e w' => e = .returned (.tuple #[.agg #[.int .i64 0, .int .i64 0], .int .i64 10]) ∧ LogS w' N Ft Dk k F rm x lf b L G nm sz g true ∧ Below W.heap.size W w' := by
  have hmf : ∀ (fn : Fn) (first cap : Array Value) (w : World), (Instr.makeFunc fn first cap).run Tryz.prog w = .ok (.func fn first cap) w := fun _ _ _ _ => rfl
  obtain ⟨n0, n1, n2, n3, _⟩ := four_new W 32 26 37 37 #[.pointer (some ⟨L, 0, none⟩)] #[.slice A n cp] #[.int .i64 0, .int .i64 0] #[.int .i64 0, .int .i64 0] (fun _ => False)
  have kB := four_below W 32 26 37 37 #[.pointer (some ⟨L, 0, none⟩)] #[.slice A n cp] #[.int .i64 0, .int .i64 0] #[.int .i64 0, .int .i64 0]
  have hlL := h.ltL
  have hL4 : LogB _ L Dk nm sz G ((g.length : Nat) : Int) true := (kB.block L hlL).trans h.2.1
  have hcall := Lib.hid (fun v => call_dead v _ L Dk nm sz G _ hL4)
  go_enter Tryz.func10, Tryz.ntmps10
  go_wp2_with fail
  refine (hcall.out _).mono ?_
  rintro e w' ⟨rfl, rfl⟩
  clear hcall hL4
  obtain ⟨W4, hW4⟩ : ∃ W4, W4 = ((((W.alloc (.cells #[.pointer (some ⟨L, 0, none⟩)] 32)).alloc (.cells #[.slice A n cp] 26)).alloc (.cells #[.int .i64 0, .int .i64 0] 37)).alloc (.cells #[.int .i64 0, .int .i64 0] 37)) := ⟨_, rfl⟩
  rw [← hW4] at n0 n1 n2 n3 kB ⊢
  clear hW4
  have c60 := n3.cell 0
  have c61 := n3.cell 1
  have c40 := n2.cell 0
  have c41 := n2.cell 1
  have f4 := n2.froz 0
  have f41 := n2.froz 1
  go_wp2_with fail
  have b5 := (n2.put 0 (.int .i64 0)).put 1 (.int .i64 0)
  have r0 := b5.cell 0
  have r1 := b5.cell 1
  have hB : Below W.heap.size W ((W4.setCell ⟨W.heap.size + 1 + 1, 0, none⟩ (.int .i64 0)).setCell ⟨W.heap.size + 1 + 1, 1, none⟩ (.int .i64 0)) :=
    (kB.setCell (by show W.heap.size ≤ W.heap.size + 1 + 1; omega) _).setCell (by show W.heap.size ≤ W.heap.size + 1 + 1; omega) _
  refine bodyPost_ret (v := .tuple #[.agg #[.int .i64 0, .int .i64 0], .int .i64 10]) (by simp [results, Tryz.results10, go_sem, r0, r1]) rfl ?_
  exact ⟨rfl, h.below hB, hB⟩
end Go.Proofs.YtidadjlhnlmfkaaGreatDoor
