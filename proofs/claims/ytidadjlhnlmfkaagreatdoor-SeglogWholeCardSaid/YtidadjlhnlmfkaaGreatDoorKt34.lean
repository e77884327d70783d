/- SlReplL SlReplM. Conditions: as stated at each. -/
import Derived.Test.YtidadjlhnlmfkaaGreatDoorKt24
import Derived.Test.YtidadjlhnlmfkaaGreatDoorKt29
import Derived.Test.YtidadjlhnlmfkaaGreatDoorKt33
/- A log's replace: the closure, whenever the power fails. Conditions: as stated at each. -/
namespace Go.Proofs.YtidadjlhnlmfkaaGreatDoor
open Go.RowKit Go.Shelf Go Go.Maps
theorem rename_ok (W : World) (N : Nat) (Ft : Nat → Prop) (Dk k : Nat) (F : Files) (s s2 : ByteArray) (rm x lf : Int) (bs : List UInt8) (z : Nat)
    (hS : DiskS W N Ft Dk k F rm x lf false) (hb : nameB s = true) (hb2 : nameB s2 = true) (hne2 : s2 ≠ s) (hf : F s = some (bs, z)) (hk : k < maxLen) (hx : (bs.length : Int) ≤ x) (hx2 : x ≤ 100000000) (hn2 : lenOf F s2 ≤ 100000000) (hlf : lf ≤ 9223372036854775807) (h1 : lf ≠ 1) :
    Calls Tryz.prog 72 #[.pointer (some ⟨Dk, 0, none⟩), .string s, .string s2] W fun e w' => e = .returned (.int .i64 0) ∧ DiskS w' N (NewFt Ft W w') Dk (k + 1) ((F.upd s none).upd s2 (some (bs, z))) rm (x - lenOf F s2) (lfA lf) false ∧ Tn Ft W w' := by
  refine (rename_L W N Ft Dk k F s s2 rm x lf bs z hS hb hb2 hne2 hf hk hx hx2 hn2 hlf).mono ?_
  rintro e w' ⟨rfl, hp⟩
  unfold Renamed at hp
  rw [if_neg h1, if_neg h1, decide_eq_false h1] at hp
  exact ⟨by rw [erA, if_neg h1], hp.1, hp.2⟩
theorem rename_die (W : World) (N : Nat) (Ft : Nat → Prop) (Dk k : Nat) (F : Files) (s s2 : ByteArray) (rm x : Int) (bs : List UInt8) (z : Nat)
    (hS : DiskS W N Ft Dk k F rm x 1 false) (hb : nameB s = true) (hb2 : nameB s2 = true) (hne2 : s2 ≠ s) (hf : F s = some (bs, z)) (hk : k < maxLen) (hx : (bs.length : Int) ≤ x) (hx2 : x ≤ 100000000) (hn2 : lenOf F s2 ≤ 100000000) :
    Calls Tryz.prog 72 #[.pointer (some ⟨Dk, 0, none⟩), .string s, .string s2] W fun e w' => e = .returned (.int .i64 10) ∧ DiskS w' N (NewFt Ft W w') Dk (k + 1) F rm x 1 true ∧ Tn Ft W w' := by
  refine (rename_L W N Ft Dk k F s s2 rm x 1 bs z hS hb hb2 hne2 hf hk hx hx2 hn2 (by omega)).mono ?_
  rintro e w' ⟨rfl, hp⟩
  exact ⟨rfl, hp.1, hp.2⟩
/-- what a replace leaves that was cut off: nothing of it, or the spare file. -/
def CutR (F : Files) (sp : ByteArray) (news : List UInt8) (x : Int) (F' : Files) (x' : Int) : Prop :=
  (F' = F ∧ x' = x) ∨ ∃ b z, (b = [] ∨ b = news) ∧ z ≤ b.length ∧ F' sp = some (b, z) ∧ (∀ t, t ≠ sp → F' t = F t) ∧ x' = x + b.length
set_option linter.unusedSimpArgs false in
set_option maxHeartbeats 6400000 in
set_option maxRecDepth 20000 in
theorem repl1_L (W : World) (N : Nat) (Ft : Nat → Prop) (Dk k : Nat) (F : Files) (rm x lf : Int) (L G : Nat) (nm : ByteArray) (sz : Int) (g : List (Nat × Nat)) (n B0 B1 B2 : Nat) (A : Option Addr) (cp : Nat) (news : List UInt8) (fl : ByteArray)
    (h : LogS W N (UpFt Ft n) Dk k F rm x lf false L G nm sz g false) (hn : n ≤ W.heap.size) (hb : nameB fl = true) (hb2 : nameB (fl ++ ⟨#[46, 110, 101, 119]⟩) = true) (hs : (fl ++ ⟨#[46, 110, 101, 119]⟩).size ≤ 64) (hfl : fl.size ≤ 64) (hne : fl ≠ (fl ++ ⟨#[46, 110, 101, 119]⟩)) (hf : F (fl ++ ⟨#[46, 110, 101, 119]⟩) = none) (hk : k + 4 < maxLen) (hx : 0 ≤ x) (hx2 : x + news.length ≤ 100000000) (hr : x + news.length ≤ rm) (hlf : lenOf F fl ≤ 100000000) (hlm : lf ≤ 9223372036854775807)
    (hN : N ≤ W.heap.size) (hA : ∀ w', Tn (UpFt Ft n) W w' → Bts w' w'.heap.size A news) (hX : Box W L Dk B0 B1 B2 fl (.slice A news.length cp)) (n0 : ¬ UpFt Ft n B0) (n1 : ¬ UpFt Ft n B1) (n2 : ¬ UpFt Ft n B2) :
    Calls Tryz.prog 70 #[.pointer (some ⟨B0, 0, none⟩), .pointer (some ⟨B1, 0, none⟩), .pointer (some ⟨B2, 0, none⟩)] W fun e w' =>
      ((e = .returned (.tuple #[]) ∧ LogS w' N (UpFt Ft n) Dk (k + 4) (((((F.upd (fl ++ ⟨#[46, 110, 101, 119]⟩) (some ([], 0))).upd (fl ++ ⟨#[46, 110, 101, 119]⟩) (some ([] ++ news, 0))).upd (fl ++ ⟨#[46, 110, 101, 119]⟩) (some ([] ++ news, ([] ++ news).length))).upd (fl ++ ⟨#[46, 110, 101, 119]⟩) none).upd fl (some ([] ++ news, ([] ++ news).length))) rm (x + news.length - lenOf F fl) (lfA (lfA (lfA (lfA lf)))) false L G nm sz g false) ∨
        (e = bad 10 ∧ ∃ F' x', CutR F (fl ++ ⟨#[46, 110, 101, 119]⟩) news x F' x' ∧ LogS w' N (UpFt Ft n) Dk (k + 4) F' rm x' 1 true L G nm sz g false)) ∧ Tn (UpFt Ft n) W w' := by
  have nL := h.2.2.2.1
  have hcat : ¬ 9223372036854775807 < fl.size + 4 := by omega
  have hcut : (fl ++ ⟨#[46, 110, 101, 119]⟩).size ≤ maxLen := by unfold maxLen; omega
  have K1 : (F.upd (fl ++ ⟨#[46, 110, 101, 119]⟩) (some ([], 0))) (fl ++ ⟨#[46, 110, 101, 119]⟩) = some ([], 0) := by unfold Files.upd; rw [if_pos rfl]
  have K2 : ((F.upd (fl ++ ⟨#[46, 110, 101, 119]⟩) (some ([], 0))).upd (fl ++ ⟨#[46, 110, 101, 119]⟩) (some ([] ++ news, 0))) (fl ++ ⟨#[46, 110, 101, 119]⟩) = some ([] ++ news, 0) := by unfold Files.upd; rw [if_pos rfl]
  have K3 : (((F.upd (fl ++ ⟨#[46, 110, 101, 119]⟩) (some ([], 0))).upd (fl ++ ⟨#[46, 110, 101, 119]⟩) (some ([] ++ news, 0))).upd (fl ++ ⟨#[46, 110, 101, 119]⟩) (some ([] ++ news, ([] ++ news).length))) (fl ++ ⟨#[46, 110, 101, 119]⟩) = some ([] ++ news, ([] ++ news).length) := by unfold Files.upd; rw [if_pos rfl]
  have K4 : lenOf (((F.upd (fl ++ ⟨#[46, 110, 101, 119]⟩) (some ([], 0))).upd (fl ++ ⟨#[46, 110, 101, 119]⟩) (some ([] ++ news, 0))).upd (fl ++ ⟨#[46, 110, 101, 119]⟩) (some ([] ++ news, ([] ++ news).length))) fl = lenOf F fl := by
    rw [lenOf_upd, if_neg hne, lenOf_upd, if_neg hne, lenOf_upd, if_neg hne]
  have U2 : ∀ t, t ≠ (fl ++ ⟨#[46, 110, 101, 119]⟩) → ((F.upd (fl ++ ⟨#[46, 110, 101, 119]⟩) (some ([], 0))).upd (fl ++ ⟨#[46, 110, 101, 119]⟩) (some ([] ++ news, 0))) t = F t := fun t ht => by unfold Files.upd; rw [if_neg ht, if_neg ht]
  have U3 : ∀ t, t ≠ (fl ++ ⟨#[46, 110, 101, 119]⟩) → (((F.upd (fl ++ ⟨#[46, 110, 101, 119]⟩) (some ([], 0))).upd (fl ++ ⟨#[46, 110, 101, 119]⟩) (some ([] ++ news, 0))).upd (fl ++ ⟨#[46, 110, 101, 119]⟩) (some ([] ++ news, ([] ++ news).length))) t = F t := fun t ht => by unfold Files.upd; rw [if_neg ht, if_neg ht, if_neg ht]
  have HCUT0 : Hid (CutR F (fl ++ ⟨#[46, 110, 101, 119]⟩) news x F x) := Lib.hid (.inl ⟨rfl, rfl⟩)
  have HCUT1 : Hid (CutR F (fl ++ ⟨#[46, 110, 101, 119]⟩) news x ((F.upd (fl ++ ⟨#[46, 110, 101, 119]⟩) (some ([], 0))).upd (fl ++ ⟨#[46, 110, 101, 119]⟩) (some ([] ++ news, 0))) (x + news.length)) := Lib.hid (.inr ⟨news, 0, .inr rfl, Nat.zero_le _, K2, U2, rfl⟩)
  have HCUT2 := HCUT1
  have HCUT3 : Hid (CutR F (fl ++ ⟨#[46, 110, 101, 119]⟩) news x (((F.upd (fl ++ ⟨#[46, 110, 101, 119]⟩) (some ([], 0))).upd (fl ++ ⟨#[46, 110, 101, 119]⟩) (some ([] ++ news, 0))).upd (fl ++ ⟨#[46, 110, 101, 119]⟩) (some ([] ++ news, ([] ++ news).length))) (x + news.length)) := Lib.hid (.inr ⟨news, news.length, .inr rfl, Nat.le_refl _, K3, U3, rfl⟩)
  have hlen : (([] : List UInt8) ++ news).length = news.length := by simp
  have hm1 := lfA_le hlm
  have hm2 := lfA_le hm1
  have hm3 := lfA_le hm2
  clear U2 U3
  have HA := Lib.hid hA
  have hT0 : Tn (UpFt Ft n) W W := Tn.refl _ W
  clear hA
  go_enter Tryz.func70, Tryz.ntmps70
  have HX := Lib.hid hX
  have HT0 := Lib.hid hT0
  have hd : Tn (UpFt Ft n) W W.drew := (Tn.refl _ W).alk ⟨rfl, rfl, rfl, rfl⟩
  have hD := h.alk (w' := W.drew) ⟨rfl, rfl, rfl, rfl⟩
  have hTd : Tn (UpFt Ft n) W W.drew := hT0.trans hd
  have hND : N ≤ W.drew.heap.size := by have := hTd.size; omega
  have hz : n ≤ W.drew.heap.size := by have := hTd.size; omega
  have q0 := hX.cells.1
  have q1 := hX.cells.2.1
  have q2 := hX.cells.2.2.1
  have q3 := hX.cells.2.2.2
  clear hX hT0
  by_cases hl : lf = 1
  · rw [hl] at hD
    clear h
    go_wp2_with fail
    refine wp_region_held_drew (S := (fun w' => w'.cell? ⟨B0, 0, none⟩ = some (.pointer (some ⟨L, 0, none⟩)) ∧ w'.cell? ⟨B1, 0, none⟩ = some (.string fl) ∧ w'.cell? ⟨L, 0, none⟩ = some (.pointer (some ⟨Dk, 0, none⟩)) ∧ w'.cell? ⟨B2, 0, none⟩ = some (.slice A news.length cp))) (by kernel_rfl) ((HX.out.tn hd n0 n1 n2 nL).cells) (fun hHeld => ?_)
    refine wpAnyH_take (i := 0) (v := .pointer (some ⟨L, 0, none⟩)) rfl (by kernel_rfl) (by kernel_rfl) (by kernel_rfl) (fun _ _ _ h => h) (Or.inl ⟨by rfl, fun w hS => by (obtain ⟨s1, s2, s3, s4⟩ := hS; first | (go_simp; done) | (go_simp; with_reducible rfl))⟩) hHeld ?_
    try simp only [Act.put, List.setIfInBounds_toArray, List.set_cons_zero, List.set_cons_succ]
    refine wpAnyH_take (i := 1) (v := .pointer (some ⟨L, 0, none⟩)) rfl (by kernel_rfl) (by kernel_rfl) (by kernel_rfl) (fun _ _ _ h => h) (Or.inl ⟨by rfl, fun w hS => by (obtain ⟨s1, s2, s3, s4⟩ := hS; first | (go_simp; done) | (go_simp; with_reducible rfl))⟩) hHeld ?_
    try simp only [Act.put, List.setIfInBounds_toArray, List.set_cons_zero, List.set_cons_succ]
    refine wpAnyH_take (i := 2) (v := .pointer (some ⟨L, 0, none⟩)) rfl (by kernel_rfl) (by kernel_rfl) (by kernel_rfl) (fun _ _ _ h => h) (Or.inl ⟨by rfl, fun w hS => by (obtain ⟨s1, s2, s3, s4⟩ := hS; first | (go_simp; done) | (go_simp; with_reducible rfl))⟩) hHeld ?_
    try simp only [Act.put, List.setIfInBounds_toArray, List.set_cons_zero, List.set_cons_succ]
    refine wpAnyH_take (i := 3) (v := .pointer (some ⟨Dk, 0, none⟩)) rfl (by kernel_rfl) (by kernel_rfl) (by kernel_rfl) (fun _ _ _ h => h) (Or.inl ⟨by rfl, fun w hS => by (obtain ⟨s1, s2, s3, s4⟩ := hS; first | (go_simp; done) | (go_simp; with_reducible rfl))⟩) hHeld ?_
    try simp only [Act.put, List.setIfInBounds_toArray, List.set_cons_zero, List.set_cons_succ]
    refine wpAnyH_take (i := 4) (v := .string fl) rfl (by kernel_rfl) (by kernel_rfl) (by kernel_rfl) (fun _ _ _ h => h) (Or.inl ⟨by rfl, fun w hS => by (obtain ⟨s1, s2, s3, s4⟩ := hS; first | (go_simp; done) | (go_simp; with_reducible rfl))⟩) hHeld ?_
    try simp only [Act.put, List.setIfInBounds_toArray, List.set_cons_zero, List.set_cons_succ]
    refine wpAnyH_take (i := 5) (v := .string (fl ++ ⟨#[46, 110, 101, 119]⟩)) rfl (by kernel_rfl) (by kernel_rfl) (by kernel_rfl) (fun _ _ _ h => h) (Or.inl ⟨by rfl, fun w hS => by (obtain ⟨s1, s2, s3, s4⟩ := hS; first | (go_simp; done) | (go_simp; with_reducible rfl))⟩) hHeld ?_
    try simp only [Act.put, List.setIfInBounds_toArray, List.set_cons_zero, List.set_cons_succ]
    refine wpAnyH_ready (rs := [6]) (by kernel_rfl) (by simp) ?_
    refine AllReadyH.cons rfl (fun K hK => ?_) AllReadyH.nil
    go_simp
    go_wp2_with (go_at_call 71; refine (create_die _ N (UpFt Ft n) Dk k F _ rm x hD.1 hb2 hf (by omega) hx (by omega)).mono ?_; rintro e w1 ⟨rfl, hD1, hT1⟩)
    have hcl := (HX.out.tn (hd.trans hT1) n0 n1 n2 nL).cells
    have HD1 := Lib.hid hD1
    have HL9 := Lib.hid (hD.back hD1 hT1 (Nat.le_succ _) hz)
    clear hD1
    refine hK.out _ _ ?_ (fun hHeld => ?_)
    · exact hcl
    clear hK K
    try simp only [Act.put, List.setIfInBounds_toArray, List.set_cons_zero, List.set_cons_succ]
    refine wpAnyH_ready (rs := [7]) (by kernel_rfl) (by simp) ?_
    refine AllReadyH.cons rfl (fun K hK => ?_) AllReadyH.nil
    go_simp
    go_wp2_with (go_at_call 26; refine (must_bad _ 10 (by decide)).mono ?_; rintro e w9 ⟨rfl, rfl⟩; unfold bad)
    exact ⟨rfl, .inr ⟨rfl, _, _, HCUT0.out, HL9.out.more (fun _ h => h) (by omega) HL9.out.2.2.2.1 HL9.out.2.2.2.2⟩, hTd.trans hT1⟩
  go_wp2_with fail
  go_region_held3 (fun w' => w'.cell? ⟨B0, 0, none⟩ = some (.pointer (some ⟨L, 0, none⟩)) ∧ w'.cell? ⟨B1, 0, none⟩ = some (.string fl) ∧ w'.cell? ⟨L, 0, none⟩ = some (.pointer (some ⟨Dk, 0, none⟩)) ∧ w'.cell? ⟨B2, 0, none⟩ = some (.slice A news.length cp))
    (first
      | exact (HX.out.tn hd n0 n1 n2 nL).cells
      | exact (HX.out.tn (hd.trans hT1) n0 n1 n2 nL).cells)
    (first
      | (go_at_call 71; refine (create_ok _ N (UpFt Ft n) Dk k F _ rm x lf hD.1 hb2 hf (by omega) hx (by omega) hlm hl).mono ?_; rintro e w1 ⟨rfl, hD1, hT1⟩)
      | (go_at_call 26; refine (must_ok _).mono ?_; rintro e w9 ⟨rfl, rfl⟩))
  have hX : Box w1 L Dk B0 B1 B2 fl (.slice A news.length cp) := HX.out.tn (hd.trans hT1) n0 n1 n2 nL
  have hT0 : Tn (UpFt Ft n) W w1 := hTd.trans hT1
  have h := hD.back hD1 hT1 (Nat.le_succ _) hz
  have hn : n ≤ w1.heap.size := by have := hT1.size; omega
  clear HX HT0 hd hD hTd hD1 hT1 q0 q1 q2 q3 hND hz hl
  have HX := Lib.hid hX
  have HT0 := Lib.hid hT0
  have hd : Tn (UpFt Ft n) w1 w1.drew := (Tn.refl _ w1).alk ⟨rfl, rfl, rfl, rfl⟩
  have hD := h.alk (w' := w1.drew) ⟨rfl, rfl, rfl, rfl⟩
  have hTd : Tn (UpFt Ft n) W w1.drew := hT0.trans hd
  have hND : N ≤ w1.drew.heap.size := by have := hTd.size; omega
  have hz : n ≤ w1.drew.heap.size := by have := hTd.size; omega
  have q0 := hX.cells.1
  have q1 := hX.cells.2.1
  have q2 := hX.cells.2.2.1
  have q3 := hX.cells.2.2.2
  clear hX hT0
  by_cases hl : (lfA lf) = 1
  · rw [hl] at hD
    clear h
    go_wp2_with fail
    refine wp_region_held_drew (S := (fun w' => w'.cell? ⟨B0, 0, none⟩ = some (.pointer (some ⟨L, 0, none⟩)) ∧ w'.cell? ⟨B1, 0, none⟩ = some (.string fl) ∧ w'.cell? ⟨L, 0, none⟩ = some (.pointer (some ⟨Dk, 0, none⟩)) ∧ w'.cell? ⟨B2, 0, none⟩ = some (.slice A news.length cp))) (by kernel_rfl) ((HX.out.tn hd n0 n1 n2 nL).cells) (fun hHeld => ?_)
    refine wpAnyH_take (i := 0) (v := .pointer (some ⟨L, 0, none⟩)) rfl (by kernel_rfl) (by kernel_rfl) (by kernel_rfl) (fun _ _ _ h => h) (Or.inl ⟨by rfl, fun w hS => by (obtain ⟨s1, s2, s3, s4⟩ := hS; first | (go_simp; done) | (go_simp; with_reducible rfl))⟩) hHeld ?_
    try simp only [Act.put, List.setIfInBounds_toArray, List.set_cons_zero, List.set_cons_succ]
    refine wpAnyH_take (i := 1) (v := .pointer (some ⟨L, 0, none⟩)) rfl (by kernel_rfl) (by kernel_rfl) (by kernel_rfl) (fun _ _ _ h => h) (Or.inl ⟨by rfl, fun w hS => by (obtain ⟨s1, s2, s3, s4⟩ := hS; first | (go_simp; done) | (go_simp; with_reducible rfl))⟩) hHeld ?_
    try simp only [Act.put, List.setIfInBounds_toArray, List.set_cons_zero, List.set_cons_succ]
    refine wpAnyH_take (i := 2) (v := .pointer (some ⟨L, 0, none⟩)) rfl (by kernel_rfl) (by kernel_rfl) (by kernel_rfl) (fun _ _ _ h => h) (Or.inl ⟨by rfl, fun w hS => by (obtain ⟨s1, s2, s3, s4⟩ := hS; first | (go_simp; done) | (go_simp; with_reducible rfl))⟩) hHeld ?_
    try simp only [Act.put, List.setIfInBounds_toArray, List.set_cons_zero, List.set_cons_succ]
    refine wpAnyH_take (i := 3) (v := .pointer (some ⟨Dk, 0, none⟩)) rfl (by kernel_rfl) (by kernel_rfl) (by kernel_rfl) (fun _ _ _ h => h) (Or.inl ⟨by rfl, fun w hS => by (obtain ⟨s1, s2, s3, s4⟩ := hS; first | (go_simp; done) | (go_simp; with_reducible rfl))⟩) hHeld ?_
    try simp only [Act.put, List.setIfInBounds_toArray, List.set_cons_zero, List.set_cons_succ]
    refine wpAnyH_take (i := 4) (v := .string fl) rfl (by kernel_rfl) (by kernel_rfl) (by kernel_rfl) (fun _ _ _ h => h) (Or.inl ⟨by rfl, fun w hS => by (obtain ⟨s1, s2, s3, s4⟩ := hS; first | (go_simp; done) | (go_simp; with_reducible rfl))⟩) hHeld ?_
    try simp only [Act.put, List.setIfInBounds_toArray, List.set_cons_zero, List.set_cons_succ]
    refine wpAnyH_take (i := 5) (v := .string (fl ++ ⟨#[46, 110, 101, 119]⟩)) rfl (by kernel_rfl) (by kernel_rfl) (by kernel_rfl) (fun _ _ _ h => h) (Or.inl ⟨by rfl, fun w hS => by (obtain ⟨s1, s2, s3, s4⟩ := hS; first | (go_simp; done) | (go_simp; with_reducible rfl))⟩) hHeld ?_
    try simp only [Act.put, List.setIfInBounds_toArray, List.set_cons_zero, List.set_cons_succ]
    refine wpAnyH_take (i := 6) (v := .slice A news.length cp) rfl (by kernel_rfl) (by kernel_rfl) (by kernel_rfl) (fun _ _ _ h => h) (Or.inl ⟨by rfl, fun w hS => by (obtain ⟨s1, s2, s3, s4⟩ := hS; first | (go_simp; done) | (go_simp; with_reducible rfl))⟩) hHeld ?_
    try simp only [Act.put, List.setIfInBounds_toArray, List.set_cons_zero, List.set_cons_succ]
    refine wpAnyH_ready (rs := [7]) (by kernel_rfl) (by simp) ?_
    refine AllReadyH.cons rfl (fun K hK => ?_) AllReadyH.nil
    go_simp
    go_wp2_with (go_at_call 29; refine (append_die _ N (UpFt Ft n) Dk (k + 1) (F.upd (fl ++ ⟨#[46, 110, 101, 119]⟩) (some ([], 0))) _ rm x A _ cp [] 0 news hD.1 hb2 K1 (by omega) hx (by omega) (by simp) (by omega) hr hND (HA.out _ hTd) (Nat.le_refl _)).mono ?_; rintro e w2 ⟨rfl, hD1, hT1⟩)
    have hcl := (HX.out.tn (hd.trans hT1) n0 n1 n2 nL).cells
    have HD1 := Lib.hid hD1
    have HL9 := Lib.hid (hD.back hD1 hT1 (Nat.le_succ _) hz)
    clear hD1
    refine hK.out _ _ ?_ (fun hHeld => ?_)
    · exact hcl
    clear hK K
    try simp only [Act.put, List.setIfInBounds_toArray, List.set_cons_zero, List.set_cons_succ]
    refine wpAnyH_ready (rs := [8]) (by kernel_rfl) (by simp) ?_
    refine AllReadyH.cons rfl (fun K hK => ?_) AllReadyH.nil
    go_simp
    go_wp2_with (go_at_call 26; refine (must_bad _ 10 (by decide)).mono ?_; rintro e w9 ⟨rfl, rfl⟩; unfold bad)
    exact ⟨rfl, .inr ⟨rfl, _, _, HCUT1.out, HL9.out.more (fun _ h => h) (by omega) HL9.out.2.2.2.1 HL9.out.2.2.2.2⟩, hTd.trans hT1⟩
  go_wp2_with fail
  go_region_held3 (fun w' => w'.cell? ⟨B0, 0, none⟩ = some (.pointer (some ⟨L, 0, none⟩)) ∧ w'.cell? ⟨B1, 0, none⟩ = some (.string fl) ∧ w'.cell? ⟨L, 0, none⟩ = some (.pointer (some ⟨Dk, 0, none⟩)) ∧ w'.cell? ⟨B2, 0, none⟩ = some (.slice A news.length cp))
    (first
      | exact (HX.out.tn hd n0 n1 n2 nL).cells
      | exact (HX.out.tn (hd.trans hT1) n0 n1 n2 nL).cells)
    (first
      | (go_at_call 29; refine (append_ok _ N (UpFt Ft n) Dk (k + 1) (F.upd (fl ++ ⟨#[46, 110, 101, 119]⟩) (some ([], 0))) _ rm x (lfA lf) A _ cp [] 0 news hD.1 hb2 K1 (by omega) hx (by omega) (by simp) (by omega) hr hND (HA.out _ hTd) (Nat.le_refl _) hm1 hl).mono ?_; rintro e w2 ⟨rfl, hD1, hT1⟩)
      | (go_at_call 26; refine (must_ok _).mono ?_; rintro e w9 ⟨rfl, rfl⟩))
  have hX : Box w2 L Dk B0 B1 B2 fl (.slice A news.length cp) := HX.out.tn (hd.trans hT1) n0 n1 n2 nL
  have hT0 : Tn (UpFt Ft n) W w2 := hTd.trans hT1
  have h := hD.back hD1 hT1 (Nat.le_succ _) hz
  have hn : n ≤ w2.heap.size := by have := hT1.size; omega
  clear HX HT0 hd hD hTd hD1 hT1 q0 q1 q2 q3 hND hz hl
  have HX := Lib.hid hX
  have HT0 := Lib.hid hT0
  have hd : Tn (UpFt Ft n) w2 w2.drew := (Tn.refl _ w2).alk ⟨rfl, rfl, rfl, rfl⟩
  have hD := h.alk (w' := w2.drew) ⟨rfl, rfl, rfl, rfl⟩
  have hTd : Tn (UpFt Ft n) W w2.drew := hT0.trans hd
  have hND : N ≤ w2.drew.heap.size := by have := hTd.size; omega
  have hz : n ≤ w2.drew.heap.size := by have := hTd.size; omega
  have q0 := hX.cells.1
  have q1 := hX.cells.2.1
  have q2 := hX.cells.2.2.1
  have q3 := hX.cells.2.2.2
  clear hX hT0
  by_cases hl : (lfA (lfA lf)) = 1
  · rw [hl] at hD
    clear h
    go_wp2_with fail
    refine wp_region_held_drew (S := (fun w' => w'.cell? ⟨B0, 0, none⟩ = some (.pointer (some ⟨L, 0, none⟩)) ∧ w'.cell? ⟨B1, 0, none⟩ = some (.string fl) ∧ w'.cell? ⟨L, 0, none⟩ = some (.pointer (some ⟨Dk, 0, none⟩)) ∧ w'.cell? ⟨B2, 0, none⟩ = some (.slice A news.length cp))) (by kernel_rfl) ((HX.out.tn hd n0 n1 n2 nL).cells) (fun hHeld => ?_)
    refine wpAnyH_take (i := 0) (v := .pointer (some ⟨L, 0, none⟩)) rfl (by kernel_rfl) (by kernel_rfl) (by kernel_rfl) (fun _ _ _ h => h) (Or.inl ⟨by rfl, fun w hS => by (obtain ⟨s1, s2, s3, s4⟩ := hS; first | (go_simp; done) | (go_simp; with_reducible rfl))⟩) hHeld ?_
    try simp only [Act.put, List.setIfInBounds_toArray, List.set_cons_zero, List.set_cons_succ]
    refine wpAnyH_take (i := 1) (v := .pointer (some ⟨L, 0, none⟩)) rfl (by kernel_rfl) (by kernel_rfl) (by kernel_rfl) (fun _ _ _ h => h) (Or.inl ⟨by rfl, fun w hS => by (obtain ⟨s1, s2, s3, s4⟩ := hS; first | (go_simp; done) | (go_simp; with_reducible rfl))⟩) hHeld ?_
    try simp only [Act.put, List.setIfInBounds_toArray, List.set_cons_zero, List.set_cons_succ]
    refine wpAnyH_take (i := 2) (v := .pointer (some ⟨L, 0, none⟩)) rfl (by kernel_rfl) (by kernel_rfl) (by kernel_rfl) (fun _ _ _ h => h) (Or.inl ⟨by rfl, fun w hS => by (obtain ⟨s1, s2, s3, s4⟩ := hS; first | (go_simp; done) | (go_simp; with_reducible rfl))⟩) hHeld ?_
    try simp only [Act.put, List.setIfInBounds_toArray, List.set_cons_zero, List.set_cons_succ]
    refine wpAnyH_take (i := 3) (v := .pointer (some ⟨Dk, 0, none⟩)) rfl (by kernel_rfl) (by kernel_rfl) (by kernel_rfl) (fun _ _ _ h => h) (Or.inl ⟨by rfl, fun w hS => by (obtain ⟨s1, s2, s3, s4⟩ := hS; first | (go_simp; done) | (go_simp; with_reducible rfl))⟩) hHeld ?_
    try simp only [Act.put, List.setIfInBounds_toArray, List.set_cons_zero, List.set_cons_succ]
    refine wpAnyH_take (i := 4) (v := .string fl) rfl (by kernel_rfl) (by kernel_rfl) (by kernel_rfl) (fun _ _ _ h => h) (Or.inl ⟨by rfl, fun w hS => by (obtain ⟨s1, s2, s3, s4⟩ := hS; first | (go_simp; done) | (go_simp; with_reducible rfl))⟩) hHeld ?_
    try simp only [Act.put, List.setIfInBounds_toArray, List.set_cons_zero, List.set_cons_succ]
    refine wpAnyH_take (i := 5) (v := .string (fl ++ ⟨#[46, 110, 101, 119]⟩)) rfl (by kernel_rfl) (by kernel_rfl) (by kernel_rfl) (fun _ _ _ h => h) (Or.inl ⟨by rfl, fun w hS => by (obtain ⟨s1, s2, s3, s4⟩ := hS; first | (go_simp; done) | (go_simp; with_reducible rfl))⟩) hHeld ?_
    try simp only [Act.put, List.setIfInBounds_toArray, List.set_cons_zero, List.set_cons_succ]
    refine wpAnyH_ready (rs := [6]) (by kernel_rfl) (by simp) ?_
    refine AllReadyH.cons rfl (fun K hK => ?_) AllReadyH.nil
    go_simp
    go_wp2_with (go_at_call 59; refine (sync_die _ N (UpFt Ft n) Dk (k + 2) ((F.upd (fl ++ ⟨#[46, 110, 101, 119]⟩) (some ([], 0))).upd (fl ++ ⟨#[46, 110, 101, 119]⟩) (some ([] ++ news, 0))) _ rm (x + news.length) ([] ++ news) 0 hD.1 hb2 K2 (by omega) (by omega) (by omega) (by rw [hlen]; omega)).mono ?_; rintro e w3 ⟨rfl, hD1, hT1⟩)
    have hcl := (HX.out.tn (hd.trans hT1) n0 n1 n2 nL).cells
    have HD1 := Lib.hid hD1
    have HL9 := Lib.hid (hD.back hD1 hT1 (Nat.le_succ _) hz)
    clear hD1
    refine hK.out _ _ ?_ (fun hHeld => ?_)
    · exact hcl
    clear hK K
    try simp only [Act.put, List.setIfInBounds_toArray, List.set_cons_zero, List.set_cons_succ]
    refine wpAnyH_ready (rs := [7]) (by kernel_rfl) (by simp) ?_
    refine AllReadyH.cons rfl (fun K hK => ?_) AllReadyH.nil
    go_simp
    go_wp2_with (go_at_call 26; refine (must_bad _ 10 (by decide)).mono ?_; rintro e w9 ⟨rfl, rfl⟩; unfold bad)
    exact ⟨rfl, .inr ⟨rfl, _, _, HCUT2.out, HL9.out.more (fun _ h => h) (by omega) HL9.out.2.2.2.1 HL9.out.2.2.2.2⟩, hTd.trans hT1⟩
  go_wp2_with fail
  go_region_held3 (fun w' => w'.cell? ⟨B0, 0, none⟩ = some (.pointer (some ⟨L, 0, none⟩)) ∧ w'.cell? ⟨B1, 0, none⟩ = some (.string fl) ∧ w'.cell? ⟨L, 0, none⟩ = some (.pointer (some ⟨Dk, 0, none⟩)) ∧ w'.cell? ⟨B2, 0, none⟩ = some (.slice A news.length cp))
    (first
      | exact (HX.out.tn hd n0 n1 n2 nL).cells
      | exact (HX.out.tn (hd.trans hT1) n0 n1 n2 nL).cells)
    (first
      | (go_at_call 59; refine (sync_ok _ N (UpFt Ft n) Dk (k + 2) ((F.upd (fl ++ ⟨#[46, 110, 101, 119]⟩) (some ([], 0))).upd (fl ++ ⟨#[46, 110, 101, 119]⟩) (some ([] ++ news, 0))) _ rm (x + news.length) (lfA (lfA lf)) ([] ++ news) 0 hD.1 hb2 K2 (by omega) (by omega) (by omega) (by rw [hlen]; omega) hm2 hl).mono ?_; rintro e w3 ⟨rfl, hD1, hT1⟩)
      | (go_at_call 26; refine (must_ok _).mono ?_; rintro e w9 ⟨rfl, rfl⟩))
  have hX : Box w3 L Dk B0 B1 B2 fl (.slice A news.length cp) := HX.out.tn (hd.trans hT1) n0 n1 n2 nL
  have hT0 : Tn (UpFt Ft n) W w3 := hTd.trans hT1
  have h := hD.back hD1 hT1 (Nat.le_succ _) hz
  have hn : n ≤ w3.heap.size := by have := hT1.size; omega
  clear HX HT0 hd hD hTd hD1 hT1 q0 q1 q2 q3 hND hz hl
  have HX := Lib.hid hX
  have HT0 := Lib.hid hT0
  have hd : Tn (UpFt Ft n) w3 w3.drew := (Tn.refl _ w3).alk ⟨rfl, rfl, rfl, rfl⟩
  have hD := h.alk (w' := w3.drew) ⟨rfl, rfl, rfl, rfl⟩
  have hTd : Tn (UpFt Ft n) W w3.drew := hT0.trans hd
  have hND : N ≤ w3.drew.heap.size := by have := hTd.size; omega
  have hz : n ≤ w3.drew.heap.size := by have := hTd.size; omega
  have q0 := hX.cells.1
  have q1 := hX.cells.2.1
  have q2 := hX.cells.2.2.1
  have q3 := hX.cells.2.2.2
  clear hX hT0
  by_cases hl : (lfA (lfA (lfA lf))) = 1
  · rw [hl] at hD
    clear h
    go_wp2_with fail
    refine wp_region_held_drew (S := (fun w' => w'.cell? ⟨B0, 0, none⟩ = some (.pointer (some ⟨L, 0, none⟩)) ∧ w'.cell? ⟨B1, 0, none⟩ = some (.string fl) ∧ w'.cell? ⟨L, 0, none⟩ = some (.pointer (some ⟨Dk, 0, none⟩)) ∧ w'.cell? ⟨B2, 0, none⟩ = some (.slice A news.length cp))) (by kernel_rfl) ((HX.out.tn hd n0 n1 n2 nL).cells) (fun hHeld => ?_)
    refine wpAnyH_take (i := 0) (v := .pointer (some ⟨L, 0, none⟩)) rfl (by kernel_rfl) (by kernel_rfl) (by kernel_rfl) (fun _ _ _ h => h) (Or.inl ⟨by rfl, fun w hS => by (obtain ⟨s1, s2, s3, s4⟩ := hS; first | (go_simp; done) | (go_simp; with_reducible rfl))⟩) hHeld ?_
    try simp only [Act.put, List.setIfInBounds_toArray, List.set_cons_zero, List.set_cons_succ]
    refine wpAnyH_take (i := 1) (v := .pointer (some ⟨L, 0, none⟩)) rfl (by kernel_rfl) (by kernel_rfl) (by kernel_rfl) (fun _ _ _ h => h) (Or.inl ⟨by rfl, fun w hS => by (obtain ⟨s1, s2, s3, s4⟩ := hS; first | (go_simp; done) | (go_simp; with_reducible rfl))⟩) hHeld ?_
    try simp only [Act.put, List.setIfInBounds_toArray, List.set_cons_zero, List.set_cons_succ]
    refine wpAnyH_take (i := 2) (v := .pointer (some ⟨L, 0, none⟩)) rfl (by kernel_rfl) (by kernel_rfl) (by kernel_rfl) (fun _ _ _ h => h) (Or.inl ⟨by rfl, fun w hS => by (obtain ⟨s1, s2, s3, s4⟩ := hS; first | (go_simp; done) | (go_simp; with_reducible rfl))⟩) hHeld ?_
    try simp only [Act.put, List.setIfInBounds_toArray, List.set_cons_zero, List.set_cons_succ]
    refine wpAnyH_take (i := 3) (v := .pointer (some ⟨Dk, 0, none⟩)) rfl (by kernel_rfl) (by kernel_rfl) (by kernel_rfl) (fun _ _ _ h => h) (Or.inl ⟨by rfl, fun w hS => by (obtain ⟨s1, s2, s3, s4⟩ := hS; first | (go_simp; done) | (go_simp; with_reducible rfl))⟩) hHeld ?_
    try simp only [Act.put, List.setIfInBounds_toArray, List.set_cons_zero, List.set_cons_succ]
    refine wpAnyH_take (i := 4) (v := .string fl) rfl (by kernel_rfl) (by kernel_rfl) (by kernel_rfl) (fun _ _ _ h => h) (Or.inl ⟨by rfl, fun w hS => by (obtain ⟨s1, s2, s3, s4⟩ := hS; first | (go_simp; done) | (go_simp; with_reducible rfl))⟩) hHeld ?_
    try simp only [Act.put, List.setIfInBounds_toArray, List.set_cons_zero, List.set_cons_succ]
    refine wpAnyH_take (i := 5) (v := .string (fl ++ ⟨#[46, 110, 101, 119]⟩)) rfl (by kernel_rfl) (by kernel_rfl) (by kernel_rfl) (fun _ _ _ h => h) (Or.inl ⟨by rfl, fun w hS => by (obtain ⟨s1, s2, s3, s4⟩ := hS; first | (go_simp; done) | (go_simp; with_reducible rfl))⟩) hHeld ?_
    try simp only [Act.put, List.setIfInBounds_toArray, List.set_cons_zero, List.set_cons_succ]
    refine wpAnyH_take (i := 6) (v := .string fl) rfl (by kernel_rfl) (by kernel_rfl) (by kernel_rfl) (fun _ _ _ h => h) (Or.inl ⟨by rfl, fun w hS => by (obtain ⟨s1, s2, s3, s4⟩ := hS; first | (go_simp; done) | (go_simp; with_reducible rfl))⟩) hHeld ?_
    try simp only [Act.put, List.setIfInBounds_toArray, List.set_cons_zero, List.set_cons_succ]
    refine wpAnyH_ready (rs := [7]) (by kernel_rfl) (by simp) ?_
    refine AllReadyH.cons rfl (fun K hK => ?_) AllReadyH.nil
    go_simp
    go_wp2_with (go_at_call 72; refine (rename_die _ N (UpFt Ft n) Dk (k + 3) (((F.upd (fl ++ ⟨#[46, 110, 101, 119]⟩) (some ([], 0))).upd (fl ++ ⟨#[46, 110, 101, 119]⟩) (some ([] ++ news, 0))).upd (fl ++ ⟨#[46, 110, 101, 119]⟩) (some ([] ++ news, ([] ++ news).length))) _ fl rm (x + news.length) ([] ++ news) _ hD.1 hb2 hb hne K3 (by omega) (by rw [hlen]; omega) (by omega) (by rw [K4]; exact hlf)).mono ?_; rintro e w4 ⟨rfl, hD1, hT1⟩)
    have hcl := (HX.out.tn (hd.trans hT1) n0 n1 n2 nL).cells
    have HD1 := Lib.hid hD1
    have HL9 := Lib.hid (hD.back hD1 hT1 (Nat.le_succ _) hz)
    clear hD1
    refine hK.out _ _ ?_ (fun hHeld => ?_)
    · exact hcl
    clear hK K
    try simp only [Act.put, List.setIfInBounds_toArray, List.set_cons_zero, List.set_cons_succ]
    refine wpAnyH_ready (rs := [8]) (by kernel_rfl) (by simp) ?_
    refine AllReadyH.cons rfl (fun K hK => ?_) AllReadyH.nil
    go_simp
    go_wp2_with (go_at_call 26; refine (must_bad _ 10 (by decide)).mono ?_; rintro e w9 ⟨rfl, rfl⟩; unfold bad)
    exact ⟨rfl, .inr ⟨rfl, _, _, HCUT3.out, HL9.out.more (fun _ h => h) (by omega) HL9.out.2.2.2.1 HL9.out.2.2.2.2⟩, hTd.trans hT1⟩
  go_wp2_with fail
  go_region_held3 (fun w' => w'.cell? ⟨B0, 0, none⟩ = some (.pointer (some ⟨L, 0, none⟩)) ∧ w'.cell? ⟨B1, 0, none⟩ = some (.string fl) ∧ w'.cell? ⟨L, 0, none⟩ = some (.pointer (some ⟨Dk, 0, none⟩)) ∧ w'.cell? ⟨B2, 0, none⟩ = some (.slice A news.length cp))
    (first
      | exact (HX.out.tn hd n0 n1 n2 nL).cells
      | exact (HX.out.tn (hd.trans hT1) n0 n1 n2 nL).cells)
    (first
      | (go_at_call 72; refine (rename_ok _ N (UpFt Ft n) Dk (k + 3) (((F.upd (fl ++ ⟨#[46, 110, 101, 119]⟩) (some ([], 0))).upd (fl ++ ⟨#[46, 110, 101, 119]⟩) (some ([] ++ news, 0))).upd (fl ++ ⟨#[46, 110, 101, 119]⟩) (some ([] ++ news, ([] ++ news).length))) _ fl rm (x + news.length) (lfA (lfA (lfA lf))) ([] ++ news) _ hD.1 hb2 hb hne K3 (by omega) (by rw [hlen]; omega) (by omega) (by rw [K4]; exact hlf) hm3 hl).mono ?_; rintro e w4 ⟨rfl, hD1, hT1⟩)
      | (go_at_call 26; refine (must_ok _).mono ?_; rintro e w9 ⟨rfl, rfl⟩))
  have hX : Box w4 L Dk B0 B1 B2 fl (.slice A news.length cp) := HX.out.tn (hd.trans hT1) n0 n1 n2 nL
  have hT0 : Tn (UpFt Ft n) W w4 := hTd.trans hT1
  have h := hD.back hD1 hT1 (Nat.le_succ _) hz
  have hn : n ≤ w4.heap.size := by have := hT1.size; omega
  clear HX HT0 hd hD hTd hD1 hT1 q0 q1 q2 q3 hND hz hl
  rw [K4] at h
  have HL := Lib.hid h
  have HT := Lib.hid hT0
  clear h hT0 hX
  go_wp2_with fail
  go_end0
  exact ⟨.inl ⟨rfl, HL.out⟩, HT.out⟩
end Go.Proofs.YtidadjlhnlmfkaaGreatDoor
/- A log's replace, whenever the power fails. Conditions: as stated at each. -/
namespace Go.Proofs.YtidadjlhnlmfkaaGreatDoor
open Go.RowKit Go.Shelf Go Go.Maps
set_option maxHeartbeats 800000 in
theorem delete_down (W : World) (N : Nat) (Ft : Nat → Prop) (Dk k : Nat) (F : Files) (s : ByteArray) (rm x lf : Int) (hS : DiskS W N Ft Dk k F rm x lf true) :
    Calls Tryz.prog 53 #[.pointer (some ⟨Dk, 0, none⟩), .string s] W fun e w' => e = .returned (.int .i64 10) ∧ DiskS w' N Ft Dk k F rm x lf true ∧ Below W.heap.size W w' := by
  have hS0 := hS
  obtain ⟨M, D, hD, hM, f1, f2, hF⟩ := hS
  have HS := Lib.hid hS0
  clear hS0 hF
  have hx0 : ∀ w (v u : Value), (Instr.extract (.tuple #[v, u]) 0).run Tryz.prog w = .ok v w := fun _ _ _ => by kernel_rfl
  have hx1 : ∀ w (v u : Value), (Instr.extract (.tuple #[v, u]) 1).run Tryz.prog w = .ok u w := fun _ _ _ => by kernel_rfl
  have kB := three_below W 30 9 9 #[.pointer (some ⟨Dk, 0, none⟩)] #[.string s] #[.string s]
  go_enter Tryz.func53, Tryz.ntmps53
  go_wp2_with fail
  generalize (((W.alloc (Obj.cells #[Value.pointer (some ⟨Dk, 0, none⟩)] 30)).alloc (Obj.cells #[Value.string s] 9)).alloc (Obj.cells #[Value.string s] 9)) = W3 at *
  have kD : BlkIs W3 Dk 55 _ := (kB.block Dk hD.lt).trans hD
  refine (find_down W3 Dk M _ (kD.cell 0) (kD.cell 4) kD.lt).mono ?_
  rintro e W4 ⟨rfl, hb⟩
  unfold zeroFile
  have hB := kB.trans (hb.mono kB.size)
  go_wp2_with fail
  go_ret
  have hB5 := hB.alloc hB.size (.cells #[.slice none 0 0, .int .i64 0] 71)
  exact ⟨rfl, HS.out.below hB5, hB5⟩
set_option maxHeartbeats 3200000 in
set_option maxRecDepth 20000 in
theorem replace_L (W : World) (N : Nat) (Ft : Nat → Prop) (Dk k : Nat) (F : Files) (rm x lf : Int) (L G : Nat) (nm : ByteArray) (sz : Int) (g : List (Nat × Nat)) (j : Nat) (A : Option Addr) (cp : Nat) (news : List UInt8)
    (h : LogS W N Ft Dk k F rm x lf false L G nm sz g false) (hlow : ∀ i, Ft i → i < W.heap.size) (hj : j ≤ 999999) (hn : nmOk nm) (hf : F (fileN nm j ++ ⟨#[46, 110, 101, 119]⟩) = none) (hk : k + 4 < maxLen) (hx : 0 ≤ x) (hx2 : x + news.length ≤ 100000000) (hr : x + news.length ≤ rm) (hlf : lenOf F (fileN nm j) ≤ 100000000)
    (hlm : lf ≤ 9223372036854775807) (hN : N ≤ W.heap.size) (hA : ∀ W' w', Below W.heap.size W W' → Tn (UpFt Ft W'.heap.size) W' w' → Bts w' w'.heap.size A news) :
    Calls Tryz.prog 46 #[.pointer (some ⟨L, 0, none⟩), .int .i64 j, .slice A news.length cp] W fun e w' => ((e = .returned (.int .i64 0) ∧ LogS w' N (NewFt Ft W w') Dk (k + 4) (((((F.upd (fileN nm j ++ ⟨#[46, 110, 101, 119]⟩) (some ([], 0))).upd (fileN nm j ++ ⟨#[46, 110, 101, 119]⟩) (some ([] ++ news, 0))).upd (fileN nm j ++ ⟨#[46, 110, 101, 119]⟩) (some ([] ++ news, ([] ++ news).length))).upd (fileN nm j ++ ⟨#[46, 110, 101, 119]⟩) none).upd (fileN nm j) (some ([] ++ news, ([] ++ news).length))) rm (x + news.length - lenOf F (fileN nm j)) (lfA (lfA (lfA (lfA lf)))) false L G nm sz g false) ∨
      (e = .returned (.int .i64 10) ∧ ∃ F' x', CutR F (fileN nm j ++ ⟨#[46, 110, 101, 119]⟩) news x F' x' ∧ LogS w' N (NewFt Ft W w') Dk (k + 4) F' rm x' 1 true L G nm sz g false)) ∧ Tn Ft W w' := by
  have hmf : ∀ (fn : Go.Fn) (first cap : Array Value) (w : World), (Instr.makeFunc fn first cap).run Tryz.prog w = .ok (.func fn first cap) w := fun _ _ _ _ => rfl
  have hen : ∀ args w, (callFunc 70 args).run Tryz.prog w = .ok (.enter 70 args) w := enters_of Tryz.func70 (by kernel_rfl) rfl
  have hn6 : nm.size ≤ 1000000 := by have := hn.1; omega
  have hnm := hn.1
  have hsz : (fileN nm j).size = nm.size + 7 := fileN_size nm j
  have hsp : (fileN nm j ++ (⟨#[46, 110, 101, 119]⟩ : ByteArray)).size = nm.size + 11 := by rw [ByteArray.size_append, hsz]; rfl
  have hne : fileN nm j ≠ fileN nm j ++ (⟨#[46, 110, 101, 119]⟩ : ByteArray) := fun e => by
    have := congrArg ByteArray.size e
    omega
  have hb := nameB_fileN hn j
  have hb2 : nameB (fileN nm j ++ (⟨#[46, 110, 101, 119]⟩ : ByteArray)) = true := nameB_spare hn j
  obtain ⟨k0, k1, kB⟩ : BlkIs ((W.alloc (.cells #[.pointer (some ⟨L, 0, none⟩)] 32)).alloc (.cells #[.slice A news.length cp] 26)) W.heap.size 32 #[.pointer (some ⟨L, 0, none⟩)] ∧ BlkIs ((W.alloc (.cells #[.pointer (some ⟨L, 0, none⟩)] 32)).alloc (.cells #[.slice A news.length cp] 26)) (W.heap.size + 1) 26 #[.slice A news.length cp] ∧ Below W.heap.size W ((W.alloc (.cells #[.pointer (some ⟨L, 0, none⟩)] 32)).alloc (.cells #[.slice A news.length cp] 26)) := by
    have a1 := BlkIs.new (W.alloc (.cells #[.pointer (some ⟨L, 0, none⟩)] 32)) 26 #[.slice A news.length cp]
    rw [World.size_alloc] at a1
    exact ⟨(BlkIs.new W 32 _).alloc _, a1, ((Below.refl _ W).alloc (Nat.le_refl _) _).alloc (by simp) _⟩
  go_enter Tryz.func46, Tryz.ntmps46
  go_wp2_with fail
  generalize (W.alloc (.cells #[.pointer (some ⟨L, 0, none⟩)] 32)).alloc (.cells #[.slice A news.length cp] 26) = W2 at *
  have hL2 := (h.below kB).2.1
  refine (lfile_any W2 L Dk nm sz G _ false j hL2 hj hn6).mono ?_
  rintro e w1 ⟨rfl, hb1⟩
  have k0' : BlkIs w1 _ 32 _ := (hb1.block _ k0.lt).trans k0
  have k1' : BlkIs w1 _ 26 _ := (hb1.block _ k1.lt).trans k1
  have B1 := kB.trans (hb1.mono kB.size)
  have j0 := k0'.alloc (.cells #[.string (fileN nm j)] 9)
  have j1 := k1'.alloc (.cells #[.string (fileN nm j)] 9)
  have j2 := BlkIs.new w1 9 #[.string (fileN nm j)]
  have B2 := B1.alloc B1.size (.cells #[.string (fileN nm j)] 9)
  have hz1 := B1.size
  have hz2 := hb1.size
  have hkz := k1.lt
  clear k0 k1 k0' k1' hb1 hL2 kB
  go_wp2_with fail
  have hlL := h.ltL
  have hlG := h.ltG
  have hB9 : w1.heap.size < (w1.alloc (.cells #[.string (fileN nm j)] 9)).heap.size := by simp
  generalize w1.alloc (.cells #[.string (fileN nm j)] 9) = W4 at *
  have B5 : Below W.heap.size W (W4.alloc (.cells #[.int .i64 0] 33)) := B2.alloc B2.size _
  have i3 := BlkIs.new W4 33 #[.int .i64 0]
  have i0 := j0.alloc (.cells #[.int .i64 0] 33)
  have i1 := j1.alloc (.cells #[.int .i64 0] 33)
  have i2 := j2.alloc (.cells #[.int .i64 0] 33)
  have hz4 := B2.size
  have hz5 : W4.heap.size < (W4.alloc (.cells #[.int .i64 0] 33)).heap.size := by simp
  have h5' := h.below B5
  have hnotU : ∀ i, i < (W4.alloc (.cells #[.int .i64 0] 33)).heap.size → ¬ Ft i → ¬ UpFt Ft (W4.alloc (.cells #[.int .i64 0] 33)).heap.size i := fun i h1 h2 e => e.elim h2 (fun e => by omega)
  have h5 : LogS (W4.alloc (.cells #[.int .i64 0] 33)) N (UpFt Ft (W4.alloc (.cells #[.int .i64 0] 33)).heap.size) Dk k F rm x lf false L G nm sz g false := h5'.more (fun i h => .inl h) (Nat.le_refl _) (hnotU L (by omega) h.2.2.2.1) (hnotU G (by omega) h.2.2.2.2)
  have out : ∀ i, W.heap.size ≤ i → ¬ Ft i := fun i hi e => by have := hlow i e; omega
  have hX : Box (W4.alloc (.cells #[.int .i64 0] 33)) L Dk W.heap.size w1.heap.size (W.heap.size + 1) (fileN nm j) (.slice A news.length cp) := ⟨i0, i2, i1, BlkIs.cell h5.2.1 0, by omega⟩
  have hr1 := repl1_L (W4.alloc (.cells #[.int .i64 0] 33)) N Ft Dk k F rm x lf L G nm sz g (W4.alloc (.cells #[.int .i64 0] 33)).heap.size W.heap.size w1.heap.size (W.heap.size + 1) A cp news (fileN nm j) h5 (Nat.le_refl _) hb hb2 (by omega) (by omega) hne hf hk hx hx2 hr hlf hlm (by omega) (fun w' hT => hA _ w' B5 hT) hX
    (hnotU _ (by omega) (out _ (Nat.le_refl _))) (hnotU _ (by omega) (out _ (by omega))) (hnotU _ (by omega) (out _ (by omega)))
  have hat := Lib.hid (attempt_c 70 _ W4 (fun y w' => ((y = 0 ∧ LogS w' N (NewFt Ft W w') Dk (k + 4) (((((F.upd (fileN nm j ++ ⟨#[46, 110, 101, 119]⟩) (some ([], 0))).upd (fileN nm j ++ ⟨#[46, 110, 101, 119]⟩) (some ([] ++ news, 0))).upd (fileN nm j ++ ⟨#[46, 110, 101, 119]⟩) (some ([] ++ news, ([] ++ news).length))).upd (fileN nm j ++ ⟨#[46, 110, 101, 119]⟩) none).upd (fileN nm j) (some ([] ++ news, ([] ++ news).length))) rm (x + news.length - lenOf F (fileN nm j)) (lfA (lfA (lfA (lfA lf)))) false L G nm sz g false) ∨ (y = 10 ∧ ∃ F' x', CutR F (fileN nm j ++ ⟨#[46, 110, 101, 119]⟩) news x F' x' ∧ LogS w' N (NewFt Ft W w') Dk (k + 4) F' rm x' 1 true L G nm sz g false)) ∧ Tn Ft W w' ∧ BlkIs w' W.heap.size 32 #[.pointer (some ⟨L, 0, none⟩)] ∧ BlkIs w' w1.heap.size 9 #[.string (fileN nm j)]) (hen _) (hr1.mono (by
    rintro e w' ⟨hc, q2⟩
    have hT1 : Tn (UpFt Ft (W4.alloc (.cells #[.int .i64 0] 33)).heap.size) W w' := (Tn.of_below B5).trans q2
    have hT2 : Tn Ft W w' := hT1.mono (fun i hi e => e.elim id (fun e => by omega))
    have o0 : BlkIs w' W.heap.size 32 _ := i0.tn q2 (hnotU _ (by omega) (out _ (Nat.le_refl _)))
    have o2 : BlkIs w' w1.heap.size 9 _ := i2.tn q2 (hnotU _ (by omega) (out _ (by omega)))
    refine ⟨i3.tn q2 (hnotU _ hz5 (out _ (by omega))), ?_⟩
    rcases hc with ⟨rfl, q1⟩ | ⟨rfl, F', x', hcut, q1⟩
    · exact .inl ⟨rfl, .inl ⟨rfl, q1.tight (by omega) h.2.2.2.1 hlL h.2.2.2.2 hlG⟩, hT2, o0, o2⟩
    · have tS := (Tn.refl (fun i => i = W4.heap.size) w').setCell (x := ⟨W4.heap.size, 0, none⟩) (.inl rfl) (.int .i64 10)
      have hq0 := q1.keep tS (fun i hi e => by
        subst e
        rcases hi with hi | hi | hi
        · exact hnotU _ hz5 (out _ (by omega)) hi
        · omega
        · omega)
      have hq := hq0.tight (W := W) (by omega) h.2.2.2.1 hlL h.2.2.2.2 hlG
      exact .inr ⟨10, rfl, .inr ⟨rfl, F', x', hcut, hq⟩, hT2.setCell (.inr (by show W.heap.size ≤ W4.heap.size; omega)) _, o0.far (by show W.heap.size ≠ W4.heap.size; omega) _, o2.far (by show w1.heap.size ≠ W4.heap.size; omega) _⟩)))
  clear hr1 hX h5 h5' i0 i1 i2 i3 j0 j1 j2 hA
  refine hat.out.mono ?_
  rintro e w' ⟨y, rfl, hc, q2, o0, o2⟩
  clear hat
  rcases hc with ⟨rfl, q1⟩ | ⟨rfl, F', x', hcut, q1⟩
  · have Q1 := Lib.hid q1
    have Q2 := Lib.hid q2
    clear q1 q2
    go_wp2_with fail
    go_ret
    exact ⟨.inl ⟨rfl, Q1.out⟩, Q2.out⟩
  · have Q1 := Lib.hid q1
    have Q2 := Lib.hid q2
    have HCUT := Lib.hid hcut
    have c0 := o0.cell 0
    have c2 := o2.cell 0
    have cL := BlkIs.cell q1.2.1 0
    have hLlt := q1.ltL
    have hA : Below w'.heap.size w' w'.drew := (Below.refl _ w').drew
    have hDD := (q1.below hA).1
    have hcat : ¬ 9223372036854775807 < (fileN nm j).size + 4 := by omega
    have HDD := Lib.hid hDD
    clear q1 q2 hcut hDD hsz hsp
    go_wp2_with fail
    go_region_held3 (fun X => X.cell? ⟨W.heap.size, 0, none⟩ = some (.pointer (some ⟨L, 0, none⟩)) ∧ X.cell? ⟨w1.heap.size, 0, none⟩ = some (.string (fileN nm j)) ∧ X.cell? ⟨L, 0, none⟩ = some (.pointer (some ⟨Dk, 0, none⟩)))
      (first
        | go_keep
        | exact ⟨(hb9.cell (p := ⟨W.heap.size, 0, none⟩) o0.lt).trans c0, (hb9.cell (p := ⟨w1.heap.size, 0, none⟩) o2.lt).trans c2, (hb9.cell (p := ⟨L, 0, none⟩) hLlt).trans cL⟩)
      (first
        | (go_at_call 53; refine (delete_down _ N _ Dk _ _ _ rm _ _ HDD.out).mono ?_; rintro e w9 ⟨rfl, hD9, hb9⟩))
    have hB9 : Below w'.heap.size w' w9 := hA.trans hb9
    have HL9 := Lib.hid (Q1.out.below hB9)
    have HT9 := Lib.hid (Q2.out.trans (Tn.of_below hB9))
    clear hD9
    go_wp2_with fail
    go_ret
    exact ⟨.inr ⟨rfl, F', x', HCUT.out, HL9.out.more (fun i hi => hi.elim .inl (fun hi => .inr ⟨hi.1, Nat.lt_of_lt_of_le hi.2 hB9.size⟩)) (Nat.le_refl _) (newFt_not h.2.2.2.1 hlL) (newFt_not h.2.2.2.2 hlG)⟩, HT9.out⟩
end Go.Proofs.YtidadjlhnlmfkaaGreatDoor
