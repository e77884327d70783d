/- SlRepl SlDie SlDie2. Conditions: as stated at each. -/
import Derived.Test.YtfjmplkncopffaaGreatDoorWm12
import Derived.Test.YtfjmplkncopffaaGreatDoorWm14
/- A log's replace: the closure, where the power is on for good. Conditions: as stated at each. -/
namespace Go.Proofs.YtfjmplkncopffaaGreatDoor
open Go.RowKit Go.Shelf Go Go.Maps
/-- Ft's blocks, and all that are made from n on. -/
def UpFt (Ft : Nat → Prop) (n : Nat) (i : Nat) : Prop := Ft i ∨ n ≤ i
theorem LogS.back {w w' : World} {N n Dk k k' L G : Nat} {Ft : Nat → Prop} {F F' : Files} {rm x x' lf lf' : Int} {b b' : Bool} {nm : ByteArray} {sz : Int} {g : List (Nat × Nat)} {dead : Bool} (h : LogS w N (UpFt Ft n) Dk k F rm x lf b L G nm sz g dead) (hD : DiskS w' N (NewFt (UpFt Ft n) w w') Dk k' F' rm x' lf' b') (hT : Tn (UpFt Ft n) w w') (hk : k ≤ k') (hn : n ≤ w.heap.size) : LogS w' N (UpFt Ft n) Dk k' F' rm x' lf' b' L G nm sz g dead := by
  have h' := h.disk hD hT hk
  refine h'.more (fun i hi => ?_) (Nat.le_refl _) h.2.2.2.1 h.2.2.2.2
  rcases hi with hi | ⟨hi, _⟩
  · exact hi
  · exact .inr (by omega)
structure Box (w : World) (L Dk B0 B1 B2 : Nat) (fl : ByteArray) (v : Value) : Prop where
  b0 : BlkIs w B0 32 #[.pointer (some ⟨L, 0, none⟩)]
  b1 : BlkIs w B1 9 #[.string fl]
  b2 : BlkIs w B2 26 #[v]
  cL : w.cell? ⟨L, 0, none⟩ = some (.pointer (some ⟨Dk, 0, none⟩))
  lL : L < w.heap.size
theorem Box.tn {w w' : World} {L Dk B0 B1 B2 : Nat} {fl : ByteArray} {v : Value} {U : Nat → Prop} (h : Box w L Dk B0 B1 B2 fl v) (hT : Tn U w w') (n0 : ¬ U B0) (n1 : ¬ U B1) (n2 : ¬ U B2) (nL : ¬ U L) : Box w' L Dk B0 B1 B2 fl v :=
  ⟨h.b0.tn hT n0, h.b1.tn hT n1, h.b2.tn hT n2, by rw [← h.cL]; simp [World.cell?, hT.block L h.lL nL], Nat.lt_of_lt_of_le h.lL hT.size⟩
theorem Box.cells {w : World} {L Dk B0 B1 B2 : Nat} {fl : ByteArray} {v : Value} (h : Box w L Dk B0 B1 B2 fl v) : w.cell? ⟨B0, 0, none⟩ = some (.pointer (some ⟨L, 0, none⟩)) ∧ w.cell? ⟨B1, 0, none⟩ = some (.string fl) ∧ w.cell? ⟨L, 0, none⟩ = some (.pointer (some ⟨Dk, 0, none⟩)) ∧ w.cell? ⟨B2, 0, none⟩ = some v :=
  ⟨h.b0.cell 0, h.b1.cell 0, h.cL, h.b2.cell 0⟩
set_option maxHeartbeats 3200000 in
set_option maxRecDepth 20000 in
theorem repl1_any (W : World) (N : Nat) (Ft : Nat → Prop) (Dk k : Nat) (F : Files) (rm x : Int) (L G : Nat) (nm : ByteArray) (sz : Int) (g : List (Nat × Nat)) (n B0 B1 B2 : Nat) (A : Option Addr) (cp : Nat) (news : List UInt8) (fl : ByteArray)
    (h : LogS W N (UpFt Ft n) Dk k F rm x 0 false L G nm sz g false) (hn : n ≤ W.heap.size) (hb : nameB fl = true) (hb2 : nameB (fl ++ ⟨#[46, 110, 101, 119]⟩) = true) (hs : (fl ++ ⟨#[46, 110, 101, 119]⟩).size ≤ 64) (hfl : fl.size ≤ 64) (hne : fl ≠ (fl ++ ⟨#[46, 110, 101, 119]⟩)) (hf : F (fl ++ ⟨#[46, 110, 101, 119]⟩) = none) (hk : k + 4 < maxLen) (hx : 0 ≤ x) (hx2 : x + news.length ≤ 100000000) (hr : x + news.length ≤ rm) (hlf : lenOf F fl ≤ 100000000)
    (hN : N ≤ W.heap.size) (hA : ∀ w', Tn (UpFt Ft n) W w' → Bts w' w'.heap.size A news) (hX : Box W L Dk B0 B1 B2 fl (.slice A news.length cp)) (n0 : ¬ UpFt Ft n B0) (n1 : ¬ UpFt Ft n B1) (n2 : ¬ UpFt Ft n B2) :
    Calls Tryz.prog 69 #[.pointer (some ⟨B0, 0, none⟩), .pointer (some ⟨B1, 0, none⟩), .pointer (some ⟨B2, 0, none⟩)] W fun e w' => e = .returned (.tuple #[]) ∧
      LogS w' N (UpFt Ft n) Dk (k + 4) (((((F.upd (fl ++ ⟨#[46, 110, 101, 119]⟩) (some ([], 0))).upd (fl ++ ⟨#[46, 110, 101, 119]⟩) (some ([] ++ news, 0))).upd (fl ++ ⟨#[46, 110, 101, 119]⟩) (some ([] ++ news, ([] ++ news).length))).upd (fl ++ ⟨#[46, 110, 101, 119]⟩) none).upd fl (some ([] ++ news, ([] ++ news).length))) rm (x + news.length - lenOf F fl) 0 false L G nm sz g false ∧ Tn (UpFt Ft n) W w' := by
  have nL := h.2.2.2.1
  have hcat : ¬ 9223372036854775807 < fl.size + 4 := by omega
  have hcut : (fl ++ ⟨#[46, 110, 101, 119]⟩).size ≤ maxLen := by unfold maxLen; omega
  have K1 : (F.upd (fl ++ ⟨#[46, 110, 101, 119]⟩) (some ([], 0))) (fl ++ ⟨#[46, 110, 101, 119]⟩) = some ([], 0) := by unfold Files.upd; rw [if_pos rfl]
  have K2 : ((F.upd (fl ++ ⟨#[46, 110, 101, 119]⟩) (some ([], 0))).upd (fl ++ ⟨#[46, 110, 101, 119]⟩) (some ([] ++ news, 0))) (fl ++ ⟨#[46, 110, 101, 119]⟩) = some ([] ++ news, 0) := by unfold Files.upd; rw [if_pos rfl]
  have K3 : (((F.upd (fl ++ ⟨#[46, 110, 101, 119]⟩) (some ([], 0))).upd (fl ++ ⟨#[46, 110, 101, 119]⟩) (some ([] ++ news, 0))).upd (fl ++ ⟨#[46, 110, 101, 119]⟩) (some ([] ++ news, ([] ++ news).length))) (fl ++ ⟨#[46, 110, 101, 119]⟩) = some ([] ++ news, ([] ++ news).length) := by unfold Files.upd; rw [if_pos rfl]
  have K4 : lenOf (((F.upd (fl ++ ⟨#[46, 110, 101, 119]⟩) (some ([], 0))).upd (fl ++ ⟨#[46, 110, 101, 119]⟩) (some ([] ++ news, 0))).upd (fl ++ ⟨#[46, 110, 101, 119]⟩) (some ([] ++ news, ([] ++ news).length))) fl = lenOf F fl := by
    rw [lenOf_upd, if_neg hne, lenOf_upd, if_neg hne, lenOf_upd, if_neg hne]
  have hlen : (([] : List UInt8) ++ news).length = news.length := by simp
  have HA := Lib.hid hA
  have HK := Lib.hid hN
  have hT0 : Tn (UpFt Ft n) W W := Tn.refl _ W
  have hw0 : W.heap.size ≤ W.heap.size := Nat.le_refl _
  clear hA
  go_enter Tryz.func69, Tryz.ntmps69
  have HX := Lib.hid hX
  have HT0 := Lib.hid hT0
  have hd : Tn (UpFt Ft n) W W.drew := (Tn.refl _ W).alk ⟨rfl, rfl, rfl, rfl⟩
  have hD := h.alk (w' := W.drew) ⟨rfl, rfl, rfl, rfl⟩
  have hTd : Tn (UpFt Ft n) W W.drew := hT0.trans hd
  have hND : N ≤ W.drew.heap.size := by have := hTd.size; omega
  have q0 := hX.cells.1
  have q1 := hX.cells.2.1
  have q2 := hX.cells.2.2.1
  have q3 := hX.cells.2.2.2
  clear hX hT0
  go_wp2_with fail
  go_region_held3 (fun w' => w'.cell? ⟨B0, 0, none⟩ = some (.pointer (some ⟨L, 0, none⟩)) ∧ w'.cell? ⟨B1, 0, none⟩ = some (.string fl) ∧ w'.cell? ⟨L, 0, none⟩ = some (.pointer (some ⟨Dk, 0, none⟩)) ∧ w'.cell? ⟨B2, 0, none⟩ = some (.slice A news.length cp))
    (first
      | exact (HX.out.tn hd n0 n1 n2 nL).cells
      | exact (HX.out.tn (hd.trans hT1) n0 n1 n2 nL).cells)
    (first
      | (go_at_call 70; refine (create_ok _ N (UpFt Ft n) Dk k F _ rm x 0 hD.1 hb2 hf (by omega) hx (by omega) (by omega) (by omega)).mono ?_; rintro e w1 ⟨rfl, hD1, hT1⟩)
      | (go_at_call 26; refine (must_ok _).mono ?_; rintro e w9 ⟨rfl, rfl⟩))
  have hX : Box w1 L Dk B0 B1 B2 fl (.slice A news.length cp) := HX.out.tn (hd.trans hT1) n0 n1 n2 nL
  have hT0 : Tn (UpFt Ft n) W w1 := hTd.trans hT1
  have hz0 : n ≤ W.drew.heap.size := by have := hTd.size; omega
  have h := hD.back hD1 hT1 (Nat.le_succ _) hz0
  have hn : n ≤ w1.heap.size := by have := hT1.size; omega
  clear HX HT0 hd hD hTd hD1 hT1 q0 q1 q2 q3 hND
  have HX := Lib.hid hX
  have HT0 := Lib.hid hT0
  have hd : Tn (UpFt Ft n) w1 w1.drew := (Tn.refl _ w1).alk ⟨rfl, rfl, rfl, rfl⟩
  have hD := h.alk (w' := w1.drew) ⟨rfl, rfl, rfl, rfl⟩
  have hTd : Tn (UpFt Ft n) W w1.drew := hT0.trans hd
  have hND : N ≤ w1.drew.heap.size := by have := hTd.size; omega
  have q0 := hX.cells.1
  have q1 := hX.cells.2.1
  have q2 := hX.cells.2.2.1
  have q3 := hX.cells.2.2.2
  clear hX hT0
  go_wp2_with fail
  go_region_held3 (fun w' => w'.cell? ⟨B0, 0, none⟩ = some (.pointer (some ⟨L, 0, none⟩)) ∧ w'.cell? ⟨B1, 0, none⟩ = some (.string fl) ∧ w'.cell? ⟨L, 0, none⟩ = some (.pointer (some ⟨Dk, 0, none⟩)) ∧ w'.cell? ⟨B2, 0, none⟩ = some (.slice A news.length cp))
    (first
      | exact (HX.out.tn hd n0 n1 n2 nL).cells
      | exact (HX.out.tn (hd.trans hT1) n0 n1 n2 nL).cells)
    (first
      | (go_at_call 29; refine (append_ok _ N (UpFt Ft n) Dk (k + 1) (F.upd (fl ++ ⟨#[46, 110, 101, 119]⟩) (some ([], 0))) _ rm x 0 A _ cp [] 0 news hD.1 hb2 K1 (by omega) hx (by omega) (by simp) (by omega) hr hND (HA.out _ hTd) (Nat.le_refl _) (by omega) (by omega)).mono ?_; rintro e w2 ⟨rfl, hD1, hT1⟩)
      | (go_at_call 26; refine (must_ok _).mono ?_; rintro e w9 ⟨rfl, rfl⟩))
  have hX : Box w2 L Dk B0 B1 B2 fl (.slice A news.length cp) := HX.out.tn (hd.trans hT1) n0 n1 n2 nL
  have hT0 : Tn (UpFt Ft n) W w2 := hTd.trans hT1
  have hz1 : n ≤ w1.drew.heap.size := by have := hTd.size; omega
  have h := hD.back hD1 hT1 (Nat.le_succ _) hz1
  have hn : n ≤ w2.heap.size := by have := hT1.size; omega
  clear HX HT0 hd hD hTd hD1 hT1 q0 q1 q2 q3 hND
  have HX := Lib.hid hX
  have HT0 := Lib.hid hT0
  have hd : Tn (UpFt Ft n) w2 w2.drew := (Tn.refl _ w2).alk ⟨rfl, rfl, rfl, rfl⟩
  have hD := h.alk (w' := w2.drew) ⟨rfl, rfl, rfl, rfl⟩
  have hTd : Tn (UpFt Ft n) W w2.drew := hT0.trans hd
  have hND : N ≤ w2.drew.heap.size := by have := hTd.size; omega
  have q0 := hX.cells.1
  have q1 := hX.cells.2.1
  have q2 := hX.cells.2.2.1
  have q3 := hX.cells.2.2.2
  clear hX hT0
  go_wp2_with fail
  go_region_held3 (fun w' => w'.cell? ⟨B0, 0, none⟩ = some (.pointer (some ⟨L, 0, none⟩)) ∧ w'.cell? ⟨B1, 0, none⟩ = some (.string fl) ∧ w'.cell? ⟨L, 0, none⟩ = some (.pointer (some ⟨Dk, 0, none⟩)) ∧ w'.cell? ⟨B2, 0, none⟩ = some (.slice A news.length cp))
    (first
      | exact (HX.out.tn hd n0 n1 n2 nL).cells
      | exact (HX.out.tn (hd.trans hT1) n0 n1 n2 nL).cells)
    (first
      | (go_at_call 58; refine (sync_ok _ N (UpFt Ft n) Dk (k + 2) ((F.upd (fl ++ ⟨#[46, 110, 101, 119]⟩) (some ([], 0))).upd (fl ++ ⟨#[46, 110, 101, 119]⟩) (some ([] ++ news, 0))) _ rm (x + news.length) 0 ([] ++ news) 0 hD.1 hb2 K2 (by omega) (by omega) (by omega) (by rw [hlen]; omega) (by omega) (by omega)).mono ?_; rintro e w3 ⟨rfl, hD1, hT1⟩)
      | (go_at_call 26; refine (must_ok _).mono ?_; rintro e w9 ⟨rfl, rfl⟩))
  have hX : Box w3 L Dk B0 B1 B2 fl (.slice A news.length cp) := HX.out.tn (hd.trans hT1) n0 n1 n2 nL
  have hT0 : Tn (UpFt Ft n) W w3 := hTd.trans hT1
  have hz2 : n ≤ w2.drew.heap.size := by have := hTd.size; omega
  have h := hD.back hD1 hT1 (Nat.le_succ _) hz2
  have hn : n ≤ w3.heap.size := by have := hT1.size; omega
  clear HX HT0 hd hD hTd hD1 hT1 q0 q1 q2 q3 hND
  have HX := Lib.hid hX
  have HT0 := Lib.hid hT0
  have hd : Tn (UpFt Ft n) w3 w3.drew := (Tn.refl _ w3).alk ⟨rfl, rfl, rfl, rfl⟩
  have hD := h.alk (w' := w3.drew) ⟨rfl, rfl, rfl, rfl⟩
  have hTd : Tn (UpFt Ft n) W w3.drew := hT0.trans hd
  have hND : N ≤ w3.drew.heap.size := by have := hTd.size; omega
  have q0 := hX.cells.1
  have q1 := hX.cells.2.1
  have q2 := hX.cells.2.2.1
  have q3 := hX.cells.2.2.2
  clear hX hT0
  go_wp2_with fail
  go_region_held3 (fun w' => w'.cell? ⟨B0, 0, none⟩ = some (.pointer (some ⟨L, 0, none⟩)) ∧ w'.cell? ⟨B1, 0, none⟩ = some (.string fl) ∧ w'.cell? ⟨L, 0, none⟩ = some (.pointer (some ⟨Dk, 0, none⟩)) ∧ w'.cell? ⟨B2, 0, none⟩ = some (.slice A news.length cp))
    (first
      | exact (HX.out.tn hd n0 n1 n2 nL).cells
      | exact (HX.out.tn (hd.trans hT1) n0 n1 n2 nL).cells)
    (first
      | (go_at_call 71; refine (rename_S _ N (UpFt Ft n) Dk (k + 3) (((F.upd (fl ++ ⟨#[46, 110, 101, 119]⟩) (some ([], 0))).upd (fl ++ ⟨#[46, 110, 101, 119]⟩) (some ([] ++ news, 0))).upd (fl ++ ⟨#[46, 110, 101, 119]⟩) (some ([] ++ news, ([] ++ news).length))) _ fl rm (x + news.length) 0 ([] ++ news) _ hD.1 hb2 hb hne K3 (by omega) (by rw [hlen]; omega) (by omega) (by rw [K4]; exact hlf) (by omega)).mono ?_; rintro e w4 ⟨rfl, hD1, hT1⟩)
      | (go_at_call 26; refine (must_ok _).mono ?_; rintro e w9 ⟨rfl, rfl⟩))
  have hX : Box w4 L Dk B0 B1 B2 fl (.slice A news.length cp) := HX.out.tn (hd.trans hT1) n0 n1 n2 nL
  have hT0 : Tn (UpFt Ft n) W w4 := hTd.trans hT1
  have hz3 : n ≤ w3.drew.heap.size := by have := hTd.size; omega
  have h := hD.back hD1 hT1 (Nat.le_succ _) hz3
  have hn : n ≤ w4.heap.size := by have := hT1.size; omega
  clear HX HT0 hd hD hTd hD1 hT1 q0 q1 q2 q3 hND
  rw [K4] at h
  have HL := Lib.hid h
  have HT := Lib.hid hT0
  clear h hT0 hX
  go_wp2_with fail
  go_end0
  exact ⟨rfl, HL.out, HT.out⟩
end Go.Proofs.YtfjmplkncopffaaGreatDoor
/- A log's calls where the power fails. Conditions: as stated at each. -/
namespace Go.Proofs.YtfjmplkncopffaaGreatDoor
open Go.RowKit Go.Shelf Go Go.Maps
theorem sync_die (W : World) (N : Nat) (Ft : Nat → Prop) (Dk k : Nat) (F : Files) (s : ByteArray) (rm x : Int) (bs : List UInt8) (z : Nat)
    (hS : DiskS W N Ft Dk k F rm x 1 false) (hb : nameB s = true) (hf : F s = some (bs, z)) (hk : k < maxLen) (hx : 0 ≤ x) (hx2 : x ≤ 100000000) (hn0 : bs.length ≤ 100000000) :
    Calls Tryz.prog 58 #[.pointer (some ⟨Dk, 0, none⟩), .string s] W fun e w' => e = .returned (.int .i64 10) ∧ DiskS w' N (NewFt Ft W w') Dk (k + 1) F rm x 1 true ∧ Tn Ft W w' := by
  refine (sync_S W N Ft Dk k F s rm x 1 bs z hS hb hf hk hx hx2 hn0 (by omega)).mono ?_
  rintro e w' ⟨rfl, hp⟩
  unfold After at hp
  rw [if_pos rfl, decide_eq_true rfl] at hp
  exact ⟨rfl, hp.1, hp.2⟩
theorem create_die (W : World) (N : Nat) (Ft : Nat → Prop) (Dk k : Nat) (F : Files) (s : ByteArray) (rm x : Int)
    (hS : DiskS W N Ft Dk k F rm x 1 false) (hb : nameB s = true) (hf : F s = none) (hk : k < maxLen) (hx : 0 ≤ x) (hx2 : x ≤ 100000000) :
    Calls Tryz.prog 70 #[.pointer (some ⟨Dk, 0, none⟩), .string s] W fun e w' => e = .returned (.int .i64 10) ∧ DiskS w' N (NewFt Ft W w') Dk (k + 1) F rm x 1 true ∧ Tn Ft W w' := by
  refine (create_S W N Ft Dk k F s rm x 1 hS hb hf hk hx hx2 (by omega)).mono ?_
  rintro e w' ⟨rfl, hp⟩
  unfold Made at hp
  rw [if_pos rfl, decide_eq_true rfl] at hp
  exact ⟨rfl, hp.1, hp.2⟩
theorem append_die (W : World) (N : Nat) (Ft : Nat → Prop) (Dk k : Nat) (F : Files) (s : ByteArray) (rm x : Int) (A : Option Addr) (B c : Nat) (bs : List UInt8) (z : Nat) (news : List UInt8)
    (hS : DiskS W N Ft Dk k F rm x 1 false) (hb : nameB s = true) (hf : F s = some (bs, z)) (hk : k < maxLen) (hx : 0 ≤ x) (hx2 : x ≤ 100000000) (hn0 : bs.length ≤ 100000000) (hm : news.length ≤ 100000000) (hr0 : x + news.length ≤ rm)
    (hN : N ≤ W.heap.size) (hA : Bts W B A news) (hB : B ≤ W.heap.size) :
    Calls Tryz.prog 29 #[.pointer (some ⟨Dk, 0, none⟩), .string s, .slice A news.length c] W fun e w' => e = .returned (.int .i64 10) ∧ DiskS w' N (NewFt Ft W w') Dk (k + 1) (F.upd s (some (bs ++ news, z))) rm (x + news.length) 1 true ∧ Tn Ft W w' := by
  have h := append_S W N Ft Dk k F s rm x 1 A B c news hS hb hk hx hx2 (by rw [hf]; exact hn0) hm hr0 hN hA hB (by omega)
  rw [hf] at h
  refine h.mono ?_
  rintro e w' ⟨rfl, hp⟩
  unfold After at hp
  rw [decide_eq_true rfl] at hp
  exact ⟨rfl, hp.1, hp.2⟩
set_option maxHeartbeats 1600000 in
set_option maxRecDepth 20000 in
theorem lsync_die (W : World) (N : Nat) (Ft : Nat → Prop) (Dk k : Nat) (F : Files) (rm x : Int) (L G : Nat) (nm : ByteArray) (sz : Int) (g : List (Nat × Nat)) (bs : List UInt8) (z : Nat)
    (h : LogS W N Ft Dk k F rm x 1 false L G nm sz g false) (hl : g.length ≤ 999999) (hn : nmOk nm) (hf : F (fileN nm g.length) = some (bs, z)) (hbs : bs.length ≤ 100000000) (hk : k < maxLen) (hx : 0 ≤ x) (hx2 : x ≤ 100000000) :
    Calls Tryz.prog 31 #[.pointer (some ⟨L, 0, none⟩)] W fun e w' => e = bad 10 ∧ LgPost W N Ft Dk (k + 1) F rm x 1 true L G nm sz g true w' := by
  have c0 := BlkIs.cell h.2.1 0
  have c4 := BlkIs.cell h.2.1 4
  have hlt := h.ltL
  have hn6 : nm.size ≤ 1000000 := by have := hn.1; omega
  have hnb := nameB_fileN hn g.length
  have hnL := h.2.2.2.1
  go_enter Tryz.func31, Tryz.ntmps31
  go_wp2_with fail
  have hA : Below W.heap.size W W.drew := (Below.refl _ W).drew
  have hD := h.below hA
  go_region_held3 (fun w' => w'.cell? ⟨L, 0, none⟩ = some (.pointer (some ⟨Dk, 0, none⟩)) ∧ w'.cell? ⟨L, 4, none⟩ = some (.int .i64 (g.length : Nat)))
    (first
      | go_keep
      | exact ⟨(hb1.cell (p := ⟨L, 0, none⟩) hlt).trans c0, (hb1.cell (p := ⟨L, 4, none⟩) hlt).trans c4⟩
      | exact ⟨BlkIs.cell hE.2.1 0, BlkIs.cell hE.2.1 4⟩)
    (first
      | (go_at_call 30; refine (lfile_any _ L Dk nm sz G _ false g.length hD.2.1 hl hn6).mono ?_; rintro e w1 ⟨rfl, hb1⟩)
      | (go_at_call 58; have hC := hD.below hb1; refine (sync_die w1 N Ft Dk k F _ rm x bs z hC.1 hnb hf hk hx hx2 hbs).mono ?_; rintro e w2 ⟨rfl, hD2, hT2⟩; have hE := hC.disk hD2 hT2 (Nat.le_succ k)))
  have HE := Lib.hid hE
  have hf5 := BlkIs.froz hE.2.1 5
  have c5 := BlkIs.cell hE.2.1 5
  have hB1 := hA.trans hb1
  have hT := ((Tn.of_below (p := Ft) hB1).trans hT2)
  have HT := Lib.hid (OwnL.of (L := L) (G := G) hT)
  clear hT hT2 hE hD2 hC hD
  go_wp2_with (go_at_call 26; refine (must_bad _ 10 (by decide)).mono ?_; rintro e w' ⟨rfl, rfl⟩; unfold bad)
  exact ⟨rfl, rfl, LgPost.up hnL hlt h.2.2.2.2 h.ltG hB1.size (Nat.le_of_eq (size_set _ _ _).symm) (HE.out.set ⟨rfl, rfl⟩) (HT.out.setCell (.inl (.inr (.inl rfl))) _)⟩
theorem begin_end {W w1 w2 : World} {N Dk k L G : Nat} {Ft : Nat → Prop} {F : Files} {rm x : Int} {nm : ByteArray} {sz : Int} {g : List (Nat × Nat)} (h : LogS W N Ft Dk k F rm x 1 false L G nm sz g false) (hb1 : Below W.drew.heap.size W.drew w1)
    (hD2 : DiskS w2 N (NewFt Ft w1 w2) Dk (k + 1) F rm x 1 true) (hT2 : Tn Ft w1 w2) : LgPost W N Ft Dk (k + 1) F rm x 1 true L G nm sz g false w2 := by
  have hB1 : Below W.heap.size W w1 := ((Below.refl _ W).drew).trans hb1
  exact LgPost.up h.2.2.2.1 h.ltL h.2.2.2.2 h.ltG hB1.size (Nat.le_refl _) ((h.below hB1).disk hD2 hT2 (Nat.le_succ k)) (OwnL.of ((Tn.of_below hB1).trans hT2))
set_option maxHeartbeats 1600000 in
set_option maxRecDepth 20000 in
theorem begin_die (W : World) (N : Nat) (Ft : Nat → Prop) (Dk k : Nat) (F : Files) (rm x : Int) (L G : Nat) (nm : ByteArray) (sz : Int) (g : List (Nat × Nat))
    (h : LogS W N Ft Dk k F rm x 1 false L G nm sz g false) (hl : g.length < 999999) (hn : nmOk nm) (hf : F (fileN nm (g.length + 1)) = none) (hk : k + 1 < maxLen) (hx : 0 ≤ x) (hx2 : x ≤ 100000000) :
    Calls Tryz.prog 53 #[.pointer (some ⟨L, 0, none⟩), .int .i64 ((g.length : Int) + 1)] W fun e w' => e = bad 10 ∧ LgPost W N Ft Dk (k + 1) F rm x 1 true L G nm sz g false w' := by
  have c0 := BlkIs.cell h.2.1 0
  have hlt := h.ltL
  have hn6 : nm.size ≤ 1000000 := by have := hn.1; omega
  have hnb := nameB_fileN hn (g.length + 1)
  have hnL := h.2.2.2.1
  go_enter Tryz.func53, Tryz.ntmps53
  go_wp2_with fail
  have hA : Below W.heap.size W W.drew := (Below.refl _ W).drew
  have hD := h.below hA
  have hkeep := hD.1
  refine wp_region_any (by kernel_rfl) ?_
  try (change wpAny _ _ _ _ _ _ _ (World.drew _))
  refine wpAny_take (i := 0) (v := .pointer (some ⟨L, 0, none⟩)) rfl (by kernel_rfl) (by kernel_rfl) (by kernel_rfl) (fun _ _ _ h => h) (Or.inl ⟨by rfl, fun w => by first | (go_simp; done) | (go_simp; with_reducible rfl)⟩) ?_
  refine wpAny_take (i := 1) (v := .pointer (some ⟨L, 0, none⟩)) rfl (by kernel_rfl) (by kernel_rfl) (by kernel_rfl) (fun _ _ _ h => h) (Or.inl ⟨by rfl, fun w => by first | (go_simp; done) | (go_simp; with_reducible rfl)⟩) ?_
  refine wpAny_take (i := 2) (v := .pointer (some ⟨L, 0, none⟩)) rfl (by kernel_rfl) (by kernel_rfl) (by kernel_rfl) (fun _ _ _ h => h) (Or.inl ⟨by rfl, fun w => by first | (go_simp; done) | (go_simp; with_reducible rfl)⟩) ?_
  refine wpAny_take (i := 4) (v := .pointer (some ⟨L, 0, none⟩)) rfl (by kernel_rfl) (by kernel_rfl) (by kernel_rfl) (fun _ _ _ h => h) (Or.inl ⟨by rfl, fun w => by first | (go_simp; done) | (go_simp; with_reducible rfl)⟩) ?_
  refine wpAny_take (i := 5) (v := .int .i64 ((g.length : Int) + 1)) rfl (by kernel_rfl) (by kernel_rfl) (by kernel_rfl) (fun _ _ _ h => h) (Or.inl ⟨by rfl, fun w => by first | (go_simp; done) | (go_simp; with_reducible rfl)⟩) ?_
  refine wpAny_ready (rs := [3, 6]) (by kernel_rfl) (by simp) ?_
  refine AllReady.cons rfl (fun K hK => ?_) (AllReady.cons rfl (fun K hK => ?_) AllReady.nil)
  · go_simp
    try (refine hK _ _ ?_; clear hK K)
    refine wpAny_ready (rs := [6]) (by kernel_rfl) (by simp) ?_
    refine AllReady.cons rfl (fun K hK => ?_) AllReady.nil
    go_simp
    go_wp2_with (go_at_call 30; refine (lfile_any _ L Dk nm sz G _ false (g.length + 1) (LogB.alk hD.2.1 rfl) (by omega) hn6).mono ?_; rintro e w1 ⟨rfl, hb1⟩; have c0' := (hb1.cell (p := ⟨L, 0, none⟩) hlt).trans c0)
    try (refine hK _ _ ?_; clear hK K)
    refine wpAny_ready (rs := [7]) (by kernel_rfl) (by simp) ?_
    refine AllReady.cons rfl (fun K hK => ?_) AllReady.nil
    go_simp
    go_wp2_with (go_at_call 70; have hC := hD.below hb1; refine (create_die w1 N Ft Dk k F _ rm x hC.1 hnb hf (by omega) hx hx2).mono ?_; rintro e w2 ⟨rfl, hD2, hT2⟩)
    try (refine hK _ _ ?_; clear hK K)
    refine wpAny_ready (rs := [8]) (by kernel_rfl) (by simp) ?_
    refine AllReady.cons rfl (fun K hK => ?_) AllReady.nil
    go_simp
    go_wp2_with (go_at_call 26; refine (must_bad _ 10 (by decide)).mono ?_; rintro e w3 ⟨rfl, rfl⟩; unfold bad)
    exact ⟨rfl, rfl, begin_end h hb1 hD2 hT2⟩
  · go_simp
    go_wp2_with (go_at_call 30; refine (lfile_any _ L Dk nm sz G _ false (g.length + 1) (LogB.alk hD.2.1 rfl) (by omega) hn6).mono ?_; rintro e w1 ⟨rfl, hb1⟩; have c0' := (hb1.cell (p := ⟨L, 0, none⟩) hlt).trans c0)
    try (refine hK _ _ ?_; clear hK K)
    refine wpAny_ready (rs := [3]) (by kernel_rfl) (by simp) ?_
    refine AllReady.cons rfl (fun K hK => ?_) AllReady.nil
    go_simp
    try (refine hK _ _ ?_; clear hK K)
    refine wpAny_ready (rs := [7]) (by kernel_rfl) (by simp) ?_
    refine AllReady.cons rfl (fun K hK => ?_) AllReady.nil
    go_simp
    go_wp2_with (go_at_call 70; have hC := hD.below hb1; refine (create_die w1 N Ft Dk k F _ rm x hC.1 hnb hf (by omega) hx hx2).mono ?_; rintro e w2 ⟨rfl, hD2, hT2⟩)
    try (refine hK _ _ ?_; clear hK K)
    refine wpAny_ready (rs := [8]) (by kernel_rfl) (by simp) ?_
    refine AllReady.cons rfl (fun K hK => ?_) AllReady.nil
    go_simp
    go_wp2_with (go_at_call 26; refine (must_bad _ 10 (by decide)).mono ?_; rintro e w3 ⟨rfl, rfl⟩; unfold bad)
    exact ⟨rfl, rfl, begin_end h hb1 hD2 hT2⟩
end Go.Proofs.YtfjmplkncopffaaGreatDoor
/- A log's roll where the power fails. Conditions: as stated at each. -/
namespace Go.Proofs.YtfjmplkncopffaaGreatDoor
open Go.RowKit Go.Shelf Go Go.Maps
set_option maxHeartbeats 1600000 in
set_option maxRecDepth 20000 in
theorem roll_die1 (W : World) (N : Nat) (Ft : Nat → Prop) (Dk k : Nat) (F : Files) (rm x : Int) (L G : Nat) (nm : ByteArray) (sz : Int) (g : List (Nat × Nat)) (bs : List UInt8) (z : Nat) (need : Nat)
    (h : LogS W N Ft Dk k F rm x 1 false L G nm sz g false) (hl : g.length < 999999) (hn : nmOk nm) (hf : F (fileN nm g.length) = some (bs, z)) (hbs : bs.length ≤ 100000000) (hk : k + 3 < maxLen) (hx : 0 ≤ x) (hx2 : x ≤ 100000000) (hr : x + need ≤ rm) (hr2 : rm ≤ 1000000000000) :
    Calls Tryz.prog 28 #[.pointer (some ⟨L, 0, none⟩), .int .i64 need] W fun e w' => e = bad 10 ∧ LgPost W N Ft Dk (k + 1) F rm x 1 true L G nm sz g true w' := by
  have c0 := BlkIs.cell h.2.1 0
  have c4 := BlkIs.cell h.2.1 4
  have h9 : ((g.length : Int) == 999999) = false := by simp; omega
  have hlt : ¬ rm - x < (need : Int) := by omega
  go_enter Tryz.func28, Tryz.ntmps28
  go_wp2_with (first
    | (go_at_call 37; refine (look_up _ L Dk nm sz G _ false h.2.1 h.1).mono ?_; rintro e w' ⟨rfl, rfl⟩)
    | (go_at_call 54; refine (free_S W N Ft Dk k F rm x 1 h.1 hx hx2 (by omega) hr2).mono ?_; rintro e w1 ⟨rfl, hb1⟩))
  have hw1 := h.below hb1
  refine (lsync_die w1 N Ft Dk k F rm x L G nm sz g bs z hw1 (by omega) hn hf hbs (by omega) hx hx2).mono ?_
  rintro e w2 ⟨rfl, hp2⟩
  have HP := Lib.hid (LgPost.of_below h hb1 hp2)
  clear hp2
  unfold bad
  go_wp2_with fail
  exact ⟨rfl, rfl, HP.out⟩
set_option maxHeartbeats 1600000 in
set_option maxRecDepth 20000 in
theorem roll_die2 (W : World) (N : Nat) (Ft : Nat → Prop) (Dk k : Nat) (F : Files) (rm x : Int) (L G : Nat) (nm : ByteArray) (sz : Int) (g : List (Nat × Nat)) (bs : List UInt8) (z : Nat) (need : Nat)
    (h : LogS W N Ft Dk k F rm x 2 false L G nm sz g false) (hl : g.length < 999999) (hn : nmOk nm) (hf : F (fileN nm g.length) = some (bs, z)) (hbs : bs.length ≤ 100000000) (hf2 : F (fileN nm (g.length + 1)) = none) (hk : k + 3 < maxLen) (hx : 0 ≤ x) (hx2 : x ≤ 100000000) (hr : x + need ≤ rm) (hr2 : rm ≤ 1000000000000) :
    Calls Tryz.prog 28 #[.pointer (some ⟨L, 0, none⟩), .int .i64 need] W fun e w' => e = bad 10 ∧ LgPost W N Ft Dk (k + 2) (F.upd (fileN nm g.length) (some (bs, bs.length))) rm x 1 true L G nm sz g false w' := by
  have c0 := BlkIs.cell h.2.1 0
  have c4 := BlkIs.cell h.2.1 4
  have h9 : ((g.length : Int) == 999999) = false := by simp; omega
  have hlt : ¬ rm - x < (need : Int) := by omega
  have hne : fileN nm (g.length + 1) ≠ fileN nm g.length := fun e => by have := fileN_inj (by omega) (by omega) e; omega
  go_enter Tryz.func28, Tryz.ntmps28
  go_wp2_with (first
    | (go_at_call 37; refine (look_up _ L Dk nm sz G _ false h.2.1 h.1).mono ?_; rintro e w' ⟨rfl, rfl⟩)
    | (go_at_call 54; refine (free_S W N Ft Dk k F rm x 2 h.1 hx hx2 (by omega) hr2).mono ?_; rintro e w1 ⟨rfl, hb1⟩))
  have hw1 := h.below hb1
  refine (lsync_ok w1 N Ft Dk k F rm x 2 L G nm sz g bs z hw1 (by omega) hn hf hbs (by omega) hx hx2 (by omega) (by omega)).mono ?_
  rintro e w2 ⟨rfl, hp2⟩
  rw [show lfA 2 = 1 from rfl] at hp2
  have c4' := BlkIs.cell hp2.1.2.1 4
  have HP2 := Lib.hid hp2
  have hbeg := Lib.hid (begin_die w2 N (NewFt Ft w1 w2) Dk (k + 1) (F.upd (fileN nm g.length) (some (bs, bs.length))) rm x L G nm sz g hp2.1 hl hn (by unfold Files.upd; rw [if_neg hne]; exact hf2) (by omega) hx hx2)
  clear hp2
  go_wp2_with fail
  refine hbeg.out.mono ?_
  rintro e w3 ⟨rfl, hp3⟩
  have HP := Lib.hid (LgPost.of_below h hb1 (LgPost.trans hw1 HP2.out hp3))
  clear hp3
  unfold bad
  go_wp2_with fail
  exact ⟨rfl, rfl, HP.out⟩
end Go.Proofs.YtfjmplkncopffaaGreatDoor
