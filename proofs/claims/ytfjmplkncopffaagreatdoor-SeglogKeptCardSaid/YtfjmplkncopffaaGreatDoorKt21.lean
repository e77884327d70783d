/- SlRepl SlRepl2 FlNum FlWord FlCut. Conditions: as stated at each. -/
import Derived.Test.YtfjmplkncopffaaGreatDoorKt20
import Derived.Test.YtfjmplkncopffaaGreatDoorKt17
import Derived.Test.YtfjmplkncopffaaGreatDoorKt02
/- A log's replace: the closure, where the power is on for good. Conditions: as stated at each. -/
namespace Go.Proofs.YtfjmplkncopffaaGreatDoor
open Go.RowKit Go.Shelf Go Go.Maps
/-- Ft's blocks, and all that are made from n on. -/
def UpFt (Ft : Nat → Prop) (n : Nat) (i : Nat) : Prop := Ft i ∨ n ≤ i
theorem LogS.back {w w' : World} {N n Dk k k' L G : Nat} {Ft : Nat → Prop} {F F' : Files} {rm x x' lf lf' : Int} {b b' : Bool} {nm : ByteArray} {sz : Int} {g : List (Nat × Nat)} {dead : Bool} (h : LogS w N (UpFt Ft n) Dk k F rm x lf b L G nm sz g dead) (hD : DiskS w' N (NewFt (UpFt Ft n) w w') Dk k' F' rm x' lf' b') (hT : Tn (UpFt Ft n) w w') (hk : k ≤ k') (hn : n ≤ w.heap.size) : LogS w' N (UpFt Ft n) Dk k' F' rm x' lf' b' L G nm sz g dead := by
  have h' := h.disk hD hT hk
  refine h'.more (fun i hi => ?_) (Nat.le_refl _) h.2.2.2.1 h.2.2.2.2
  rcases hi with hi | ⟨hi, _⟩
  · exact hi
  · exact .inr (by omega)
structure Box (w : World) (L Dk B0 B1 B2 : Nat) (fl : ByteArray) (v : Value) : Prop where
  b0 : BlkIs w B0 32 #[.pointer (some ⟨L, 0, none⟩)]
  b1 : BlkIs w B1 9 #[.string fl]
  b2 : BlkIs w B2 26 #[v]
  cL : w.cell? ⟨L, 0, none⟩ = some (.pointer (some ⟨Dk, 0, none⟩))
  lL : L < w.heap.size
theorem Box.tn {w w' : World} {L Dk B0 B1 B2 : Nat} {fl : ByteArray} {v : Value} {U : Nat → Prop} (h : Box w L Dk B0 B1 B2 fl v) (hT : Tn U w w') (n0 : ¬ U B0) (n1 : ¬ U B1) (n2 : ¬ U B2) (nL : ¬ U L) : Box w' L Dk B0 B1 B2 fl v :=
  ⟨h.b0.tn hT n0, h.b1.tn hT n1, h.b2.tn hT n2, by rw [← h.cL]; simp [World.cell?, hT.block L h.lL nL], Nat.lt_of_lt_of_le h.lL hT.size⟩
theorem Box.cells {w : World} {L Dk B0 B1 B2 : Nat} {fl : ByteArray} {v : Value} (h : Box w L Dk B0 B1 B2 fl v) : w.cell? ⟨B0, 0, none⟩ = some (.pointer (some ⟨L, 0, none⟩)) ∧ w.cell? ⟨B1, 0, none⟩ = some (.string fl) ∧ w.cell? ⟨L, 0, none⟩ = some (.pointer (some ⟨Dk, 0, none⟩)) ∧ w.cell? ⟨B2, 0, none⟩ = some v :=
  ⟨h.b0.cell 0, h.b1.cell 0, h.cL, h.b2.cell 0⟩
set_option maxHeartbeats 3200000 in
set_option maxRecDepth 20000 in
theorem repl1_any (W : World) (N : Nat) (Ft : Nat → Prop) (Dk k : Nat) (F : Files) (rm x : Int) (L G : Nat) (nm : ByteArray) (sz : Int) (g : List (Nat × Nat)) (n B0 B1 B2 : Nat) (A : Option Addr) (cp : Nat) (news : List UInt8) (fl : ByteArray)
    (h : LogS W N (UpFt Ft n) Dk k F rm x 0 false L G nm sz g false) (hn : n ≤ W.heap.size) (hb : nameB fl = true) (hb2 : nameB (fl ++ ⟨#[46, 110, 101, 119]⟩) = true) (hs : (fl ++ ⟨#[46, 110, 101, 119]⟩).size ≤ 64) (hfl : fl.size ≤ 64) (hne : fl ≠ (fl ++ ⟨#[46, 110, 101, 119]⟩)) (hf : F (fl ++ ⟨#[46, 110, 101, 119]⟩) = none) (hk : k + 4 < maxLen) (hx : 0 ≤ x) (hx2 : x + news.length ≤ 100000000) (hr : x + news.length ≤ rm) (hlf : lenOf F fl ≤ 100000000)
    (hN : N ≤ W.heap.size) (hA : ∀ w', Tn (UpFt Ft n) W w' → Bts w' w'.heap.size A news) (hX : Box W L Dk B0 B1 B2 fl (.slice A news.length cp)) (n0 : ¬ UpFt Ft n B0) (n1 : ¬ UpFt Ft n B1) (n2 : ¬ UpFt Ft n B2) :
    Calls Tryz.prog 69 #[.pointer (some ⟨B0, 0, none⟩), .pointer (some ⟨B1, 0, none⟩), .pointer (some ⟨B2, 0, none⟩)] W fun e w' => e = .returned (.tuple #[]) ∧
      LogS w' N (UpFt Ft n) Dk (k + 4) (((((F.upd (fl ++ ⟨#[46, 110, 101, 119]⟩) (some ([], 0))).upd (fl ++ ⟨#[46, 110, 101, 119]⟩) (some ([] ++ news, 0))).upd (fl ++ ⟨#[46, 110, 101, 119]⟩) (some ([] ++ news, ([] ++ news).length))).upd (fl ++ ⟨#[46, 110, 101, 119]⟩) none).upd fl (some ([] ++ news, ([] ++ news).length))) rm (x + news.length - lenOf F fl) 0 false L G nm sz g false ∧ Tn (UpFt Ft n) W w' := by
  have nL := h.2.2.2.1
  have hcat : ¬ 9223372036854775807 < fl.size + 4 := by omega
  have hcut : (fl ++ ⟨#[46, 110, 101, 119]⟩).size ≤ maxLen := by unfold maxLen; omega
  have K1 : (F.upd (fl ++ ⟨#[46, 110, 101, 119]⟩) (some ([], 0))) (fl ++ ⟨#[46, 110, 101, 119]⟩) = some ([], 0) := by unfold Files.upd; rw [if_pos rfl]
  have K2 : ((F.upd (fl ++ ⟨#[46, 110, 101, 119]⟩) (some ([], 0))).upd (fl ++ ⟨#[46, 110, 101, 119]⟩) (some ([] ++ news, 0))) (fl ++ ⟨#[46, 110, 101, 119]⟩) = some ([] ++ news, 0) := by unfold Files.upd; rw [if_pos rfl]
  have K3 : (((F.upd (fl ++ ⟨#[46, 110, 101, 119]⟩) (some ([], 0))).upd (fl ++ ⟨#[46, 110, 101, 119]⟩) (some ([] ++ news, 0))).upd (fl ++ ⟨#[46, 110, 101, 119]⟩) (some ([] ++ news, ([] ++ news).length))) (fl ++ ⟨#[46, 110, 101, 119]⟩) = some ([] ++ news, ([] ++ news).length) := by unfold Files.upd; rw [if_pos rfl]
  have K4 : lenOf (((F.upd (fl ++ ⟨#[46, 110, 101, 119]⟩) (some ([], 0))).upd (fl ++ ⟨#[46, 110, 101, 119]⟩) (some ([] ++ news, 0))).upd (fl ++ ⟨#[46, 110, 101, 119]⟩) (some ([] ++ news, ([] ++ news).length))) fl = lenOf F fl := by
    rw [lenOf_upd, if_neg hne, lenOf_upd, if_neg hne, lenOf_upd, if_neg hne]
  have hlen : (([] : List UInt8) ++ news).length = news.length := by simp
  have HA := Lib.hid hA
  have HK := Lib.hid hN
  have hT0 : Tn (UpFt Ft n) W W := Tn.refl _ W
  have hw0 : W.heap.size ≤ W.heap.size := Nat.le_refl _
  clear hA
  go_enter Tryz.func69, Tryz.ntmps69
  have HX := Lib.hid hX
  have HT0 := Lib.hid hT0
  have hd : Tn (UpFt Ft n) W W.drew := (Tn.refl _ W).alk ⟨rfl, rfl, rfl, rfl⟩
  have hD := h.alk (w' := W.drew) ⟨rfl, rfl, rfl, rfl⟩
  have hTd : Tn (UpFt Ft n) W W.drew := hT0.trans hd
  have hND : N ≤ W.drew.heap.size := by have := hTd.size; omega
  have q0 := hX.cells.1
  have q1 := hX.cells.2.1
  have q2 := hX.cells.2.2.1
  have q3 := hX.cells.2.2.2
  clear hX hT0
  go_wp2_with fail
  go_region_held3 (fun w' => w'.cell? ⟨B0, 0, none⟩ = some (.pointer (some ⟨L, 0, none⟩)) ∧ w'.cell? ⟨B1, 0, none⟩ = some (.string fl) ∧ w'.cell? ⟨L, 0, none⟩ = some (.pointer (some ⟨Dk, 0, none⟩)) ∧ w'.cell? ⟨B2, 0, none⟩ = some (.slice A news.length cp))
    (first
      | exact (HX.out.tn hd n0 n1 n2 nL).cells
      | exact (HX.out.tn (hd.trans hT1) n0 n1 n2 nL).cells)
    (first
      | (go_at_call 70; refine (create_ok _ N (UpFt Ft n) Dk k F _ rm x 0 hD.1 hb2 hf (by omega) hx (by omega) (by omega) (by omega)).mono ?_; rintro e w1 ⟨rfl, hD1, hT1⟩)
      | (go_at_call 26; refine (must_ok _).mono ?_; rintro e w9 ⟨rfl, rfl⟩))
  have hX : Box w1 L Dk B0 B1 B2 fl (.slice A news.length cp) := HX.out.tn (hd.trans hT1) n0 n1 n2 nL
  have hT0 : Tn (UpFt Ft n) W w1 := hTd.trans hT1
  have hz0 : n ≤ W.drew.heap.size := by have := hTd.size; omega
  have h := hD.back hD1 hT1 (Nat.le_succ _) hz0
  have hn : n ≤ w1.heap.size := by have := hT1.size; omega
  clear HX HT0 hd hD hTd hD1 hT1 q0 q1 q2 q3 hND
  have HX := Lib.hid hX
  have HT0 := Lib.hid hT0
  have hd : Tn (UpFt Ft n) w1 w1.drew := (Tn.refl _ w1).alk ⟨rfl, rfl, rfl, rfl⟩
  have hD := h.alk (w' := w1.drew) ⟨rfl, rfl, rfl, rfl⟩
  have hTd : Tn (UpFt Ft n) W w1.drew := hT0.trans hd
  have hND : N ≤ w1.drew.heap.size := by have := hTd.size; omega
  have q0 := hX.cells.1
  have q1 := hX.cells.2.1
  have q2 := hX.cells.2.2.1
  have q3 := hX.cells.2.2.2
  clear hX hT0
  go_wp2_with fail
  go_region_held3 (fun w' => w'.cell? ⟨B0, 0, none⟩ = some (.pointer (some ⟨L, 0, none⟩)) ∧ w'.cell? ⟨B1, 0, none⟩ = some (.string fl) ∧ w'.cell? ⟨L, 0, none⟩ = some (.pointer (some ⟨Dk, 0, none⟩)) ∧ w'.cell? ⟨B2, 0, none⟩ = some (.slice A news.length cp))
    (first
      | exact (HX.out.tn hd n0 n1 n2 nL).cells
      | exact (HX.out.tn (hd.trans hT1) n0 n1 n2 nL).cells)
    (first
      | (go_at_call 29; refine (append_ok _ N (UpFt Ft n) Dk (k + 1) (F.upd (fl ++ ⟨#[46, 110, 101, 119]⟩) (some ([], 0))) _ rm x 0 A _ cp [] 0 news hD.1 hb2 K1 (by omega) hx (by omega) (by simp) (by omega) hr hND (HA.out _ hTd) (Nat.le_refl _) (by omega) (by omega)).mono ?_; rintro e w2 ⟨rfl, hD1, hT1⟩)
      | (go_at_call 26; refine (must_ok _).mono ?_; rintro e w9 ⟨rfl, rfl⟩))
  have hX : Box w2 L Dk B0 B1 B2 fl (.slice A news.length cp) := HX.out.tn (hd.trans hT1) n0 n1 n2 nL
  have hT0 : Tn (UpFt Ft n) W w2 := hTd.trans hT1
  have hz1 : n ≤ w1.drew.heap.size := by have := hTd.size; omega
  have h := hD.back hD1 hT1 (Nat.le_succ _) hz1
  have hn : n ≤ w2.heap.size := by have := hT1.size; omega
  clear HX HT0 hd hD hTd hD1 hT1 q0 q1 q2 q3 hND
  have HX := Lib.hid hX
  have HT0 := Lib.hid hT0
  have hd : Tn (UpFt Ft n) w2 w2.drew := (Tn.refl _ w2).alk ⟨rfl, rfl, rfl, rfl⟩
  have hD := h.alk (w' := w2.drew) ⟨rfl, rfl, rfl, rfl⟩
  have hTd : Tn (UpFt Ft n) W w2.drew := hT0.trans hd
  have hND : N ≤ w2.drew.heap.size := by have := hTd.size; omega
  have q0 := hX.cells.1
  have q1 := hX.cells.2.1
  have q2 := hX.cells.2.2.1
  have q3 := hX.cells.2.2.2
  clear hX hT0
  go_wp2_with fail
  go_region_held3 (fun w' => w'.cell? ⟨B0, 0, none⟩ = some (.pointer (some ⟨L, 0, none⟩)) ∧ w'.cell? ⟨B1, 0, none⟩ = some (.string fl) ∧ w'.cell? ⟨L, 0, none⟩ = some (.pointer (some ⟨Dk, 0, none⟩)) ∧ w'.cell? ⟨B2, 0, none⟩ = some (.slice A news.length cp))
    (first
      | exact (HX.out.tn hd n0 n1 n2 nL).cells
      | exact (HX.out.tn (hd.trans hT1) n0 n1 n2 nL).cells)
    (first
      | (go_at_call 58; refine (sync_ok _ N (UpFt Ft n) Dk (k + 2) ((F.upd (fl ++ ⟨#[46, 110, 101, 119]⟩) (some ([], 0))).upd (fl ++ ⟨#[46, 110, 101, 119]⟩) (some ([] ++ news, 0))) _ rm (x + news.length) 0 ([] ++ news) 0 hD.1 hb2 K2 (by omega) (by omega) (by omega) (by rw [hlen]; omega) (by omega) (by omega)).mono ?_; rintro e w3 ⟨rfl, hD1, hT1⟩)
      | (go_at_call 26; refine (must_ok _).mono ?_; rintro e w9 ⟨rfl, rfl⟩))
  have hX : Box w3 L Dk B0 B1 B2 fl (.slice A news.length cp) := HX.out.tn (hd.trans hT1) n0 n1 n2 nL
  have hT0 : Tn (UpFt Ft n) W w3 := hTd.trans hT1
  have hz2 : n ≤ w2.drew.heap.size := by have := hTd.size; omega
  have h := hD.back hD1 hT1 (Nat.le_succ _) hz2
  have hn : n ≤ w3.heap.size := by have := hT1.size; omega
  clear HX HT0 hd hD hTd hD1 hT1 q0 q1 q2 q3 hND
  have HX := Lib.hid hX
  have HT0 := Lib.hid hT0
  have hd : Tn (UpFt Ft n) w3 w3.drew := (Tn.refl _ w3).alk ⟨rfl, rfl, rfl, rfl⟩
  have hD := h.alk (w' := w3.drew) ⟨rfl, rfl, rfl, rfl⟩
  have hTd : Tn (UpFt Ft n) W w3.drew := hT0.trans hd
  have hND : N ≤ w3.drew.heap.size := by have := hTd.size; omega
  have q0 := hX.cells.1
  have q1 := hX.cells.2.1
  have q2 := hX.cells.2.2.1
  have q3 := hX.cells.2.2.2
  clear hX hT0
  go_wp2_with fail
  go_region_held3 (fun w' => w'.cell? ⟨B0, 0, none⟩ = some (.pointer (some ⟨L, 0, none⟩)) ∧ w'.cell? ⟨B1, 0, none⟩ = some (.string fl) ∧ w'.cell? ⟨L, 0, none⟩ = some (.pointer (some ⟨Dk, 0, none⟩)) ∧ w'.cell? ⟨B2, 0, none⟩ = some (.slice A news.length cp))
    (first
      | exact (HX.out.tn hd n0 n1 n2 nL).cells
      | exact (HX.out.tn (hd.trans hT1) n0 n1 n2 nL).cells)
    (first
      | (go_at_call 71; refine (rename_S _ N (UpFt Ft n) Dk (k + 3) (((F.upd (fl ++ ⟨#[46, 110, 101, 119]⟩) (some ([], 0))).upd (fl ++ ⟨#[46, 110, 101, 119]⟩) (some ([] ++ news, 0))).upd (fl ++ ⟨#[46, 110, 101, 119]⟩) (some ([] ++ news, ([] ++ news).length))) _ fl rm (x + news.length) 0 ([] ++ news) _ hD.1 hb2 hb hne K3 (by omega) (by rw [hlen]; omega) (by omega) (by rw [K4]; exact hlf) (by omega)).mono ?_; rintro e w4 ⟨rfl, hD1, hT1⟩)
      | (go_at_call 26; refine (must_ok _).mono ?_; rintro e w9 ⟨rfl, rfl⟩))
  have hX : Box w4 L Dk B0 B1 B2 fl (.slice A news.length cp) := HX.out.tn (hd.trans hT1) n0 n1 n2 nL
  have hT0 : Tn (UpFt Ft n) W w4 := hTd.trans hT1
  have hz3 : n ≤ w3.drew.heap.size := by have := hTd.size; omega
  have h := hD.back hD1 hT1 (Nat.le_succ _) hz3
  have hn : n ≤ w4.heap.size := by have := hT1.size; omega
  clear HX HT0 hd hD hTd hD1 hT1 q0 q1 q2 q3 hND
  rw [K4] at h
  have HL := Lib.hid h
  have HT := Lib.hid hT0
  clear h hT0 hX
  go_wp2_with fail
  go_end0
  exact ⟨rfl, HL.out, HT.out⟩
end Go.Proofs.YtfjmplkncopffaaGreatDoor
/- A log's replace, where the power is on for good. Conditions: as stated at each. -/
namespace Go.Proofs.YtfjmplkncopffaaGreatDoor
open Go.RowKit Go.Shelf Go Go.Maps
theorem DiskS.tight {w : World} {N Dk k : Nat} {U : Nat → Prop} {F : Files} {rm x lf : Int} {b : Bool} (h : DiskS w N U Dk k F rm x lf b) : DiskS w N (fun i => U i ∧ i < w.heap.size) Dk k F rm x lf b := by
  obtain ⟨M, D, hD, hM, f1, f2, hF⟩ := h
  exact ⟨M, D, hD, hM, ⟨f1, hD.lt⟩, ⟨f2, Held.lt hM⟩, hF.1, fun s bs z hs => by
    obtain ⟨a, c, e1, e2, e3, e4⟩ := hF.2.1 s bs z hs
    exact ⟨a, c, e1, e2, e3, fun g hg => ⟨e4 g hg, (Own5.blk_lt e2 hg).2⟩⟩, hF.2.2⟩
theorem LogS.tight {W w : World} {N n Dk k L G : Nat} {Ft : Nat → Prop} {F : Files} {rm x lf : Int} {b : Bool} {nm : ByteArray} {sz : Int} {g : List (Nat × Nat)} {dead : Bool} (h : LogS w N (UpFt Ft n) Dk k F rm x lf b L G nm sz g dead) (hn : W.heap.size ≤ n) (hL : ¬ Ft L) (hL2 : L < W.heap.size) (hG : ¬ Ft G) (hG2 : G < W.heap.size) :
    LogS w N (NewFt Ft W w) Dk k F rm x lf b L G nm sz g dead :=
  ⟨h.1.tight.more (fun i hi => hi.1.elim .inl (fun h => .inr ⟨by omega, hi.2⟩)) (Nat.le_refl _), h.2.1, h.2.2.1, newFt_not hL hL2, newFt_not hG hG2⟩
set_option maxHeartbeats 3200000 in
set_option maxRecDepth 20000 in
theorem replace_ok (W : World) (N : Nat) (Ft : Nat → Prop) (Dk k : Nat) (F : Files) (rm x : Int) (L G : Nat) (nm : ByteArray) (sz : Int) (g : List (Nat × Nat)) (j : Nat) (A : Option Addr) (cp : Nat) (news : List UInt8)
    (h : LogS W N Ft Dk k F rm x 0 false L G nm sz g false) (hlow : ∀ i, Ft i → i < W.heap.size) (hj : j ≤ 999999) (hn : nmOk nm) (hf : F (fileN nm j ++ ⟨#[46, 110, 101, 119]⟩) = none) (hk : k + 4 < maxLen) (hx : 0 ≤ x) (hx2 : x + news.length ≤ 100000000) (hr : x + news.length ≤ rm) (hlf : lenOf F (fileN nm j) ≤ 100000000)
    (hN : N ≤ W.heap.size) (hA : ∀ W' w', Below W.heap.size W W' → Tn (UpFt Ft W'.heap.size) W' w' → Bts w' w'.heap.size A news) :
    Calls Tryz.prog 46 #[.pointer (some ⟨L, 0, none⟩), .int .i64 j, .slice A news.length cp] W fun e w' => e = .returned (.int .i64 0) ∧
      LogS w' N (NewFt Ft W w') Dk (k + 4) (((((F.upd (fileN nm j ++ ⟨#[46, 110, 101, 119]⟩) (some ([], 0))).upd (fileN nm j ++ ⟨#[46, 110, 101, 119]⟩) (some ([] ++ news, 0))).upd (fileN nm j ++ ⟨#[46, 110, 101, 119]⟩) (some ([] ++ news, ([] ++ news).length))).upd (fileN nm j ++ ⟨#[46, 110, 101, 119]⟩) none).upd (fileN nm j) (some ([] ++ news, ([] ++ news).length))) rm (x + news.length - lenOf F (fileN nm j)) 0 false L G nm sz g false ∧ Tn Ft W w' := by
  have hmf : ∀ (fn : Fn) (first cap : Array Value) (w : World), (Instr.makeFunc fn first cap).run Tryz.prog w = .ok (.func fn first cap) w := fun _ _ _ _ => rfl
  have hen : ∀ args w, (callFunc 69 args).run Tryz.prog w = .ok (.enter 69 args) w := enters_of Tryz.func69 (by kernel_rfl) rfl
  have hn6 : nm.size ≤ 1000000 := by have := hn.1; omega
  have hnm := hn.1
  have hsz : (fileN nm j).size = nm.size + 7 := fileN_size nm j
  have hsp : (fileN nm j ++ (⟨#[46, 110, 101, 119]⟩ : ByteArray)).size = nm.size + 11 := by rw [ByteArray.size_append, hsz]; rfl
  have hne : fileN nm j ≠ fileN nm j ++ (⟨#[46, 110, 101, 119]⟩ : ByteArray) := fun e => by
    have := congrArg ByteArray.size e
    omega
  have hb := nameB_fileN hn j
  have hb2 : nameB (fileN nm j ++ (⟨#[46, 110, 101, 119]⟩ : ByteArray)) = true := nameB_spare hn j
  obtain ⟨k0, k1, kB⟩ : BlkIs ((W.alloc (.cells #[.pointer (some ⟨L, 0, none⟩)] 32)).alloc (.cells #[.slice A news.length cp] 26)) W.heap.size 32 #[.pointer (some ⟨L, 0, none⟩)] ∧ BlkIs ((W.alloc (.cells #[.pointer (some ⟨L, 0, none⟩)] 32)).alloc (.cells #[.slice A news.length cp] 26)) (W.heap.size + 1) 26 #[.slice A news.length cp] ∧ Below W.heap.size W ((W.alloc (.cells #[.pointer (some ⟨L, 0, none⟩)] 32)).alloc (.cells #[.slice A news.length cp] 26)) := by
    have a1 := BlkIs.new (W.alloc (.cells #[.pointer (some ⟨L, 0, none⟩)] 32)) 26 #[.slice A news.length cp]
    rw [World.size_alloc] at a1
    exact ⟨(BlkIs.new W 32 _).alloc _, a1, ((Below.refl _ W).alloc (Nat.le_refl _) _).alloc (by simp) _⟩
  go_enter Tryz.func46, Tryz.ntmps46
  go_wp2_with fail
  generalize (W.alloc (.cells #[.pointer (some ⟨L, 0, none⟩)] 32)).alloc (.cells #[.slice A news.length cp] 26) = W2 at *
  have hL2 := (h.below kB).2.1
  refine (lfile_any W2 L Dk nm sz G _ false j hL2 hj hn6).mono ?_
  rintro e w1 ⟨rfl, hb1⟩
  have k0' : BlkIs w1 _ 32 _ := (hb1.block _ k0.lt).trans k0
  have k1' : BlkIs w1 _ 26 _ := (hb1.block _ k1.lt).trans k1
  have B1 := kB.trans (hb1.mono kB.size)
  have j0 := k0'.alloc (.cells #[.string (fileN nm j)] 9)
  have j1 := k1'.alloc (.cells #[.string (fileN nm j)] 9)
  have j2 := BlkIs.new w1 9 #[.string (fileN nm j)]
  have B2 := B1.alloc B1.size (.cells #[.string (fileN nm j)] 9)
  have hz1 := B1.size
  have hz2 := hb1.size
  have hkz := k1.lt
  clear k0 k1 k0' k1' hb1 hL2 kB
  go_wp2_with fail
  have hlL := h.ltL
  have hlG := h.ltG
  have hB9 : w1.heap.size < (w1.alloc (.cells #[.string (fileN nm j)] 9)).heap.size := by simp
  generalize w1.alloc (.cells #[.string (fileN nm j)] 9) = W4 at *
  have B5 : Below W.heap.size W (W4.alloc (.cells #[.int .i64 0] 33)) := B2.alloc B2.size _
  have i3 := BlkIs.new W4 33 #[.int .i64 0]
  have i0 := j0.alloc (.cells #[.int .i64 0] 33)
  have i1 := j1.alloc (.cells #[.int .i64 0] 33)
  have i2 := j2.alloc (.cells #[.int .i64 0] 33)
  have hz4 := B2.size
  have hz5 : W4.heap.size < (W4.alloc (.cells #[.int .i64 0] 33)).heap.size := by simp
  have h5' := h.below B5
  have hnotU : ∀ i, i < (W4.alloc (.cells #[.int .i64 0] 33)).heap.size → ¬ Ft i → ¬ UpFt Ft (W4.alloc (.cells #[.int .i64 0] 33)).heap.size i := fun i h1 h2 e => e.elim h2 (fun e => by omega)
  have h5 : LogS (W4.alloc (.cells #[.int .i64 0] 33)) N (UpFt Ft (W4.alloc (.cells #[.int .i64 0] 33)).heap.size) Dk k F rm x 0 false L G nm sz g false := h5'.more (fun i h => .inl h) (Nat.le_refl _) (hnotU L (by omega) h.2.2.2.1) (hnotU G (by omega) h.2.2.2.2)
  have out : ∀ i, W.heap.size ≤ i → ¬ Ft i := fun i hi e => by have := hlow i e; omega
  have hX : Box (W4.alloc (.cells #[.int .i64 0] 33)) L Dk W.heap.size w1.heap.size (W.heap.size + 1) (fileN nm j) (.slice A news.length cp) := ⟨i0, i2, i1, BlkIs.cell h5.2.1 0, by omega⟩
  have hr1 := repl1_any (W4.alloc (.cells #[.int .i64 0] 33)) N Ft Dk k F rm x L G nm sz g (W4.alloc (.cells #[.int .i64 0] 33)).heap.size W.heap.size w1.heap.size (W.heap.size + 1) A cp news (fileN nm j) h5 (Nat.le_refl _) hb hb2 (by omega) (by omega) hne hf hk hx hx2 hr hlf (by omega) (fun w' hT => hA _ w' B5 hT) hX
    (hnotU _ (by omega) (out _ (Nat.le_refl _))) (hnotU _ (by omega) (out _ (by omega))) (hnotU _ (by omega) (out _ (by omega)))
  have hat := Lib.hid (attempt_c 69 _ W4 (fun y w' => y = 0 ∧ LogS w' N (NewFt Ft W w') Dk (k + 4) (((((F.upd (fileN nm j ++ ⟨#[46, 110, 101, 119]⟩) (some ([], 0))).upd (fileN nm j ++ ⟨#[46, 110, 101, 119]⟩) (some ([] ++ news, 0))).upd (fileN nm j ++ ⟨#[46, 110, 101, 119]⟩) (some ([] ++ news, ([] ++ news).length))).upd (fileN nm j ++ ⟨#[46, 110, 101, 119]⟩) none).upd (fileN nm j) (some ([] ++ news, ([] ++ news).length))) rm (x + news.length - lenOf F (fileN nm j)) 0 false L G nm sz g false ∧ Tn Ft W w') (hen _) (hr1.mono (by
    rintro e w' ⟨rfl, q1, q2⟩
    refine ⟨i3.tn q2 (hnotU _ hz5 (out _ (by omega))), .inl ⟨rfl, rfl, q1.tight (by omega) h.2.2.2.1 hlL h.2.2.2.2 hlG, ?_⟩⟩
    have hT1 : Tn (UpFt Ft (W4.alloc (.cells #[.int .i64 0] 33)).heap.size) W w' := (Tn.of_below B5).trans q2
    exact hT1.mono (fun i hi e => e.elim id (fun e => by omega)))))
  clear hr1 hX h5 h5' i0 i1 i2 i3 j0 j1 j2 hA
  refine hat.out.mono ?_
  rintro e w' ⟨y, rfl, rfl, q1, q2⟩
  have Q1 := Lib.hid q1
  have Q2 := Lib.hid q2
  clear q1 q2 hat
  go_wp2_with fail
  go_ret
  exact ⟨rfl, Q1.out, Q2.out⟩
end Go.Proofs.YtfjmplkncopffaaGreatDoor
/- Four bytes as a number. Conditions: none. -/
namespace Go.Proofs.YtfjmplkncopffaaGreatDoor
open Go.RowKit Go
/-- the first k bytes as a number. -/
def wordK (l : List UInt8) : Nat → Nat
  | 0 => 0
  | k + 1 => wordK l k + (l.getD k 0).toNat * 2 ^ (8 * k)
theorem wordK_lt (l : List UInt8) : ∀ k, wordK l k < 2 ^ (8 * k)
  | 0 => by simp [wordK]
  | k + 1 => by
    have h := wordK_lt l k
    have hc := (l.getD k 0).toNat_lt
    have e : 2 ^ (8 * (k + 1)) = 256 * 2 ^ (8 * k) := by rw [show 8 * (k + 1) = 8 + 8 * k from by omega, Nat.pow_add]
    have hm : (l.getD k 0).toNat * 2 ^ (8 * k) ≤ 255 * 2 ^ (8 * k) := Nat.mul_le_mul_right _ (by omega)
    rw [wordK, e]
    omega
theorem wordK_4 (l : List UInt8) : wordK l 4 = num4 l := by
  simp [wordK, num4]
  omega
theorem wordK_or (l : List UInt8) (k : Nat) (hk : k < 4) :
    bits .or .u32 (wordK l k : Nat) (((l.getD k 0).toNat : Int) * 2 ^ (8 * k) % 4294967296) = (wordK l (k + 1) : Nat) := by
  have h0 := wordK_lt l k
  have h1 := wordK_lt l (k + 1)
  have hp : (2 : Nat) ^ (8 * (k + 1)) ≤ 4294967296 := Nat.pow_le_pow_right (n := 2) (by omega) (show 8 * (k + 1) ≤ 32 by omega)
  have e : ((l.getD k 0).toNat : Int) * 2 ^ (8 * k) = (((l.getD k 0).toNat * 2 ^ (8 * k) : Nat) : Int) := by simp
  have hle : wordK l (k + 1) = (l.getD k 0).toNat * 2 ^ (8 * k) + wordK l k := by rw [wordK]; omega
  have hd : (l.getD k 0).toNat * 2 ^ (8 * k) % 2 ^ (8 * k) = 0 := by simp
  rw [e]
  generalize (l.getD k 0).toNat * 2 ^ (8 * k) = p at *
  rw [Int.emod_eq_of_lt (by omega) (by omega), u32_or_nat _ _ (by omega) (by omega), Nat.or_comm, nat_join (8 * k) _ _ hd h0, hle]
theorem or_low (i a b : Nat) (ha : a < 2 ^ i) (hb : b * 2 ^ i < 4294967296) (hi : 2 ^ i < 4294967296) : bits .or .u32 (a : Int) ((b * 2 ^ i : Nat) : Int) = ((a + b * 2 ^ i : Nat) : Int) := by
  rw [u32_or_nat _ _ (by omega) hb, Nat.or_comm, nat_join i _ _ (by simp) ha, Nat.add_comm]
theorem four_or {q0 q1 q2 q3 : Nat} (h0 : q0 < 2 ^ 8) (h1 : q1 < 2 ^ 8) (h2 : q2 < 2 ^ 8) (h3 : q3 < 2 ^ 8) :
    bits .or .u32 (bits .or .u32 (bits .or .u32 (q0 : Int) ((q1 : Int) * 256)) ((q2 : Int) * 65536)) ((q3 : Int) * 16777216) = ((q0 + 256 * q1 + 65536 * q2 + 16777216 * q3 : Nat) : Int) := by
  have e1 : (q1 : Int) * 256 = ((q1 * 2 ^ 8 : Nat) : Int) := by simp
  have e2 : (q2 : Int) * 65536 = ((q2 * 2 ^ 16 : Nat) : Int) := by simp
  have e3 : (q3 : Int) * 16777216 = ((q3 * 2 ^ 24 : Nat) : Int) := by simp
  rw [e1, e2, e3, or_low 8 _ _ h0 (by omega) (by omega), or_low 16 _ _ (by omega) (by omega) (by omega), or_low 24 _ _ (by omega) (by omega) (by omega)]
  congr 1
  omega
end Go.Proofs.YtfjmplkncopffaaGreatDoor
/- frame.word. Conditions: as stated. -/
namespace Go.Proofs.YtfjmplkncopffaaGreatDoor
open Go.RowKit Go
set_option maxHeartbeats 400000 in
theorem word_any (A : Option Addr) (B c : Nat) (l : List UInt8) (w : World) (h : Bts w B A l) (hl : l.length ≤ 1000000000) (h4 : 4 ≤ l.length) :
    Calls Tryz.prog 99 #[.slice A l.length c] w fun e w' => e = .returned (.int .u32 (num4 l : Nat)) ∧ w = w' := by
  have HE := Lib.hid (wordK_4 l)
  go_enter Tryz.func99, Tryz.ntmps99
  go_wp2_with fail
  go_loop [3, 5] (fun x i => ∃ k : Nat, k ≤ 4 ∧ i = .int .i64 k ∧ x = .int .u32 (wordK l k : Nat)) (fun _ i => 4 - (intOf i).toNat)
  case atStart => exact ⟨0, Nat.zero_le _, rfl, rfl⟩
  case round =>
    obtain ⟨k, hk, rfl, rfl⟩ := hrel
    by_cases hlt : k < 4
    · obtain ⟨ad, rfl, _, hcell⟩ := h.at_ (show k < l.length by omega)
      have hor := wordK_or l k hlt
      generalize hz : wordK l k = z at *
      generalize hz2 : wordK l (k + 1) = z2 at *
      generalize hq : l.getD k 0 = q at *
      have HZ := Lib.hid hz
      have HZ2 := Lib.hid hz2
      clear hz hz2 hq
      have hqlt := q.toNat_lt
      go_wp2_with fail
      go_round
      case rel => exact ⟨k + 1, by omega, by go_num, by rw [HZ2.out]⟩
      case measure => simp [intOf]; omega
    · obtain rfl : k = 4 := by omega
      go_wp2_with fail
      go_ret
      exact ⟨ret_u (by rw [HE.out]), rfl⟩
end Go.Proofs.YtfjmplkncopffaaGreatDoor
/- frame.cut. Conditions: as stated. -/
namespace Go.Proofs.YtfjmplkncopffaaGreatDoor
open Go.RowKit Go
def CutNone (W : World) (A : Option Addr) (c : Nat) (l : List UInt8) (e : Ending) (w' : World) : Prop :=
  e = .returned (.tuple #[.slice none 0 0, .slice A l.length c, .bool false]) ∧ ∃ m, w' = W.drewN m
def CutSome (W : World) (B : Nat) (l : List UInt8) (n : Nat) (e : Ending) (w' : World) : Prop :=
  ∃ A1 c1 A2 c2, e = .returned (.tuple #[.slice A1 ((l.drop 8).take n).length c1, .slice A2 (l.drop (8 + n)).length c2, .bool true]) ∧ Bts W B A1 ((l.drop 8).take n) ∧ ((l.drop 8).take n).length ≤ c1 ∧ c1 ≤ maxLen ∧
    Bts W B A2 (l.drop (8 + n)) ∧ (l.drop (8 + n)).length ≤ c2 ∧ c2 ≤ maxLen ∧ ∃ m, w' = W.drewN m
theorem crc_q (A : Option Addr) (B c n : Nat) (l : List UInt8) (w : World) (k : Nat) (h : Bts w B A l) (hn : l.length = n) (hl : n ≤ 1000000000) :
    Calls Tryz.prog 68 #[.slice A n c] (w.drewN k) fun e w' => e = .returned (.int .u32 (crc l : Nat)) ∧ ∃ m, w' = w.drewN m := by
  subst hn
  exact (crc_any A B c l _ (h.below (drewN_below w B k)) hl).mono fun _ _ ⟨he, hw⟩ => ⟨he, k, hw.symm⟩
theorem word_q (A : Option Addr) (B c n : Nat) (l : List UInt8) (w : World) (k : Nat) (h : Bts w B A l) (hn : l.length = n) (hl : n ≤ 1000000000) (h4 : 4 ≤ n) :
    Calls Tryz.prog 99 #[.slice A n c] (w.drewN k) fun e w' => e = .returned (.int .u32 (num4 l : Nat)) ∧ ∃ m, w' = w.drewN m := by
  subst hn
  exact (word_any A B c l _ (h.below (drewN_below w B k)) hl h4).mono fun _ _ ⟨he, hw⟩ => ⟨he, k, hw.symm⟩
set_option maxHeartbeats 800000 in
theorem cut_none (A : Option Addr) (B c : Nat) (l : List UInt8) (w : World) (hbt : Bts w B A l) (hl : l.length ≤ c) (hm : l.length ≤ 1000000000) (hn : cutN l = none) :
    Calls Tryz.prog 88 #[.slice A l.length c] w fun e w' => CutNone w A c l e w' := by
  have HN := Lib.hid hn
  clear hn
  by_cases h8 : l.length < 8
  · clear HN
    go_enter Tryz.func88, Tryz.ntmps88
    go_wp2_with fail
    refine bodyPost_ret (v := .tuple #[.slice none 0 0, .slice A l.length c, .bool false]) (by simp [results, Tryz.results88, go_sem]) rfl ⟨rfl, 0, rfl⟩
  · have hw := num4_lt l
    by_cases hbig : 1000000 < num4 l
    · go_enter Tryz.func88, Tryz.ntmps88
      go_wp2_with (go_at_call 99; refine (word_any _ _ _ _ _ hbt (by omega) (by omega)).mono ?_; rintro e w' ⟨rfl, rfl⟩)
      refine bodyPost_ret (v := .tuple #[.slice none 0 0, .slice A l.length c, .bool false]) (by simp [results, Tryz.results88, go_sem]) rfl ⟨rfl, 0, rfl⟩
    · by_cases hlong : l.length - 8 < num4 l
      · have hlong' : (l.length : Int) - 8 < (num4 l : Int) := by omega
        go_enter Tryz.func88, Tryz.ntmps88
        go_wp2_with (go_at_call 99; refine (word_any _ _ _ _ _ hbt (by omega) (by omega)).mono ?_; rintro e w' ⟨rfl, rfl⟩)
        refine bodyPost_ret (v := .tuple #[.slice none 0 0, .slice A l.length c, .bool false]) (by simp [results, Tryz.results88, go_sem]) rfl ⟨rfl, 0, rfl⟩
      · obtain ⟨ad, rfl, _, _⟩ := hbt.at_ (show 0 < l.length by omega)
        have hne : crc ((l.drop 8).take (num4 l)) ≠ num4 (l.drop 4) := fun e => by
          have := HN.out
          unfold cutN at this
          rw [if_neg h8, if_neg hbig, if_neg hlong, if_pos e] at this
          cases this
        have HE := Lib.hid hne
        clear hne
        go_enter Tryz.func88, Tryz.ntmps88
        go_wp2_with (go_at_call 99; refine (word_any _ _ _ _ _ hbt (by omega) (by omega)).mono ?_; rintro e w' ⟨rfl, rfl⟩)
        all_goals
          have hL : ((l.drop 8).take (num4 l)).length = num4 l := by simp; omega
          have hL4 : (l.drop 4).length = l.length - 4 := by simp
          have hR4 := hbt.drop_eq 4
          have hR : Bts w B (some (ad.add 8)) ((l.drop 8).take (num4 l)) ∧ (c = 8 → Bts w B (some ad) ((l.drop 8).take (num4 l))) :=
            ⟨(hbt.drop_eq 8).take _, fun e => (hbt.drop_all 8 (by omega)).take _⟩
          have HR := Lib.hid hR
          have HL := Lib.hid hL
          have HL4 := Lib.hid hL4
          have b1 : 4 ≤ l.length := by omega
          clear hR hL hL4
          go_quiet (first | (go_at_call 68; exact crc_q _ _ _ _ _ _ _ HR.out.1 HL.out (by omega)) | (go_at_call 68; exact crc_q _ _ _ _ _ _ _ (HR.out.2 (by assumption)) HL.out (by omega)) | (go_at_call 99; exact word_q _ _ _ _ _ _ _ hR4 HL4.out (by omega) (by omega)))
          have hx : (((crc ((l.drop 8).take (num4 l)) : Nat) : Int) != ((num4 (l.drop 4) : Nat) : Int)) = true := by
            have := HE.out
            simp only [bne_iff_ne, ne_eq]
            omega
          go_wp2_with fail
        · refine bodyPost_ret (v := .tuple #[.slice none 0 0, .slice (some ad) l.length 8, .bool false]) (by simp [results, Tryz.results88, go_sem]) rfl ⟨by rw [show c = 8 from by assumption], _, rfl⟩
        · refine bodyPost_ret (v := .tuple #[.slice none 0 0, .slice (some ad) l.length c, .bool false]) (by simp [results, Tryz.results88, go_sem]) rfl ⟨rfl, _, rfl⟩
set_option maxHeartbeats 1600000 in
theorem cut_in (A : Option Addr) (B c : Nat) (l : List UInt8) (w : World) (n : Nat) (hbt : Bts w B A l) (hl : l.length ≤ c) (hc : c ≤ maxLen) (hm : l.length ≤ 1000000000) (hn : cutN l = some n) (c8 : ¬ c = 8) (cn : ¬ c = 8 + n) :
    Calls Tryz.prog 88 #[.slice A l.length c] w fun e w' => CutSome w B l n e w' := by
  obtain ⟨h1, h2, h3, h4⟩ := cutN_yes hn
  obtain ⟨ad, rfl, _, _⟩ := hbt.at_ (show 0 < l.length by omega)
  have HC := Lib.hid hc
  unfold maxLen at hc
  have hw := num4_lt l
  have hL : ((l.drop 8).take n).length = n := by simp; omega
  have hL4 : (l.drop 4).length = l.length - 4 := by simp
  have hL8 : (l.drop (8 + n)).length = l.length - (8 + n) := by simp
  have hR4 := hbt.drop_eq 4
  have HR : Bts w B (some (ad.add 8)) ((l.drop 8).take n) := (hbt.drop_eq 8).take _
  have HS : Bts w B (some (ad.add (8 + n))) (l.drop (8 + n)) := hbt.drop_eq (8 + n)
  have hWord := fun k => word_q (some (ad.add 4)) B (c - 4) (l.length - 4) (l.drop 4) w k hR4 hL4 (by omega) (by omega)
  have HX : Hid (crc ((l.drop 8).take n) = num4 (l.drop 4)) := Lib.hid h4
  clear hn h4
  have hx : (((crc ((l.drop 8).take n) : Nat) : Int) != ((num4 (l.drop 4) : Nat) : Int)) = false := by
    have := HX.out
    simp only [bne_eq_false_iff_eq]
    omega
  subst h1
  have e88 : 8 + num4 l - 8 = num4 l := by omega
  have n1 : ¬ 1000000 < num4 l := by omega
  have n2 : ¬ l.length - 8 < num4 l := by omega
  have b1 : 4 ≤ l.length := by omega
  have HL := Lib.hid hL
  have HL8 := Lib.hid hL8
  have HE := Lib.hid e88
  clear hL hL4 hL8 e88
  go_enter Tryz.func88, Tryz.ntmps88
  go_wp2_with (go_at_call 99; refine (word_any _ _ _ _ _ hbt (by omega) (by omega)).mono ?_; rintro e w' ⟨rfl, rfl⟩)
  go_quiet (first | (go_at_call 68; exact crc_q _ _ _ _ _ _ _ HR HL.out (by omega)) | (go_at_call 99; exact hWord _))
  go_wp2_with fail
  go_quiet (fail)
  go_wp2_with fail
  refine bodyPost_ret (v := .tuple #[.slice (some ⟨ad.block, ad.off + 8, none⟩) (8 + num4 l - 8) (c - 8), .slice (some (ad.add (8 + num4 l))) (l.length - (8 + num4 l)) (c - (8 + num4 l)), .bool true]) (by simp [results, Tryz.results88, go_sem]) rfl ?_
  refine ⟨_, c - 8, _, c - (8 + num4 l), by rw [HE.out, HL.out, HL8.out]; rfl, HR, by rw [HL.out]; omega, by have := HC.out; omega, ?_, by rw [HL8.out]; omega, by have := HC.out; omega, ?_⟩
  · exact HS
  · exact ⟨_, World.drewN_drewN _ _ _⟩
set_option maxHeartbeats 1600000 in
theorem cut_eight (A : Option Addr) (B : Nat) (l : List UInt8) (w : World) (hbt : Bts w B A l) (hl : l.length ≤ 8) (hn : cutN l = some 0) :
    Calls Tryz.prog 88 #[.slice A l.length 8] w fun e w' => CutSome w B l 0 e w' := by
  obtain ⟨h1, h2, _, h4⟩ := cutN_yes hn
  obtain ⟨ad, rfl, _, _⟩ := hbt.at_ (show 0 < l.length by omega)
  have hR4 := hbt.drop_eq 4
  have hw1 : Calls Tryz.prog 99 #[.slice (some ad) l.length 8] w fun e w' => e = .returned (.int .u32 0) ∧ w = w' := by
    have := word_any (some ad) B 8 l w hbt (by omega) (by omega)
    rw [← h1] at this
    exact this
  have hWord := fun k => word_q (some (ad.add 4)) B 4 (l.length - 4) (l.drop 4) w k hR4 (by simp) (by omega) (by omega)
  have hCrc := fun k => crc_q (some ad) B 0 0 [] w k Cs.nil rfl (by omega)
  rw [List.take_zero] at h4
  have hx : (((crc [] : Nat) : Int) != ((num4 (l.drop 4) : Nat) : Int)) = false := by
    simp only [bne_eq_false_iff_eq]
    omega
  have b1 : 4 ≤ l.length := by omega
  have b2 : 8 ≤ l.length := by omega
  generalize num4 (l.drop 4) = z2 at *
  generalize crc [] = z1 at *
  have HS : Bts w B (some ad) (l.drop 8) := hbt.drop_all 8 hl
  clear hn h1 h4 h2
  go_enter Tryz.func88, Tryz.ntmps88
  go_wp2_with (go_at_call 99; refine hw1.mono ?_; rintro e w' ⟨rfl, rfl⟩)
  go_quiet (first | (go_at_call 68; exact hCrc _) | (go_at_call 99; exact hWord _))
  go_wp2_with fail
  go_quiet (fail)
  go_wp2_with fail
  refine bodyPost_ret (v := .tuple #[.slice (some ad) 0 0, .slice (some ad) 0 0, .bool true]) (by simp [results, Tryz.results88, go_sem]) rfl ?_
  refine ⟨some ad, 0, some ad, 0, by simp; omega, Cs.nil, by simp, by unfold maxLen; omega, HS, by simp; omega, by unfold maxLen; omega, ?_⟩
  exact ⟨_, World.drewN_drewN _ _ _⟩
set_option maxHeartbeats 1600000 in
theorem cut_whole (A : Option Addr) (B c : Nat) (l : List UInt8) (w : World) (n : Nat) (hbt : Bts w B A l) (hl : l.length ≤ c) (hc : c ≤ maxLen) (hm : l.length ≤ 1000000000) (hn : cutN l = some n) (c8 : ¬ c = 8) (cn : c = 8 + n) :
    Calls Tryz.prog 88 #[.slice A l.length c] w fun e w' => CutSome w B l n e w' := by
  obtain ⟨h1, h2, h3, h4⟩ := cutN_yes hn
  obtain ⟨ad, rfl, _, _⟩ := hbt.at_ (show 0 < l.length by omega)
  have HC := Lib.hid hc
  unfold maxLen at hc
  have hw := num4_lt l
  have hL : ((l.drop 8).take n).length = n := by simp; omega
  have hL4 : (l.drop 4).length = l.length - 4 := by simp
  have hL8 : (l.drop (8 + n)).length = l.length - (8 + n) := by simp
  have hR4 := hbt.drop_eq 4
  have HR : Bts w B (some (ad.add 8)) ((l.drop 8).take n) := (hbt.drop_eq 8).take _
  have HS : Bts w B (some (ad.add (8 + n))) (l.drop (8 + n)) := hbt.drop_eq (8 + n)
  have hWord := fun k => word_q (some (ad.add 4)) B (c - 4) (l.length - 4) (l.drop 4) w k hR4 hL4 (by omega) (by omega)
  have HX : Hid (crc ((l.drop 8).take n) = num4 (l.drop 4)) := Lib.hid h4
  clear hn h4
  have hx : (((crc ((l.drop 8).take n) : Nat) : Int) != ((num4 (l.drop 4) : Nat) : Int)) = false := by
    have := HX.out
    simp only [bne_eq_false_iff_eq]
    omega
  subst h1
  have e88 : 8 + num4 l - 8 = num4 l := by omega
  have n1 : ¬ 1000000 < num4 l := by omega
  have n2 : ¬ l.length - 8 < num4 l := by omega
  have b1 : 4 ≤ l.length := by omega
  have HL := Lib.hid hL
  have HL8 := Lib.hid hL8
  have HE := Lib.hid e88
  clear hL hL4 hL8 e88
  subst cn
  have hz : ¬ num4 l = 0 := by omega
  have hz2 : ¬ 8 + num4 l = 4 := by omega
  have HS' : Bts w B (some ad) (l.drop (8 + num4 l)) := hbt.drop_all (8 + num4 l) (by omega)
  go_enter Tryz.func88, Tryz.ntmps88
  go_wp2_with (go_at_call 99; refine (word_any _ _ _ _ _ hbt (by omega) (by omega)).mono ?_; rintro e w' ⟨rfl, rfl⟩)
  go_quiet (first | (go_at_call 68; exact crc_q _ _ _ _ _ _ _ HR HL.out (by omega)) | (go_at_call 99; exact hWord _))
  go_wp2_with fail
  go_quiet (fail)
  go_wp2_with fail
  refine bodyPost_ret (v := .tuple #[.slice (some ⟨ad.block, ad.off + 8, none⟩) (8 + num4 l - 8) (num4 l), .slice (some ad) (l.length - (8 + num4 l)) 0, .bool true]) (by simp [results, Tryz.results88, go_sem]) rfl ?_
  refine ⟨_, num4 l, some ad, 0, by rw [HE.out, HL.out, HL8.out]; rfl, HR, by rw [HL.out]; exact Nat.le_refl _, by have := HC.out; omega, HS', by rw [HL8.out]; omega, by unfold maxLen; omega, ?_⟩
  exact ⟨_, World.drewN_drewN _ _ _⟩
theorem cut_some (A : Option Addr) (B c : Nat) (l : List UInt8) (w : World) (n : Nat) (hbt : Bts w B A l) (hl : l.length ≤ c) (hc : c ≤ maxLen) (hm : l.length ≤ 1000000000) (hn : cutN l = some n) :
    Calls Tryz.prog 88 #[.slice A l.length c] w fun e w' => CutSome w B l n e w' := by
  have h2 := (cutN_yes hn).2.1
  by_cases c8 : c = 8
  · subst c8
    obtain rfl : n = 0 := by omega
    exact cut_eight A B l w hbt hl hn
  · by_cases cn : c = 8 + n
    · exact cut_whole A B c l w n hbt hl hc hm hn c8 cn
    · exact cut_in A B c l w n hbt hl hc hm hn c8 cn
end Go.Proofs.YtfjmplkncopffaaGreatDoor
