/- SlRepl SlRepl2. Conditions: as stated at each. -/
import Derived.Test.YtidadjlhnlmfkaaGreatDoorKt23
import Derived.Test.YtidadjlhnlmfkaaGreatDoorKt20
/- A log's replace: the closure, where the power is on for good. Conditions: as stated at each. -/
namespace Go.Proofs.YtidadjlhnlmfkaaGreatDoor
open Go.RowKit Go.Shelf Go Go.Maps
/-- Ft's blocks, and all that are made from n on. -/
def UpFt (Ft : Nat → Prop) (n : Nat) (i : Nat) : Prop := Ft i ∨ n ≤ i
theorem LogS.back {w w' : World} {N n Dk k k' L G : Nat} {Ft : Nat → Prop} {F F' : Files} {rm x x' lf lf' : Int} {b b' : Bool} {nm : ByteArray} {sz : Int} {g : List (Nat × Nat)} {dead : Bool} (h : LogS w N (UpFt Ft n) Dk k F rm x lf b L G nm sz g dead) (hD : DiskS w' N (NewFt (UpFt Ft n) w w') Dk k' F' rm x' lf' b') (hT : Tn (UpFt Ft n) w w') (hk : k ≤ k') (hn : n ≤ w.heap.size) : LogS w' N (UpFt Ft n) Dk k' F' rm x' lf' b' L G nm sz g dead := by
  have h' := h.disk hD hT hk
  refine h'.more (fun i hi => ?_) (Nat.le_refl _) h.2.2.2.1 h.2.2.2.2
  rcases hi with hi | ⟨hi, _⟩
  · exact hi
  · exact .inr (by omega)
structure Box (w : World) (L Dk B0 B1 B2 : Nat) (fl : ByteArray) (v : Value) : Prop where
  b0 : BlkIs w B0 32 #[.pointer (some ⟨L, 0, none⟩)]
  b1 : BlkIs w B1 9 #[.string fl]
  b2 : BlkIs w B2 26 #[v]
  cL : w.cell? ⟨L, 0, none⟩ = some (.pointer (some ⟨Dk, 0, none⟩))
  lL : L < w.heap.size
theorem Box.tn {w w' : World} {L Dk B0 B1 B2 : Nat} {fl : ByteArray} {v : Value} {U : Nat → Prop} (h : Box w L Dk B0 B1 B2 fl v) (hT : Tn U w w') (n0 : ¬ U B0) (n1 : ¬ U B1) (n2 : ¬ U B2) (nL : ¬ U L) : Box w' L Dk B0 B1 B2 fl v :=
  ⟨h.b0.tn hT n0, h.b1.tn hT n1, h.b2.tn hT n2, by rw [← h.cL]; simp [World.cell?, hT.block L h.lL nL], Nat.lt_of_lt_of_le h.lL hT.size⟩
theorem Box.cells {w : World} {L Dk B0 B1 B2 : Nat} {fl : ByteArray} {v : Value} (h : Box w L Dk B0 B1 B2 fl v) : w.cell? ⟨B0, 0, none⟩ = some (.pointer (some ⟨L, 0, none⟩)) ∧ w.cell? ⟨B1, 0, none⟩ = some (.string fl) ∧ w.cell? ⟨L, 0, none⟩ = some (.pointer (some ⟨Dk, 0, none⟩)) ∧ w.cell? ⟨B2, 0, none⟩ = some v :=
  ⟨h.b0.cell 0, h.b1.cell 0, h.cL, h.b2.cell 0⟩
set_option maxHeartbeats 3200000 in
set_option maxRecDepth 20000 in
theorem repl1_any (W : World) (N : Nat) (Ft : Nat → Prop) (Dk k : Nat) (F : Files) (rm x : Int) (L G : Nat) (nm : ByteArray) (sz : Int) (g : List (Nat × Nat)) (n B0 B1 B2 : Nat) (A : Option Addr) (cp : Nat) (news : List UInt8) (fl : ByteArray)
    (h : LogS W N (UpFt Ft n) Dk k F rm x 0 false L G nm sz g false) (hn : n ≤ W.heap.size) (hb : nameB fl = true) (hb2 : nameB (fl ++ ⟨#[46, 110, 101, 119]⟩) = true) (hs : (fl ++ ⟨#[46, 110, 101, 119]⟩).size ≤ 64) (hfl : fl.size ≤ 64) (hne : fl ≠ (fl ++ ⟨#[46, 110, 101, 119]⟩)) (hf : F (fl ++ ⟨#[46, 110, 101, 119]⟩) = none) (hk : k + 4 < maxLen) (hx : 0 ≤ x) (hx2 : x + news.length ≤ 100000000) (hr : x + news.length ≤ rm) (hlf : lenOf F fl ≤ 100000000)
    (hN : N ≤ W.heap.size) (hA : ∀ w', Tn (UpFt Ft n) W w' → Bts w' w'.heap.size A news) (hX : Box W L Dk B0 B1 B2 fl (.slice A news.length cp)) (n0 : ¬ UpFt Ft n B0) (n1 : ¬ UpFt Ft n B1) (n2 : ¬ UpFt Ft n B2) :
    Calls Tryz.prog 70 #[.pointer (some ⟨B0, 0, none⟩), .pointer (some ⟨B1, 0, none⟩), .pointer (some ⟨B2, 0, none⟩)] W fun e w' => e = .returned (.tuple #[]) ∧
      LogS w' N (UpFt Ft n) Dk (k + 4) (((((F.upd (fl ++ ⟨#[46, 110, 101, 119]⟩) (some ([], 0))).upd (fl ++ ⟨#[46, 110, 101, 119]⟩) (some ([] ++ news, 0))).upd (fl ++ ⟨#[46, 110, 101, 119]⟩) (some ([] ++ news, ([] ++ news).length))).upd (fl ++ ⟨#[46, 110, 101, 119]⟩) none).upd fl (some ([] ++ news, ([] ++ news).length))) rm (x + news.length - lenOf F fl) 0 false L G nm sz g false ∧ Tn (UpFt Ft n) W w' := by
  have nL := h.2.2.2.1
  have hcat : ¬ 9223372036854775807 < fl.size + 4 := by omega
  have hcut : (fl ++ ⟨#[46, 110, 101, 119]⟩).size ≤ maxLen := by unfold maxLen; omega
  have K1 : (F.upd (fl ++ ⟨#[46, 110, 101, 119]⟩) (some ([], 0))) (fl ++ ⟨#[46, 110, 101, 119]⟩) = some ([], 0) := by unfold Files.upd; rw [if_pos rfl]
  have K2 : ((F.upd (fl ++ ⟨#[46, 110, 101, 119]⟩) (some ([], 0))).upd (fl ++ ⟨#[46, 110, 101, 119]⟩) (some ([] ++ news, 0))) (fl ++ ⟨#[46, 110, 101, 119]⟩) = some ([] ++ news, 0) := by unfold Files.upd; rw [if_pos rfl]
  have K3 : (((F.upd (fl ++ ⟨#[46, 110, 101, 119]⟩) (some ([], 0))).upd (fl ++ ⟨#[46, 110, 101, 119]⟩) (some ([] ++ news, 0))).upd (fl ++ ⟨#[46, 110, 101, 119]⟩) (some ([] ++ news, ([] ++ news).length))) (fl ++ ⟨#[46, 110, 101, 119]⟩) = some ([] ++ news, ([] ++ news).length) := by unfold Files.upd; rw [if_pos rfl]
  have K4 : lenOf (((F.upd (fl ++ ⟨#[46, 110, 101, 119]⟩) (some ([], 0))).upd (fl ++ ⟨#[46, 110, 101, 119]⟩) (some ([] ++ news, 0))).upd (fl ++ ⟨#[46, 110, 101, 119]⟩) (some ([] ++ news, ([] ++ news).length))) fl = lenOf F fl := by
    rw [lenOf_upd, if_neg hne, lenOf_upd, if_neg hne, lenOf_upd, if_neg hne]
  have hlen : (([] : List UInt8) ++ news).length = news.length := by simp
  have HA := Lib.hid hA
  have HK := Lib.hid hN
  have hT0 : Tn (UpFt Ft n) W W := Tn.refl _ W
  have hw0 : W.heap.size ≤ W.heap.size := Nat.le_refl _
  clear hA
  go_enter Tryz.func70, Tryz.ntmps70
  have HX := Lib.hid hX
  have HT0 := Lib.hid hT0
  have hd : Tn (UpFt Ft n) W W.drew := (Tn.refl _ W).alk ⟨rfl, rfl, rfl, rfl⟩
  have hD := h.alk (w' := W.drew) ⟨rfl, rfl, rfl, rfl⟩
  have hTd : Tn (UpFt Ft n) W W.drew := hT0.trans hd
  have hND : N ≤ W.drew.heap.size := by have := hTd.size; omega
  have q0 := hX.cells.1
  have q1 := hX.cells.2.1
  have q2 := hX.cells.2.2.1
  have q3 := hX.cells.2.2.2
  clear hX hT0
  go_wp2_with fail
  go_region_held3 (fun w' => w'.cell? ⟨B0, 0, none⟩ = some (.pointer (some ⟨L, 0, none⟩)) ∧ w'.cell? ⟨B1, 0, none⟩ = some (.string fl) ∧ w'.cell? ⟨L, 0, none⟩ = some (.pointer (some ⟨Dk, 0, none⟩)) ∧ w'.cell? ⟨B2, 0, none⟩ = some (.slice A news.length cp))
    (first
      | exact (HX.out.tn hd n0 n1 n2 nL).cells
      | exact (HX.out.tn (hd.trans hT1) n0 n1 n2 nL).cells)
    (first
      | (go_at_call 71; refine (create_ok _ N (UpFt Ft n) Dk k F _ rm x 0 hD.1 hb2 hf (by omega) hx (by omega) (by omega) (by omega)).mono ?_; rintro e w1 ⟨rfl, hD1, hT1⟩)
      | (go_at_call 26; refine (must_ok _).mono ?_; rintro e w9 ⟨rfl, rfl⟩))
  have hX : Box w1 L Dk B0 B1 B2 fl (.slice A news.length cp) := HX.out.tn (hd.trans hT1) n0 n1 n2 nL
  have hT0 : Tn (UpFt Ft n) W w1 := hTd.trans hT1
  have hz0 : n ≤ W.drew.heap.size := by have := hTd.size; omega
  have h := hD.back hD1 hT1 (Nat.le_succ _) hz0
  have hn : n ≤ w1.heap.size := by have := hT1.size; omega
  clear HX HT0 hd hD hTd hD1 hT1 q0 q1 q2 q3 hND
  have HX := Lib.hid hX
  have HT0 := Lib.hid hT0
  have hd : Tn (UpFt Ft n) w1 w1.drew := (Tn.refl _ w1).alk ⟨rfl, rfl, rfl, rfl⟩
  have hD := h.alk (w' := w1.drew) ⟨rfl, rfl, rfl, rfl⟩
  have hTd : Tn (UpFt Ft n) W w1.drew := hT0.trans hd
  have hND : N ≤ w1.drew.heap.size := by have := hTd.size; omega
  have q0 := hX.cells.1
  have q1 := hX.cells.2.1
  have q2 := hX.cells.2.2.1
  have q3 := hX.cells.2.2.2
  clear hX hT0
  go_wp2_with fail
  go_region_held3 (fun w' => w'.cell? ⟨B0, 0, none⟩ = some (.pointer (some ⟨L, 0, none⟩)) ∧ w'.cell? ⟨B1, 0, none⟩ = some (.string fl) ∧ w'.cell? ⟨L, 0, none⟩ = some (.pointer (some ⟨Dk, 0, none⟩)) ∧ w'.cell? ⟨B2, 0, none⟩ = some (.slice A news.length cp))
    (first
      | exact (HX.out.tn hd n0 n1 n2 nL).cells
      | exact (HX.out.tn (hd.trans hT1) n0 n1 n2 nL).cells)
    (first
      | (go_at_call 29; refine (append_ok _ N (UpFt Ft n) Dk (k + 1) (F.upd (fl ++ ⟨#[46, 110, 101, 119]⟩) (some ([], 0))) _ rm x 0 A _ cp [] 0 news hD.1 hb2 K1 (by omega) hx (by omega) (by simp) (by omega) hr hND (HA.out _ hTd) (Nat.le_refl _) (by omega) (by omega)).mono ?_; rintro e w2 ⟨rfl, hD1, hT1⟩)
      | (go_at_call 26; refine (must_ok _).mono ?_; rintro e w9 ⟨rfl, rfl⟩))
  have hX : Box w2 L Dk B0 B1 B2 fl (.slice A news.length cp) := HX.out.tn (hd.trans hT1) n0 n1 n2 nL
  have hT0 : Tn (UpFt Ft n) W w2 := hTd.trans hT1
  have hz1 : n ≤ w1.drew.heap.size := by have := hTd.size; omega
  have h := hD.back hD1 hT1 (Nat.le_succ _) hz1
  have hn : n ≤ w2.heap.size := by have := hT1.size; omega
  clear HX HT0 hd hD hTd hD1 hT1 q0 q1 q2 q3 hND
  have HX := Lib.hid hX
  have HT0 := Lib.hid hT0
  have hd : Tn (UpFt Ft n) w2 w2.drew := (Tn.refl _ w2).alk ⟨rfl, rfl, rfl, rfl⟩
  have hD := h.alk (w' := w2.drew) ⟨rfl, rfl, rfl, rfl⟩
  have hTd : Tn (UpFt Ft n) W w2.drew := hT0.trans hd
  have hND : N ≤ w2.drew.heap.size := by have := hTd.size; omega
  have q0 := hX.cells.1
  have q1 := hX.cells.2.1
  have q2 := hX.cells.2.2.1
  have q3 := hX.cells.2.2.2
  clear hX hT0
  go_wp2_with fail
  go_region_held3 (fun w' => w'.cell? ⟨B0, 0, none⟩ = some (.pointer (some ⟨L, 0, none⟩)) ∧ w'.cell? ⟨B1, 0, none⟩ = some (.string fl) ∧ w'.cell? ⟨L, 0, none⟩ = some (.pointer (some ⟨Dk, 0, none⟩)) ∧ w'.cell? ⟨B2, 0, none⟩ = some (.slice A news.length cp))
    (first
      | exact (HX.out.tn hd n0 n1 n2 nL).cells
      | exact (HX.out.tn (hd.trans hT1) n0 n1 n2 nL).cells)
    (first
      | (go_at_call 59; refine (sync_ok _ N (UpFt Ft n) Dk (k + 2) ((F.upd (fl ++ ⟨#[46, 110, 101, 119]⟩) (some ([], 0))).upd (fl ++ ⟨#[46, 110, 101, 119]⟩) (some ([] ++ news, 0))) _ rm (x + news.length) 0 ([] ++ news) 0 hD.1 hb2 K2 (by omega) (by omega) (by omega) (by rw [hlen]; omega) (by omega) (by omega)).mono ?_; rintro e w3 ⟨rfl, hD1, hT1⟩)
      | (go_at_call 26; refine (must_ok _).mono ?_; rintro e w9 ⟨rfl, rfl⟩))
  have hX : Box w3 L Dk B0 B1 B2 fl (.slice A news.length cp) := HX.out.tn (hd.trans hT1) n0 n1 n2 nL
  have hT0 : Tn (UpFt Ft n) W w3 := hTd.trans hT1
  have hz2 : n ≤ w2.drew.heap.size := by have := hTd.size; omega
  have h := hD.back hD1 hT1 (Nat.le_succ _) hz2
  have hn : n ≤ w3.heap.size := by have := hT1.size; omega
  clear HX HT0 hd hD hTd hD1 hT1 q0 q1 q2 q3 hND
  have HX := Lib.hid hX
  have HT0 := Lib.hid hT0
  have hd : Tn (UpFt Ft n) w3 w3.drew := (Tn.refl _ w3).alk ⟨rfl, rfl, rfl, rfl⟩
  have hD := h.alk (w' := w3.drew) ⟨rfl, rfl, rfl, rfl⟩
  have hTd : Tn (UpFt Ft n) W w3.drew := hT0.trans hd
  have hND : N ≤ w3.drew.heap.size := by have := hTd.size; omega
  have q0 := hX.cells.1
  have q1 := hX.cells.2.1
  have q2 := hX.cells.2.2.1
  have q3 := hX.cells.2.2.2
  clear hX hT0
  go_wp2_with fail
  go_region_held3 (fun w' => w'.cell? ⟨B0, 0, none⟩ = some (.pointer (some ⟨L, 0, none⟩)) ∧ w'.cell? ⟨B1, 0, none⟩ = some (.string fl) ∧ w'.cell? ⟨L, 0, none⟩ = some (.pointer (some ⟨Dk, 0, none⟩)) ∧ w'.cell? ⟨B2, 0, none⟩ = some (.slice A news.length cp))
    (first
      | exact (HX.out.tn hd n0 n1 n2 nL).cells
      | exact (HX.out.tn (hd.trans hT1) n0 n1 n2 nL).cells)
    (first
      | (go_at_call 72; refine (rename_S _ N (UpFt Ft n) Dk (k + 3) (((F.upd (fl ++ ⟨#[46, 110, 101, 119]⟩) (some ([], 0))).upd (fl ++ ⟨#[46, 110, 101, 119]⟩) (some ([] ++ news, 0))).upd (fl ++ ⟨#[46, 110, 101, 119]⟩) (some ([] ++ news, ([] ++ news).length))) _ fl rm (x + news.length) 0 ([] ++ news) _ hD.1 hb2 hb hne K3 (by omega) (by rw [hlen]; omega) (by omega) (by rw [K4]; exact hlf) (by omega)).mono ?_; rintro e w4 ⟨rfl, hD1, hT1⟩)
      | (go_at_call 26; refine (must_ok _).mono ?_; rintro e w9 ⟨rfl, rfl⟩))
  have hX : Box w4 L Dk B0 B1 B2 fl (.slice A news.length cp) := HX.out.tn (hd.trans hT1) n0 n1 n2 nL
  have hT0 : Tn (UpFt Ft n) W w4 := hTd.trans hT1
  have hz3 : n ≤ w3.drew.heap.size := by have := hTd.size; omega
  have h := hD.back hD1 hT1 (Nat.le_succ _) hz3
  have hn : n ≤ w4.heap.size := by have := hT1.size; omega
  clear HX HT0 hd hD hTd hD1 hT1 q0 q1 q2 q3 hND
  rw [K4] at h
  have HL := Lib.hid h
  have HT := Lib.hid hT0
  clear h hT0 hX
  go_wp2_with fail
  go_end0
  exact ⟨rfl, HL.out, HT.out⟩
end Go.Proofs.YtidadjlhnlmfkaaGreatDoor
/- A log's replace, where the power is on for good. Conditions: as stated at each. -/
namespace Go.Proofs.YtidadjlhnlmfkaaGreatDoor
open Go.RowKit Go.Shelf Go Go.Maps
theorem DiskS.tight {w : World} {N Dk k : Nat} {U : Nat → Prop} {F : Files} {rm x lf : Int} {b : Bool} (h : DiskS w N U Dk k F rm x lf b) : DiskS w N (fun i => U i ∧ i < w.heap.size) Dk k F rm x lf b := by
  obtain ⟨M, D, hD, hM, f1, f2, hF⟩ := h
  exact ⟨M, D, hD, hM, ⟨f1, hD.lt⟩, ⟨f2, Held.lt hM⟩, hF.1, fun s bs z hs => by
    obtain ⟨a, c, e1, e2, e3, e4⟩ := hF.2.1 s bs z hs
    exact ⟨a, c, e1, e2, e3, fun g hg => ⟨e4 g hg, (Own5.blk_lt e2 hg).2⟩⟩, hF.2.2⟩
theorem LogS.tight {W w : World} {N n Dk k L G : Nat} {Ft : Nat → Prop} {F : Files} {rm x lf : Int} {b : Bool} {nm : ByteArray} {sz : Int} {g : List (Nat × Nat)} {dead : Bool} (h : LogS w N (UpFt Ft n) Dk k F rm x lf b L G nm sz g dead) (hn : W.heap.size ≤ n) (hL : ¬ Ft L) (hL2 : L < W.heap.size) (hG : ¬ Ft G) (hG2 : G < W.heap.size) :
    LogS w N (NewFt Ft W w) Dk k F rm x lf b L G nm sz g dead :=
  ⟨h.1.tight.more (fun i hi => hi.1.elim .inl (fun h => .inr ⟨by omega, hi.2⟩)) (Nat.le_refl _), h.2.1, h.2.2.1, newFt_not hL hL2, newFt_not hG hG2⟩
set_option maxHeartbeats 3200000 in
set_option maxRecDepth 20000 in
theorem replace_ok (W : World) (N : Nat) (Ft : Nat → Prop) (Dk k : Nat) (F : Files) (rm x : Int) (L G : Nat) (nm : ByteArray) (sz : Int) (g : List (Nat × Nat)) (j : Nat) (A : Option Addr) (cp : Nat) (news : List UInt8)
    (h : LogS W N Ft Dk k F rm x 0 false L G nm sz g false) (hlow : ∀ i, Ft i → i < W.heap.size) (hj : j ≤ 999999) (hn : nmOk nm) (hf : F (fileN nm j ++ ⟨#[46, 110, 101, 119]⟩) = none) (hk : k + 4 < maxLen) (hx : 0 ≤ x) (hx2 : x + news.length ≤ 100000000) (hr : x + news.length ≤ rm) (hlf : lenOf F (fileN nm j) ≤ 100000000)
    (hN : N ≤ W.heap.size) (hA : ∀ W' w', Below W.heap.size W W' → Tn (UpFt Ft W'.heap.size) W' w' → Bts w' w'.heap.size A news) :
    Calls Tryz.prog 46 #[.pointer (some ⟨L, 0, none⟩), .int .i64 j, .slice A news.length cp] W fun e w' => e = .returned (.int .i64 0) ∧
      LogS w' N (NewFt Ft W w') Dk (k + 4) (((((F.upd (fileN nm j ++ ⟨#[46, 110, 101, 119]⟩) (some ([], 0))).upd (fileN nm j ++ ⟨#[46, 110, 101, 119]⟩) (some ([] ++ news, 0))).upd (fileN nm j ++ ⟨#[46, 110, 101, 119]⟩) (some ([] ++ news, ([] ++ news).length))).upd (fileN nm j ++ ⟨#[46, 110, 101, 119]⟩) none).upd (fileN nm j) (some ([] ++ news, ([] ++ news).length))) rm (x + news.length - lenOf F (fileN nm j)) 0 false L G nm sz g false ∧ Tn Ft W w' := by
  have hmf : ∀ (fn : Fn) (first cap : Array Value) (w : World), (Instr.makeFunc fn first cap).run Tryz.prog w = .ok (.func fn first cap) w := fun _ _ _ _ => rfl
  have hen : ∀ args w, (callFunc 70 args).run Tryz.prog w = .ok (.enter 70 args) w := enters_of Tryz.func70 (by kernel_rfl) rfl
  have hn6 : nm.size ≤ 1000000 := by have := hn.1; omega
  have hnm := hn.1
  have hsz : (fileN nm j).size = nm.size + 7 := fileN_size nm j
  have hsp : (fileN nm j ++ (⟨#[46, 110, 101, 119]⟩ : ByteArray)).size = nm.size + 11 := by rw [ByteArray.size_append, hsz]; rfl
  have hne : fileN nm j ≠ fileN nm j ++ (⟨#[46, 110, 101, 119]⟩ : ByteArray) := fun e => by
    have := congrArg ByteArray.size e
    omega
  have hb := nameB_fileN hn j
  have hb2 : nameB (fileN nm j ++ (⟨#[46, 110, 101, 119]⟩ : ByteArray)) = true := nameB_spare hn j
  obtain ⟨k0, k1, kB⟩ : BlkIs ((W.alloc (.cells #[.pointer (some ⟨L, 0, none⟩)] 32)).alloc (.cells #[.slice A news.length cp] 26)) W.heap.size 32 #[.pointer (some ⟨L, 0, none⟩)] ∧ BlkIs ((W.alloc (.cells #[.pointer (some ⟨L, 0, none⟩)] 32)).alloc (.cells #[.slice A news.length cp] 26)) (W.heap.size + 1) 26 #[.slice A news.length cp] ∧ Below W.heap.size W ((W.alloc (.cells #[.pointer (some ⟨L, 0, none⟩)] 32)).alloc (.cells #[.slice A news.length cp] 26)) := by
    have a1 := BlkIs.new (W.alloc (.cells #[.pointer (some ⟨L, 0, none⟩)] 32)) 26 #[.slice A news.length cp]
    rw [World.size_alloc] at a1
    exact ⟨(BlkIs.new W 32 _).alloc _, a1, ((Below.refl _ W).alloc (Nat.le_refl _) _).alloc (by simp) _⟩
  go_enter Tryz.func46, Tryz.ntmps46
  go_wp2_with fail
  generalize (W.alloc (.cells #[.pointer (some ⟨L, 0, none⟩)] 32)).alloc (.cells #[.slice A news.length cp] 26) = W2 at *
  have hL2 := (h.below kB).2.1
  refine (lfile_any W2 L Dk nm sz G _ false j hL2 hj hn6).mono ?_
  rintro e w1 ⟨rfl, hb1⟩
  have k0' : BlkIs w1 _ 32 _ := (hb1.block _ k0.lt).trans k0
  have k1' : BlkIs w1 _ 26 _ := (hb1.block _ k1.lt).trans k1
  have B1 := kB.trans (hb1.mono kB.size)
  have j0 := k0'.alloc (.cells #[.string (fileN nm j)] 9)
  have j1 := k1'.alloc (.cells #[.string (fileN nm j)] 9)
  have j2 := BlkIs.new w1 9 #[.string (fileN nm j)]
  have B2 := B1.alloc B1.size (.cells #[.string (fileN nm j)] 9)
  have hz1 := B1.size
  have hz2 := hb1.size
  have hkz := k1.lt
  clear k0 k1 k0' k1' hb1 hL2 kB
  go_wp2_with fail
  have hlL := h.ltL
  have hlG := h.ltG
  have hB9 : w1.heap.size < (w1.alloc (.cells #[.string (fileN nm j)] 9)).heap.size := by simp
  generalize w1.alloc (.cells #[.string (fileN nm j)] 9) = W4 at *
  have B5 : Below W.heap.size W (W4.alloc (.cells #[.int .i64 0] 33)) := B2.alloc B2.size _
  have i3 := BlkIs.new W4 33 #[.int .i64 0]
  have i0 := j0.alloc (.cells #[.int .i64 0] 33)
  have i1 := j1.alloc (.cells #[.int .i64 0] 33)
  have i2 := j2.alloc (.cells #[.int .i64 0] 33)
  have hz4 := B2.size
  have hz5 : W4.heap.size < (W4.alloc (.cells #[.int .i64 0] 33)).heap.size := by simp
  have h5' := h.below B5
  have hnotU : ∀ i, i < (W4.alloc (.cells #[.int .i64 0] 33)).heap.size → ¬ Ft i → ¬ UpFt Ft (W4.alloc (.cells #[.int .i64 0] 33)).heap.size i := fun i h1 h2 e => e.elim h2 (fun e => by omega)
  have h5 : LogS (W4.alloc (.cells #[.int .i64 0] 33)) N (UpFt Ft (W4.alloc (.cells #[.int .i64 0] 33)).heap.size) Dk k F rm x 0 false L G nm sz g false := h5'.more (fun i h => .inl h) (Nat.le_refl _) (hnotU L (by omega) h.2.2.2.1) (hnotU G (by omega) h.2.2.2.2)
  have out : ∀ i, W.heap.size ≤ i → ¬ Ft i := fun i hi e => by have := hlow i e; omega
  have hX : Box (W4.alloc (.cells #[.int .i64 0] 33)) L Dk W.heap.size w1.heap.size (W.heap.size + 1) (fileN nm j) (.slice A news.length cp) := ⟨i0, i2, i1, BlkIs.cell h5.2.1 0, by omega⟩
  have hr1 := repl1_any (W4.alloc (.cells #[.int .i64 0] 33)) N Ft Dk k F rm x L G nm sz g (W4.alloc (.cells #[.int .i64 0] 33)).heap.size W.heap.size w1.heap.size (W.heap.size + 1) A cp news (fileN nm j) h5 (Nat.le_refl _) hb hb2 (by omega) (by omega) hne hf hk hx hx2 hr hlf (by omega) (fun w' hT => hA _ w' B5 hT) hX
    (hnotU _ (by omega) (out _ (Nat.le_refl _))) (hnotU _ (by omega) (out _ (by omega))) (hnotU _ (by omega) (out _ (by omega)))
  have hat := Lib.hid (attempt_c 70 _ W4 (fun y w' => y = 0 ∧ LogS w' N (NewFt Ft W w') Dk (k + 4) (((((F.upd (fileN nm j ++ ⟨#[46, 110, 101, 119]⟩) (some ([], 0))).upd (fileN nm j ++ ⟨#[46, 110, 101, 119]⟩) (some ([] ++ news, 0))).upd (fileN nm j ++ ⟨#[46, 110, 101, 119]⟩) (some ([] ++ news, ([] ++ news).length))).upd (fileN nm j ++ ⟨#[46, 110, 101, 119]⟩) none).upd (fileN nm j) (some ([] ++ news, ([] ++ news).length))) rm (x + news.length - lenOf F (fileN nm j)) 0 false L G nm sz g false ∧ Tn Ft W w') (hen _) (hr1.mono (by
    rintro e w' ⟨rfl, q1, q2⟩
    refine ⟨i3.tn q2 (hnotU _ hz5 (out _ (by omega))), .inl ⟨rfl, rfl, q1.tight (by omega) h.2.2.2.1 hlL h.2.2.2.2 hlG, ?_⟩⟩
    have hT1 : Tn (UpFt Ft (W4.alloc (.cells #[.int .i64 0] 33)).heap.size) W w' := (Tn.of_below B5).trans q2
    exact hT1.mono (fun i hi e => e.elim id (fun e => by omega)))))
  clear hr1 hX h5 h5' i0 i1 i2 i3 j0 j1 j2 hA
  refine hat.out.mono ?_
  rintro e w' ⟨y, rfl, rfl, q1, q2⟩
  have Q1 := Lib.hid q1
  have Q2 := Lib.hid q2
  clear q1 q2 hat
  go_wp2_with fail
  go_ret
  exact ⟨rfl, Q1.out, Q2.out⟩
end Go.Proofs.YtidadjlhnlmfkaaGreatDoor
