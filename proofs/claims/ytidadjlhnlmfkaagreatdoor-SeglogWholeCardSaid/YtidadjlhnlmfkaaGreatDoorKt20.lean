/- SlBegin. Conditions: as stated at each. -/
import Derived.Test.YtidadjlhnlmfkaaGreatDoorKt19
/- A log's begin and roll. Conditions: as stated at each. -/
namespace Go.Proofs.YtidadjlhnlmfkaaGreatDoor
open Go.RowKit Go.Shelf Go Go.Maps
theorem segD_push {D : DataW Value} {g : List (Nat × Nat)} (hD : IsMap D) (h : SegD D g) (c z : Nat) : SegD (D.put (kI ((g.length : Int) + 1)) (.held (segV c z))) (g ++ [(c, z)]) := by
  refine ⟨fun i => ?_, fun j c' z' hj => ?_⟩
  · by_cases e : i = (g.length : Int) + 1
    · subst e
      rw [has_put_same hD (isKey_kI _)]
      simp
      omega
    · rw [has_put_other (fun e2 => e (kI_inj e2)), h.1 i]
      simp
      omega
  · rw [atI_put hD]
    by_cases hlt : j < g.length
    · rw [List.getElem?_append_left hlt] at hj
      rw [if_neg (by omega)]
      exact h.2 j c' z' hj
    · have hj0 : j = g.length := by
        have := (List.getElem?_eq_some_iff.1 hj).1
        simp at this
        omega
      subst hj0
      simp at hj
      rw [if_pos rfl, hj.1, hj.2]
theorem segD_set {D : DataW Value} {g : List (Nat × Nat)} (hD : IsMap D) (h : SegD D g) (i c z : Nat) (hi : i < g.length) : SegD (D.put (kI ((i : Int) + 1)) (.held (segV c z))) (g.set i (c, z)) := by
  refine ⟨fun j => ?_, fun j c' z' hj => ?_⟩
  · rw [List.length_set]
    by_cases e : j = (i : Int) + 1
    · subst e
      rw [has_put_same hD (isKey_kI _)]
      simp
      omega
    · rw [has_put_other (fun e2 => e (kI_inj e2)), h.1 j]
  · rw [atI_put hD]
    by_cases e : j = i
    · subst e
      rw [List.getElem?_set_self hi] at hj
      injection hj with hj
      injection hj with h1 h2
      rw [if_pos rfl, h1, h2]
    · rw [List.getElem?_set_ne (fun e2 => e e2.symm)] at hj
      rw [if_neg (by omega)]
      exact h.2 j c' z' hj
theorem SegM.put {W : World} {G k : Nat} {g g' : List (Nat × Nat)} (h : SegM W G k g) (hk : k < maxLen) (i : Int) (hi : Ok64 i) (c z : Nat) (hg : ∀ D, IsMap D → SegD D g → SegD (D.put (kI i) (.held (segV c z))) g') :
    ∃ w', (Instr.mapUpdate 57 (.map (some G)) (.int .i64 i) (segV c z)).run Tryz.prog W = .ok () w' ∧ SegM w' G (k + 1) g' ∧ W.grownBy w' (some G) := by
  obtain ⟨D, h1, h2⟩ := h
  obtain ⟨w', e1, e2, e3⟩ := heldI_put h1 Tryz.underlying3 Tryz.underlying57 hi hk (segV c z)
  exact ⟨w', e1, ⟨_, e2, hg D (Held.isMap h1) h2⟩, e3⟩
set_option maxHeartbeats 1600000 in
set_option maxRecDepth 20000 in
theorem begin_ok (W : World) (N : Nat) (Ft : Nat → Prop) (Dk k : Nat) (F : Files) (rm x lf : Int) (L G : Nat) (nm : ByteArray) (sz : Int) (g : List (Nat × Nat))
    (h : LogS W N Ft Dk k F rm x lf false L G nm sz g false) (hl : g.length < 999999) (hn : nmOk nm) (hf : F (fileN nm (g.length + 1)) = none) (hk : k + 1 < maxLen) (hx : 0 ≤ x) (hx2 : x ≤ 100000000) (hlf : lf ≤ 9223372036854775807) (h1 : lf ≠ 1) :
    Calls Tryz.prog 54 #[.pointer (some ⟨L, 0, none⟩), .int .i64 ((g.length : Int) + 1)] W fun e w' => e = .returned (.tuple #[]) ∧ LgPost W N Ft Dk (k + 2) (F.upd (fileN nm (g.length + 1)) (some ([], 0))) rm x (lfA lf) false L G nm sz (g ++ [(0, 0)]) false w' := by
  have c0 := BlkIs.cell h.2.1 0
  have hlt := h.ltL
  have hn6 : nm.size ≤ 1000000 := by have := hn.1; omega
  have hnb := nameB_fileN hn (g.length + 1)
  have hnL := h.2.2.2.1
  go_enter Tryz.func54, Tryz.ntmps54
  go_wp2_with fail
  have hA : Below W.heap.size W W.drew := (Below.refl _ W).drew
  have hD := h.below hA
  go_region_held3 (fun w' => w'.cell? ⟨L, 0, none⟩ = some (.pointer (some ⟨Dk, 0, none⟩)))
    (first
      | go_keep
      | exact (hb1.cell (p := ⟨L, 0, none⟩) hlt).trans c0
      | exact BlkIs.cell hE.2.1 0)
    (first
      | (go_at_call 30; refine (lfile_any _ L Dk nm sz G _ false (g.length + 1) hD.2.1 (by omega) hn6).mono ?_; rintro e w1 ⟨rfl, hb1⟩)
      | (go_at_call 71; have hC := hD.below hb1; refine (create_ok w1 N Ft Dk k F _ rm x lf hC.1 hnb hf (by omega) hx hx2 hlf h1).mono ?_; rintro e w2 ⟨rfl, hD2, hT2⟩; have hE := hC.disk hD2 hT2 (Nat.le_succ k))
      | (go_at_call 26; refine (must_ok _).mono ?_; rintro e w3 ⟨rfl, rfl⟩))
  have hf4 := BlkIs.froz hE.2.1 4
  have c3 := BlkIs.cell hE.2.1 3
  have c4 := BlkIs.cell hE.2.1 4
  have hB1 := hA.trans hb1
  have hT := ((Tn.of_below (p := Ft) hB1).trans hT2)
  have HT := Lib.hid (OwnL.of (L := L) (G := G) hT)
  obtain ⟨w3, hrun, hM3, hg3⟩ := hE.2.2.1.put (by omega) ((g.length : Int) + 1) (by unfold Ok64; omega) 0 0 (fun D h1 h2 => segD_push h1 h2 0 0)
  have hL3 : LogB w3 L Dk nm sz G g.length false := (hg3.block L hE.ltL (fun e => hE.ne (by injection e with e; exact e.symm))).trans hE.2.1
  have c4' := BlkIs.cell hL3 4
  have f4' := BlkIs.froz hL3 4
  unfold segV at hrun
  rw [show ((0 : Nat) : Int) = 0 from rfl] at hrun
  have HF := Lib.hid (hE.last hg3 hM3 (by omega))
  have HT3 := Lib.hid (HT.out.grown hg3 (fun i e => .inl (.inr (.inr (by injection e with e; exact e.symm)))))
  have hz3 := hg3.size
  clear hT hT2 hM3 hg3
  have hlen : ((g ++ [(0, 0)]).length : Nat) = g.length + 1 := by simp
  rw [hlen] at HF
  go_wp2_with fail
  go_end0
  exact ⟨rfl, LgPost.up hnL hlt h.2.2.2.2 h.ltG hB1.size (by rw [size_set]; exact hz3) HF.out (HT3.out.setCell (.inl (.inr (.inl rfl))) _)⟩
theorem OwnL.new {Ft : Nat → Prop} {L G : Nat} {W W1 : World} : ∀ i, i < W.heap.size → OwnL (NewFt Ft W W1) L G i → OwnL Ft L G i := by
  rintro i hi ((h | ⟨h, _⟩) | h)
  · exact .inl h
  · omega
  · exact .inr h
/-- one call behind another. -/
theorem LgPost.trans {W W1 w' : World} {N Dk k k' L G : Nat} {Ft : Nat → Prop} {F F' : Files} {rm x x' lf lf' : Int} {b b' : Bool} {nm : ByteArray} {sz : Int} {g g' : List (Nat × Nat)} {dead dead' : Bool} {k0 : Nat} {F0 : Files} {x0 lf0 : Int} {b0 : Bool} {g0 : List (Nat × Nat)} {dead0 : Bool}
    (h0 : LogS W N Ft Dk k0 F0 rm x0 lf0 b0 L G nm sz g0 dead0) (h1 : LgPost W N Ft Dk k F rm x lf b L G nm sz g dead W1) (h2 : LgPost W1 N (NewFt Ft W W1) Dk k' F' rm x' lf' b' L G nm sz g' dead' w') : LgPost W N Ft Dk k' F' rm x' lf' b' L G nm sz g' dead' w' := by
  have hs := h1.2.size
  have hs2 := h2.2.size
  exact ⟨h2.1.more (newFt_trans hs hs2) (Nat.le_refl _) (newFt_not h0.2.2.2.1 h0.ltL) (newFt_not h0.2.2.2.2 h0.ltG),
    h2.2.os.trans h1.2.os, h2.2.tape.trans h1.2.tape, h2.2.output.trans h1.2.output, Nat.le_trans hs hs2, fun i hi hp => (h2.2.block i (by omega) (fun e => hp (OwnL.new i hi e))).trans (h1.2.block i hi hp)⟩
theorem LgPost.of_below {W W1 w' : World} {N Dk k L G : Nat} {Ft : Nat → Prop} {F : Files} {rm x lf : Int} {b : Bool} {nm : ByteArray} {sz : Int} {g : List (Nat × Nat)} {dead : Bool} {k0 : Nat} {F0 : Files} {x0 lf0 : Int} {b0 : Bool} {g0 : List (Nat × Nat)} {dead0 : Bool}
    (h0 : LogS W N Ft Dk k0 F0 rm x0 lf0 b0 L G nm sz g0 dead0) (hB : Below W.heap.size W W1) (h2 : LgPost W1 N Ft Dk k F rm x lf b L G nm sz g dead w') : LgPost W N Ft Dk k F rm x lf b L G nm sz g dead w' :=
  LgPost.up h0.2.2.2.1 h0.ltL h0.2.2.2.2 h0.ltG hB.size (Nat.le_refl _) h2.1 ((Tn.of_below hB).trans h2.2)
/-- the log behind it, with the blocks it began with and new ones. -/
theorem LgPost.then {W W1 : World} {N Dk k L G : Nat} {Ft : Nat → Prop} {F : Files} {rm x lf : Int} {b : Bool} {nm : ByteArray} {sz : Int} {g : List (Nat × Nat)} {dead : Bool} (h : LgPost W N Ft Dk k F rm x lf b L G nm sz g dead W1) : LogS W1 N (NewFt Ft W W1) Dk k F rm x lf b L G nm sz g dead := h.1
set_option maxHeartbeats 1600000 in
set_option maxRecDepth 20000 in
theorem roll_ok (W : World) (N : Nat) (Ft : Nat → Prop) (Dk k : Nat) (F : Files) (rm x lf : Int) (L G : Nat) (nm : ByteArray) (sz : Int) (g : List (Nat × Nat)) (bs : List UInt8) (z : Nat) (need : Nat)
    (h : LogS W N Ft Dk k F rm x lf false L G nm sz g false) (hl : g.length < 999999) (hn : nmOk nm) (hf : F (fileN nm g.length) = some (bs, z)) (hbs : bs.length ≤ 100000000) (hf2 : F (fileN nm (g.length + 1)) = none) (hk : k + 3 < maxLen) (hx : 0 ≤ x) (hx2 : x ≤ 100000000) (hr : x + need ≤ rm) (hr2 : rm ≤ 1000000000000)
    (hlf : lf ≤ 9223372036854775807) (h1 : lf ≠ 1) (h2 : lf ≠ 2) :
    Calls Tryz.prog 28 #[.pointer (some ⟨L, 0, none⟩), .int .i64 need] W fun e w' => e = .returned (.tuple #[]) ∧
      LgPost W N Ft Dk (k + 3) ((F.upd (fileN nm g.length) (some (bs, bs.length))).upd (fileN nm (g.length + 1)) (some ([], 0))) rm x (lfA (lfA lf)) false L G nm sz (g ++ [(0, 0)]) false w' := by
  have c0 := BlkIs.cell h.2.1 0
  have c4 := BlkIs.cell h.2.1 4
  have h9 : ((g.length : Int) == 999999) = false := by simp; omega
  have h9' : ((g.length : Int) != 999999) = true := by simp; omega
  have hlt : ¬ rm - x < (need : Int) := by omega
  have hle : (need : Int) ≤ rm - x := by omega
  have hlA : lfA lf ≠ 1 := by unfold lfA; split <;> omega
  have hlB : lfA lf ≤ 9223372036854775807 := by unfold lfA; split <;> omega
  have hne : fileN nm (g.length + 1) ≠ fileN nm g.length := fun e => by have := fileN_inj (by omega) (by omega) e; omega
  go_enter Tryz.func28, Tryz.ntmps28
  go_wp2_with (first
    | (go_at_call 52; refine (need_ok _ _).mono ?_; rintro e w' ⟨rfl, rfl⟩)
    | (go_at_call 37; refine (look_up _ L Dk nm sz G _ false h.2.1 h.1).mono ?_; rintro e w' ⟨rfl, rfl⟩)
    | (go_at_call 55; refine (free_S W N Ft Dk k F rm x lf h.1 hx hx2 (by omega) hr2).mono ?_; rintro e w1 ⟨rfl, hb1⟩))
  have hw1 := h.below hb1
  refine (lsync_ok w1 N Ft Dk k F rm x lf L G nm sz g bs z hw1 (by omega) hn hf hbs (by omega) hx hx2 hlf h1).mono ?_
  rintro e w2 ⟨rfl, hp2⟩
  have c4' := BlkIs.cell hp2.1.2.1 4
  have HP2 := Lib.hid hp2
  have hbeg := Lib.hid (begin_ok w2 N (NewFt Ft w1 w2) Dk (k + 1) (F.upd (fileN nm g.length) (some (bs, bs.length))) rm x (lfA lf) L G nm sz g hp2.1 hl hn (by unfold Files.upd; rw [if_neg hne]; exact hf2) (by omega) hx hx2 hlB hlA)
  clear hp2
  go_wp2_with fail
  refine hbeg.out.mono ?_
  rintro e w3 ⟨rfl, hp3⟩
  have HP := Lib.hid (LgPost.of_below h hb1 (LgPost.trans hw1 HP2.out hp3))
  clear hp3
  go_wp2_with fail
  go_end0
  exact ⟨rfl, HP.out⟩
end Go.Proofs.YtidadjlhnlmfkaaGreatDoor
