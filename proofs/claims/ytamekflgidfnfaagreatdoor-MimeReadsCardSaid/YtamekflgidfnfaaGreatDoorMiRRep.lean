/- The document's Report. Conditions: as stated at each. -/
import Derived.Test.YtamekflgidfnfaaGreatDoorMiEnv
import Derived.Laws.IdiomStrings
import Derived.Deep.RegionHeld
namespace Go.Proofs.YtamekflgidfnfaaGreatDoor
set_option maxRecDepth 100000
namespace Mi
open Go.RowKit Go Go.Proofs.YtamekflgidfnfaaGreatDoor.Pa
attribute [local go_sem] Oper.semAt_some
/-- block g of W holds these bytes first, and they may be written. -/
def Byt (W : World) (g : Nat) (l : List UInt8) : Prop := ∃ C fr, W.heap[g]? = some (.cells C 5 fr) ∧ (∀ j, j < l.length → C[j]? = some (.int .u8 ((l.getD j 0).toNat : Int))) ∧ l.length ≤ fr.1
theorem Byt.lt {W : World} {g : Nat} {l : List UInt8} (h : Byt W g l) : g < W.heap.size := by
  obtain ⟨C, fr, h1, _⟩ := h
  exact (Array.getElem?_eq_some_iff.1 h1).1
theorem Byt.cell {W : World} {g : Nat} {l : List UInt8} (h : Byt W g l) {j : Nat} (hj : j < l.length) : W.cell? ⟨g, j, none⟩ = some (.int .u8 ((l.getD j 0).toNat : Int)) := by
  obtain ⟨C, fr, h1, h2, _⟩ := h
  rw [cell_of_row W g j C _ fr h1]
  exact h2 j hj
theorem Byt.froz {W : World} {g : Nat} {l : List UInt8} (h : Byt W g l) {j : Nat} (hj : j < l.length) : W.frozen? ⟨g, j, none⟩ = false := by
  obtain ⟨C, fr, h1, h2, h3⟩ := h
  have : ¬ fr.1 ≤ j := by omega
  simp [World.frozen?, h1, this]
theorem Byt.set {W : World} {g : Nat} {l : List UInt8} (h : Byt W g l) (j : Nat) (c : UInt8) : Byt (W.setCell ⟨g, j, none⟩ (.int .u8 (c.toNat : Int))) g (l.set j c) := by
  obtain ⟨C, fr, h1, h2, h3⟩ := h
  refine ⟨C.setIfInBounds j (.int .u8 (c.toNat : Int)), fr, by simp [World.setCell, Array.getElem?_modify, h1], fun i hi => ?_, by simpa using h3⟩
  rw [List.length_set] at hi
  have hC := (Array.getElem?_eq_some_iff.1 (h2 i hi)).1
  rw [Array.getElem?_setIfInBounds]
  by_cases hij : j = i
  · subst hij
    rw [if_pos rfl, if_pos hC]
    simp [List.getD, hi]
  · rw [if_neg hij, h2 i hi]
    simp [List.getD, List.getElem?_set_ne hij]
theorem Byt.bts {W : World} {g : Nat} {l : List UInt8} (h : Byt W g l) : Bts W W.heap.size (some ⟨g, 0, none⟩) l := fun j u hj => by
  have hlt : j < l.length := by
    have := (List.getElem?_eq_some_iff.1 hj).1
    rwa [bv_length] at this
  rw [bv_get l j hlt] at hj
  injection hj with hj
  subst hj
  refine ⟨_, rfl, h.lt, ?_⟩
  have := h.cell hlt
  rwa [show (⟨g, 0, none⟩ : Addr).add j = ⟨g, j, none⟩ by simp [Addr.add]; rintro rfl; rfl]
/-- a text made bytes. -/
theorem run_byt (l : List UInt8) (w : World) : ∃ c w', (convert 9 22 (.string (str l))).run Tryz.prog w = .ok (.slice (some ⟨w.heap.size, 0, none⟩) l.length c) w' ∧ Byt w' w.heap.size l ∧ Below w.heap.size w w' := by
  have hrun := run_bytes_of_string (P := Tryz.prog) w 9 22 5 (str l) Tryz.underlying9 Tryz.underlying22 Tryz.underlying5
  rw [show (str l).size = l.length from str_size l] at hrun
  refine ⟨_, _, hrun, ⟨_, _, heap_alloc_new _ _, fun j hj => ?_, ?_⟩, ((Below.refl _ w).drew).alloc (Nat.le_refl _) _⟩
  · have hj' : j < (str l).data.size := by simpa [str] using hj
    rw [bytesRow_at _ _ j hj']
    simp [str, List.getD, hj]
  · simp [bytesRow, str]
/-- what Report answers. -/
def RepP (w : World) (e : Env) (l : L) (r : Ending) (w' : World) : Prop :=
  Below w.heap.size w w' ∧ ∃ v, r = .returned (.tuple #[v, .int .i64 (errS e l : Nat)]) ∧
    ((errS e l = 0 ∧ ∃ A c, v = .slice A (repS e l).length c ∧ Bts w' w'.heap.size A (repS e l)) ∨ (errS e l ≠ 0 ∧ v = .slice none 0 0))
theorem bndS_len (l : L) (h : l.length ≤ 100000) : (bndS l).length ≤ 40 := by
  have h1 := bN_len l
  have h2 := dec_len (bN l) (by omega)
  unfold bndS bndN
  simp only [List.length_append, List.length_cons, List.length_nil]
  omega
theorem headS_len (e : Env) (n : L) (hs : SmallE e) (hto : (tosS e.2.1).length ≤ 3000000) (hn : n.length ≤ 40) : (headS e n).length ≤ 3200000 := by
  have h1 := Lib.itoa_length_le e.2.2 hs.v0 (Int.le_of_lt_add_one hs.v1)
  have h2 := hs.fl
  have g0 : seg0.length = 59 := rfl
  have g1 : seg1.length = 4 := rfl
  have g2 : seg2.length = 36 := rfl
  have g3 : seg3.length = 10 := rfl
  have g5 : seg5.length = 32 := rfl
  have g6 : cr.length = 2 := rfl
  have g7 : dash.length = 2 := rfl
  unfold headS
  rw [List.length_append, List.length_append, List.length_append, List.length_append, List.length_append, List.length_append, List.length_append, List.length_append, List.length_append, List.length_append, List.length_append, List.length_append, List.length_append, List.length_append, List.length_append, List.length_append]
  omega
set_option maxHeartbeats 3200000 in
theorem rreport_gen {w : World} {x : Value} {e : Env} {A : Option Addr} {l : L} (h : EnvAt w w.heap.size x e) (hs : SmallE e) (ht : ∀ k, (e.2.1.getD k []).length ≤ 100000) (hto : (tosS e.2.1).length ≤ 3000000) (hb : Bts w w.heap.size A l) (c : Nat) (hl : l.length ≤ 100000) (hT : GlT w) :
    Calls Tryz.prog 28 #[x, .slice A l.length c] w (RepP w e l) := by
  have hnl := bndS_len l hl
  have hhl := headS_len e (bndS l) hs hto hnl
  have HGT := Lib.hid (fun (X : World) (hX : Below w.heap.size w X) => hT.below hX hT.lt)
  have HEV : Hid (∀ X, Below w.heap.size w X → Calls Tryz.prog 57 #[x] X fun r w' => r = .returned (.bool (envOk e)) ∧ Below X.heap.size X w') := Lib.hid fun X hX => renvelope_any ((h.below hX).more hX.size) hs
  have HBN : Hid (∀ X, Below w.heap.size w X → Calls Tryz.prog 58 #[.slice A l.length c] X fun r w' => r = .returned (.string (str (bndS l))) ∧ Below X.heap.size X w') := Lib.hid fun X hX => rboundary_any ((hb.below hX).more hX.size) c hl (HGT.out X hX)
  have HHD : Hid (∀ X, Below w.heap.size w X → Calls Tryz.prog 27 #[x, .string (str (bndS l))] X fun r w' => r = .returned (.string (str (headS e (bndS l)))) ∧ Below X.heap.size X w') := Lib.hid fun X hX => rhead_any ((h.below hX).more hX.size) hs ht (by omega) hto (HGT.out X hX)
  have HCV : Hid (∀ X, Below w.heap.size w X → (convert 22 9 (.slice A l.length c)).run Tryz.prog X = .ok (.string (str l)) X) := Lib.hid fun X hX => conv_str (hb.below hX) c
  have HER : Hid (errS e l = if envOk e = true then (if 100 < e.2.1.length ∨ 1000000 < l.length then 2 else 0) else 110) := Lib.hid rfl
  have e1 : str (headS e (bndS l)) ++ str l = str (headS e (bndS l) ++ l) := str_append _ _
  have e2 : str (headS e (bndS l) ++ l) ++ (⟨#[13, 10, 45, 45]⟩ : ByteArray) = str ((headS e (bndS l) ++ l) ++ ([13, 10, 45, 45] : L)) := str_append _ _
  have e3 : str ((headS e (bndS l) ++ l) ++ ([13, 10, 45, 45] : L)) ++ str (bndS l) = str (((headS e (bndS l) ++ l) ++ ([13, 10, 45, 45] : L)) ++ bndS l) := str_append _ _
  have e4 : str (((headS e (bndS l) ++ l) ++ ([13, 10, 45, 45] : L)) ++ bndS l) ++ (⟨#[45, 45, 13, 10]⟩ : ByteArray) = str ((((headS e (bndS l) ++ l) ++ ([13, 10, 45, 45] : L)) ++ bndS l) ++ ([45, 45, 13, 10] : L)) := str_append _ _
  have ze0 : (str (headS e (bndS l))).size ≤ 4000000 := by rw [str_size]; omega
  have ze1 : (str ((headS e (bndS l) ++ l))).size ≤ 4000000 := by rw [str_size, List.length_append]; omega
  have ze2 : (str (((headS e (bndS l) ++ l) ++ ([13, 10, 45, 45] : L)))).size ≤ 4000000 := by rw [str_size, List.length_append, List.length_append]; simp only [List.length_cons, List.length_nil]; omega
  have ze3 : (str ((((headS e (bndS l) ++ l) ++ ([13, 10, 45, 45] : L)) ++ bndS l))).size ≤ 4000000 := by rw [str_size, List.length_append, List.length_append, List.length_append]; simp only [List.length_cons, List.length_nil]; omega
  have zl : (str l).size ≤ 100000 := by rw [str_size]; omega
  have zn : (str (bndS l)).size ≤ 40 := by rw [str_size]; omega
  have HR4 : Hid (((((headS e (bndS l) ++ l) ++ ([13, 10, 45, 45] : L)) ++ bndS l) ++ ([45, 45, 13, 10] : L)) = repS e l) := Lib.hid (by unfold repS tailS cr dash; simp)
  have HRB : Hid (∀ X, ∃ c w', (convert 9 22 (.string (str (repS e l)))).run Tryz.prog X = .ok (.slice (some ⟨X.heap.size, 0, none⟩) (repS e l).length c) w' ∧ Byt w' X.heap.size (repS e l) ∧ Below X.heap.size X w') := Lib.hid fun X => run_byt (repS e l) X
  rw [HR4.out] at e4
  unfold RepP
  generalize errS e l = er at *
  generalize envOk e = ok at *
  generalize str (((headS e (bndS l) ++ l) ++ ([13, 10, 45, 45] : L)) ++ bndS l) = x3 at *
  generalize str ((headS e (bndS l) ++ l) ++ ([13, 10, 45, 45] : L)) = x2 at *
  generalize str (headS e (bndS l) ++ l) = x1 at *
  generalize str (headS e (bndS l)) = sh at *
  generalize str (bndS l) = sn at *
  generalize hxr : str (repS e l) = xr at *
  have HXR := Lib.hid hxr
  clear hxr
  generalize hrl : repS e l = rl at *
  have HRL := Lib.hid hrl
  clear hrl
  generalize hrn : rl.length = rn at *
  have HRN := Lib.hid hrn
  clear hrn
  generalize str l = sl at *
  obtain ⟨AT, cT, rfl, hTx, hc1, hc2⟩ := h
  generalize htn : e.2.1.length = tn at *
  generalize str e.1 = sf at *
  generalize e.2.2 = v at *
  generalize l.length = ln at *
  have hqn := BlkIs.new w 34 #[.string sf, .slice AT tn cT, .int .i64 v]
  have han : Below w.heap.size w (w.alloc (.cells #[.string sf, .slice AT tn cT, .int .i64 v] 34)) := (Below.refl _ _).alloc (Nat.le_refl _) _
  have HQ := Lib.hid hqn
  have HB0 := Lib.hid han
  clear hqn han hTx hhl hnl hs ht hto hb htn HR4
  have z0c := (BlkIs.cell HQ.out 0).trans (rfl : _ = some (Value.string sf))
  have z1c := (BlkIs.cell HQ.out 1).trans (rfl : _ = some (Value.slice AT tn cT))
  have z2c := (BlkIs.cell HQ.out 2).trans (rfl : _ = some (Value.int .i64 v))
  have HE1 := Lib.hid (HEV.out _ HB0.out)
  go_enter Tryz.func28, Tryz.ntmps28
  go_wp2_with fail
  refine HE1.out.mono ?_
  rintro r w2 ⟨rfl, hb2⟩
  have HB2 := Lib.hid (HB0.out.trans (hb2.mono HB0.out.size))
  have HQ2 : Hid (BlkIs w2 w.heap.size 34 #[.string sf, .slice AT tn cT, .int .i64 v]) := Lib.hid ((hb2.block _ HQ.out.lt).trans HQ.out)
  clear hb2 z0c z1c z2c HE1
  cases ok with
  | false =>
    have HE : Hid (er = 110) := Lib.hid (by rw [HER.out]; rfl)
    go_wp2_with fail
    refine bodyPost_ret (results_tmp2 rfl _ _ _) rfl ?_
    exact ⟨HB2.out, _, by rw [HE.out]; rfl, .inr ⟨by rw [HE.out]; decide, rfl⟩⟩
  | true =>
    have z1c := (BlkIs.cell HQ2.out 1).trans (rfl : _ = some (Value.slice AT tn cT))
    by_cases htn : 100 < tn
    · have HE : Hid (er = 2) := Lib.hid (by rw [HER.out, if_pos rfl, if_pos (.inl htn)])
      have hz : (100 : Int) < (tn : Int) := by omega
      go_wp2_with fail
      refine bodyPost_ret (results_tmp2 rfl _ _ _) rfl ?_
      exact ⟨HB2.out, _, by rw [HE.out]; rfl, .inr ⟨by rw [HE.out]; decide, rfl⟩⟩
    · have HE : Hid (er = 0) := Lib.hid (by rw [HER.out, if_pos rfl, if_neg (by omega)])
      have hz : ¬ (100 : Int) < (tn : Int) := by omega
      have hz2 : ¬ (1000000 : Int) < (ln : Int) := by omega
      have HB8 := Lib.hid (HBN.out _ HB2.out)
      go_wp2_with fail
      refine HB8.out.mono ?_
      rintro r w3 ⟨rfl, hb3⟩
      have HB3 := Lib.hid (HB2.out.trans (hb3.mono HB2.out.size))
      have HQ3 : Hid (BlkIs w3 w.heap.size 34 #[.string sf, .slice AT tn cT, .int .i64 v]) := Lib.hid ((hb3.block _ HQ2.out.lt).trans HQ2.out)
      clear hb3 z1c hz hz2 HB8
      go_wp2_with fail
      have HQD : Hid (BlkIs w3.drew w.heap.size 34 #[.string sf, .slice AT tn cT, .int .i64 v]) := Lib.hid HQ3.out
      have HBD : Hid (Below w.heap.size w w3.drew) := Lib.hid (below_drewN HB3.out 1)
      refine wp_region_held_drew (S := (fun Y => BlkIs Y w.heap.size 34 #[.string sf, .slice AT tn cT, .int .i64 v] ∧ Below w.heap.size w Y)) (by kernel_rfl) (⟨HQD.out, HBD.out⟩) (fun hHeld => ?_)
      generalize w3.drew = w4 at *
      refine wpAnyH_take (i := 0) (v := .agg #[.string sf, .slice AT tn cT, .int .i64 v]) rfl (by kernel_rfl) (by kernel_rfl) (by kernel_rfl) (fun _ _ _ h => h) (Or.inl ⟨by rfl, fun w hS => by (have c0 := (BlkIs.cell hS.1 0).trans (rfl : _ = some (Value.string sf)); have c1 := (BlkIs.cell hS.1 1).trans (rfl : _ = some (Value.slice AT tn cT)); have c2 := (BlkIs.cell hS.1 2).trans (rfl : _ = some (Value.int .i64 v)); go_simp)⟩) hHeld ?_
      try simp only [Act.put, List.getElem_toArray, List.getElem_cons_zero, List.setIfInBounds_toArray, List.set_cons_zero, List.set_cons_succ]
      refine wpAnyH_take (i := 1) (v := .string sn) rfl (by kernel_rfl) (by kernel_rfl) (by kernel_rfl) (fun _ _ _ h => h) (Or.inl ⟨by rfl, fun w hS => by first | (go_simp; done) | (go_simp; with_reducible rfl)⟩) hHeld ?_
      try simp only [Act.put, List.getElem_toArray, List.getElem_cons_zero, List.getElem_cons_succ, List.setIfInBounds_toArray, List.set_cons_zero, List.set_cons_succ]
      refine wpAnyH_take (i := 3) (v := .slice A ln c) rfl (by kernel_rfl) (by kernel_rfl) (by kernel_rfl) (fun _ _ _ h => h) (Or.inl ⟨by rfl, fun w hS => by first | (go_simp; done) | (go_simp; with_reducible rfl)⟩) hHeld ?_
      try simp only [Act.put, List.getElem_toArray, List.getElem_cons_zero, List.getElem_cons_succ, List.setIfInBounds_toArray, List.set_cons_zero, List.set_cons_succ]
      refine wpAnyH_take (i := 4) (v := .string sl) rfl (by kernel_rfl) (by kernel_rfl) (by kernel_rfl) (fun _ _ _ h => h) (Or.inl ⟨by rfl, fun w hS => by (have hcv := HCV.out _ hS.2; go_simp)⟩) hHeld ?_
      try simp only [Act.put, List.getElem_toArray, List.getElem_cons_zero, List.getElem_cons_succ, List.setIfInBounds_toArray, List.set_cons_zero, List.set_cons_succ]
      refine wpAnyH_take (i := 7) (v := .string sn) rfl (by kernel_rfl) (by kernel_rfl) (by kernel_rfl) (fun _ _ _ h => h) (Or.inl ⟨by rfl, fun w hS => by first | (go_simp; done) | (go_simp; with_reducible rfl)⟩) hHeld ?_
      try simp only [Act.put, List.getElem_toArray, List.getElem_cons_zero, List.getElem_cons_succ, List.setIfInBounds_toArray, List.set_cons_zero, List.set_cons_succ]
      refine wpAnyH_ready (rs := [2]) (by kernel_rfl) (by simp) ?_
      refine AllReadyH.cons rfl (fun K hK => ?_) AllReadyH.nil
      go_simp
      go_wp2_with (first | (refine (HHD.out _ HBD.out).mono ?_; rintro e w5 ⟨rfl, hb5⟩) | fail)
      refine hK.out _ _ ?_ (fun hHeld => ?_)
      · exact ⟨(hb5.block _ HQD.out.lt).trans HQD.out, HBD.out.trans (hb5.mono HBD.out.size)⟩
      clear hK K
      try simp only [Act.put, List.getElem_toArray, List.getElem_cons_zero, List.getElem_cons_succ, List.setIfInBounds_toArray, List.set_cons_zero, List.set_cons_succ]
      have HB5 := Lib.hid (HBD.out.trans (hb5.mono HBD.out.size))
      have HQ5 : Hid (BlkIs w5 w.heap.size 34 #[.string sf, .slice AT tn cT, .int .i64 v]) := Lib.hid ((hb5.block _ HQD.out.lt).trans HQD.out)
      clear hb5
      refine wpAnyH_take (i := 5) (v := .string x1) rfl (by kernel_rfl) (by kernel_rfl) (by kernel_rfl) (fun _ _ _ h => h) (Or.inl ⟨by rfl, fun w hS => by (go_simp; omega)⟩) hHeld ?_
      try simp only [Act.put, List.getElem_toArray, List.getElem_cons_zero, List.getElem_cons_succ, List.setIfInBounds_toArray, List.set_cons_zero, List.set_cons_succ]
      refine wpAnyH_take (i := 6) (v := .string x2) rfl (by kernel_rfl) (by kernel_rfl) (by kernel_rfl) (fun _ _ _ h => h) (Or.inl ⟨by rfl, fun w hS => by (go_simp; omega)⟩) hHeld ?_
      try simp only [Act.put, List.getElem_toArray, List.getElem_cons_zero, List.getElem_cons_succ, List.setIfInBounds_toArray, List.set_cons_zero, List.set_cons_succ]
      refine wpAnyH_take (i := 8) (v := .string x3) rfl (by kernel_rfl) (by kernel_rfl) (by kernel_rfl) (fun _ _ _ h => h) (Or.inl ⟨by rfl, fun w hS => by (go_simp; omega)⟩) hHeld ?_
      try simp only [Act.put, List.getElem_toArray, List.getElem_cons_zero, List.getElem_cons_succ, List.setIfInBounds_toArray, List.set_cons_zero, List.set_cons_succ]
      refine wpAnyH_take (i := 9) (v := .string xr) rfl (by kernel_rfl) (by kernel_rfl) (by kernel_rfl) (fun _ _ _ h => h) (Or.inl ⟨by rfl, fun w hS => by (go_simp; omega)⟩) hHeld ?_
      try simp only [Act.put, List.getElem_toArray, List.getElem_cons_zero, List.getElem_cons_succ, List.setIfInBounds_toArray, List.set_cons_zero, List.set_cons_succ]
      obtain ⟨c9, w9, hrun9, hby9, hb9⟩ := HRB.out w5
      have HB9 := Lib.hid (HB5.out.trans (hb9.mono HB5.out.size))
      have HQ9 : Hid (BlkIs w9 w.heap.size 34 #[.string sf, .slice AT tn cT, .int .i64 v]) := Lib.hid ((hb9.block _ HQ5.out.lt).trans HQ5.out)
      have HY9 := Lib.hid hby9.bts
      clear hby9 hb9
      refine wpAnyH_ready (rs := [10]) (by kernel_rfl) (by simp) ?_
      refine AllReadyH.cons rfl (fun K hK => ?_) AllReadyH.nil
      go_simp
      refine hK.out _ _ ?_ (fun hHeld => ?_)
      · exact ⟨HQ9.out, HB9.out⟩
      clear hK K
      try simp only [Act.put, List.getElem_toArray, List.getElem_cons_zero, List.getElem_cons_succ, List.setIfInBounds_toArray, List.set_cons_zero, List.set_cons_succ]
      refine wpAnyH_take (i := 11) (v := .slice (some ⟨w5.heap.size, 0, none⟩) rn c9) rfl (by kernel_rfl) (by kernel_rfl) (by kernel_rfl) (fun _ _ _ h => h) (Or.inl ⟨by rfl, fun w hS => by first | (go_simp; done) | (go_simp; with_reducible rfl)⟩) hHeld ?_
      try simp only [Act.put, List.getElem_toArray, List.getElem_cons_zero, List.getElem_cons_succ, List.setIfInBounds_toArray, List.set_cons_zero, List.set_cons_succ]
      refine wpAnyH_take (i := 12) (v := .int .i64 0) rfl (by kernel_rfl) (by kernel_rfl) (by kernel_rfl) (fun _ _ _ h => h) (Or.inl ⟨by rfl, fun w hS => by first | (go_simp; done) | (go_simp; with_reducible rfl)⟩) hHeld ?_
      try simp only [Act.put, List.getElem_toArray, List.getElem_cons_zero, List.getElem_cons_succ, List.setIfInBounds_toArray, List.set_cons_zero, List.set_cons_succ]
      refine wpAnyH_done (by kernel_rfl) ?_ _
      go_wp2_with fail
      refine bodyPost_ret (results_tmp2 rfl _ _ _) rfl ?_
      exact ⟨HB9.out, _, by rw [HE.out]; rfl, .inl ⟨HE.out, _, c9, rfl, HY9.out⟩⟩
set_option maxHeartbeats 1600000 in
theorem rreport_no {w : World} {x : Value} {e : Env} {A : Option Addr} {l : L} (h : EnvAt w w.heap.size x e) (hs : SmallE e) (hno : ¬ (envOk e = true ∧ e.2.1.length ≤ 100)) (c : Nat) :
    Calls Tryz.prog 28 #[x, .slice A l.length c] w (RepP w e l) := by
  have HEV : Hid (∀ X, Below w.heap.size w X → Calls Tryz.prog 57 #[x] X fun r w' => r = .returned (.bool (envOk e)) ∧ Below X.heap.size X w') := Lib.hid fun X hX => renvelope_any ((h.below hX).more hX.size) hs
  have HER : Hid (errS e l = if envOk e = true then (if 100 < e.2.1.length ∨ 1000000 < l.length then 2 else 0) else 110) := Lib.hid rfl
  unfold RepP
  generalize errS e l = er at *
  generalize envOk e = ok at *
  obtain ⟨AT, cT, rfl, hTx, hc1, hc2⟩ := h
  generalize htn : e.2.1.length = tn at *
  generalize str e.1 = sf at *
  generalize e.2.2 = v at *
  generalize l.length = ln at *
  have hqn := BlkIs.new w 34 #[.string sf, .slice AT tn cT, .int .i64 v]
  have han : Below w.heap.size w (w.alloc (.cells #[.string sf, .slice AT tn cT, .int .i64 v] 34)) := (Below.refl _ _).alloc (Nat.le_refl _) _
  have HQ := Lib.hid hqn
  have HB0 := Lib.hid han
  clear hqn han hTx htn hs
  have z0c := (BlkIs.cell HQ.out 0).trans (rfl : _ = some (Value.string sf))
  have z1c := (BlkIs.cell HQ.out 1).trans (rfl : _ = some (Value.slice AT tn cT))
  have z2c := (BlkIs.cell HQ.out 2).trans (rfl : _ = some (Value.int .i64 v))
  have HE1 := Lib.hid (HEV.out _ HB0.out)
  go_enter Tryz.func28, Tryz.ntmps28
  go_wp2_with fail
  refine HE1.out.mono ?_
  rintro r w2 ⟨rfl, hb2⟩
  have HB2 := Lib.hid (HB0.out.trans (hb2.mono HB0.out.size))
  have HQ2 : Hid (BlkIs w2 w.heap.size 34 #[.string sf, .slice AT tn cT, .int .i64 v]) := Lib.hid ((hb2.block _ HQ.out.lt).trans HQ.out)
  clear hb2 z0c z1c z2c HE1
  cases ok with
  | false =>
    have HE : Hid (er = 110) := Lib.hid (by rw [HER.out]; rfl)
    go_wp2_with fail
    refine bodyPost_ret (results_tmp2 rfl _ _ _) rfl ?_
    exact ⟨HB2.out, _, by rw [HE.out]; rfl, .inr ⟨by rw [HE.out]; decide, rfl⟩⟩
  | true =>
    have z1c := (BlkIs.cell HQ2.out 1).trans (rfl : _ = some (Value.slice AT tn cT))
    have htn : 100 < tn := by
      rcases Nat.lt_or_ge 100 tn with h | h
      · exact h
      · exact absurd ⟨rfl, h⟩ hno
    have HE : Hid (er = 2) := Lib.hid (by rw [HER.out, if_pos rfl, if_pos (.inl htn)])
    have hz : (100 : Int) < (tn : Int) := by omega
    clear hno
    go_wp2_with fail
    refine bodyPost_ret (results_tmp2 rfl _ _ _) rfl ?_
    exact ⟨HB2.out, _, by rw [HE.out]; rfl, .inr ⟨by rw [HE.out]; decide, rfl⟩⟩
theorem mail_len {l : L} (h : mailS l = true) : l.length ≤ 320 := by
  have hl : l.length ≤ (loc l).length + (dom l).length + 1 := by
    rcases last_cases l with ⟨hn, _⟩ | ⟨a, b, rfl, hb, _⟩
    · rw [(loc_no hn).1]; omega
    · rw [(loc_at hb).1, (loc_at hb).2]; simp; omega
  unfold mailS at h
  simp only [Bool.and_eq_true, decide_eq_true_eq] at h
  have h2 := h.2
  unfold domS at h2
  simp only [Bool.and_eq_true, decide_eq_true_eq] at h2
  omega
theorem env_small {e : Env} (h : envOk e = true) (hn : e.2.1.length ≤ 100) : (∀ k, (e.2.1.getD k []).length ≤ 100000) ∧ (tosS e.2.1).length ≤ 33300 := by
  unfold envOk at h
  simp only [Bool.and_eq_true, decide_eq_true_eq] at h
  have hall := List.all_eq_true.1 h.2.2.2
  constructor
  · intro k
    rcases Nat.lt_or_ge k e.2.1.length with hk | hk
    · have := mail_len (hall (e.2.1.getD k []) (by simp [List.getD, hk]))
      omega
    · simp [List.getD, List.getElem?_eq_none hk]
  · have key : ∀ l : List L, (∀ x ∈ l, mailS x = true) → (tosS l).length ≤ l.length * 333 := by
      intro l
      induction l with
      | nil => intro _; simp [tosS]
      | cons x l ih =>
        intro hx
        have h1 := ih fun y hy => hx y (List.mem_cons_of_mem _ hy)
        have h2 := mail_len (hx x (by simp))
        have e1 : tosS (x :: l) = (seg4 ++ (x ++ cr)) ++ tosS l := rfl
        have h4 : seg4.length = 11 := rfl
        have h5 : cr.length = 2 := rfl
        rw [e1, List.length_append, List.length_append, List.length_append, List.length_cons]
        omega
    have := key e.2.1 hall
    omega
theorem rreport_any {w : World} {x : Value} {e : Env} {A : Option Addr} {l : L} (h : EnvAt w w.heap.size x e) (hs : SmallE e) (hb : Bts w w.heap.size A l) (c : Nat) (hl : l.length ≤ 100000) (hT : GlT w) :
    Calls Tryz.prog 28 #[x, .slice A l.length c] w (RepP w e l) := by
  by_cases hok : envOk e = true ∧ e.2.1.length ≤ 100
  · obtain ⟨h1, h2⟩ := env_small hok.1 hok.2
    exact rreport_gen h hs h1 (by omega) hb c hl hT
  · exact rreport_no h hs hok c
end Mi
end Go.Proofs.YtamekflgidfnfaaGreatDoor
