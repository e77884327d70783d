/- mbox's reader: body. Conditions: as stated at each. -/
import Derived.Test.YtamekflgidfnfaaGreatDoorMbAt
namespace Go.Proofs.YtamekflgidfnfaaGreatDoor
set_option maxRecDepth 100000
namespace Mb
open Go.RowKit Go.Shelf Go
attribute [local go_sem] Oper.semAt_some
/-- the size that a loop over an iterator counts. -/
structure SzI (w w3 : World) (p : Nat → Prop) (b M q : Nat) (X : World) : Prop where
  box : Boxed X b 3 (.int .i64 q)
  bel : Below b w X
  sm : Sm p w3 X
  sz : M ≤ X.heap.size
theorem SzI.row {w w3 X Y : World} {p : Nat → Prop} {b M q : Nat} (h : SzI w w3 p b M q X) (hbM : b < M) (hp : ∀ k, p k → k < M ∧ k ≠ b) {row : Option Nat} (hg : X.grownBy Y row) (hr : ∀ r, row = some r → M ≤ r) : SzI w w3 p b M q Y := by
  refine ⟨h.box.kept hg fun e => ?_, h.bel.grown hg (Nat.le_trans (Nat.le_of_lt hbM) h.sz) (fun k e => by have := hr k e; omega), h.sm.trans ⟨hg.size, fun k hk hl => hg.block k hl fun e => ?_⟩, Nat.le_trans h.sz hg.size⟩
  · have := hr b e.symm; omega
  · have := hr k e.symm
    have := (hp k hk).1
    omega
theorem SzI.size {w w3 X : World} {p : Nat → Prop} {b M q : Nat} (h : SzI w w3 p b M q X) (hp : ∀ k, p k → k < M ∧ k ≠ b) (q' : Nat) (z : Int) (hz : z = q') :
    SzI w w3 p b M q' (X.setCell ⟨b, 0, none⟩ (.int .i64 z)) ∧ KeepsOthers X (X.setCell ⟨b, 0, none⟩ (.int .i64 z)) ∧ Sm p X (X.setCell ⟨b, 0, none⟩ (.int .i64 z)) := by
  subst hz
  have hs : Sm p X (X.setCell ⟨b, 0, none⟩ (.int .i64 q')) := ⟨by simp, fun k hk _ => Below.heap_setCell _ _ _ _ (fun e => (hp k hk).2 e)⟩
  exact ⟨⟨h.box.set _, h.bel.setCell (Nat.le_refl _) _, h.sm.trans hs, by simpa using h.sz⟩, KeepsOthers.setCell _ _ _, hs⟩
theorem boxed_far' {X : World} {B B' : Nat} {t : TypeId} {v : Value} (h : Boxed X B t v) (hne : B ≠ B') (i : Nat) (u : Value) : Boxed (X.setCell ⟨B', i, none⟩ u) B t v := (Below.heap_setCell _ _ _ _ (fun e => hne e)).trans h
/-- between two rounds. -/
def SzJ (w w3 : World) (p : Nat → Prop) (b M N : Nat) (pre : List (LineAt p w3 N)) (X : World) : Prop := (∀ x ∈ pre.map byL, mark x = false) ∧ SzI w w3 p b M (pre.map byL).flatten.length X
/-- at a letter's first line. -/
def SzX (w w3 : World) (p : Nat → Prop) (b M N : Nat) (c : Code) (pre : List (LineAt p w3 N)) (X : World) : Prop :=
  c = .exit 0 ∧ ∃ ls x, pre.map byL = ls ++ [x] ∧ (∀ y ∈ ls, mark y = false) ∧ mark x = true ∧ SzI w w3 p b M ls.flatten.length X
theorem szJ_own {w w3 : World} {p : Nat → Prop} {b M N : Nat} (hbM : b < M) (hp : ∀ k, p k → k < M ∧ k ≠ b) : OwnFrom M (SzJ w w3 p b M N) := fun _ _ _ _ ⟨h0, h⟩ hg hr => ⟨h0, h.row hbM hp hg fun r e => (hr r e).1⟩
theorem szX_own {w w3 : World} {p : Nat → Prop} {b M N : Nat} (hbM : b < M) (hp : ∀ k, p k → k < M ∧ k ≠ b) (c : Code) : OwnFrom M (SzX w w3 p b M N c) := fun _ _ _ _ ⟨hc, ls, x, h0, h1, h2, h⟩ hg hr => ⟨hc, ls, x, h0, h1, h2, h.row hbM hp hg fun r e => (hr r e).1⟩
theorem flat_lines_len {p : Nat → Prop} {W : World} {N : Nat} : ∀ pre : List (LineAt p W N), (pre.map byL).flatten.length ≤ 30000 * pre.length
  | [] => by simp
  | x :: pre => by
    have h1 := flat_lines_len pre
    have h3 : (byL x).length ≤ 30000 := x.2.2.2.2.1
    rw [List.map_cons, List.flatten_cons, List.length_append, List.length_cons]
    omega
theorem body_all {l : L} (h : ∀ x ∈ lns l, mark x = false) : bodyOf l = l := by
  unfold bodyOf headL
  have h1 := List.takeWhile_append_of_pos (p := fun x => !mark x) (l₁ := lns l) (l₂ := []) (fun x hx => by simp [h x hx])
  rw [List.append_nil] at h1
  rw [h1, List.takeWhile_nil, List.append_nil, lns_flat]
theorem body_stop {l : L} {ls : List L} {x : L} {t : List L} (hl : ls ++ [x] ++ t = lns l) (h : ∀ y ∈ ls, mark y = false) (hx : mark x = true) : bodyOf l = ls.flatten := by
  unfold bodyOf headL
  rw [← hl, List.append_assoc, List.takeWhile_append_of_pos (fun y hy => by simp [h y hy])]
  simp [hx]
theorem body_take (l : L) : bodyOf l = l.take (bodyOf l).length ∧ restOf l = l.drop (bodyOf l).length ∧ (bodyOf l).length ≤ l.length := by
  have h := body_rest l
  generalize bodyOf l = a at *
  generalize restOf l = b at *
  subst h
  exact ⟨List.take_left.symm, List.drop_left.symm, by simp⟩
/-- a letter's body is as it may be. -/
def C3 (l : L) : Prop := Go.Lib.hasSuffix (bodyOf l) [10] = true ∧ wholeB (bodyOf l).dropLast = true
def BodyQ (w : World) (N R K : Nat) (lv vf va : Value) (l : L) (e : Ending) (w' : World) : Prop :=
  Tn (fun k => k = R ∨ k = K) w w' ∧ ((C3 l ∧ e = .returned (.tuple #[]) ∧ Rd w' N R lv (restOf l) ∧ ∃ A c, BlkIs w' K 43 #[vf, va, .slice A (unquoteS (bodyOf l).dropLast).length c] ∧ Own5 w' w.heap.size (.slice A (unquoteS (bodyOf l).dropLast).length c) (unquoteS (bodyOf l).dropLast)) ∨
    (¬ C3 l ∧ e = bad 100))
set_option maxHeartbeats 3200000 in
theorem body_in {w : World} {N R K : Nat} {lv vf va vb : Value} {l : L} (h : Rd w N R lv l) (hK : BlkIs w K 43 #[vf, va, vb]) (hNR : N ≤ R) (hNK : N ≤ K) (hRK : R ≠ K) (hl : l.length ≤ 30000) :
    CallsIn Fence.wide 9 Tryz.prog 34 #[.pointer (some ⟨R, 0, none⟩), .pointer (some ⟨K, 0, none⟩)] w (BodyQ w N R K lv vf va l) := by
  have hRlt := h.lt
  have hKlt := hK.lt
  have hNw : N ≤ w.heap.size := by omega
  have hcv := conv_const
  obtain ⟨A, cp, hR, hb, hlc, hcm, hA⟩ := h
  have HR := Lib.hid hR
  have HKK := Lib.hid hK
  have HB := Lib.hid hb
  have HA := Lib.hid hA
  have hb1 : Below w.heap.size w (w.alloc (.cells #[.int .i64 0] 3)) := (Below.refl _ w).alloc (Nat.le_refl _) _
  have HBX := Lib.hid (Boxed.new w 3 (.int .i64 0))
  have HB1 := Lib.hid hb1
  have hz1 : (w.alloc (.cells #[.int .i64 0] 3)).heap.size = w.heap.size + 1 := by simp
  have hR1 : BlkIs (w.alloc (.cells #[.int .i64 0] 3)) R 45 #[lv, .slice A l.length cp] := hR.alloc _
  have x1 := (hR1.cell 1).trans (rfl : _ = some (Value.slice A l.length cp))
  have HLT : Hid (∀ ad, A = some ad → l ≠ [] → ad.block < N) := Lib.hid fun ad e hne => by
    obtain ⟨ad', e', hlt, _⟩ := HB.out.at_ (List.length_pos_iff.2 hne)
    rw [e] at e'
    injection e' with e'
    rw [e']
    exact hlt
  refine callsIn_of_wp_marks Tryz.func34 rfl trivial ?_ rfl
  simp only [Tryz.ntmps34, List.size_toArray, List.length_cons, List.length_nil, Nat.reduceAdd, Nat.reduceSub, Array.replicate_succ, Array.replicate_zero, List.push_toArray, List.append_toArray, List.nil_append, List.cons_append]
  clear hR hK hb hb1 hR1 hA
  generalize hln : l.length = n at *
  have HLN := Lib.hid hln
  clear hln
  gi_wp2_with fail
  generalize w.alloc (.cells #[.int .i64 0] 3) = w1 at *
  refine ⟨trivial, ?_⟩
  refine (callsIn_wide.2 (lines_fn _ _ _ _)).mono ?_
  rintro e w3 ⟨rfl, hw3⟩
  have hV3 : w3.heap[w1.heap.size]? = some (.cells #[.slice A n cp] 22 (0, 0)) := by rw [hw3]; exact World.alloc_heap_new w1 _
  have hz3 : w3.heap.size = w1.heap.size + 1 := by rw [hw3]; simp
  have hb3 : Below w1.heap.size w1 w3 := by rw [hw3]; exact (Below.refl _ w1).alloc (Nat.le_refl _) _
  have hBw : Below w.heap.size w w3 := HB1.out.trans (hb3.mono (by omega))
  have hbt3 : Bts w3 N A l := HB.out.below (hBw.mono hNw)
  have hbx3 : Boxed w3 w.heap.size 3 (.int .i64 0) := (hb3.block _ (by omega)).trans HBX.out
  obtain ⟨p, hp⟩ : ∃ p : Nat → Prop, p = fun k => k < w3.heap.size ∧ k ≠ w.heap.size := ⟨_, rfl⟩
  have hpp : ∀ k, p k → k < w3.heap.size ∧ k ≠ w.heap.size := fun k hk => by rw [hp] at hk; exact hk
  have hpq : ∀ k, k < w.heap.size → p k := fun k hk => by rw [hp]; exact ⟨by omega, by omega⟩
  have h0 : SzI w w3 p w.heap.size w3.heap.size 0 w3 := ⟨hbx3, hBw, Sm.refl _ _, Nat.le_refl _⟩
  have hstops := lines_stops p 8 (by omega) w3 (w.heap.size + 1) N cp A l (by rw [HLN.out, ← hz1]; exact hV3) hbt3
    (fun ad e hne => hpq _ (by have := HLT.out ad e hne; omega)) (by rw [HLN.out]; exact hlc) hcm HA.out (by rw [HLN.out]; exact hl)
  have HPP := Lib.hid hpp
  have HPQ := Lib.hid hpq
  have H0 := Lib.hid h0
  have HSTP := Lib.hid hstops
  have HRX : Hid (∀ X, Sm p w3 X → BlkIs X R 45 #[lv, .slice A n cp] ∧ BlkIs X K 43 #[vf, va, vb]) := Lib.hid fun X hX => by
    have h1 : ∀ k, k < w.heap.size → X.heap[k]? = w.heap[k]? := fun k hk => (hX.2 k (hpq k hk) (by omega)).trans (hBw.block k hk)
    exact ⟨(h1 R hRlt).trans HR.out, (h1 K hKlt).trans HKK.out⟩
  have HBT := Lib.hid hb3
  have hbM : w.heap.size < w3.heap.size := by omega
  clear h0 hstops hbx3 hbt3 hV3 hb3 hBw hw3 hp hpp hpq x1
  gi_wp2_with fail
  refine wpIn_rangeFunc_ownG rfl (by omega) (gf := 87) (lb := #[.pointer (some ⟨w.heap.size + 1, 0, none⟩)]) rfl trivial (enters_of Tryz.func87 (by kernel_rfl) rfl)
    HSTP.out (fun h k => h.trans k) (fun W l o o' hl ho _ _ => ⟨by simp, fun k hk hl' => World.putObj_heap_other (by have := HPP.out k hk; omega)⟩) (Below.refl _ _) (fun _ => rfl)
    (SzJ w w3 p w.heap.size w3.heap.size N) (SzX w w3 p w.heap.size w3.heap.size N) (szJ_own hbM HPP.out) (fun c => szX_own hbM HPP.out c) ⟨by simp, H0.out⟩
    (fun x => { tmps := #[.pointer (some ⟨R, 0, none⟩), .pointer (some ⟨K, 0, none⟩), undef, undef, .pointer (some ⟨w.heap.size, 0, none⟩), .slice x.1.1 x.1.2.2.length x.1.2.1, undef, undef, .pointer (some ⟨R, 0, none⟩), .pointer (some ⟨R, 0, none⟩), .pointer (some ⟨R, 1, none⟩), .slice A n cp, .func (.func 87) #[] #[.pointer (some ⟨w.heap.size + 1, 0, none⟩)], .slice x.1.1 x.1.2.2.length x.1.2.1, undef, undef, undef, undef, undef, undef, undef, undef, undef, undef, undef, undef, undef, undef, undef, undef, undef, undef, undef, undef, undef, undef, undef, undef, undef, undef, undef, undef, undef, undef, undef, undef, undef, undef, undef, undef, undef, undef], defers := [] }) ?assign ?body ?done ?stop
  case assign =>
    intro lp x X K' hK'
    dsimp only [encL]
    gi_wp2
    exact hK'
  case body =>
    rintro lp pre ⟨⟨Ax, cx, s⟩, hbx, hsc, hcm, hsl, hs0⟩ X ⟨hno, hst⟩ hlen
    dsimp only at hbx hsc hcm hsl hs0 ⊢
    obtain ⟨y, hy⟩ : ∃ y : LineAt p w3 N, y = ⟨(Ax, cx, s), hbx, hsc, hcm, hsl, hs0⟩ := ⟨_, rfl⟩
    rw [← hy]
    have hyl : byL y = s := by rw [hy]; rfl
    clear hy
    have hlen2 : pre.length < n + 1 := by rw [← HLN.out]; exact hlen
    have hql := flat_lines_len pre
    have HPR : Hid ((pre ++ [y]).map byL = pre.map byL ++ [s]) := Lib.hid (by rw [List.map_append]; simp [hyl])
    clear hyl
    have hx0 := hbx X hst.sm
    have hNX : N ≤ X.heap.size := by have := hst.sz; omega
    have HM := Lib.hid (marked_any hx0 hNX cx hsc)
    have hq9 : (pre.map byL).flatten.length ≤ 930000000 := by omega
    generalize pre.map byL = ls at *
    have HNO := Lib.hid hno
    have HS := Lib.hid hst
    generalize hqe : ls.flatten.length = q at *
    have HQE := Lib.hid hqe
    clear hql hno hqe hst hx0 hbx
    generalize hsn : s.length = sn at *
    have HSN := Lib.hid hsn
    clear hsn
    gi_wp2_with fail
    refine ⟨trivial, CallsIn.inRound lp (callsIn_wide.2 (HM.out.mono ?_))⟩
    rintro e X1 ⟨rfl, hg1⟩
    have HS1 := Lib.hid (HS.out.row hbM HPP.out hg1 (fun r e => by cases e))
    have HG1 := Lib.hid hg1
    clear hg1 HM
    cases hmk : mark s with
    | true =>
      gi_wp2_with fail
      refine ⟨(KeepsOthers.of_grownBy HG1.out (fun _ _ h => by cases h)).from _, rfl, ls, s, HPR.out, HNO.out, hmk, ?_⟩
      rw [HQE.out]
      exact HS1.out
    | false =>
      have y1 := HS1.out.box.cell
      have y2 := HS1.out.box.frozen
      obtain ⟨S2, KO2, SM2⟩ := HS1.out.size HPP.out (q + sn) ((q : Int) + (sn : Int)) (by omega)
      have HS2 := Lib.hid S2
      have HK2 := Lib.hid KO2
      have HM2 := Lib.hid SM2
      have HMK := Lib.hid hmk
      clear S2 KO2 SM2 hmk
      gi_wp2_with fail
      refine ⟨((KeepsOthers.of_grownBy HG1.out (fun _ _ h => by cases h)).trans HK2.out).from _, (Sm.grown HG1.out).trans HM2.out, ?_, ?_⟩
      · rw [HPR.out]
        intro x hx
        rcases List.mem_append.1 hx with hx | hx
        · exact HNO.out x hx
        · rw [List.mem_singleton.1 hx]; exact HMK.out
      · rw [HPR.out, List.flatten_append, List.length_append, HQE.out, show ([s] : List L).flatten.length = sn by simp [HSN.out]]
        exact HS2.out
  case done =>
    rintro D xs X hD hS ⟨hno, hst⟩ hKd
    rw [hS] at hno hst
    have hbo := body_all hno
    rw [lns_flat, ← hbo] at hst
    clear hno hbo
    obtain ⟨hbt1, hbt2, hbt3⟩ := body_take l
    have HBO := Lib.hid hbt1
    have HRE := Lib.hid hbt2
    rw [HLN.out] at hbt3
    generalize hq : (bodyOf l).length = q at *
    have HQ := Lib.hid hq
    obtain ⟨hRX, hKX⟩ := HRX.out X hst.sm
    have y1 := (hRX.cell 1).trans (rfl : _ = some (Value.slice A n cp))
    have y2 := hst.box.cell
    have HKD := Lib.hid hKd
    have hqn : (q : Int) ≤ (n : Int) := by omega
    have hqc : (q : Int) ≤ (cp : Int) := by omega
    have HBB : Hid (∀ Y, Below N w Y → Bts Y N A (bodyOf l)) := Lib.hid fun Y hY => by rw [HBO.out]; exact (HB.out.below hY).take q
    have HBD : Hid (∀ Y, Below N w Y → Bts Y N A (bodyOf l).dropLast) := Lib.hid fun Y hY => by
      rw [List.dropLast_eq_take]
      exact (HBB.out Y hY).take _
    have HDL : Hid ((bodyOf l).dropLast.length = q - 1) := Lib.hid (by rw [List.length_dropLast, HQ.out])
    have HST := Lib.hid hst
    have HRK := Lib.hid (And.intro hRX hKX)
    have hXs := hst.sz
    clear hbt1 hq hRX hKX hKd hst
    try clear hS
    cases hs : Go.Lib.hasSuffix (bodyOf l) [10] with
    | false =>
      gi_wp2_with fail
      refine regionIn_held_drew (S := (fun Y => Y.cell? ⟨R, 1, none⟩ = some (.slice A n cp) ∧ Y.cell? ⟨w.heap.size, 0, none⟩ = some (.int .i64 q))) (Wide.wide _ _) (by kernel_rfl) (by kernel_rfl) (⟨y1, y2⟩) (fun hHeld => ?_)
      have HST2 : Hid (SzI w w3 p w.heap.size w3.heap.size q X.drew) := Lib.hid ⟨HST.out.box, HST.out.bel.drew, HST.out.sm, HST.out.sz⟩
      have HKD2 : Hid (X.drew.heap[D]? = some (.deferred (some []))) := HKD
      have HRK2 : Hid (BlkIs X.drew R 45 #[lv, .slice A n cp] ∧ BlkIs X.drew K 43 #[vf, va, vb]) := HRK
      have hXs2 : w3.heap.size ≤ X.drew.heap.size := hXs
      generalize X.drew = X2 at *
      clear y1 y2 HKD HST HRK hXs
      refine wpAnyH_take (i := 0) (v := .pointer (some ⟨R, 0, none⟩)) rfl (by kernel_rfl) (by kernel_rfl) (by kernel_rfl) (fun _ _ _ h => h) (Or.inl ⟨by rfl, fun w hS => by first | (go_simp; done) | (go_simp; with_reducible rfl)⟩) hHeld ?_
      try simp only [Act.put, List.getElem_toArray, List.getElem_cons_zero, List.setIfInBounds_toArray, List.set_cons_zero, List.set_cons_succ]
      refine wpAnyH_take (i := 1) (v := .pointer (some ⟨R, 0, none⟩)) rfl (by kernel_rfl) (by kernel_rfl) (by kernel_rfl) (fun _ _ _ h => h) (Or.inl ⟨by rfl, fun w hS => by first | (go_simp; done) | (go_simp; with_reducible rfl)⟩) hHeld ?_
      try simp only [Act.put, List.getElem_toArray, List.getElem_cons_zero, List.getElem_cons_succ, List.setIfInBounds_toArray, List.set_cons_zero, List.set_cons_succ]
      refine wpAnyH_take (i := 2) (v := .pointer (some ⟨R, 1, none⟩)) rfl (by kernel_rfl) (by kernel_rfl) (by kernel_rfl) (fun _ _ _ h => h) (Or.inl ⟨by rfl, fun w hS => by first | (go_simp; done) | (go_simp; with_reducible rfl)⟩) hHeld ?_
      try simp only [Act.put, List.getElem_toArray, List.getElem_cons_zero, List.getElem_cons_succ, List.setIfInBounds_toArray, List.set_cons_zero, List.set_cons_succ]
      refine wpAnyH_take (i := 3) (v := .slice A n cp) rfl (by kernel_rfl) (by kernel_rfl) (by kernel_rfl) (fun _ _ _ h => h) (Or.inl ⟨by rfl, fun w hS => by (have hc1 := hS.1; first | (go_simp; done) | (go_simp; with_reducible rfl))⟩) hHeld ?_
      try simp only [Act.put, List.getElem_toArray, List.getElem_cons_zero, List.getElem_cons_succ, List.setIfInBounds_toArray, List.set_cons_zero, List.set_cons_succ]
      refine wpAnyH_take (i := 4) (v := .int .i64 q) rfl (by kernel_rfl) (by kernel_rfl) (by kernel_rfl) (fun _ _ _ h => h) (Or.inl ⟨by rfl, fun w hS => by (have hc1 := hS.2; first | (go_simp; done) | (go_simp; with_reducible rfl))⟩) hHeld ?_
      try simp only [Act.put, List.getElem_toArray, List.getElem_cons_zero, List.getElem_cons_succ, List.setIfInBounds_toArray, List.set_cons_zero, List.set_cons_succ]
      refine wpAnyH_take (i := 5) (v := .slice A q cp) rfl (by kernel_rfl) (by kernel_rfl) (by kernel_rfl) (fun _ _ _ h => h) (Or.inl ⟨by rfl, fun w hS => by first | (go_simp; done) | (go_simp; with_reducible rfl)⟩) hHeld ?_
      try simp only [Act.put, List.getElem_toArray, List.getElem_cons_zero, List.getElem_cons_succ, List.setIfInBounds_toArray, List.set_cons_zero, List.set_cons_succ]
      refine wpAnyH_ready (rs := [6]) (by kernel_rfl) (by simp) ?_
      refine AllReadyH.cons rfl (fun K hK => ?_) AllReadyH.nil
      go_simp
      refine hK.out _ _ ?_ (fun hHeld => ?_)
      · exact ⟨((HRK2.out.1.alloc _).cell 1).trans rfl, (HST2.out.box.alloc _).cell⟩
      clear hK K
      try simp only [Act.put, List.getElem_toArray, List.getElem_cons_zero, List.getElem_cons_succ, List.setIfInBounds_toArray, List.set_cons_zero, List.set_cons_succ]
      refine wpAnyH_ready (rs := [7]) (by kernel_rfl) (by simp) ?_
      refine AllReadyH.cons rfl (fun K hK => ?_) AllReadyH.nil
      go_simp
      refine hK.out _ _ ?_ (fun hHeld => ?_)
      · exact ⟨((HRK2.out.1.alloc _).cell 1).trans rfl, (HST2.out.box.alloc _).cell⟩
      clear hK K
      try simp only [Act.put, List.getElem_toArray, List.getElem_cons_zero, List.getElem_cons_succ, List.setIfInBounds_toArray, List.set_cons_zero, List.set_cons_succ]
      have HST3 := Lib.hid (HST2.out.row hbM HPP.out (grown_alloc X2 (.cells #[.int .u8 10] 5 (1, 2))) (fun r e => by cases e))
      have HRK3 : Hid (BlkIs (X2.alloc (.cells #[.int .u8 10] 5 (1, 2))) R 45 #[lv, .slice A n cp] ∧ BlkIs (X2.alloc (.cells #[.int .u8 10] 5 (1, 2))) K 43 #[vf, va, vb]) := Lib.hid ⟨HRK2.out.1.alloc _, HRK2.out.2.alloc _⟩
      have HKD3 : Hid ((X2.alloc (.cells #[.int .u8 10] 5 (1, 2))).heap[D]? = some (.deferred (some []))) := Lib.hid ((Below.heap_alloc _ _ _ (Array.getElem?_eq_some_iff.1 HKD2.out).1).trans HKD2.out)
      have HB3 := Lib.hid (HST3.out.bel.mono hNw)
      have HCS : Hid (Calls Tryz.prog 52 #[.slice A q cp, .slice (some ⟨X2.heap.size, 0, none⟩) 1 1] (X2.alloc (.cells #[.int .u8 10] 5 (1, 2))) fun e w' => e = .returned (.tuple #[.slice A q cp, .bool false]) ∧ (X2.alloc (.cells #[.int .u8 10] 5 (1, 2))) = w') := Lib.hid (by
        have := cutsuf_any (HBB.out _ HB3.out) (bts_new X2 [10] #[.int .u8 10] (1, 2) rfl) cp 1 (by rw [HQ.out]; omega) (by rw [HQ.out]; omega)
        rw [HQ.out, hs] at this
        exact this)
      refine wpAnyH_ready (rs := [8]) (by kernel_rfl) (by simp) ?_
      refine AllReadyH.cons rfl (fun K hK => ?_) AllReadyH.nil
      go_simp
      go_wp2_with ((refine HCS.out.mono ?_; rintro e X3 ⟨rfl, rfl⟩))
      refine hK.out _ _ ?_ (fun hHeld => ?_)
      · exact ⟨(HRK3.out.1.cell 1).trans rfl, HST3.out.box.cell⟩
      clear hK K
      try simp only [Act.put, List.getElem_toArray, List.getElem_cons_zero, List.getElem_cons_succ, List.setIfInBounds_toArray, List.set_cons_zero, List.set_cons_succ]
      clear HCS HST2 HKD2 HRK2 hXs2
      have hXs3 := HST3.out.sz
      generalize X2.alloc (.cells #[.int .u8 10] 5 (1, 2)) = X3 at *
      refine wpAnyH_take (i := 9) (v := .tuple #[.slice A q cp, .bool false]) rfl (by kernel_rfl) (by kernel_rfl) (by kernel_rfl) (fun _ _ _ h => h) (Or.inl ⟨by rfl, fun w hS => by first | (go_simp; done) | (go_simp; with_reducible rfl)⟩) hHeld ?_
      try simp only [Act.put, List.getElem_toArray, List.getElem_cons_zero, List.getElem_cons_succ, List.setIfInBounds_toArray, List.set_cons_zero, List.set_cons_succ]
      refine wpAnyH_take (i := 10) (v := .slice A q cp) rfl (by kernel_rfl) (by kernel_rfl) (by kernel_rfl) (fun _ _ _ h => h) (Or.inl ⟨by rfl, fun w hS => by first | (go_simp; done) | (go_simp; with_reducible rfl)⟩) hHeld ?_
      try simp only [Act.put, List.getElem_toArray, List.getElem_cons_zero, List.getElem_cons_succ, List.setIfInBounds_toArray, List.set_cons_zero, List.set_cons_succ]
      refine wpAnyH_take (i := 11) (v := .bool false) rfl (by kernel_rfl) (by kernel_rfl) (by kernel_rfl) (fun _ _ _ h => h) (Or.inl ⟨by rfl, fun w hS => by first | (go_simp; done) | (go_simp; with_reducible rfl)⟩) hHeld ?_
      try simp only [Act.put, List.getElem_toArray, List.getElem_cons_zero, List.getElem_cons_succ, List.setIfInBounds_toArray, List.set_cons_zero, List.set_cons_succ]
      refine wpAnyH_take (i := 12) (v := .slice A q cp) rfl (by kernel_rfl) (by kernel_rfl) (by kernel_rfl) (fun _ _ _ h => h) (Or.inl ⟨by rfl, fun w hS => by first | (go_simp; done) | (go_simp; with_reducible rfl)⟩) hHeld ?_
      try simp only [Act.put, List.getElem_toArray, List.getElem_cons_zero, List.getElem_cons_succ, List.setIfInBounds_toArray, List.set_cons_zero, List.set_cons_succ]
      refine wpAnyH_take (i := 13) (v := .bool false) rfl (by kernel_rfl) (by kernel_rfl) (by kernel_rfl) (fun _ _ _ h => h) (Or.inl ⟨by rfl, fun w hS => by first | (go_simp; done) | (go_simp; with_reducible rfl)⟩) hHeld ?_
      try simp only [Act.put, List.getElem_toArray, List.getElem_cons_zero, List.getElem_cons_succ, List.setIfInBounds_toArray, List.set_cons_zero, List.set_cons_succ]
      refine wpAnyH_done (by kernel_rfl) (NormalAt.mk ?_) _
      gi_wp2_with fail
      refine ⟨trivial, ?_⟩
      gi_wp2_with (first
        | (refine ⟨trivial, (callsIn_wide.2 (need_bad _)).mono ?_⟩; rintro e X4 ⟨rfl, rfl⟩)
        | fail)
      have hK9 := HKD3.out
      have b9 : Below w.heap.size w X3 := HST3.out.bel
      have hg9 := grownBy_putObj' X3 D (.deferred none)
      refine ⟨by simp, .inl ⟨_, _, rfl, run_takeDeferred hK9, ?_⟩⟩
      exact ⟨Tn.of_below (b9.grown hg9 b9.size (fun k e => by injection e with e; omega)), .inr ⟨fun hc => absurd hc.1 (by rw [hs]; decide), rfl⟩⟩
    | true =>
      gi_wp2_with fail
      refine regionIn_held_drew (S := (fun Y => Y.cell? ⟨R, 1, none⟩ = some (.slice A n cp) ∧ Y.cell? ⟨w.heap.size, 0, none⟩ = some (.int .i64 q))) (Wide.wide _ _) (by kernel_rfl) (by kernel_rfl) (⟨y1, y2⟩) (fun hHeld => ?_)
      have HST2 : Hid (SzI w w3 p w.heap.size w3.heap.size q X.drew) := Lib.hid ⟨HST.out.box, HST.out.bel.drew, HST.out.sm, HST.out.sz⟩
      have HKD2 : Hid (X.drew.heap[D]? = some (.deferred (some []))) := HKD
      have HRK2 : Hid (BlkIs X.drew R 45 #[lv, .slice A n cp] ∧ BlkIs X.drew K 43 #[vf, va, vb]) := HRK
      have hXs2 : w3.heap.size ≤ X.drew.heap.size := hXs
      generalize X.drew = X2 at *
      clear y1 y2 HKD HST HRK hXs
      refine wpAnyH_take (i := 0) (v := .pointer (some ⟨R, 0, none⟩)) rfl (by kernel_rfl) (by kernel_rfl) (by kernel_rfl) (fun _ _ _ h => h) (Or.inl ⟨by rfl, fun w hS => by first | (go_simp; done) | (go_simp; with_reducible rfl)⟩) hHeld ?_
      try simp only [Act.put, List.getElem_toArray, List.getElem_cons_zero, List.setIfInBounds_toArray, List.set_cons_zero, List.set_cons_succ]
      refine wpAnyH_take (i := 1) (v := .pointer (some ⟨R, 0, none⟩)) rfl (by kernel_rfl) (by kernel_rfl) (by kernel_rfl) (fun _ _ _ h => h) (Or.inl ⟨by rfl, fun w hS => by first | (go_simp; done) | (go_simp; with_reducible rfl)⟩) hHeld ?_
      try simp only [Act.put, List.getElem_toArray, List.getElem_cons_zero, List.getElem_cons_succ, List.setIfInBounds_toArray, List.set_cons_zero, List.set_cons_succ]
      refine wpAnyH_take (i := 2) (v := .pointer (some ⟨R, 1, none⟩)) rfl (by kernel_rfl) (by kernel_rfl) (by kernel_rfl) (fun _ _ _ h => h) (Or.inl ⟨by rfl, fun w hS => by first | (go_simp; done) | (go_simp; with_reducible rfl)⟩) hHeld ?_
      try simp only [Act.put, List.getElem_toArray, List.getElem_cons_zero, List.getElem_cons_succ, List.setIfInBounds_toArray, List.set_cons_zero, List.set_cons_succ]
      refine wpAnyH_take (i := 3) (v := .slice A n cp) rfl (by kernel_rfl) (by kernel_rfl) (by kernel_rfl) (fun _ _ _ h => h) (Or.inl ⟨by rfl, fun w hS => by (have hc1 := hS.1; first | (go_simp; done) | (go_simp; with_reducible rfl))⟩) hHeld ?_
      try simp only [Act.put, List.getElem_toArray, List.getElem_cons_zero, List.getElem_cons_succ, List.setIfInBounds_toArray, List.set_cons_zero, List.set_cons_succ]
      refine wpAnyH_take (i := 4) (v := .int .i64 q) rfl (by kernel_rfl) (by kernel_rfl) (by kernel_rfl) (fun _ _ _ h => h) (Or.inl ⟨by rfl, fun w hS => by (have hc1 := hS.2; first | (go_simp; done) | (go_simp; with_reducible rfl))⟩) hHeld ?_
      try simp only [Act.put, List.getElem_toArray, List.getElem_cons_zero, List.getElem_cons_succ, List.setIfInBounds_toArray, List.set_cons_zero, List.set_cons_succ]
      refine wpAnyH_take (i := 5) (v := .slice A q cp) rfl (by kernel_rfl) (by kernel_rfl) (by kernel_rfl) (fun _ _ _ h => h) (Or.inl ⟨by rfl, fun w hS => by first | (go_simp; done) | (go_simp; with_reducible rfl)⟩) hHeld ?_
      try simp only [Act.put, List.getElem_toArray, List.getElem_cons_zero, List.getElem_cons_succ, List.setIfInBounds_toArray, List.set_cons_zero, List.set_cons_succ]
      refine wpAnyH_ready (rs := [6]) (by kernel_rfl) (by simp) ?_
      refine AllReadyH.cons rfl (fun K hK => ?_) AllReadyH.nil
      go_simp
      refine hK.out _ _ ?_ (fun hHeld => ?_)
      · exact ⟨((HRK2.out.1.alloc _).cell 1).trans rfl, (HST2.out.box.alloc _).cell⟩
      clear hK K
      try simp only [Act.put, List.getElem_toArray, List.getElem_cons_zero, List.getElem_cons_succ, List.setIfInBounds_toArray, List.set_cons_zero, List.set_cons_succ]
      refine wpAnyH_ready (rs := [7]) (by kernel_rfl) (by simp) ?_
      refine AllReadyH.cons rfl (fun K hK => ?_) AllReadyH.nil
      go_simp
      refine hK.out _ _ ?_ (fun hHeld => ?_)
      · exact ⟨((HRK2.out.1.alloc _).cell 1).trans rfl, (HST2.out.box.alloc _).cell⟩
      clear hK K
      try simp only [Act.put, List.getElem_toArray, List.getElem_cons_zero, List.getElem_cons_succ, List.setIfInBounds_toArray, List.set_cons_zero, List.set_cons_succ]
      have HST3 := Lib.hid (HST2.out.row hbM HPP.out (grown_alloc X2 (.cells #[.int .u8 10] 5 (1, 2))) (fun r e => by cases e))
      have HRK3 : Hid (BlkIs (X2.alloc (.cells #[.int .u8 10] 5 (1, 2))) R 45 #[lv, .slice A n cp] ∧ BlkIs (X2.alloc (.cells #[.int .u8 10] 5 (1, 2))) K 43 #[vf, va, vb]) := Lib.hid ⟨HRK2.out.1.alloc _, HRK2.out.2.alloc _⟩
      have HKD3 : Hid ((X2.alloc (.cells #[.int .u8 10] 5 (1, 2))).heap[D]? = some (.deferred (some []))) := Lib.hid ((Below.heap_alloc _ _ _ (Array.getElem?_eq_some_iff.1 HKD2.out).1).trans HKD2.out)
      have HB3 := Lib.hid (HST3.out.bel.mono hNw)
      have HCS : Hid (Calls Tryz.prog 52 #[.slice A q cp, .slice (some ⟨X2.heap.size, 0, none⟩) 1 1] (X2.alloc (.cells #[.int .u8 10] 5 (1, 2))) fun e w' => e = .returned (.tuple #[.slice A (q - 1) cp, .bool true]) ∧ (X2.alloc (.cells #[.int .u8 10] 5 (1, 2))) = w') := Lib.hid (by
        have := cutsuf_any (HBB.out _ HB3.out) (bts_new X2 [10] #[.int .u8 10] (1, 2) rfl) cp 1 (by rw [HQ.out]; omega) (by rw [HQ.out]; omega)
        rw [HQ.out, hs] at this
        exact this)
      refine wpAnyH_ready (rs := [8]) (by kernel_rfl) (by simp) ?_
      refine AllReadyH.cons rfl (fun K hK => ?_) AllReadyH.nil
      go_simp
      go_wp2_with ((refine HCS.out.mono ?_; rintro e X3 ⟨rfl, rfl⟩))
      refine hK.out _ _ ?_ (fun hHeld => ?_)
      · exact ⟨(HRK3.out.1.cell 1).trans rfl, HST3.out.box.cell⟩
      clear hK K
      try simp only [Act.put, List.getElem_toArray, List.getElem_cons_zero, List.getElem_cons_succ, List.setIfInBounds_toArray, List.set_cons_zero, List.set_cons_succ]
      clear HCS HST2 HKD2 HRK2 hXs2
      have hXs3 := HST3.out.sz
      generalize X2.alloc (.cells #[.int .u8 10] 5 (1, 2)) = X3 at *
      refine wpAnyH_take (i := 9) (v := .tuple #[.slice A (q - 1) cp, .bool true]) rfl (by kernel_rfl) (by kernel_rfl) (by kernel_rfl) (fun _ _ _ h => h) (Or.inl ⟨by rfl, fun w hS => by first | (go_simp; done) | (go_simp; with_reducible rfl)⟩) hHeld ?_
      try simp only [Act.put, List.getElem_toArray, List.getElem_cons_zero, List.getElem_cons_succ, List.setIfInBounds_toArray, List.set_cons_zero, List.set_cons_succ]
      refine wpAnyH_take (i := 10) (v := .slice A (q - 1) cp) rfl (by kernel_rfl) (by kernel_rfl) (by kernel_rfl) (fun _ _ _ h => h) (Or.inl ⟨by rfl, fun w hS => by first | (go_simp; done) | (go_simp; with_reducible rfl)⟩) hHeld ?_
      try simp only [Act.put, List.getElem_toArray, List.getElem_cons_zero, List.getElem_cons_succ, List.setIfInBounds_toArray, List.set_cons_zero, List.set_cons_succ]
      refine wpAnyH_take (i := 11) (v := .bool true) rfl (by kernel_rfl) (by kernel_rfl) (by kernel_rfl) (fun _ _ _ h => h) (Or.inl ⟨by rfl, fun w hS => by first | (go_simp; done) | (go_simp; with_reducible rfl)⟩) hHeld ?_
      try simp only [Act.put, List.getElem_toArray, List.getElem_cons_zero, List.getElem_cons_succ, List.setIfInBounds_toArray, List.set_cons_zero, List.set_cons_succ]
      refine wpAnyH_take (i := 12) (v := .slice A (q - 1) cp) rfl (by kernel_rfl) (by kernel_rfl) (by kernel_rfl) (fun _ _ _ h => h) (Or.inl ⟨by rfl, fun w hS => by first | (go_simp; done) | (go_simp; with_reducible rfl)⟩) hHeld ?_
      try simp only [Act.put, List.getElem_toArray, List.getElem_cons_zero, List.getElem_cons_succ, List.setIfInBounds_toArray, List.set_cons_zero, List.set_cons_succ]
      refine wpAnyH_take (i := 13) (v := .bool true) rfl (by kernel_rfl) (by kernel_rfl) (by kernel_rfl) (fun _ _ _ h => h) (Or.inl ⟨by rfl, fun w hS => by first | (go_simp; done) | (go_simp; with_reducible rfl)⟩) hHeld ?_
      try simp only [Act.put, List.getElem_toArray, List.getElem_cons_zero, List.getElem_cons_succ, List.setIfInBounds_toArray, List.set_cons_zero, List.set_cons_succ]
      refine wpAnyH_done (by kernel_rfl) (NormalAt.mk ?_) _
      have hq1 : 1 ≤ q := by
        obtain ⟨t, ht⟩ := (suf_iff _).1 hs
        rw [← HQ.out, ht]
        simp
      have HWL : Hid (Calls Tryz.prog 61 #[.slice A (q - 1) cp] X3 fun e w' => e = .returned (.bool (wholeB (bodyOf l).dropLast)) ∧ X3.grownBy w' none) := Lib.hid (by
        have := whole_any (HBD.out X3 HB3.out) (by have := HB3.out.size; omega) cp (by rw [HDL.out]; omega) (by rw [HDL.out]; omega)
        rwa [HDL.out] at this)
      gi_wp2_with fail
      refine ⟨trivial, (callsIn_wide.2 HWL.out).mono ?_⟩
      rintro e X4 ⟨rfl, hg4⟩
      have HST4 := Lib.hid (HST3.out.row hbM HPP.out hg4 (fun r e => by cases e))
      have HRK4 : Hid (BlkIs X4 R 45 #[lv, .slice A n cp] ∧ BlkIs X4 K 43 #[vf, va, vb]) := Lib.hid ⟨HRK3.out.1.grown hg4 (by simp), HRK3.out.2.grown hg4 (by simp)⟩
      have HKD4 : Hid (X4.heap[D]? = some (.deferred (some []))) := Lib.hid ((hg4.block D (Array.getElem?_eq_some_iff.1 HKD3.out).1 (fun e => by cases e)).trans HKD3.out)
      have HB4 := Lib.hid (HST4.out.bel.mono hNw)
      have hs4 := HST4.out.sz
      clear HWL hg4 HST3 HRK3 HKD3 HB3 hXs3
      cases hwh : wholeB (bodyOf l).dropLast with
      | false =>
        gi_wp2_with (first
          | (refine ⟨trivial, (callsIn_wide.2 (need_bad _)).mono ?_⟩; rintro e X4b ⟨rfl, rfl⟩)
          | fail)
        have hK9 := HKD4.out
        have b9 : Below w.heap.size w X4 := HST4.out.bel
        have hg9 := grownBy_putObj' X4 D (.deferred none)
        refine ⟨by simp, .inl ⟨_, _, rfl, run_takeDeferred hK9, ?_⟩⟩
        exact ⟨Tn.of_below (b9.grown hg9 b9.size (fun k e => by injection e with e; omega)), .inr ⟨fun hc => absurd hc.2 (by rw [hwh]; decide), rfl⟩⟩
      | true =>
        obtain ⟨g0, o0, rfl, _, _⟩ := bts_at_ HB.out (by rw [HLN.out]; omega)
        have HUQ : Hid (Calls Tryz.prog 67 #[.slice (some ⟨g0, o0, none⟩) (q - 1) cp] X4 (OutP X4 (unquoteS (bodyOf l).dropLast))) := Lib.hid (by
          have := unquote_any ((HBD.out X4 HB4.out).more (by have := HB4.out.size; omega)) cp (by rw [HDL.out]; omega) hcm (fun e => by cases e) (by rw [HDL.out]; omega)
          rwa [HDL.out] at this)
        gi_wp2_with (first
          | (refine ⟨trivial, (callsIn_wide.2 (need_ok _)).mono ?_⟩; rintro e X4b ⟨rfl, rfl⟩)
          | fail)
        refine ⟨trivial, (callsIn_wide.2 HUQ.out).mono ?_⟩
        rintro e X5 ⟨v5, rfl, ho5, hb5⟩
        obtain ⟨A5, c5, rfl, _, _⟩ := own_slice ho5
        generalize hk5 : (unquoteS (bodyOf l).dropLast).length = k5 at *
        have HU5 := Lib.hid hk5
        have hR5 : BlkIs X5 R 45 #[lv, .slice (some ⟨g0, o0, none⟩) n cp] := (hb5.block _ HRK4.out.1.lt).trans HRK4.out.1
        have hK5 : BlkIs X5 K 43 #[vf, va, vb] := (hb5.block _ HRK4.out.2.lt).trans HRK4.out.2
        have hbx5 : Boxed X5 w.heap.size 3 (.int .i64 q) := (hb5.block _ HST4.out.box.lt).trans HST4.out.box
        have y2 := (hK5.cell 2).trans (rfl : _ = some vb)
        have yf2 := hK5.froz 2
        have HKB6 := Lib.hid (hK5.put 2 (.slice A5 k5 c5))
        have HRB6 := Lib.hid (hR5.far (x := ⟨K, 2, none⟩) hRK (.slice A5 k5 c5))
        have hbx6 := boxed_far' hbx5 (show w.heap.size ≠ K by omega) 2 (.slice A5 k5 c5)
        have HR6 := Lib.hid (And.intro ((HRB6.out.cell 1).trans (rfl : _ = some (Value.slice (some ⟨g0, o0, none⟩) n cp))) (And.intro (HRB6.out.froz 1) hbx6.cell))
        have HO6 := Lib.hid (own_far ho5 (x := ⟨K, 2, none⟩) (fun g hg => by have := (ho5.lt g hg).1; show g ≠ K; omega) (.slice A5 k5 c5))
        have HB6 := Lib.hid (((Tn.of_below (p := fun k => k = R ∨ k = K) HST4.out.bel).trans (Tn.of_below hb5)).setCell (x := ⟨K, 2, none⟩) (.inl (.inr rfl)) (.slice A5 k5 c5))
        have HKD6 : Hid ((X5.setCell ⟨K, 2, none⟩ (.slice A5 k5 c5)).heap[D]? = some (.deferred (some []))) := Lib.hid ((Below.heap_setCell _ _ _ _ (by show D ≠ K; omega)).trans ((hb5.block D (Array.getElem?_eq_some_iff.1 HKD4.out).1).trans HKD4.out))
        clear hk5 ho5 hb5 hR5 hK5 hbx5 hbx6 HUQ HST4 HRK4 HKD4
        gi_wp2_with fail
        generalize hX6 : X5.setCell ⟨K, 2, none⟩ (.slice A5 k5 c5) = X6 at *
        clear hX6
        by_cases hcq : cp = q
        · have hcq' : q = cp := hcq.symm
          subst hcq'
          refine regionIn_key ((fun Y => Y.cell? ⟨R, 1, none⟩ = some (.slice (some ⟨g0, o0, none⟩) n q) ∧ Y.frozen? ⟨R, 1, none⟩ = false ∧ Y.cell? ⟨w.heap.size, 0, none⟩ = some (.int .i64 q))) 9 (Wide.wide _ _) (by kernel_rfl) (by kernel_rfl) (HR6.out) (fun hHeld => ?_)
          have HR7 : Hid (BlkIs X6.drew R 45 #[lv, .slice (some ⟨g0, o0, none⟩) n q]) := HRB6
          have HK7 : Hid (BlkIs X6.drew K 43 #[vf, va, .slice A5 k5 c5]) := HKB6
          have HO7 : Hid (Own5 X6.drew X4.heap.size (.slice A5 k5 c5) (unquoteS (bodyOf l).dropLast)) := HO6
          have HKD7 : Hid (X6.drew.heap[D]? = some (.deferred (some []))) := HKD6
          have HB7 : Hid (Tn (fun k => k = R ∨ k = K) w X6.drew) := Lib.hid ⟨HB6.out.os, HB6.out.tape, HB6.out.output, HB6.out.size, HB6.out.block⟩
          have y17 := (HR7.out.cell 1).trans (rfl : _ = some (Value.slice (some ⟨g0, o0, none⟩) n q))
          have yf7 := HR7.out.froz 1
          have hs64 : w3.heap.size ≤ X4.heap.size := hs4
          generalize X6.drew = X7 at *
          refine wpAnyK_take (i := 0) (v := .pointer (some ⟨R, 0, none⟩)) rfl (by kernel_rfl) (by kernel_rfl) (by kernel_rfl) (by kernel_rfl) (fun _ _ _ h => h) (Or.inl ⟨by rfl, fun w hS => by first | (go_simp; done) | (go_simp; with_reducible rfl)⟩) hHeld ?_
          try simp only [Act.put, List.getElem_toArray, List.getElem_cons_zero, List.setIfInBounds_toArray, List.set_cons_zero, List.set_cons_succ]
          refine wpAnyK_take (i := 1) (v := .pointer (some ⟨R, 0, none⟩)) rfl (by kernel_rfl) (by kernel_rfl) (by kernel_rfl) (by kernel_rfl) (fun _ _ _ h => h) (Or.inl ⟨by rfl, fun w hS => by first | (go_simp; done) | (go_simp; with_reducible rfl)⟩) hHeld ?_
          try simp only [Act.put, List.getElem_toArray, List.getElem_cons_zero, List.getElem_cons_succ, List.setIfInBounds_toArray, List.set_cons_zero, List.set_cons_succ]
          refine wpAnyK_take (i := 2) (v := .pointer (some ⟨R, 0, none⟩)) rfl (by kernel_rfl) (by kernel_rfl) (by kernel_rfl) (by kernel_rfl) (fun _ _ _ h => h) (Or.inl ⟨by rfl, fun w hS => by first | (go_simp; done) | (go_simp; with_reducible rfl)⟩) hHeld ?_
          try simp only [Act.put, List.getElem_toArray, List.getElem_cons_zero, List.getElem_cons_succ, List.setIfInBounds_toArray, List.set_cons_zero, List.set_cons_succ]
          refine wpAnyK_take (i := 3) (v := .pointer (some ⟨R, 1, none⟩)) rfl (by kernel_rfl) (by kernel_rfl) (by kernel_rfl) (by kernel_rfl) (fun _ _ _ h => h) (Or.inl ⟨by rfl, fun w hS => by first | (go_simp; done) | (go_simp; with_reducible rfl)⟩) hHeld ?_
          try simp only [Act.put, List.getElem_toArray, List.getElem_cons_zero, List.getElem_cons_succ, List.setIfInBounds_toArray, List.set_cons_zero, List.set_cons_succ]
          refine wpAnyK_take (i := 4) (v := .slice (some ⟨g0, o0, none⟩) n q) rfl (by kernel_rfl) (by kernel_rfl) (by kernel_rfl) (by kernel_rfl) (fun _ _ _ h => h) (Or.inl ⟨by rfl, fun w hS => by (have hc1 := hS.1; first | (go_simp; done) | (go_simp; with_reducible rfl))⟩) hHeld ?_
          try simp only [Act.put, List.getElem_toArray, List.getElem_cons_zero, List.getElem_cons_succ, List.setIfInBounds_toArray, List.set_cons_zero, List.set_cons_succ]
          refine wpAnyK_take (i := 5) (v := .int .i64 q) rfl (by kernel_rfl) (by kernel_rfl) (by kernel_rfl) (by kernel_rfl) (fun _ _ _ h => h) (Or.inl ⟨by rfl, fun w hS => by (have hc1 := hS.2.2; first | (go_simp; done) | (go_simp; with_reducible rfl))⟩) hHeld ?_
          try simp only [Act.put, List.getElem_toArray, List.getElem_cons_zero, List.getElem_cons_succ, List.setIfInBounds_toArray, List.set_cons_zero, List.set_cons_succ]
          refine wpAnyK_take (i := 6) (v := .slice (some ⟨g0, o0, none⟩) 0 0) rfl (by kernel_rfl) (by kernel_rfl) (by kernel_rfl) (by kernel_rfl) (fun _ _ _ h => h) (Or.inl ⟨by rfl, fun w hS => by first | (go_simp; done) | (go_simp; with_reducible rfl)⟩) hHeld ?_
          try simp only [Act.put, List.getElem_toArray, List.getElem_cons_zero, List.getElem_cons_succ, List.setIfInBounds_toArray, List.set_cons_zero, List.set_cons_succ]
          refine wpAnyK_take (i := 7) (v := .pointer (some ⟨R, 0, none⟩)) rfl (by kernel_rfl) (by kernel_rfl) (by kernel_rfl) (by kernel_rfl) (fun _ _ _ h => h) (Or.inl ⟨by rfl, fun w hS => by first | (go_simp; done) | (go_simp; with_reducible rfl)⟩) hHeld ?_
          try simp only [Act.put, List.getElem_toArray, List.getElem_cons_zero, List.getElem_cons_succ, List.setIfInBounds_toArray, List.set_cons_zero, List.set_cons_succ]
          refine wpAnyK_take (i := 8) (v := .pointer (some ⟨R, 1, none⟩)) rfl (by kernel_rfl) (by kernel_rfl) (by kernel_rfl) (by kernel_rfl) (fun _ _ _ h => h) (Or.inl ⟨by rfl, fun w hS => by first | (go_simp; done) | (go_simp; with_reducible rfl)⟩) hHeld ?_
          try simp only [Act.put, List.getElem_toArray, List.getElem_cons_zero, List.getElem_cons_succ, List.setIfInBounds_toArray, List.set_cons_zero, List.set_cons_succ]
          refine wpAnyK_ready (rs := [9]) (by kernel_rfl) (by simp) ?_
          refine AllReadyK.late rfl (by kernel_rfl) (fun K hK => ?_) AllReadyK.nil
          go_simp
          refine hK.out _ _ ?_ (fun _ => ?_)
          · trivial
          clear hK K
          try simp only [Act.put, List.getElem_toArray, List.getElem_cons_zero, List.getElem_cons_succ, List.setIfInBounds_toArray, List.set_cons_zero, List.set_cons_succ]
          refine wpAnyK_done (by kernel_rfl) (NormalAt.mk ?_) _
          gi_wp2_with fail
          have hR8 := HR7.out.put 1 (.slice (some ⟨g0, o0, none⟩) 0 0)
          have hK8 := HK7.out.far (x := ⟨R, 1, none⟩) (fun e => hRK e.symm) (.slice (some ⟨g0, o0, none⟩) 0 0)
          have hT8 := HB7.out.setCell (x := ⟨R, 1, none⟩) (.inl (.inl rfl)) (.slice (some ⟨g0, o0, none⟩) 0 0)
          have hO8 := own_far HO7.out (x := ⟨R, 1, none⟩) (fun g hg => by have := (HO7.out.lt g hg).1; show g ≠ R; omega) (.slice (some ⟨g0, o0, none⟩) 0 0)
          have hK9 : (X7.setCell ⟨R, 1, none⟩ (.slice (some ⟨g0, o0, none⟩) 0 0)).heap[D]? = some (.deferred (some [])) := (Below.heap_setCell _ _ _ _ (by show D ≠ R; omega)).trans HKD7.out
          generalize X7.setCell ⟨R, 1, none⟩ (.slice (some ⟨g0, o0, none⟩) 0 0) = X8 at *
          have hg9 := grownBy_putObj' X8 D (.deferred none)
          have hT9 := hT8.grown hg9 (fun g e => by injection e with e; right; omega)
          refine ⟨by simp, .inl ⟨_, _, rfl, run_takeDeferred hK9, ?_⟩⟩
          refine ⟨.tuple #[], by simp [results, Tryz.results34, go_sem], hT9, .inl ⟨⟨hs, hwh⟩, rfl, ?_, ?_⟩⟩
          · rw [show Rd (X8.putObj D (.deferred none)) N R lv (restOf l) = Rd (X8.putObj D (.deferred none)) N R lv (l.drop q) by rw [HRE.out]]
            refine ⟨some ⟨g0, o0, none⟩, 0, ?_, ?_, by rw [List.length_drop, HLN.out]; omega, by omega, fun e => by cases e⟩
            · rw [List.length_drop, HLN.out, show n - q = 0 by omega]
              exact (World.putObj_heap_other (by omega)).trans hR8
            · have hbel : Below N w (X8.putObj D (.deferred none)) := hT9.below hNw (fun i hi e => by omega)
              have h1 := (HB.out.below hbel).drop (k := q) q (by rw [HLN.out]; exact hlc)
              have h2 : Option.map (fun x : Addr => x.add (q * 1)) (some ⟨g0, o0, none⟩) = some ⟨g0, o0 + q, none⟩ := by simp [add_at]
              rw [h2] at h1
              rw [if_pos rfl] at h1
              exact h1
          · refine ⟨A5, c5, ?_, ?_⟩
            · rw [HU5.out]
              exact (World.putObj_heap_other (by omega)).trans hK8
            · rw [HU5.out]
              exact own_more (ownsRow_putObj hO8 (.deferred none) hK9 rfl) (by omega)
        · skip
          refine regionIn_key ((fun Y => Y.cell? ⟨R, 1, none⟩ = some (.slice (some ⟨g0, o0, none⟩) n cp) ∧ Y.frozen? ⟨R, 1, none⟩ = false ∧ Y.cell? ⟨w.heap.size, 0, none⟩ = some (.int .i64 q))) 9 (Wide.wide _ _) (by kernel_rfl) (by kernel_rfl) (HR6.out) (fun hHeld => ?_)
          have HR7 : Hid (BlkIs X6.drew R 45 #[lv, .slice (some ⟨g0, o0, none⟩) n cp]) := HRB6
          have HK7 : Hid (BlkIs X6.drew K 43 #[vf, va, .slice A5 k5 c5]) := HKB6
          have HO7 : Hid (Own5 X6.drew X4.heap.size (.slice A5 k5 c5) (unquoteS (bodyOf l).dropLast)) := HO6
          have HKD7 : Hid (X6.drew.heap[D]? = some (.deferred (some []))) := HKD6
          have HB7 : Hid (Tn (fun k => k = R ∨ k = K) w X6.drew) := Lib.hid ⟨HB6.out.os, HB6.out.tape, HB6.out.output, HB6.out.size, HB6.out.block⟩
          have y17 := (HR7.out.cell 1).trans (rfl : _ = some (Value.slice (some ⟨g0, o0, none⟩) n cp))
          have yf7 := HR7.out.froz 1
          have hs64 : w3.heap.size ≤ X4.heap.size := hs4
          generalize X6.drew = X7 at *
          refine wpAnyK_take (i := 0) (v := .pointer (some ⟨R, 0, none⟩)) rfl (by kernel_rfl) (by kernel_rfl) (by kernel_rfl) (by kernel_rfl) (fun _ _ _ h => h) (Or.inl ⟨by rfl, fun w hS => by first | (go_simp; done) | (go_simp; with_reducible rfl)⟩) hHeld ?_
          try simp only [Act.put, List.getElem_toArray, List.getElem_cons_zero, List.setIfInBounds_toArray, List.set_cons_zero, List.set_cons_succ]
          refine wpAnyK_take (i := 1) (v := .pointer (some ⟨R, 0, none⟩)) rfl (by kernel_rfl) (by kernel_rfl) (by kernel_rfl) (by kernel_rfl) (fun _ _ _ h => h) (Or.inl ⟨by rfl, fun w hS => by first | (go_simp; done) | (go_simp; with_reducible rfl)⟩) hHeld ?_
          try simp only [Act.put, List.getElem_toArray, List.getElem_cons_zero, List.getElem_cons_succ, List.setIfInBounds_toArray, List.set_cons_zero, List.set_cons_succ]
          refine wpAnyK_take (i := 2) (v := .pointer (some ⟨R, 0, none⟩)) rfl (by kernel_rfl) (by kernel_rfl) (by kernel_rfl) (by kernel_rfl) (fun _ _ _ h => h) (Or.inl ⟨by rfl, fun w hS => by first | (go_simp; done) | (go_simp; with_reducible rfl)⟩) hHeld ?_
          try simp only [Act.put, List.getElem_toArray, List.getElem_cons_zero, List.getElem_cons_succ, List.setIfInBounds_toArray, List.set_cons_zero, List.set_cons_succ]
          refine wpAnyK_take (i := 3) (v := .pointer (some ⟨R, 1, none⟩)) rfl (by kernel_rfl) (by kernel_rfl) (by kernel_rfl) (by kernel_rfl) (fun _ _ _ h => h) (Or.inl ⟨by rfl, fun w hS => by first | (go_simp; done) | (go_simp; with_reducible rfl)⟩) hHeld ?_
          try simp only [Act.put, List.getElem_toArray, List.getElem_cons_zero, List.getElem_cons_succ, List.setIfInBounds_toArray, List.set_cons_zero, List.set_cons_succ]
          refine wpAnyK_take (i := 4) (v := .slice (some ⟨g0, o0, none⟩) n cp) rfl (by kernel_rfl) (by kernel_rfl) (by kernel_rfl) (by kernel_rfl) (fun _ _ _ h => h) (Or.inl ⟨by rfl, fun w hS => by (have hc1 := hS.1; first | (go_simp; done) | (go_simp; with_reducible rfl))⟩) hHeld ?_
          try simp only [Act.put, List.getElem_toArray, List.getElem_cons_zero, List.getElem_cons_succ, List.setIfInBounds_toArray, List.set_cons_zero, List.set_cons_succ]
          refine wpAnyK_take (i := 5) (v := .int .i64 q) rfl (by kernel_rfl) (by kernel_rfl) (by kernel_rfl) (by kernel_rfl) (fun _ _ _ h => h) (Or.inl ⟨by rfl, fun w hS => by (have hc1 := hS.2.2; first | (go_simp; done) | (go_simp; with_reducible rfl))⟩) hHeld ?_
          try simp only [Act.put, List.getElem_toArray, List.getElem_cons_zero, List.getElem_cons_succ, List.setIfInBounds_toArray, List.set_cons_zero, List.set_cons_succ]
          refine wpAnyK_take (i := 6) (v := .slice (some ⟨g0, o0 + q, none⟩) (n - q) (cp - q)) rfl (by kernel_rfl) (by kernel_rfl) (by kernel_rfl) (by kernel_rfl) (fun _ _ _ h => h) (Or.inl ⟨by rfl, fun w hS => by first | (go_simp; done) | (go_simp; with_reducible rfl)⟩) hHeld ?_
          try simp only [Act.put, List.getElem_toArray, List.getElem_cons_zero, List.getElem_cons_succ, List.setIfInBounds_toArray, List.set_cons_zero, List.set_cons_succ]
          refine wpAnyK_take (i := 7) (v := .pointer (some ⟨R, 0, none⟩)) rfl (by kernel_rfl) (by kernel_rfl) (by kernel_rfl) (by kernel_rfl) (fun _ _ _ h => h) (Or.inl ⟨by rfl, fun w hS => by first | (go_simp; done) | (go_simp; with_reducible rfl)⟩) hHeld ?_
          try simp only [Act.put, List.getElem_toArray, List.getElem_cons_zero, List.getElem_cons_succ, List.setIfInBounds_toArray, List.set_cons_zero, List.set_cons_succ]
          refine wpAnyK_take (i := 8) (v := .pointer (some ⟨R, 1, none⟩)) rfl (by kernel_rfl) (by kernel_rfl) (by kernel_rfl) (by kernel_rfl) (fun _ _ _ h => h) (Or.inl ⟨by rfl, fun w hS => by first | (go_simp; done) | (go_simp; with_reducible rfl)⟩) hHeld ?_
          try simp only [Act.put, List.getElem_toArray, List.getElem_cons_zero, List.getElem_cons_succ, List.setIfInBounds_toArray, List.set_cons_zero, List.set_cons_succ]
          refine wpAnyK_ready (rs := [9]) (by kernel_rfl) (by simp) ?_
          refine AllReadyK.late rfl (by kernel_rfl) (fun K hK => ?_) AllReadyK.nil
          go_simp
          refine hK.out _ _ ?_ (fun _ => ?_)
          · trivial
          clear hK K
          try simp only [Act.put, List.getElem_toArray, List.getElem_cons_zero, List.getElem_cons_succ, List.setIfInBounds_toArray, List.set_cons_zero, List.set_cons_succ]
          refine wpAnyK_done (by kernel_rfl) (NormalAt.mk ?_) _
          gi_wp2_with fail
          have hR8 := HR7.out.put 1 (.slice (some ⟨g0, o0 + q, none⟩) (n - q) (cp - q))
          have hK8 := HK7.out.far (x := ⟨R, 1, none⟩) (fun e => hRK e.symm) (.slice (some ⟨g0, o0 + q, none⟩) (n - q) (cp - q))
          have hT8 := HB7.out.setCell (x := ⟨R, 1, none⟩) (.inl (.inl rfl)) (.slice (some ⟨g0, o0 + q, none⟩) (n - q) (cp - q))
          have hO8 := own_far HO7.out (x := ⟨R, 1, none⟩) (fun g hg => by have := (HO7.out.lt g hg).1; show g ≠ R; omega) (.slice (some ⟨g0, o0 + q, none⟩) (n - q) (cp - q))
          have hK9 : (X7.setCell ⟨R, 1, none⟩ (.slice (some ⟨g0, o0 + q, none⟩) (n - q) (cp - q))).heap[D]? = some (.deferred (some [])) := (Below.heap_setCell _ _ _ _ (by show D ≠ R; omega)).trans HKD7.out
          generalize X7.setCell ⟨R, 1, none⟩ (.slice (some ⟨g0, o0 + q, none⟩) (n - q) (cp - q)) = X8 at *
          have hg9 := grownBy_putObj' X8 D (.deferred none)
          have hT9 := hT8.grown hg9 (fun g e => by injection e with e; right; omega)
          refine ⟨by simp, .inl ⟨_, _, rfl, run_takeDeferred hK9, ?_⟩⟩
          refine ⟨.tuple #[], by simp [results, Tryz.results34, go_sem], hT9, .inl ⟨⟨hs, hwh⟩, rfl, ?_, ?_⟩⟩
          · rw [show Rd (X8.putObj D (.deferred none)) N R lv (restOf l) = Rd (X8.putObj D (.deferred none)) N R lv (l.drop q) by rw [HRE.out]]
            refine ⟨some ⟨g0, o0 + q, none⟩, cp - q, ?_, ?_, by rw [List.length_drop, HLN.out]; omega, by omega, fun e => by cases e⟩
            · rw [List.length_drop, HLN.out]
              exact (World.putObj_heap_other (by omega)).trans hR8
            · have hbel : Below N w (X8.putObj D (.deferred none)) := hT9.below hNw (fun i hi e => by omega)
              have h1 := (HB.out.below hbel).drop (k := q) cp (by rw [HLN.out]; exact hlc)
              have h2 : Option.map (fun x : Addr => x.add (q * 1)) (some ⟨g0, o0, none⟩) = some ⟨g0, o0 + q, none⟩ := by simp [add_at]
              rw [h2] at h1
              rw [if_neg hcq] at h1
              exact h1
          · refine ⟨A5, c5, ?_, ?_⟩
            · rw [HU5.out]
              exact (World.putObj_heap_other (by omega)).trans hK8
            · rw [HU5.out]
              exact own_more (ownsRow_putObj hO8 (.deferred none) hK9 rfl) (by omega)
  case stop =>
    rintro D c' pre X hD hSp ⟨rfl, ls, x, hls, hno, hx, hst⟩ hKd
    have hbo : bodyOf l = ls.flatten := by
      obtain ⟨t, ht⟩ := hSp
      rw [hls] at ht
      exact body_stop ht hno hx
    rw [← hbo] at hst
    clear hno hbo hls hSp hx
    obtain ⟨hbt1, hbt2, hbt3⟩ := body_take l
    have HBO := Lib.hid hbt1
    have HRE := Lib.hid hbt2
    rw [HLN.out] at hbt3
    generalize hq : (bodyOf l).length = q at *
    have HQ := Lib.hid hq
    obtain ⟨hRX, hKX⟩ := HRX.out X hst.sm
    have y1 := (hRX.cell 1).trans (rfl : _ = some (Value.slice A n cp))
    have y2 := hst.box.cell
    have HKD := Lib.hid hKd
    have hqn : (q : Int) ≤ (n : Int) := by omega
    have hqc : (q : Int) ≤ (cp : Int) := by omega
    have HBB : Hid (∀ Y, Below N w Y → Bts Y N A (bodyOf l)) := Lib.hid fun Y hY => by rw [HBO.out]; exact (HB.out.below hY).take q
    have HBD : Hid (∀ Y, Below N w Y → Bts Y N A (bodyOf l).dropLast) := Lib.hid fun Y hY => by
      rw [List.dropLast_eq_take]
      exact (HBB.out Y hY).take _
    have HDL : Hid ((bodyOf l).dropLast.length = q - 1) := Lib.hid (by rw [List.length_dropLast, HQ.out])
    have HST := Lib.hid hst
    have HRK := Lib.hid (And.intro hRX hKX)
    have hXs := hst.sz
    clear hbt1 hq hRX hKX hKd hst
    try clear hS
    cases hs : Go.Lib.hasSuffix (bodyOf l) [10] with
    | false =>
      gi_wp2_with fail
      refine regionIn_held_drew (S := (fun Y => Y.cell? ⟨R, 1, none⟩ = some (.slice A n cp) ∧ Y.cell? ⟨w.heap.size, 0, none⟩ = some (.int .i64 q))) (Wide.wide _ _) (by kernel_rfl) (by kernel_rfl) (⟨y1, y2⟩) (fun hHeld => ?_)
      have HST2 : Hid (SzI w w3 p w.heap.size w3.heap.size q X.drew) := Lib.hid ⟨HST.out.box, HST.out.bel.drew, HST.out.sm, HST.out.sz⟩
      have HKD2 : Hid (X.drew.heap[D]? = some (.deferred (some []))) := HKD
      have HRK2 : Hid (BlkIs X.drew R 45 #[lv, .slice A n cp] ∧ BlkIs X.drew K 43 #[vf, va, vb]) := HRK
      have hXs2 : w3.heap.size ≤ X.drew.heap.size := hXs
      generalize X.drew = X2 at *
      clear y1 y2 HKD HST HRK hXs
      refine wpAnyH_take (i := 0) (v := .pointer (some ⟨R, 0, none⟩)) rfl (by kernel_rfl) (by kernel_rfl) (by kernel_rfl) (fun _ _ _ h => h) (Or.inl ⟨by rfl, fun w hS => by first | (go_simp; done) | (go_simp; with_reducible rfl)⟩) hHeld ?_
      try simp only [Act.put, List.getElem_toArray, List.getElem_cons_zero, List.setIfInBounds_toArray, List.set_cons_zero, List.set_cons_succ]
      refine wpAnyH_take (i := 1) (v := .pointer (some ⟨R, 0, none⟩)) rfl (by kernel_rfl) (by kernel_rfl) (by kernel_rfl) (fun _ _ _ h => h) (Or.inl ⟨by rfl, fun w hS => by first | (go_simp; done) | (go_simp; with_reducible rfl)⟩) hHeld ?_
      try simp only [Act.put, List.getElem_toArray, List.getElem_cons_zero, List.getElem_cons_succ, List.setIfInBounds_toArray, List.set_cons_zero, List.set_cons_succ]
      refine wpAnyH_take (i := 2) (v := .pointer (some ⟨R, 1, none⟩)) rfl (by kernel_rfl) (by kernel_rfl) (by kernel_rfl) (fun _ _ _ h => h) (Or.inl ⟨by rfl, fun w hS => by first | (go_simp; done) | (go_simp; with_reducible rfl)⟩) hHeld ?_
      try simp only [Act.put, List.getElem_toArray, List.getElem_cons_zero, List.getElem_cons_succ, List.setIfInBounds_toArray, List.set_cons_zero, List.set_cons_succ]
      refine wpAnyH_take (i := 3) (v := .slice A n cp) rfl (by kernel_rfl) (by kernel_rfl) (by kernel_rfl) (fun _ _ _ h => h) (Or.inl ⟨by rfl, fun w hS => by (have hc1 := hS.1; first | (go_simp; done) | (go_simp; with_reducible rfl))⟩) hHeld ?_
      try simp only [Act.put, List.getElem_toArray, List.getElem_cons_zero, List.getElem_cons_succ, List.setIfInBounds_toArray, List.set_cons_zero, List.set_cons_succ]
      refine wpAnyH_take (i := 4) (v := .int .i64 q) rfl (by kernel_rfl) (by kernel_rfl) (by kernel_rfl) (fun _ _ _ h => h) (Or.inl ⟨by rfl, fun w hS => by (have hc1 := hS.2; first | (go_simp; done) | (go_simp; with_reducible rfl))⟩) hHeld ?_
      try simp only [Act.put, List.getElem_toArray, List.getElem_cons_zero, List.getElem_cons_succ, List.setIfInBounds_toArray, List.set_cons_zero, List.set_cons_succ]
      refine wpAnyH_take (i := 5) (v := .slice A q cp) rfl (by kernel_rfl) (by kernel_rfl) (by kernel_rfl) (fun _ _ _ h => h) (Or.inl ⟨by rfl, fun w hS => by first | (go_simp; done) | (go_simp; with_reducible rfl)⟩) hHeld ?_
      try simp only [Act.put, List.getElem_toArray, List.getElem_cons_zero, List.getElem_cons_succ, List.setIfInBounds_toArray, List.set_cons_zero, List.set_cons_succ]
      refine wpAnyH_ready (rs := [6]) (by kernel_rfl) (by simp) ?_
      refine AllReadyH.cons rfl (fun K hK => ?_) AllReadyH.nil
      go_simp
      refine hK.out _ _ ?_ (fun hHeld => ?_)
      · exact ⟨((HRK2.out.1.alloc _).cell 1).trans rfl, (HST2.out.box.alloc _).cell⟩
      clear hK K
      try simp only [Act.put, List.getElem_toArray, List.getElem_cons_zero, List.getElem_cons_succ, List.setIfInBounds_toArray, List.set_cons_zero, List.set_cons_succ]
      refine wpAnyH_ready (rs := [7]) (by kernel_rfl) (by simp) ?_
      refine AllReadyH.cons rfl (fun K hK => ?_) AllReadyH.nil
      go_simp
      refine hK.out _ _ ?_ (fun hHeld => ?_)
      · exact ⟨((HRK2.out.1.alloc _).cell 1).trans rfl, (HST2.out.box.alloc _).cell⟩
      clear hK K
      try simp only [Act.put, List.getElem_toArray, List.getElem_cons_zero, List.getElem_cons_succ, List.setIfInBounds_toArray, List.set_cons_zero, List.set_cons_succ]
      have HST3 := Lib.hid (HST2.out.row hbM HPP.out (grown_alloc X2 (.cells #[.int .u8 10] 5 (1, 2))) (fun r e => by cases e))
      have HRK3 : Hid (BlkIs (X2.alloc (.cells #[.int .u8 10] 5 (1, 2))) R 45 #[lv, .slice A n cp] ∧ BlkIs (X2.alloc (.cells #[.int .u8 10] 5 (1, 2))) K 43 #[vf, va, vb]) := Lib.hid ⟨HRK2.out.1.alloc _, HRK2.out.2.alloc _⟩
      have HKD3 : Hid ((X2.alloc (.cells #[.int .u8 10] 5 (1, 2))).heap[D]? = some (.deferred (some []))) := Lib.hid ((Below.heap_alloc _ _ _ (Array.getElem?_eq_some_iff.1 HKD2.out).1).trans HKD2.out)
      have HB3 := Lib.hid (HST3.out.bel.mono hNw)
      have HCS : Hid (Calls Tryz.prog 52 #[.slice A q cp, .slice (some ⟨X2.heap.size, 0, none⟩) 1 1] (X2.alloc (.cells #[.int .u8 10] 5 (1, 2))) fun e w' => e = .returned (.tuple #[.slice A q cp, .bool false]) ∧ (X2.alloc (.cells #[.int .u8 10] 5 (1, 2))) = w') := Lib.hid (by
        have := cutsuf_any (HBB.out _ HB3.out) (bts_new X2 [10] #[.int .u8 10] (1, 2) rfl) cp 1 (by rw [HQ.out]; omega) (by rw [HQ.out]; omega)
        rw [HQ.out, hs] at this
        exact this)
      refine wpAnyH_ready (rs := [8]) (by kernel_rfl) (by simp) ?_
      refine AllReadyH.cons rfl (fun K hK => ?_) AllReadyH.nil
      go_simp
      go_wp2_with ((refine HCS.out.mono ?_; rintro e X3 ⟨rfl, rfl⟩))
      refine hK.out _ _ ?_ (fun hHeld => ?_)
      · exact ⟨(HRK3.out.1.cell 1).trans rfl, HST3.out.box.cell⟩
      clear hK K
      try simp only [Act.put, List.getElem_toArray, List.getElem_cons_zero, List.getElem_cons_succ, List.setIfInBounds_toArray, List.set_cons_zero, List.set_cons_succ]
      clear HCS HST2 HKD2 HRK2 hXs2
      have hXs3 := HST3.out.sz
      generalize X2.alloc (.cells #[.int .u8 10] 5 (1, 2)) = X3 at *
      refine wpAnyH_take (i := 9) (v := .tuple #[.slice A q cp, .bool false]) rfl (by kernel_rfl) (by kernel_rfl) (by kernel_rfl) (fun _ _ _ h => h) (Or.inl ⟨by rfl, fun w hS => by first | (go_simp; done) | (go_simp; with_reducible rfl)⟩) hHeld ?_
      try simp only [Act.put, List.getElem_toArray, List.getElem_cons_zero, List.getElem_cons_succ, List.setIfInBounds_toArray, List.set_cons_zero, List.set_cons_succ]
      refine wpAnyH_take (i := 10) (v := .slice A q cp) rfl (by kernel_rfl) (by kernel_rfl) (by kernel_rfl) (fun _ _ _ h => h) (Or.inl ⟨by rfl, fun w hS => by first | (go_simp; done) | (go_simp; with_reducible rfl)⟩) hHeld ?_
      try simp only [Act.put, List.getElem_toArray, List.getElem_cons_zero, List.getElem_cons_succ, List.setIfInBounds_toArray, List.set_cons_zero, List.set_cons_succ]
      refine wpAnyH_take (i := 11) (v := .bool false) rfl (by kernel_rfl) (by kernel_rfl) (by kernel_rfl) (fun _ _ _ h => h) (Or.inl ⟨by rfl, fun w hS => by first | (go_simp; done) | (go_simp; with_reducible rfl)⟩) hHeld ?_
      try simp only [Act.put, List.getElem_toArray, List.getElem_cons_zero, List.getElem_cons_succ, List.setIfInBounds_toArray, List.set_cons_zero, List.set_cons_succ]
      refine wpAnyH_take (i := 12) (v := .slice A q cp) rfl (by kernel_rfl) (by kernel_rfl) (by kernel_rfl) (fun _ _ _ h => h) (Or.inl ⟨by rfl, fun w hS => by first | (go_simp; done) | (go_simp; with_reducible rfl)⟩) hHeld ?_
      try simp only [Act.put, List.getElem_toArray, List.getElem_cons_zero, List.getElem_cons_succ, List.setIfInBounds_toArray, List.set_cons_zero, List.set_cons_succ]
      refine wpAnyH_take (i := 13) (v := .bool false) rfl (by kernel_rfl) (by kernel_rfl) (by kernel_rfl) (fun _ _ _ h => h) (Or.inl ⟨by rfl, fun w hS => by first | (go_simp; done) | (go_simp; with_reducible rfl)⟩) hHeld ?_
      try simp only [Act.put, List.getElem_toArray, List.getElem_cons_zero, List.getElem_cons_succ, List.setIfInBounds_toArray, List.set_cons_zero, List.set_cons_succ]
      refine wpAnyH_done (by kernel_rfl) (NormalAt.mk ?_) _
      gi_wp2_with fail
      refine ⟨trivial, ?_⟩
      gi_wp2_with (first
        | (refine ⟨trivial, (callsIn_wide.2 (need_bad _)).mono ?_⟩; rintro e X4 ⟨rfl, rfl⟩)
        | fail)
      have hK9 := HKD3.out
      have b9 : Below w.heap.size w X3 := HST3.out.bel
      have hg9 := grownBy_putObj' X3 D (.deferred none)
      refine ⟨by simp, .inl ⟨_, _, rfl, run_takeDeferred hK9, ?_⟩⟩
      exact ⟨Tn.of_below (b9.grown hg9 b9.size (fun k e => by injection e with e; omega)), .inr ⟨fun hc => absurd hc.1 (by rw [hs]; decide), rfl⟩⟩
    | true =>
      gi_wp2_with fail
      refine regionIn_held_drew (S := (fun Y => Y.cell? ⟨R, 1, none⟩ = some (.slice A n cp) ∧ Y.cell? ⟨w.heap.size, 0, none⟩ = some (.int .i64 q))) (Wide.wide _ _) (by kernel_rfl) (by kernel_rfl) (⟨y1, y2⟩) (fun hHeld => ?_)
      have HST2 : Hid (SzI w w3 p w.heap.size w3.heap.size q X.drew) := Lib.hid ⟨HST.out.box, HST.out.bel.drew, HST.out.sm, HST.out.sz⟩
      have HKD2 : Hid (X.drew.heap[D]? = some (.deferred (some []))) := HKD
      have HRK2 : Hid (BlkIs X.drew R 45 #[lv, .slice A n cp] ∧ BlkIs X.drew K 43 #[vf, va, vb]) := HRK
      have hXs2 : w3.heap.size ≤ X.drew.heap.size := hXs
      generalize X.drew = X2 at *
      clear y1 y2 HKD HST HRK hXs
      refine wpAnyH_take (i := 0) (v := .pointer (some ⟨R, 0, none⟩)) rfl (by kernel_rfl) (by kernel_rfl) (by kernel_rfl) (fun _ _ _ h => h) (Or.inl ⟨by rfl, fun w hS => by first | (go_simp; done) | (go_simp; with_reducible rfl)⟩) hHeld ?_
      try simp only [Act.put, List.getElem_toArray, List.getElem_cons_zero, List.setIfInBounds_toArray, List.set_cons_zero, List.set_cons_succ]
      refine wpAnyH_take (i := 1) (v := .pointer (some ⟨R, 0, none⟩)) rfl (by kernel_rfl) (by kernel_rfl) (by kernel_rfl) (fun _ _ _ h => h) (Or.inl ⟨by rfl, fun w hS => by first | (go_simp; done) | (go_simp; with_reducible rfl)⟩) hHeld ?_
      try simp only [Act.put, List.getElem_toArray, List.getElem_cons_zero, List.getElem_cons_succ, List.setIfInBounds_toArray, List.set_cons_zero, List.set_cons_succ]
      refine wpAnyH_take (i := 2) (v := .pointer (some ⟨R, 1, none⟩)) rfl (by kernel_rfl) (by kernel_rfl) (by kernel_rfl) (fun _ _ _ h => h) (Or.inl ⟨by rfl, fun w hS => by first | (go_simp; done) | (go_simp; with_reducible rfl)⟩) hHeld ?_
      try simp only [Act.put, List.getElem_toArray, List.getElem_cons_zero, List.getElem_cons_succ, List.setIfInBounds_toArray, List.set_cons_zero, List.set_cons_succ]
      refine wpAnyH_take (i := 3) (v := .slice A n cp) rfl (by kernel_rfl) (by kernel_rfl) (by kernel_rfl) (fun _ _ _ h => h) (Or.inl ⟨by rfl, fun w hS => by (have hc1 := hS.1; first | (go_simp; done) | (go_simp; with_reducible rfl))⟩) hHeld ?_
      try simp only [Act.put, List.getElem_toArray, List.getElem_cons_zero, List.getElem_cons_succ, List.setIfInBounds_toArray, List.set_cons_zero, List.set_cons_succ]
      refine wpAnyH_take (i := 4) (v := .int .i64 q) rfl (by kernel_rfl) (by kernel_rfl) (by kernel_rfl) (fun _ _ _ h => h) (Or.inl ⟨by rfl, fun w hS => by (have hc1 := hS.2; first | (go_simp; done) | (go_simp; with_reducible rfl))⟩) hHeld ?_
      try simp only [Act.put, List.getElem_toArray, List.getElem_cons_zero, List.getElem_cons_succ, List.setIfInBounds_toArray, List.set_cons_zero, List.set_cons_succ]
      refine wpAnyH_take (i := 5) (v := .slice A q cp) rfl (by kernel_rfl) (by kernel_rfl) (by kernel_rfl) (fun _ _ _ h => h) (Or.inl ⟨by rfl, fun w hS => by first | (go_simp; done) | (go_simp; with_reducible rfl)⟩) hHeld ?_
      try simp only [Act.put, List.getElem_toArray, List.getElem_cons_zero, List.getElem_cons_succ, List.setIfInBounds_toArray, List.set_cons_zero, List.set_cons_succ]
      refine wpAnyH_ready (rs := [6]) (by kernel_rfl) (by simp) ?_
      refine AllReadyH.cons rfl (fun K hK => ?_) AllReadyH.nil
      go_simp
      refine hK.out _ _ ?_ (fun hHeld => ?_)
      · exact ⟨((HRK2.out.1.alloc _).cell 1).trans rfl, (HST2.out.box.alloc _).cell⟩
      clear hK K
      try simp only [Act.put, List.getElem_toArray, List.getElem_cons_zero, List.getElem_cons_succ, List.setIfInBounds_toArray, List.set_cons_zero, List.set_cons_succ]
      refine wpAnyH_ready (rs := [7]) (by kernel_rfl) (by simp) ?_
      refine AllReadyH.cons rfl (fun K hK => ?_) AllReadyH.nil
      go_simp
      refine hK.out _ _ ?_ (fun hHeld => ?_)
      · exact ⟨((HRK2.out.1.alloc _).cell 1).trans rfl, (HST2.out.box.alloc _).cell⟩
      clear hK K
      try simp only [Act.put, List.getElem_toArray, List.getElem_cons_zero, List.getElem_cons_succ, List.setIfInBounds_toArray, List.set_cons_zero, List.set_cons_succ]
      have HST3 := Lib.hid (HST2.out.row hbM HPP.out (grown_alloc X2 (.cells #[.int .u8 10] 5 (1, 2))) (fun r e => by cases e))
      have HRK3 : Hid (BlkIs (X2.alloc (.cells #[.int .u8 10] 5 (1, 2))) R 45 #[lv, .slice A n cp] ∧ BlkIs (X2.alloc (.cells #[.int .u8 10] 5 (1, 2))) K 43 #[vf, va, vb]) := Lib.hid ⟨HRK2.out.1.alloc _, HRK2.out.2.alloc _⟩
      have HKD3 : Hid ((X2.alloc (.cells #[.int .u8 10] 5 (1, 2))).heap[D]? = some (.deferred (some []))) := Lib.hid ((Below.heap_alloc _ _ _ (Array.getElem?_eq_some_iff.1 HKD2.out).1).trans HKD2.out)
      have HB3 := Lib.hid (HST3.out.bel.mono hNw)
      have HCS : Hid (Calls Tryz.prog 52 #[.slice A q cp, .slice (some ⟨X2.heap.size, 0, none⟩) 1 1] (X2.alloc (.cells #[.int .u8 10] 5 (1, 2))) fun e w' => e = .returned (.tuple #[.slice A (q - 1) cp, .bool true]) ∧ (X2.alloc (.cells #[.int .u8 10] 5 (1, 2))) = w') := Lib.hid (by
        have := cutsuf_any (HBB.out _ HB3.out) (bts_new X2 [10] #[.int .u8 10] (1, 2) rfl) cp 1 (by rw [HQ.out]; omega) (by rw [HQ.out]; omega)
        rw [HQ.out, hs] at this
        exact this)
      refine wpAnyH_ready (rs := [8]) (by kernel_rfl) (by simp) ?_
      refine AllReadyH.cons rfl (fun K hK => ?_) AllReadyH.nil
      go_simp
      go_wp2_with ((refine HCS.out.mono ?_; rintro e X3 ⟨rfl, rfl⟩))
      refine hK.out _ _ ?_ (fun hHeld => ?_)
      · exact ⟨(HRK3.out.1.cell 1).trans rfl, HST3.out.box.cell⟩
      clear hK K
      try simp only [Act.put, List.getElem_toArray, List.getElem_cons_zero, List.getElem_cons_succ, List.setIfInBounds_toArray, List.set_cons_zero, List.set_cons_succ]
      clear HCS HST2 HKD2 HRK2 hXs2
      have hXs3 := HST3.out.sz
      generalize X2.alloc (.cells #[.int .u8 10] 5 (1, 2)) = X3 at *
      refine wpAnyH_take (i := 9) (v := .tuple #[.slice A (q - 1) cp, .bool true]) rfl (by kernel_rfl) (by kernel_rfl) (by kernel_rfl) (fun _ _ _ h => h) (Or.inl ⟨by rfl, fun w hS => by first | (go_simp; done) | (go_simp; with_reducible rfl)⟩) hHeld ?_
      try simp only [Act.put, List.getElem_toArray, List.getElem_cons_zero, List.getElem_cons_succ, List.setIfInBounds_toArray, List.set_cons_zero, List.set_cons_succ]
      refine wpAnyH_take (i := 10) (v := .slice A (q - 1) cp) rfl (by kernel_rfl) (by kernel_rfl) (by kernel_rfl) (fun _ _ _ h => h) (Or.inl ⟨by rfl, fun w hS => by first | (go_simp; done) | (go_simp; with_reducible rfl)⟩) hHeld ?_
      try simp only [Act.put, List.getElem_toArray, List.getElem_cons_zero, List.getElem_cons_succ, List.setIfInBounds_toArray, List.set_cons_zero, List.set_cons_succ]
      refine wpAnyH_take (i := 11) (v := .bool true) rfl (by kernel_rfl) (by kernel_rfl) (by kernel_rfl) (fun _ _ _ h => h) (Or.inl ⟨by rfl, fun w hS => by first | (go_simp; done) | (go_simp; with_reducible rfl)⟩) hHeld ?_
      try simp only [Act.put, List.getElem_toArray, List.getElem_cons_zero, List.getElem_cons_succ, List.setIfInBounds_toArray, List.set_cons_zero, List.set_cons_succ]
      refine wpAnyH_take (i := 12) (v := .slice A (q - 1) cp) rfl (by kernel_rfl) (by kernel_rfl) (by kernel_rfl) (fun _ _ _ h => h) (Or.inl ⟨by rfl, fun w hS => by first | (go_simp; done) | (go_simp; with_reducible rfl)⟩) hHeld ?_
      try simp only [Act.put, List.getElem_toArray, List.getElem_cons_zero, List.getElem_cons_succ, List.setIfInBounds_toArray, List.set_cons_zero, List.set_cons_succ]
      refine wpAnyH_take (i := 13) (v := .bool true) rfl (by kernel_rfl) (by kernel_rfl) (by kernel_rfl) (fun _ _ _ h => h) (Or.inl ⟨by rfl, fun w hS => by first | (go_simp; done) | (go_simp; with_reducible rfl)⟩) hHeld ?_
      try simp only [Act.put, List.getElem_toArray, List.getElem_cons_zero, List.getElem_cons_succ, List.setIfInBounds_toArray, List.set_cons_zero, List.set_cons_succ]
      refine wpAnyH_done (by kernel_rfl) (NormalAt.mk ?_) _
      have hq1 : 1 ≤ q := by
        obtain ⟨t, ht⟩ := (suf_iff _).1 hs
        rw [← HQ.out, ht]
        simp
      have HWL : Hid (Calls Tryz.prog 61 #[.slice A (q - 1) cp] X3 fun e w' => e = .returned (.bool (wholeB (bodyOf l).dropLast)) ∧ X3.grownBy w' none) := Lib.hid (by
        have := whole_any (HBD.out X3 HB3.out) (by have := HB3.out.size; omega) cp (by rw [HDL.out]; omega) (by rw [HDL.out]; omega)
        rwa [HDL.out] at this)
      gi_wp2_with fail
      refine ⟨trivial, (callsIn_wide.2 HWL.out).mono ?_⟩
      rintro e X4 ⟨rfl, hg4⟩
      have HST4 := Lib.hid (HST3.out.row hbM HPP.out hg4 (fun r e => by cases e))
      have HRK4 : Hid (BlkIs X4 R 45 #[lv, .slice A n cp] ∧ BlkIs X4 K 43 #[vf, va, vb]) := Lib.hid ⟨HRK3.out.1.grown hg4 (by simp), HRK3.out.2.grown hg4 (by simp)⟩
      have HKD4 : Hid (X4.heap[D]? = some (.deferred (some []))) := Lib.hid ((hg4.block D (Array.getElem?_eq_some_iff.1 HKD3.out).1 (fun e => by cases e)).trans HKD3.out)
      have HB4 := Lib.hid (HST4.out.bel.mono hNw)
      have hs4 := HST4.out.sz
      clear HWL hg4 HST3 HRK3 HKD3 HB3 hXs3
      cases hwh : wholeB (bodyOf l).dropLast with
      | false =>
        gi_wp2_with (first
          | (refine ⟨trivial, (callsIn_wide.2 (need_bad _)).mono ?_⟩; rintro e X4b ⟨rfl, rfl⟩)
          | fail)
        have hK9 := HKD4.out
        have b9 : Below w.heap.size w X4 := HST4.out.bel
        have hg9 := grownBy_putObj' X4 D (.deferred none)
        refine ⟨by simp, .inl ⟨_, _, rfl, run_takeDeferred hK9, ?_⟩⟩
        exact ⟨Tn.of_below (b9.grown hg9 b9.size (fun k e => by injection e with e; omega)), .inr ⟨fun hc => absurd hc.2 (by rw [hwh]; decide), rfl⟩⟩
      | true =>
        obtain ⟨g0, o0, rfl, _, _⟩ := bts_at_ HB.out (by rw [HLN.out]; omega)
        have HUQ : Hid (Calls Tryz.prog 67 #[.slice (some ⟨g0, o0, none⟩) (q - 1) cp] X4 (OutP X4 (unquoteS (bodyOf l).dropLast))) := Lib.hid (by
          have := unquote_any ((HBD.out X4 HB4.out).more (by have := HB4.out.size; omega)) cp (by rw [HDL.out]; omega) hcm (fun e => by cases e) (by rw [HDL.out]; omega)
          rwa [HDL.out] at this)
        gi_wp2_with (first
          | (refine ⟨trivial, (callsIn_wide.2 (need_ok _)).mono ?_⟩; rintro e X4b ⟨rfl, rfl⟩)
          | fail)
        refine ⟨trivial, (callsIn_wide.2 HUQ.out).mono ?_⟩
        rintro e X5 ⟨v5, rfl, ho5, hb5⟩
        obtain ⟨A5, c5, rfl, _, _⟩ := own_slice ho5
        generalize hk5 : (unquoteS (bodyOf l).dropLast).length = k5 at *
        have HU5 := Lib.hid hk5
        have hR5 : BlkIs X5 R 45 #[lv, .slice (some ⟨g0, o0, none⟩) n cp] := (hb5.block _ HRK4.out.1.lt).trans HRK4.out.1
        have hK5 : BlkIs X5 K 43 #[vf, va, vb] := (hb5.block _ HRK4.out.2.lt).trans HRK4.out.2
        have hbx5 : Boxed X5 w.heap.size 3 (.int .i64 q) := (hb5.block _ HST4.out.box.lt).trans HST4.out.box
        have y2 := (hK5.cell 2).trans (rfl : _ = some vb)
        have yf2 := hK5.froz 2
        have HKB6 := Lib.hid (hK5.put 2 (.slice A5 k5 c5))
        have HRB6 := Lib.hid (hR5.far (x := ⟨K, 2, none⟩) hRK (.slice A5 k5 c5))
        have hbx6 := boxed_far' hbx5 (show w.heap.size ≠ K by omega) 2 (.slice A5 k5 c5)
        have HR6 := Lib.hid (And.intro ((HRB6.out.cell 1).trans (rfl : _ = some (Value.slice (some ⟨g0, o0, none⟩) n cp))) (And.intro (HRB6.out.froz 1) hbx6.cell))
        have HO6 := Lib.hid (own_far ho5 (x := ⟨K, 2, none⟩) (fun g hg => by have := (ho5.lt g hg).1; show g ≠ K; omega) (.slice A5 k5 c5))
        have HB6 := Lib.hid (((Tn.of_below (p := fun k => k = R ∨ k = K) HST4.out.bel).trans (Tn.of_below hb5)).setCell (x := ⟨K, 2, none⟩) (.inl (.inr rfl)) (.slice A5 k5 c5))
        have HKD6 : Hid ((X5.setCell ⟨K, 2, none⟩ (.slice A5 k5 c5)).heap[D]? = some (.deferred (some []))) := Lib.hid ((Below.heap_setCell _ _ _ _ (by show D ≠ K; omega)).trans ((hb5.block D (Array.getElem?_eq_some_iff.1 HKD4.out).1).trans HKD4.out))
        clear hk5 ho5 hb5 hR5 hK5 hbx5 hbx6 HUQ HST4 HRK4 HKD4
        gi_wp2_with fail
        generalize hX6 : X5.setCell ⟨K, 2, none⟩ (.slice A5 k5 c5) = X6 at *
        clear hX6
        by_cases hcq : cp = q
        · have hcq' : q = cp := hcq.symm
          subst hcq'
          refine regionIn_key ((fun Y => Y.cell? ⟨R, 1, none⟩ = some (.slice (some ⟨g0, o0, none⟩) n q) ∧ Y.frozen? ⟨R, 1, none⟩ = false ∧ Y.cell? ⟨w.heap.size, 0, none⟩ = some (.int .i64 q))) 9 (Wide.wide _ _) (by kernel_rfl) (by kernel_rfl) (HR6.out) (fun hHeld => ?_)
          have HR7 : Hid (BlkIs X6.drew R 45 #[lv, .slice (some ⟨g0, o0, none⟩) n q]) := HRB6
          have HK7 : Hid (BlkIs X6.drew K 43 #[vf, va, .slice A5 k5 c5]) := HKB6
          have HO7 : Hid (Own5 X6.drew X4.heap.size (.slice A5 k5 c5) (unquoteS (bodyOf l).dropLast)) := HO6
          have HKD7 : Hid (X6.drew.heap[D]? = some (.deferred (some []))) := HKD6
          have HB7 : Hid (Tn (fun k => k = R ∨ k = K) w X6.drew) := Lib.hid ⟨HB6.out.os, HB6.out.tape, HB6.out.output, HB6.out.size, HB6.out.block⟩
          have y17 := (HR7.out.cell 1).trans (rfl : _ = some (Value.slice (some ⟨g0, o0, none⟩) n q))
          have yf7 := HR7.out.froz 1
          have hs64 : w3.heap.size ≤ X4.heap.size := hs4
          generalize X6.drew = X7 at *
          refine wpAnyK_take (i := 0) (v := .pointer (some ⟨R, 0, none⟩)) rfl (by kernel_rfl) (by kernel_rfl) (by kernel_rfl) (by kernel_rfl) (fun _ _ _ h => h) (Or.inl ⟨by rfl, fun w hS => by first | (go_simp; done) | (go_simp; with_reducible rfl)⟩) hHeld ?_
          try simp only [Act.put, List.getElem_toArray, List.getElem_cons_zero, List.setIfInBounds_toArray, List.set_cons_zero, List.set_cons_succ]
          refine wpAnyK_take (i := 1) (v := .pointer (some ⟨R, 0, none⟩)) rfl (by kernel_rfl) (by kernel_rfl) (by kernel_rfl) (by kernel_rfl) (fun _ _ _ h => h) (Or.inl ⟨by rfl, fun w hS => by first | (go_simp; done) | (go_simp; with_reducible rfl)⟩) hHeld ?_
          try simp only [Act.put, List.getElem_toArray, List.getElem_cons_zero, List.getElem_cons_succ, List.setIfInBounds_toArray, List.set_cons_zero, List.set_cons_succ]
          refine wpAnyK_take (i := 2) (v := .pointer (some ⟨R, 0, none⟩)) rfl (by kernel_rfl) (by kernel_rfl) (by kernel_rfl) (by kernel_rfl) (fun _ _ _ h => h) (Or.inl ⟨by rfl, fun w hS => by first | (go_simp; done) | (go_simp; with_reducible rfl)⟩) hHeld ?_
          try simp only [Act.put, List.getElem_toArray, List.getElem_cons_zero, List.getElem_cons_succ, List.setIfInBounds_toArray, List.set_cons_zero, List.set_cons_succ]
          refine wpAnyK_take (i := 3) (v := .pointer (some ⟨R, 1, none⟩)) rfl (by kernel_rfl) (by kernel_rfl) (by kernel_rfl) (by kernel_rfl) (fun _ _ _ h => h) (Or.inl ⟨by rfl, fun w hS => by first | (go_simp; done) | (go_simp; with_reducible rfl)⟩) hHeld ?_
          try simp only [Act.put, List.getElem_toArray, List.getElem_cons_zero, List.getElem_cons_succ, List.setIfInBounds_toArray, List.set_cons_zero, List.set_cons_succ]
          refine wpAnyK_take (i := 4) (v := .slice (some ⟨g0, o0, none⟩) n q) rfl (by kernel_rfl) (by kernel_rfl) (by kernel_rfl) (by kernel_rfl) (fun _ _ _ h => h) (Or.inl ⟨by rfl, fun w hS => by (have hc1 := hS.1; first | (go_simp; done) | (go_simp; with_reducible rfl))⟩) hHeld ?_
          try simp only [Act.put, List.getElem_toArray, List.getElem_cons_zero, List.getElem_cons_succ, List.setIfInBounds_toArray, List.set_cons_zero, List.set_cons_succ]
          refine wpAnyK_take (i := 5) (v := .int .i64 q) rfl (by kernel_rfl) (by kernel_rfl) (by kernel_rfl) (by kernel_rfl) (fun _ _ _ h => h) (Or.inl ⟨by rfl, fun w hS => by (have hc1 := hS.2.2; first | (go_simp; done) | (go_simp; with_reducible rfl))⟩) hHeld ?_
          try simp only [Act.put, List.getElem_toArray, List.getElem_cons_zero, List.getElem_cons_succ, List.setIfInBounds_toArray, List.set_cons_zero, List.set_cons_succ]
          refine wpAnyK_take (i := 6) (v := .slice (some ⟨g0, o0, none⟩) 0 0) rfl (by kernel_rfl) (by kernel_rfl) (by kernel_rfl) (by kernel_rfl) (fun _ _ _ h => h) (Or.inl ⟨by rfl, fun w hS => by first | (go_simp; done) | (go_simp; with_reducible rfl)⟩) hHeld ?_
          try simp only [Act.put, List.getElem_toArray, List.getElem_cons_zero, List.getElem_cons_succ, List.setIfInBounds_toArray, List.set_cons_zero, List.set_cons_succ]
          refine wpAnyK_take (i := 7) (v := .pointer (some ⟨R, 0, none⟩)) rfl (by kernel_rfl) (by kernel_rfl) (by kernel_rfl) (by kernel_rfl) (fun _ _ _ h => h) (Or.inl ⟨by rfl, fun w hS => by first | (go_simp; done) | (go_simp; with_reducible rfl)⟩) hHeld ?_
          try simp only [Act.put, List.getElem_toArray, List.getElem_cons_zero, List.getElem_cons_succ, List.setIfInBounds_toArray, List.set_cons_zero, List.set_cons_succ]
          refine wpAnyK_take (i := 8) (v := .pointer (some ⟨R, 1, none⟩)) rfl (by kernel_rfl) (by kernel_rfl) (by kernel_rfl) (by kernel_rfl) (fun _ _ _ h => h) (Or.inl ⟨by rfl, fun w hS => by first | (go_simp; done) | (go_simp; with_reducible rfl)⟩) hHeld ?_
          try simp only [Act.put, List.getElem_toArray, List.getElem_cons_zero, List.getElem_cons_succ, List.setIfInBounds_toArray, List.set_cons_zero, List.set_cons_succ]
          refine wpAnyK_ready (rs := [9]) (by kernel_rfl) (by simp) ?_
          refine AllReadyK.late rfl (by kernel_rfl) (fun K hK => ?_) AllReadyK.nil
          go_simp
          refine hK.out _ _ ?_ (fun _ => ?_)
          · trivial
          clear hK K
          try simp only [Act.put, List.getElem_toArray, List.getElem_cons_zero, List.getElem_cons_succ, List.setIfInBounds_toArray, List.set_cons_zero, List.set_cons_succ]
          refine wpAnyK_done (by kernel_rfl) (NormalAt.mk ?_) _
          gi_wp2_with fail
          have hR8 := HR7.out.put 1 (.slice (some ⟨g0, o0, none⟩) 0 0)
          have hK8 := HK7.out.far (x := ⟨R, 1, none⟩) (fun e => hRK e.symm) (.slice (some ⟨g0, o0, none⟩) 0 0)
          have hT8 := HB7.out.setCell (x := ⟨R, 1, none⟩) (.inl (.inl rfl)) (.slice (some ⟨g0, o0, none⟩) 0 0)
          have hO8 := own_far HO7.out (x := ⟨R, 1, none⟩) (fun g hg => by have := (HO7.out.lt g hg).1; show g ≠ R; omega) (.slice (some ⟨g0, o0, none⟩) 0 0)
          have hK9 : (X7.setCell ⟨R, 1, none⟩ (.slice (some ⟨g0, o0, none⟩) 0 0)).heap[D]? = some (.deferred (some [])) := (Below.heap_setCell _ _ _ _ (by show D ≠ R; omega)).trans HKD7.out
          generalize X7.setCell ⟨R, 1, none⟩ (.slice (some ⟨g0, o0, none⟩) 0 0) = X8 at *
          have hg9 := grownBy_putObj' X8 D (.deferred none)
          have hT9 := hT8.grown hg9 (fun g e => by injection e with e; right; omega)
          refine ⟨by simp, .inl ⟨_, _, rfl, run_takeDeferred hK9, ?_⟩⟩
          refine ⟨.tuple #[], by simp [results, Tryz.results34, go_sem], hT9, .inl ⟨⟨hs, hwh⟩, rfl, ?_, ?_⟩⟩
          · rw [show Rd (X8.putObj D (.deferred none)) N R lv (restOf l) = Rd (X8.putObj D (.deferred none)) N R lv (l.drop q) by rw [HRE.out]]
            refine ⟨some ⟨g0, o0, none⟩, 0, ?_, ?_, by rw [List.length_drop, HLN.out]; omega, by omega, fun e => by cases e⟩
            · rw [List.length_drop, HLN.out, show n - q = 0 by omega]
              exact (World.putObj_heap_other (by omega)).trans hR8
            · have hbel : Below N w (X8.putObj D (.deferred none)) := hT9.below hNw (fun i hi e => by omega)
              have h1 := (HB.out.below hbel).drop (k := q) q (by rw [HLN.out]; exact hlc)
              have h2 : Option.map (fun x : Addr => x.add (q * 1)) (some ⟨g0, o0, none⟩) = some ⟨g0, o0 + q, none⟩ := by simp [add_at]
              rw [h2] at h1
              rw [if_pos rfl] at h1
              exact h1
          · refine ⟨A5, c5, ?_, ?_⟩
            · rw [HU5.out]
              exact (World.putObj_heap_other (by omega)).trans hK8
            · rw [HU5.out]
              exact own_more (ownsRow_putObj hO8 (.deferred none) hK9 rfl) (by omega)
        · skip
          refine regionIn_key ((fun Y => Y.cell? ⟨R, 1, none⟩ = some (.slice (some ⟨g0, o0, none⟩) n cp) ∧ Y.frozen? ⟨R, 1, none⟩ = false ∧ Y.cell? ⟨w.heap.size, 0, none⟩ = some (.int .i64 q))) 9 (Wide.wide _ _) (by kernel_rfl) (by kernel_rfl) (HR6.out) (fun hHeld => ?_)
          have HR7 : Hid (BlkIs X6.drew R 45 #[lv, .slice (some ⟨g0, o0, none⟩) n cp]) := HRB6
          have HK7 : Hid (BlkIs X6.drew K 43 #[vf, va, .slice A5 k5 c5]) := HKB6
          have HO7 : Hid (Own5 X6.drew X4.heap.size (.slice A5 k5 c5) (unquoteS (bodyOf l).dropLast)) := HO6
          have HKD7 : Hid (X6.drew.heap[D]? = some (.deferred (some []))) := HKD6
          have HB7 : Hid (Tn (fun k => k = R ∨ k = K) w X6.drew) := Lib.hid ⟨HB6.out.os, HB6.out.tape, HB6.out.output, HB6.out.size, HB6.out.block⟩
          have y17 := (HR7.out.cell 1).trans (rfl : _ = some (Value.slice (some ⟨g0, o0, none⟩) n cp))
          have yf7 := HR7.out.froz 1
          have hs64 : w3.heap.size ≤ X4.heap.size := hs4
          generalize X6.drew = X7 at *
          refine wpAnyK_take (i := 0) (v := .pointer (some ⟨R, 0, none⟩)) rfl (by kernel_rfl) (by kernel_rfl) (by kernel_rfl) (by kernel_rfl) (fun _ _ _ h => h) (Or.inl ⟨by rfl, fun w hS => by first | (go_simp; done) | (go_simp; with_reducible rfl)⟩) hHeld ?_
          try simp only [Act.put, List.getElem_toArray, List.getElem_cons_zero, List.setIfInBounds_toArray, List.set_cons_zero, List.set_cons_succ]
          refine wpAnyK_take (i := 1) (v := .pointer (some ⟨R, 0, none⟩)) rfl (by kernel_rfl) (by kernel_rfl) (by kernel_rfl) (by kernel_rfl) (fun _ _ _ h => h) (Or.inl ⟨by rfl, fun w hS => by first | (go_simp; done) | (go_simp; with_reducible rfl)⟩) hHeld ?_
          try simp only [Act.put, List.getElem_toArray, List.getElem_cons_zero, List.getElem_cons_succ, List.setIfInBounds_toArray, List.set_cons_zero, List.set_cons_succ]
          refine wpAnyK_take (i := 2) (v := .pointer (some ⟨R, 0, none⟩)) rfl (by kernel_rfl) (by kernel_rfl) (by kernel_rfl) (by kernel_rfl) (fun _ _ _ h => h) (Or.inl ⟨by rfl, fun w hS => by first | (go_simp; done) | (go_simp; with_reducible rfl)⟩) hHeld ?_
          try simp only [Act.put, List.getElem_toArray, List.getElem_cons_zero, List.getElem_cons_succ, List.setIfInBounds_toArray, List.set_cons_zero, List.set_cons_succ]
          refine wpAnyK_take (i := 3) (v := .pointer (some ⟨R, 1, none⟩)) rfl (by kernel_rfl) (by kernel_rfl) (by kernel_rfl) (by kernel_rfl) (fun _ _ _ h => h) (Or.inl ⟨by rfl, fun w hS => by first | (go_simp; done) | (go_simp; with_reducible rfl)⟩) hHeld ?_
          try simp only [Act.put, List.getElem_toArray, List.getElem_cons_zero, List.getElem_cons_succ, List.setIfInBounds_toArray, List.set_cons_zero, List.set_cons_succ]
          refine wpAnyK_take (i := 4) (v := .slice (some ⟨g0, o0, none⟩) n cp) rfl (by kernel_rfl) (by kernel_rfl) (by kernel_rfl) (by kernel_rfl) (fun _ _ _ h => h) (Or.inl ⟨by rfl, fun w hS => by (have hc1 := hS.1; first | (go_simp; done) | (go_simp; with_reducible rfl))⟩) hHeld ?_
          try simp only [Act.put, List.getElem_toArray, List.getElem_cons_zero, List.getElem_cons_succ, List.setIfInBounds_toArray, List.set_cons_zero, List.set_cons_succ]
          refine wpAnyK_take (i := 5) (v := .int .i64 q) rfl (by kernel_rfl) (by kernel_rfl) (by kernel_rfl) (by kernel_rfl) (fun _ _ _ h => h) (Or.inl ⟨by rfl, fun w hS => by (have hc1 := hS.2.2; first | (go_simp; done) | (go_simp; with_reducible rfl))⟩) hHeld ?_
          try simp only [Act.put, List.getElem_toArray, List.getElem_cons_zero, List.getElem_cons_succ, List.setIfInBounds_toArray, List.set_cons_zero, List.set_cons_succ]
          refine wpAnyK_take (i := 6) (v := .slice (some ⟨g0, o0 + q, none⟩) (n - q) (cp - q)) rfl (by kernel_rfl) (by kernel_rfl) (by kernel_rfl) (by kernel_rfl) (fun _ _ _ h => h) (Or.inl ⟨by rfl, fun w hS => by first | (go_simp; done) | (go_simp; with_reducible rfl)⟩) hHeld ?_
          try simp only [Act.put, List.getElem_toArray, List.getElem_cons_zero, List.getElem_cons_succ, List.setIfInBounds_toArray, List.set_cons_zero, List.set_cons_succ]
          refine wpAnyK_take (i := 7) (v := .pointer (some ⟨R, 0, none⟩)) rfl (by kernel_rfl) (by kernel_rfl) (by kernel_rfl) (by kernel_rfl) (fun _ _ _ h => h) (Or.inl ⟨by rfl, fun w hS => by first | (go_simp; done) | (go_simp; with_reducible rfl)⟩) hHeld ?_
          try simp only [Act.put, List.getElem_toArray, List.getElem_cons_zero, List.getElem_cons_succ, List.setIfInBounds_toArray, List.set_cons_zero, List.set_cons_succ]
          refine wpAnyK_take (i := 8) (v := .pointer (some ⟨R, 1, none⟩)) rfl (by kernel_rfl) (by kernel_rfl) (by kernel_rfl) (by kernel_rfl) (fun _ _ _ h => h) (Or.inl ⟨by rfl, fun w hS => by first | (go_simp; done) | (go_simp; with_reducible rfl)⟩) hHeld ?_
          try simp only [Act.put, List.getElem_toArray, List.getElem_cons_zero, List.getElem_cons_succ, List.setIfInBounds_toArray, List.set_cons_zero, List.set_cons_succ]
          refine wpAnyK_ready (rs := [9]) (by kernel_rfl) (by simp) ?_
          refine AllReadyK.late rfl (by kernel_rfl) (fun K hK => ?_) AllReadyK.nil
          go_simp
          refine hK.out _ _ ?_ (fun _ => ?_)
          · trivial
          clear hK K
          try simp only [Act.put, List.getElem_toArray, List.getElem_cons_zero, List.getElem_cons_succ, List.setIfInBounds_toArray, List.set_cons_zero, List.set_cons_succ]
          refine wpAnyK_done (by kernel_rfl) (NormalAt.mk ?_) _
          gi_wp2_with fail
          have hR8 := HR7.out.put 1 (.slice (some ⟨g0, o0 + q, none⟩) (n - q) (cp - q))
          have hK8 := HK7.out.far (x := ⟨R, 1, none⟩) (fun e => hRK e.symm) (.slice (some ⟨g0, o0 + q, none⟩) (n - q) (cp - q))
          have hT8 := HB7.out.setCell (x := ⟨R, 1, none⟩) (.inl (.inl rfl)) (.slice (some ⟨g0, o0 + q, none⟩) (n - q) (cp - q))
          have hO8 := own_far HO7.out (x := ⟨R, 1, none⟩) (fun g hg => by have := (HO7.out.lt g hg).1; show g ≠ R; omega) (.slice (some ⟨g0, o0 + q, none⟩) (n - q) (cp - q))
          have hK9 : (X7.setCell ⟨R, 1, none⟩ (.slice (some ⟨g0, o0 + q, none⟩) (n - q) (cp - q))).heap[D]? = some (.deferred (some [])) := (Below.heap_setCell _ _ _ _ (by show D ≠ R; omega)).trans HKD7.out
          generalize X7.setCell ⟨R, 1, none⟩ (.slice (some ⟨g0, o0 + q, none⟩) (n - q) (cp - q)) = X8 at *
          have hg9 := grownBy_putObj' X8 D (.deferred none)
          have hT9 := hT8.grown hg9 (fun g e => by injection e with e; right; omega)
          refine ⟨by simp, .inl ⟨_, _, rfl, run_takeDeferred hK9, ?_⟩⟩
          refine ⟨.tuple #[], by simp [results, Tryz.results34, go_sem], hT9, .inl ⟨⟨hs, hwh⟩, rfl, ?_, ?_⟩⟩
          · rw [show Rd (X8.putObj D (.deferred none)) N R lv (restOf l) = Rd (X8.putObj D (.deferred none)) N R lv (l.drop q) by rw [HRE.out]]
            refine ⟨some ⟨g0, o0 + q, none⟩, cp - q, ?_, ?_, by rw [List.length_drop, HLN.out]; omega, by omega, fun e => by cases e⟩
            · rw [List.length_drop, HLN.out]
              exact (World.putObj_heap_other (by omega)).trans hR8
            · have hbel : Below N w (X8.putObj D (.deferred none)) := hT9.below hNw (fun i hi e => by omega)
              have h1 := (HB.out.below hbel).drop (k := q) cp (by rw [HLN.out]; exact hlc)
              have h2 : Option.map (fun x : Addr => x.add (q * 1)) (some ⟨g0, o0, none⟩) = some ⟨g0, o0 + q, none⟩ := by simp [add_at]
              rw [h2] at h1
              rw [if_neg hcq] at h1
              exact h1
          · refine ⟨A5, c5, ?_, ?_⟩
            · rw [HU5.out]
              exact (World.putObj_heap_other (by omega)).trans hK8
            · rw [HU5.out]
              exact own_more (ownsRow_putObj hO8 (.deferred none) hK9 rfl) (by omega)
end Mb
end Go.Proofs.YtamekflgidfnfaaGreatDoor
