/- token.Words. Conditions: as stated at each. -/
import Derived.Test.YtbhkppleomnjjaaTkRow
namespace Go.Proofs.Ytbhkppleomnjjaa
set_option maxRecDepth 100000
namespace Tk
open Go.RowKit Go.Shelf Go Go.Proofs.Ytbhkppleomnjjaa.Pa
attribute [local go_sem] Oper.semAt_some
set_option maxHeartbeats 1600000 in
theorem words_in {w : World} {A : Option Addr} {l : L} (h : Bts w w.heap.size A l) (c : Nat) (hc : l.length ≤ c) (hm : c ≤ maxLen) (hl : l.length ≤ 30000) :
    CallsIn Fence.wide 9 Try.prog 10 #[.slice A l.length c] w (OutT w (wordsS l)) := by
  refine callsIn_of_wp_marks Try.func10 rfl trivial ?_ rfl
  have hb1 : Below w.heap.size w (w.alloc (.cells #[.slice none 0 0] 25)) := (Below.refl _ w).alloc (Nat.le_refl _) _
  have HBX := Lib.hid (Boxed.new w 25 (.slice none 0 0))
  have HB1 := Lib.hid hb1
  have hz1 : (w.alloc (.cells #[.slice none 0 0] 25)).heap.size = w.heap.size + 1 := by simp
  have HBT := Lib.hid (h.below hb1)
  have HLT : Hid (∀ ad, A = some ad → l ≠ [] → ad.block < w.heap.size) := Lib.hid fun ad e hne => by
    obtain ⟨ad', e', hlt, _⟩ := h.at_ (List.length_pos_iff.2 hne)
    rw [e] at e'
    injection e' with e'
    rw [e']
    exact hlt
  simp only [Try.ntmps10, List.size_toArray, List.length_cons, List.length_nil, Nat.reduceAdd, Nat.reduceSub, Array.replicate_succ, Array.replicate_zero, List.push_toArray, List.append_toArray, List.nil_append, List.cons_append]
  clear h hb1
  gi_wp2_with fail
  generalize w.alloc (.cells #[.slice none 0 0] 25) = w1 at *
  refine ⟨trivial, ?_⟩
  refine (callsIn_wide.2 (runs_fn _ _ _ _)).mono ?_
  rintro e w3 ⟨rfl, hw3⟩
  have hV3 : w3.heap[w1.heap.size]? = some (.cells #[.slice A l.length c] 22 (0, 0)) := by rw [hw3]; exact World.alloc_heap_new w1 _
  have hz3 : w3.heap.size = w1.heap.size + 1 := by rw [hw3]; simp
  have hb3 : Below w1.heap.size w1 w3 := by rw [hw3]; exact (Below.refl _ w1).alloc (Nat.le_refl _) _
  have hbt3 : Bts w3 w.heap.size A l := HBT.out.below (hb3.mono (by omega))
  have hbx3 : Boxed w3 w.heap.size 25 (.slice none 0 0) := (hb3.block _ (by omega)).trans HBX.out
  have hBw : Below w.heap.size w w3 := HB1.out.trans (hb3.mono (by omega))
  obtain ⟨p, hp⟩ : ∃ p : Nat → Prop, p = fun k => k < w3.heap.size ∧ k ≠ w.heap.size := ⟨_, rfl⟩
  have hpp : ∀ k, p k → k < w3.heap.size ∧ k ≠ w.heap.size := fun k hk => by rw [hp] at hk; exact hk
  have h0 : WsI w w3 p w.heap.size w3.heap.size (.slice none 0 0) [] w3 := ⟨hbx3, OwnT.nil _ _, hBw, Sm.refl _ _, Nat.le_refl _⟩
  have hstops := runs_stops p 8 (by omega) w3 (w.heap.size + 1) w.heap.size c A l (by rw [← hz1]; exact hV3) hbt3
    (by rw [hp]; exact ⟨by omega, by omega⟩)
    (fun ad e hne => by
      rw [hp]
      have := HLT.out ad e hne
      exact ⟨by omega, by omega⟩) hc hm hl
  have HPP := Lib.hid hpp
  have H0 := Lib.hid h0
  have HSTP := Lib.hid hstops
  clear h0 hstops hbx3 hbt3 hV3 hb3 hBw hw3 hp hpp
  gi_wp2_with fail
  refine wpIn_rangeFunc_ownG rfl (by omega) (gf := 23) (lb := #[.pointer (some ⟨w.heap.size + 1, 0, none⟩)]) rfl trivial (enters_of Try.func23 (by kernel_rfl) rfl)
    HSTP.out (fun h k => h.trans k) (fun W l o o' hl ho _ _ => ⟨by simp, fun k hk hl' => World.putObj_heap_other (by have := HPP.out k hk; omega)⟩) (Below.refl _ _) (fun _ => rfl)
    (WsJ w w3 p w.heap.size w3.heap.size w.heap.size) (fun _ _ _ => False) (wsJ_own (by omega) HPP.out) (fun _ _ _ _ _ h _ _ => h.elim) ⟨_, H0.out⟩
    (fun x => { tmps := #[.slice A l.length c, undef, .slice none 0 0, .pointer (some ⟨w.heap.size, 0, none⟩), .slice x.1.1 x.1.2.2.length x.1.2.1, .slice A l.length c, .func (.func 23) #[] #[.pointer (some ⟨w.heap.size + 1, 0, none⟩)], .slice x.1.1 x.1.2.2.length x.1.2.1, undef, undef, undef, undef, undef, undef], defers := [] }) ?assign ?body ?done ?stop
  case assign =>
    intro lp x X K' hK'
    dsimp only [encR]
    gi_wp2
    exact hK'
  case body =>
    rintro lp pre ⟨⟨Ax, cx, s⟩, hbx, hsc, hcm, hsl, hs0⟩ X ⟨v, hst⟩ hlen
    dsimp only at hbx hsc hcm hsl hs0 ⊢
    obtain ⟨y, hy⟩ : ∃ y : RunAt p w3 w.heap.size, y = ⟨(Ax, cx, s), hbx, hsc, hcm, hsl, hs0⟩ := ⟨_, rfl⟩
    rw [← hy]
    have hyl : byR y = s := by rw [hy]; rfl
    clear hy
    have hbM : w.heap.size < w3.heap.size := by omega
    have hNX : w.heap.size ≤ X.heap.size := by have := hst.sz; omega
    have HPR : Hid (((pre ++ [y]).map byR).map wordS = (pre.map byR).map wordS ++ [wordS s]) := Lib.hid (by simp [hyl])
    have hpl : ((pre.map byR).map wordS).length ≤ 40000 := by simp only [List.length_map]; omega
    have HS := Lib.hid hst.drew
    have HX0 := Lib.hid hst
    have HWD := Lib.hid (word_any (hbx X.drew hst.drew.sm) cx hsc hs0 (by omega))
    have y1 := hst.drew.box.cell
    have y2 := hst.drew.box.frozen
    have HK0 := Lib.hid (KeepsOthers.drew X)
    have HM0 : Hid (Sm p X X.drew) := Lib.hid ⟨Nat.le_refl _, fun _ _ _ => rfl⟩
    clear hst hbx hyl hlen
    generalize (pre.map byR).map wordS = t at *
    generalize s.length = sn at *
    generalize hwd : wordS s = wd at *
    clear hwd
    gi_wp2_with fail
    refine regionIn_key ((fun Y => Y.cell? ⟨w.heap.size, 0, none⟩ = some v ∧ Y.frozen? ⟨w.heap.size, 0, none⟩ = false)) 5 (Wide.round _ _ _) (by kernel_rfl) (by kernel_rfl) (⟨y1, y2⟩) (fun hHeld => ?_)
    generalize X.drew = X1 at *
    refine wpAnyK_take (i := 0) (v := v) rfl (by kernel_rfl) (by kernel_rfl) (by kernel_rfl) (by kernel_rfl) (fun _ _ _ h => h) (Or.inl ⟨by rfl, fun w hS => by (have hc1 := hS.1; first | (go_simp; done) | (go_simp; with_reducible rfl))⟩) hHeld ?_
    try simp only [Act.put, List.getElem_toArray, List.getElem_cons_zero, List.setIfInBounds_toArray, List.set_cons_zero, List.set_cons_succ]
    refine wpAnyK_take (i := 1) (v := .slice Ax sn cx) rfl (by kernel_rfl) (by kernel_rfl) (by kernel_rfl) (by kernel_rfl) (fun _ _ _ h => h) (Or.inl ⟨by rfl, fun w hS => by first | (go_simp; done) | (go_simp; with_reducible rfl)⟩) hHeld ?_
    try simp only [Act.put, List.getElem_toArray, List.getElem_cons_zero, List.getElem_cons_succ, List.setIfInBounds_toArray, List.set_cons_zero, List.set_cons_succ]
    refine wpAnyK_ready (rs := [2]) (by kernel_rfl) (by simp) ?_
    refine AllReadyK.cons rfl (fun K hK => ?_) AllReadyK.nil
    go_simp
    go_wp2_with (first | (refine HWD.out.mono ?_; rintro e X2 ⟨rfl, hb2⟩) | fail)
    have hst2 := HS.out.below hbM hb2
    have HS2 := Lib.hid hst2
    have HK2 := Lib.hid (HK0.out.trans (keeps_below hb2))
    have HM2 := Lib.hid (HM0.out.trans (Sm.of_below hb2))
    refine hK.out _ _ ?_ (fun hHeld => ?_)
    · exact ⟨HS2.out.box.cell, HS2.out.box.frozen⟩
    clear hK K hst2 hb2 HWD HS HK0 HM0
    try simp only [Act.put, List.getElem_toArray, List.getElem_cons_zero, List.getElem_cons_succ, List.setIfInBounds_toArray, List.set_cons_zero, List.set_cons_succ]
    have HBA := Lib.hid (belowA X2 (.cells #[.string (str wd)] 9))
    have HSA := Lib.hid (HS2.out.below hbM HBA.out)
    have HTX := Lib.hid (tx_lit X2 #[.string (str wd)] [wd] rfl (0, 0))
    have HKA := Lib.hid (HK2.out.trans (keeps_below HBA.out))
    have HMA := Lib.hid (HM2.out.trans (Sm.of_below HBA.out))
    refine wpAnyK_ready (rs := [3]) (by kernel_rfl) (by simp) ?_
    refine AllReadyK.cons rfl (fun K hK => ?_) AllReadyK.nil
    go_simp
    refine hK.out _ _ ?_ (fun hHeld => ?_)
    · exact ⟨HSA.out.box.cell, HSA.out.box.frozen⟩
    clear hK K
    try simp only [Act.put, List.getElem_toArray, List.getElem_cons_zero, List.getElem_cons_succ, List.setIfInBounds_toArray, List.set_cons_zero, List.set_cons_succ]
    refine wpAnyK_ready (rs := [4]) (by kernel_rfl) (by simp) ?_
    refine AllReadyK.cons rfl (fun K hK => ?_) AllReadyK.nil
    (refine stepTx (.tmp 8) (.tmp 11) (by rfl) (by rfl) (ps := t) (qs := [wd]) (by rfl) HSA.out.own (A := some ⟨X2.heap.size, 0, none⟩) (m := 1) (c := 1) (by rfl) HTX.out rfl (by omega) HSA.out.sz ?_; intro v4 w4 h1 h2; obtain ⟨A4, c4, rfl, _, _⟩ := own_slice h1; obtain ⟨bx4, st4, ko4, sm4⟩ := HSA.out.app hbM HPP.out h1 h2; have x4 := bx4.cell; have z4 := bx4.frozen; have ST4 := Lib.hid st4; have KO4 := Lib.hid ko4; have SM4 := Lib.hid sm4; clear h1 h2 bx4 st4 ko4 sm4)
    refine hK.out _ _ ?_ (fun hHeld => ?_)
    · exact ⟨x4, z4⟩
    clear hK K
    try simp only [Act.put, List.getElem_toArray, List.getElem_cons_zero, List.getElem_cons_succ, List.setIfInBounds_toArray, List.set_cons_zero, List.set_cons_succ]
    refine wpAnyK_ready (rs := [5]) (by kernel_rfl) (by simp) ?_
    refine AllReadyK.late rfl (by kernel_rfl) (fun K hK => ?_) AllReadyK.nil
    go_simp
    refine hK.out _ _ ?_ (fun _ => ?_)
    · trivial
    clear hK K
    try simp only [Act.put, List.getElem_toArray, List.getElem_cons_zero, List.getElem_cons_succ, List.setIfInBounds_toArray, List.set_cons_zero, List.set_cons_succ]
    refine wpAnyK_done (by kernel_rfl) (NormalAt.mk ?_) _
    rw [show t.length + 1 = (t ++ [wd]).length by simp]
    refine ⟨(HKA.out.trans KO4.out).from _, HMA.out.trans SM4.out, .slice A4 (t ++ [wd]).length c4, ?_⟩
    rw [HPR.out]
    exact ST4.out
  case done =>
    rintro D xs X hD hS ⟨v, hst⟩ hKd
    rw [hS] at hst
    have bx := hst.box.cell
    have hDX : D < X.heap.size := (Array.getElem?_eq_some_iff.1 hKd).1
    have hg := grownBy_putObj' X D (.deferred none)
    have hHS : w3.heap.size ≤ D := hD
    have B2 := hst.box.kept hg (by intro e; injection e with e; omega)
    have c3 := B2.cell
    have HF : Hid (OwnT (X.putObj D (.deferred none)) w.heap.size v (wordsS l) ∧ Below w.heap.size w (X.putObj D (.deferred none))) := Lib.hid ⟨own_more (ownsRow_putObj hst.own (.deferred none) hKd rfl) (by omega), hst.bel.grown hg (by have := hst.sz; omega) (fun k e => by injection e with e; omega)⟩
    clear hst B2 hg
    gi_wp2
    refine ⟨by simp, .inl ⟨_, _, rfl, run_takeDeferred hKd, ?_⟩⟩
    generalize X.putObj D (.deferred none) = Z at *
    exact ⟨v, by simp [results, Try.results10, go_sem], v, rfl, HF.out.1, HF.out.2⟩
  case stop =>
    rintro _ _ _ _ _ _ h _
    exact h.elim
theorem words_any {w : World} {A : Option Addr} {l : L} (h : Bts w w.heap.size A l) (c : Nat) (hc : l.length ≤ c) (hm : c ≤ maxLen) (hl : l.length ≤ 30000) :
    Calls Try.prog 10 #[.slice A l.length c] w (OutT w (wordsS l)) := callsIn_wide.1 (words_in h c hc hm hl)
end Tk
end Go.Proofs.Ytbhkppleomnjjaa
