/- mbox.Quote, mbox.Unquote, walked. Conditions: as stated at each. -/
import Derived.Test.YtamekflgidfnfaaGreatDoorMbStr
namespace Go.Proofs.YtamekflgidfnfaaGreatDoor
set_option maxRecDepth 100000
namespace Mb
open Go.RowKit Go.Shelf Go
attribute [local go_sem] Oper.semAt_some
theorem mkd_is (s : L) : mark (s.dropWhile (· == 62)) = mkd s := rfl
set_option maxHeartbeats 1600000 in
theorem quote_in {w : World} {A : Option Addr} {l : L} (h : Bts w w.heap.size A l) (c : Nat) (hc : l.length ≤ c) (hm : c ≤ maxLen) (hA : A = none → c = 0) (hl : l.length ≤ 30000) :
    CallsIn Fence.wide 9 Tryz.prog 62 #[.slice A l.length c] w (OutP w (quoteS l)) := by
  refine callsIn_of_wp_marks Tryz.func62 rfl trivial ?_ rfl
  have hb1 : Below w.heap.size w (w.alloc (.cells #[.slice none 0 0] 22)) := (Below.refl _ w).alloc (Nat.le_refl _) _
  have HBX := Lib.hid (Boxed.new w 22 (.slice none 0 0))
  have HB1 := Lib.hid hb1
  have hz1 : (w.alloc (.cells #[.slice none 0 0] 22)).heap.size = w.heap.size + 1 := by simp
  have HBT := Lib.hid (h.below hb1)
  have HLT : Hid (∀ ad, A = some ad → l ≠ [] → ad.block < w.heap.size) := Lib.hid fun ad e hne => by
    obtain ⟨ad', e', hlt, _⟩ := h.at_ (List.length_pos_iff.2 hne)
    rw [e] at e'
    injection e' with e'
    rw [e']
    exact hlt
  simp only [Tryz.ntmps62, List.size_toArray, List.length_cons, List.length_nil, Nat.reduceAdd, Nat.reduceSub, Array.replicate_succ, Array.replicate_zero, List.push_toArray, List.append_toArray, List.nil_append, List.cons_append]
  clear h hb1
  gi_wp2_with fail
  generalize w.alloc (.cells #[.slice none 0 0] 22) = w1 at *
  refine ⟨trivial, ?_⟩
  refine (callsIn_wide.2 (lines_fn _ _ _ _)).mono ?_
  rintro e w3 ⟨rfl, hw3⟩
  have hV3 : w3.heap[w1.heap.size]? = some (.cells #[.slice A l.length c] 22 (0, 0)) := by rw [hw3]; exact World.alloc_heap_new w1 _
  have hz3 : w3.heap.size = w1.heap.size + 1 := by rw [hw3]; simp
  have hb3 : Below w1.heap.size w1 w3 := by rw [hw3]; exact (Below.refl _ w1).alloc (Nat.le_refl _) _
  have hbt3 : Bts w3 w.heap.size A l := HBT.out.below (hb3.mono (by omega))
  have hbx3 : Boxed w3 w.heap.size 22 (.slice none 0 0) := (hb3.block _ (by omega)).trans HBX.out
  have hBw : Below w.heap.size w w3 := HB1.out.trans (hb3.mono (by omega))
  obtain ⟨p, hp⟩ : ∃ p : Nat → Prop, p = fun k => k < w3.heap.size ∧ k ≠ w.heap.size := ⟨_, rfl⟩
  have hpp : ∀ k, p k → k < w3.heap.size ∧ k ≠ w.heap.size := fun k hk => by rw [hp] at hk; exact hk
  have h0 : StI w w3 p w.heap.size w3.heap.size (.slice none 0 0) [] w3 := ⟨hbx3, Own5.nil _ _, hBw, Sm.refl _ _, Nat.le_refl _⟩
  have hstops := lines_stops p 8 (by omega) w3 (w.heap.size + 1) w.heap.size c A l (by rw [← hz1]; exact hV3) hbt3
    (fun ad e hne => by
      rw [hp]
      have := HLT.out ad e hne
      exact ⟨by omega, by omega⟩) hc hm hA hl
  have HPP := Lib.hid hpp
  have H0 := Lib.hid h0
  have HSTP := Lib.hid hstops
  clear h0 hstops hbx3 hbt3 hV3 hb3 hBw hw3 hp hpp
  gi_wp2_with fail
  refine wpIn_rangeFunc_ownG rfl (by omega) (gf := 87) (lb := #[.pointer (some ⟨w.heap.size + 1, 0, none⟩)]) rfl trivial (enters_of Tryz.func87 (by kernel_rfl) rfl)
    HSTP.out (fun h k => h.trans k) (fun W l o o' hl ho _ _ => ⟨by simp, fun k hk hl' => World.putObj_heap_other (by have := HPP.out k hk; omega)⟩) (Below.refl _ _) (fun _ => rfl)
    (StJ qt w w3 p w.heap.size w3.heap.size w.heap.size) (fun _ _ _ => False) (stJ_own (by omega) HPP.out) (fun _ _ _ _ _ h _ _ => h.elim) ⟨_, H0.out⟩
    (fun x => { tmps := #[.slice A l.length c, undef, .slice none 0 0, .pointer (some ⟨w.heap.size, 0, none⟩), .slice x.1.1 x.1.2.2.length x.1.2.1, .slice A l.length c, .func (.func 87) #[] #[.pointer (some ⟨w.heap.size + 1, 0, none⟩)], .slice x.1.1 x.1.2.2.length x.1.2.1, undef, undef, undef, undef, undef, undef, undef, undef, undef], defers := [] }) ?assign ?body ?done ?stop
  case assign =>
    intro lp x X K' hK'
    dsimp only [encL]
    gi_wp2
    exact hK'
  case body =>
    rintro lp pre ⟨⟨Ax, cx, s⟩, hbx, hsc, hcm, hsl, hs0⟩ X ⟨v, hst⟩ hlen
    dsimp only at hbx hsc hcm hsl hs0 ⊢
    obtain ⟨y, hy⟩ : ∃ y : LineAt p w3 w.heap.size, y = ⟨(Ax, cx, s), hbx, hsc, hcm, hsl, hs0⟩ := ⟨_, rfl⟩
    rw [← hy]
    have hyl : byL y = s := by rw [hy]; rfl
    clear hy
    have hwl := flat_map_len qt_len pre
    have hx0 := hbx X hst.sm
    have hAx : Ax = none → cx = 0 := fun e => by
      obtain ⟨g, o, e', _⟩ := bts_at_ hx0 hs0
      rw [e] at e'
      cases e'
    have HTQ := Lib.hid (trimq_any hx0 cx hs0 hsc hcm hAx)
    have hql := qt_len s
    have hwl2 : ((pre.map byL).flatMap qt).length ≤ 930000000 := by omega
    have HPR : Hid (((pre ++ [y]).map byL).flatMap qt = (pre.map byL).flatMap qt ++ qt s) := Lib.hid (by rw [flat_map_snoc, hyl])
    clear hyl
    have hbM : w.heap.size < w3.heap.size := by omega
    have hNX : w.heap.size ≤ X.heap.size := by have := hst.sz; omega
    have HS := Lib.hid hst
    have HBXX := Lib.hid hbx
    have HQ : Hid (qt s = if mkd s then 62 :: s else s) := Lib.hid rfl
    have HMK := Lib.hid (mkd_is s)
    clear hst hwl hx0 hbx hAx hql
    generalize hsn : s.length = sn at *
    have HSN := Lib.hid hsn
    clear hsn
    generalize (pre.map byL).flatMap qt = t at *
    gi_wp2_with fail
    refine ⟨trivial, CallsIn.inRound lp (callsIn_wide.2 (HTQ.out.mono ?_))⟩
    rintro e _ ⟨rfl, A2, c2, rfl, hb2, hc2, _, _⟩
    have HM := Lib.hid (marked_any hb2 hNX c2 hc2)
    rw [HMK.out] at HM
    clear hb2 hc2
    generalize (s.dropWhile (· == 62)).length = m2 at *
    gi_wp2_with fail
    refine ⟨trivial, CallsIn.inRound lp (callsIn_wide.2 (HM.out.mono ?_))⟩
    rintro e X1 ⟨rfl, hg1⟩
    have hst1 := HS.out.row hbM HPP.out hg1 (fun r e => by cases e)
    have bx := hst1.box.cell
    have bz := hst1.box.frozen
    have HS1 := Lib.hid hst1
    have HG1 := Lib.hid hg1
    clear hst1 hg1 HM
    generalize mkd s = ms at *
    cases ms with
    | true =>
      have HD : Hid (qt s = 62 :: s) := Lib.hid HQ.out
      clear HQ
      gi_wp2_with (first
        | (refine lin_app5s (Wide.round _ _ _) (.tmp 11) (.const (.string ⟨#[62]⟩)) rfl rfl (l := t) (m := [62]) rfl HS1.out.own rfl (by simp; omega) HS1.out.sz ?_; intro v4 w4 h1 h2; obtain ⟨A4, k4, c4, rfl⟩ := own5_letters h1; obtain ⟨bx4, st4, ko4, sm4⟩ := HS1.out.app hbM HPP.out h1 h2; have x4 := bx4.cell; have z4 := bx4.frozen; have y4 := st4.box.cell; have u4 := st4.box.frozen; have ST4 := Lib.hid st4; have KO4 := Lib.hid ko4; have SM4 := Lib.hid sm4; clear h1 h2 bx4 st4 ko4 sm4)
        | (refine lin_app5 (Wide.round _ _ _) (.tmp 13) (.tmp 14) rfl rfl (l := t ++ [62]) (m := s) rfl ST4.out.own (c := cx) (by rw [HSN.out]; rfl) (HBXX.out _ ST4.out.sm) (by rw [HSN.out]; simp; omega) ST4.out.sz ?_; intro v5 w5 h1 h2; obtain ⟨A5, k5, c5, rfl⟩ := own5_letters h1; obtain ⟨bx5, st5, ko5, sm5⟩ := ST4.out.app hbM HPP.out h1 h2; have x5 := bx5.cell; have z5 := bx5.frozen; have ST5 := Lib.hid st5; have KO5 := Lib.hid ko5; have SM5 := Lib.hid sm5; clear h1 h2 bx5 st5 ko5 sm5)
        | fail)
      refine ⟨(((KeepsOthers.of_grownBy HG1.out (fun _ _ h => by cases h)).trans KO4.out).trans KO5.out).from _, ((Sm.grown HG1.out).trans SM4.out).trans SM5.out, .slice A5 k5 c5, ?_⟩
      rw [HPR.out]
      have e : t ++ qt s = (t ++ [62]) ++ s := by rw [HD.out, List.append_assoc]; rfl
      show StI w w3 p _ _ _ (t ++ qt s) _
      rw [e]
      exact ST5.out
    | false =>
      have HD : Hid (qt s = s) := Lib.hid HQ.out
      clear HQ
      gi_wp2_with (first
        | (refine lin_app5 (Wide.round _ _ _) (.tmp 13) (.tmp 14) rfl rfl (l := t) (m := s) rfl HS1.out.own (c := cx) (by rw [HSN.out]; rfl) (HBXX.out _ HS1.out.sm) (by rw [HSN.out]; omega) HS1.out.sz ?_; intro v5 w5 h1 h2; obtain ⟨A5, k5, c5, rfl⟩ := own5_letters h1; obtain ⟨bx5, st5, ko5, sm5⟩ := HS1.out.app hbM HPP.out h1 h2; have x5 := bx5.cell; have z5 := bx5.frozen; have ST5 := Lib.hid st5; have KO5 := Lib.hid ko5; have SM5 := Lib.hid sm5; clear h1 h2 bx5 st5 ko5 sm5)
        | fail)
      refine ⟨((KeepsOthers.of_grownBy HG1.out (fun _ _ h => by cases h)).trans KO5.out).from _, (Sm.grown HG1.out).trans SM5.out, .slice A5 k5 c5, ?_⟩
      rw [HPR.out]
      show StI w w3 p _ _ _ (t ++ qt s) _
      rw [HD.out]
      exact ST5.out
  case done =>
    rintro D xs X hD hS ⟨v, hst⟩ hKd
    rw [hS] at hst
    have bx := hst.box.cell
    have HS := Lib.hid hst
    have hDX : D < X.heap.size := (Array.getElem?_eq_some_iff.1 hKd).1
    have hg := grownBy_putObj' X D (.deferred none)
    have hHS : w3.heap.size ≤ D := hD
    have B2 := hst.box.kept hg (by intro e; injection e with e; omega)
    have c3 := B2.cell
    have HF : Hid (Own5 (X.putObj D (.deferred none)) w.heap.size v (quoteS l) ∧ Below w.heap.size w (X.putObj D (.deferred none))) := Lib.hid ⟨own_more (ownsRow_putObj hst.own (.deferred none) hKd rfl) (by omega), hst.bel.grown hg (by have := hst.sz; omega) (fun k e => by injection e with e; omega)⟩
    clear hst B2 hg
    gi_wp2
    refine ⟨by simp, .inl ⟨_, _, rfl, run_takeDeferred hKd, ?_⟩⟩
    generalize X.putObj D (.deferred none) = Z at *
    exact ⟨v, by simp [results, Tryz.results62, go_sem], v, rfl, HF.out.1, HF.out.2⟩
  case stop =>
    rintro _ _ _ _ _ _ h _
    exact h.elim
theorem quote_any {w : World} {A : Option Addr} {l : L} (h : Bts w w.heap.size A l) (c : Nat) (hc : l.length ≤ c) (hm : c ≤ maxLen) (hA : A = none → c = 0) (hl : l.length ≤ 30000) :
    Calls Tryz.prog 62 #[.slice A l.length c] w (OutP w (quoteS l)) := callsIn_wide.1 (quote_in h c hc hm hA hl)
theorem uq_len1 (x : L) : (uq x).length ≤ x.length + 1 := by have := uq_len x; omega
set_option maxHeartbeats 1600000 in
theorem unquote_in {w : World} {A : Option Addr} {l : L} (h : Bts w w.heap.size A l) (c : Nat) (hc : l.length ≤ c) (hm : c ≤ maxLen) (hA : A = none → c = 0) (hl : l.length ≤ 30000) :
    CallsIn Fence.wide 9 Tryz.prog 67 #[.slice A l.length c] w (OutP w (unquoteS l)) := by
  refine callsIn_of_wp_marks Tryz.func67 rfl trivial ?_ rfl
  have hcv := conv_const
  have hb1 : Below w.heap.size w (w.alloc (.cells #[.slice none 0 0] 22)) := (Below.refl _ w).alloc (Nat.le_refl _) _
  have HBX := Lib.hid (Boxed.new w 22 (.slice none 0 0))
  have HB1 := Lib.hid hb1
  have hz1 : (w.alloc (.cells #[.slice none 0 0] 22)).heap.size = w.heap.size + 1 := by simp
  have HBT := Lib.hid (h.below hb1)
  have HLT : Hid (∀ ad, A = some ad → l ≠ [] → ad.block < w.heap.size) := Lib.hid fun ad e hne => by
    obtain ⟨ad', e', hlt, _⟩ := h.at_ (List.length_pos_iff.2 hne)
    rw [e] at e'
    injection e' with e'
    rw [e']
    exact hlt
  simp only [Tryz.ntmps67, List.size_toArray, List.length_cons, List.length_nil, Nat.reduceAdd, Nat.reduceSub, Array.replicate_succ, Array.replicate_zero, List.push_toArray, List.append_toArray, List.nil_append, List.cons_append]
  clear h hb1
  gi_wp2_with fail
  generalize w.alloc (.cells #[.slice none 0 0] 22) = w1 at *
  refine ⟨trivial, ?_⟩
  refine (callsIn_wide.2 (lines_fn _ _ _ _)).mono ?_
  rintro e w3 ⟨rfl, hw3⟩
  have hV3 : w3.heap[w1.heap.size]? = some (.cells #[.slice A l.length c] 22 (0, 0)) := by rw [hw3]; exact World.alloc_heap_new w1 _
  have hz3 : w3.heap.size = w1.heap.size + 1 := by rw [hw3]; simp
  have hb3 : Below w1.heap.size w1 w3 := by rw [hw3]; exact (Below.refl _ w1).alloc (Nat.le_refl _) _
  have hbt3 : Bts w3 w.heap.size A l := HBT.out.below (hb3.mono (by omega))
  have hbx3 : Boxed w3 w.heap.size 22 (.slice none 0 0) := (hb3.block _ (by omega)).trans HBX.out
  have hBw : Below w.heap.size w w3 := HB1.out.trans (hb3.mono (by omega))
  obtain ⟨p, hp⟩ : ∃ p : Nat → Prop, p = fun k => k < w3.heap.size ∧ k ≠ w.heap.size := ⟨_, rfl⟩
  have hpp : ∀ k, p k → k < w3.heap.size ∧ k ≠ w.heap.size := fun k hk => by rw [hp] at hk; exact hk
  have h0 : StI w w3 p w.heap.size w3.heap.size (.slice none 0 0) [] w3 := ⟨hbx3, Own5.nil _ _, hBw, Sm.refl _ _, Nat.le_refl _⟩
  have hstops := lines_stops p 8 (by omega) w3 (w.heap.size + 1) w.heap.size c A l (by rw [← hz1]; exact hV3) hbt3
    (fun ad e hne => by
      rw [hp]
      have := HLT.out ad e hne
      exact ⟨by omega, by omega⟩) hc hm hA hl
  have HPP := Lib.hid hpp
  have H0 := Lib.hid h0
  have HSTP := Lib.hid hstops
  clear h0 hstops hbx3 hbt3 hV3 hb3 hBw hw3 hp hpp
  gi_wp2_with fail
  refine wpIn_rangeFunc_ownG rfl (by omega) (gf := 87) (lb := #[.pointer (some ⟨w.heap.size + 1, 0, none⟩)]) rfl trivial (enters_of Tryz.func87 (by kernel_rfl) rfl)
    HSTP.out (fun h k => h.trans k) (fun W l o o' hl ho _ _ => ⟨by simp, fun k hk hl' => World.putObj_heap_other (by have := HPP.out k hk; omega)⟩) (Below.refl _ _) (fun _ => rfl)
    (StJ uq w w3 p w.heap.size w3.heap.size w.heap.size) (fun _ _ _ => False) (stJ_own (by omega) HPP.out) (fun _ _ _ _ _ h _ _ => h.elim) ⟨_, H0.out⟩
    (fun x => { tmps := #[.slice A l.length c, undef, .slice none 0 0, .pointer (some ⟨w.heap.size, 0, none⟩), .slice x.1.1 x.1.2.2.length x.1.2.1, .slice A l.length c, .func (.func 87) #[] #[.pointer (some ⟨w.heap.size + 1, 0, none⟩)], .slice x.1.1 x.1.2.2.length x.1.2.1, undef, undef, undef, undef, undef, undef, undef, undef, undef, undef, undef], defers := [] }) ?assign ?body ?done ?stop
  case assign =>
    intro lp x X K' hK'
    dsimp only [encL]
    gi_wp2
    exact hK'
  case body =>
    rintro lp pre ⟨⟨Ax, cx, s⟩, hbx, hsc, hcm, hsl, hs0⟩ X ⟨v, hst⟩ hlen
    dsimp only at hbx hsc hcm hsl hs0 ⊢
    obtain ⟨y, hy⟩ : ∃ y : LineAt p w3 w.heap.size, y = ⟨(Ax, cx, s), hbx, hsc, hcm, hsl, hs0⟩ := ⟨_, rfl⟩
    rw [← hy]
    have hyl : byL y = s := by rw [hy]; rfl
    clear hy
    have hwl := flat_map_len uq_len1 pre
    have hx0 := hbx X hst.sm
    have hAx : Ax = none → cx = 0 := fun e => by
      obtain ⟨g, o, e', _⟩ := bts_at_ hx0 hs0
      rw [e] at e'
      cases e'
    have HTQ := Lib.hid (trimq_any hx0 cx hs0 hsc hcm hAx)
    have hql := uq_len1 s
    have hwl2 : ((pre.map byL).flatMap uq).length ≤ 930000000 := by omega
    have HPR : Hid (((pre ++ [y]).map byL).flatMap uq = (pre.map byL).flatMap uq ++ uq s) := Lib.hid (by rw [flat_map_snoc, hyl])
    clear hyl
    have hbM : w.heap.size < w3.heap.size := by omega
    have hNX : w.heap.size ≤ X.heap.size := by have := hst.sz; omega
    have HS := Lib.hid hst
    have HBXX := Lib.hid hbx
    have HQ : Hid (uq s = if mkd s then Go.Lib.trimPrefix s [62] else s) := Lib.hid rfl
    have HSM : Hid (mkd s = true → Go.Lib.trimPrefix s [62] = uq s) := Lib.hid fun e => by unfold uq; rw [if_pos e]
    have HMK := Lib.hid (mkd_is s)
    have HAX := Lib.hid hAx
    have hul : (uq s).length ≤ 30000 := by have := uq_len s; omega
    clear hst hwl hx0 hbx hAx hql
    generalize hsn : s.length = sn at *
    have HSN := Lib.hid hsn
    clear hsn
    generalize (pre.map byL).flatMap uq = t at *
    gi_wp2_with fail
    refine ⟨trivial, CallsIn.inRound lp (callsIn_wide.2 (HTQ.out.mono ?_))⟩
    rintro e _ ⟨rfl, A2, c2, rfl, hb2, hc2, _, _⟩
    have HM := Lib.hid (marked_any hb2 hNX c2 hc2)
    rw [HMK.out] at HM
    clear hb2 hc2
    generalize (s.dropWhile (· == 62)).length = m2 at *
    gi_wp2_with fail
    refine ⟨trivial, CallsIn.inRound lp (callsIn_wide.2 (HM.out.mono ?_))⟩
    rintro e X1 ⟨rfl, hg1⟩
    have hst1 := HS.out.row hbM HPP.out hg1 (fun r e => by cases e)
    have bx := hst1.box.cell
    have bz := hst1.box.frozen
    have HS1 := Lib.hid hst1
    have HG1 := Lib.hid hg1
    clear hst1 hg1 HM
    generalize mkd s = ms at *
    cases ms with
    | true =>
      have HD : Hid (Go.Lib.trimPrefix s [62] = uq s) := Lib.hid (HSM.out rfl)
      have hbM2 : w.heap.size < X1.heap.size := by have := HS1.out.sz; omega
      have HSA := Lib.hid (HS1.out.alloc (Nat.le_of_lt hbM) (.cells #[.int .u8 62] 5 (1, 2)))
      have HTP : Hid (Calls Tryz.prog 88 #[.slice Ax sn cx, .slice (some ⟨X1.heap.size, 0, none⟩) 1 1] (X1.alloc (.cells #[.int .u8 62] 5 (1, 2))) fun e w' => (X1.alloc (.cells #[.int .u8 62] 5 (1, 2))) = w' ∧ ∃ A2 c2, e = .returned (.slice A2 (uq s).length c2) ∧ Bts (X1.alloc (.cells #[.int .u8 62] 5 (1, 2))) w.heap.size A2 (uq s) ∧ (uq s).length ≤ c2 ∧ c2 ≤ cx ∧ (A2 = none → c2 = 0)) := Lib.hid (by
        have := trimp_any (HBXX.out _ HSA.out.sm) (bts_new X1 [62] #[.int .u8 62] (1, 2) rfl) cx 1 (by rw [HSN.out]; exact hsc) HAX.out
        rw [HD.out, HSN.out] at this
        exact this)
      clear HQ HSM
      gi_wp2_with fail
      refine ⟨trivial, CallsIn.inRound lp (callsIn_wide.2 (HTP.out.mono ?_))⟩
      rintro e _ ⟨rfl, A3, c3, rfl, hb3, hc3, _, _⟩
      have HB3 := Lib.hid hb3
      have bx := HSA.out.box.cell
      have bz := HSA.out.box.frozen
      clear HTP hb3
      generalize hsu : (uq s).length = su at *
      have HSU := Lib.hid hsu
      clear hsu
      gi_wp2_with (first
        | (refine lin_app5 (Wide.round _ _ _) (.tmp 15) (.tmp 16) rfl rfl (l := t) (m := uq s) rfl HSA.out.own (c := c3) (by rw [HSU.out]; rfl) HB3.out (by rw [HSU.out]; omega) HSA.out.sz ?_; intro v5 w5 h1 h2; obtain ⟨A5, k5, c5, rfl⟩ := own5_letters h1; obtain ⟨bx5, st5, ko5, sm5⟩ := HSA.out.app hbM HPP.out h1 h2; have x5 := bx5.cell; have z5 := bx5.frozen; have ST5 := Lib.hid st5; have KO5 := Lib.hid ko5; have SM5 := Lib.hid sm5; clear h1 h2 bx5 st5 ko5 sm5)
        | fail)
      refine ⟨(((KeepsOthers.of_grownBy HG1.out (fun _ _ h => by cases h)).trans (KeepsOthers.of_grownBy (grown_alloc X1 (.cells #[.int .u8 62] 5 (1, 2))) (fun _ _ h => by cases h))).trans KO5.out).from _, ((Sm.grown HG1.out).trans (Sm.alloc p X1 _)).trans SM5.out, .slice A5 k5 c5, ?_⟩
      rw [HPR.out]
      show StI w w3 p _ _ _ (t ++ uq s) _
      exact ST5.out
    | false =>
      have HD : Hid (uq s = s) := Lib.hid HQ.out
      clear HQ HSM
      gi_wp2_with (first
        | (refine lin_app5 (Wide.round _ _ _) (.tmp 15) (.tmp 16) rfl rfl (l := t) (m := s) rfl HS1.out.own (c := cx) (by rw [HSN.out]; rfl) (HBXX.out _ HS1.out.sm) (by rw [HSN.out]; omega) HS1.out.sz ?_; intro v5 w5 h1 h2; obtain ⟨A5, k5, c5, rfl⟩ := own5_letters h1; obtain ⟨bx5, st5, ko5, sm5⟩ := HS1.out.app hbM HPP.out h1 h2; have x5 := bx5.cell; have z5 := bx5.frozen; have ST5 := Lib.hid st5; have KO5 := Lib.hid ko5; have SM5 := Lib.hid sm5; clear h1 h2 bx5 st5 ko5 sm5)
        | fail)
      refine ⟨((KeepsOthers.of_grownBy HG1.out (fun _ _ h => by cases h)).trans KO5.out).from _, (Sm.grown HG1.out).trans SM5.out, .slice A5 k5 c5, ?_⟩
      rw [HPR.out]
      show StI w w3 p _ _ _ (t ++ uq s) _
      rw [HD.out]
      exact ST5.out
  case done =>
    rintro D xs X hD hS ⟨v, hst⟩ hKd
    rw [hS] at hst
    have bx := hst.box.cell
    have HS := Lib.hid hst
    have hDX : D < X.heap.size := (Array.getElem?_eq_some_iff.1 hKd).1
    have hg := grownBy_putObj' X D (.deferred none)
    have hHS : w3.heap.size ≤ D := hD
    have B2 := hst.box.kept hg (by intro e; injection e with e; omega)
    have c3 := B2.cell
    have HF : Hid (Own5 (X.putObj D (.deferred none)) w.heap.size v (unquoteS l) ∧ Below w.heap.size w (X.putObj D (.deferred none))) := Lib.hid ⟨own_more (ownsRow_putObj hst.own (.deferred none) hKd rfl) (by omega), hst.bel.grown hg (by have := hst.sz; omega) (fun k e => by injection e with e; omega)⟩
    clear hst B2 hg
    gi_wp2
    refine ⟨by simp, .inl ⟨_, _, rfl, run_takeDeferred hKd, ?_⟩⟩
    generalize X.putObj D (.deferred none) = Z at *
    exact ⟨v, by simp [results, Tryz.results67, go_sem], v, rfl, HF.out.1, HF.out.2⟩
  case stop =>
    rintro _ _ _ _ _ _ h _
    exact h.elim
theorem unquote_any {w : World} {A : Option Addr} {l : L} (h : Bts w w.heap.size A l) (c : Nat) (hc : l.length ≤ c) (hm : c ≤ maxLen) (hA : A = none → c = 0) (hl : l.length ≤ 30000) :
    Calls Tryz.prog 67 #[.slice A l.length c] w (OutP w (unquoteS l)) := callsIn_wide.1 (unquote_in h c hc hm hA hl)
end Mb
end Go.Proofs.YtamekflgidfnfaaGreatDoor
