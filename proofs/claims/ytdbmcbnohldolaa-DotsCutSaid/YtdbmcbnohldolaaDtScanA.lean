/- dots.Scan, walked. Conditions: as stated at each. -/
import Derived.Test.YtdbmcbnohldolaaDtScanI
import Derived.WalkMore
namespace Go.Proofs.Ytdbmcbnohldolaa
set_option maxRecDepth 100000
namespace Dt
open Go.RowKit Go.Shelf Go Go.Proofs.Ytdbmcbnohldolaa.Hd
attribute [local go_sem] Oper.semAt_some
set_option maxHeartbeats 1600000 in
theorem scan_in {w : World} {A : Option Addr} {l : L} (h : Bts w w.heap.size A l) (c : Nat) (hc : l.length ≤ c) (hm : c ≤ maxLen) (hA : A = none → c = 0) (hl : l.length ≤ 20000) (hG : Gl w) :
    CallsIn Fence.wide 9 Try.prog 15 #[.slice A l.length c] w (ScanP w l) := by
  refine callsIn_of_wp_marks Try.func15 rfl trivial ?_ rfl
  obtain ⟨wa, hwa⟩ : ∃ wa, wa = w.alloc (.cells #[.slice none 0 0] 22) := ⟨_, rfl⟩
  obtain ⟨wb, hwb⟩ : ∃ wb, wb = wa.alloc (.cells #[.int .i64 0] 3) := ⟨_, rfl⟩
  obtain ⟨wc, hwc⟩ : ∃ wc, wc = wb.alloc (.cells #[.bool false] 4) := ⟨_, rfl⟩
  simp only [Try.ntmps15, List.size_toArray, List.length_cons, List.length_nil, Nat.reduceAdd, Nat.reduceSub, Array.replicate_succ, Array.replicate_zero, List.push_toArray, List.append_toArray, List.nil_append, List.cons_append]
  have HB := Lib.hid h
  have HA := Lib.hid hA
  clear h hA
  have za : wa.heap.size = w.heap.size + 1 := by rw [hwa]; simp
  have zb : wb.heap.size = w.heap.size + 1 + 1 := by rw [hwb]; simp [za]
  have zc : wc.heap.size = w.heap.size + 1 + 1 + 1 := by rw [hwc]; simp [zb]
  have b1 : Boxed wc w.heap.size 22 (.slice none 0 0) := by rw [hwc, hwb, hwa]; exact ((Boxed.new w _ _).alloc _).alloc _
  have b2 : Boxed wc (w.heap.size + 1) 3 (.int .i64 0) := by rw [hwc, hwb, ← za]; exact (Boxed.new wa _ _).alloc _
  have b3 : Boxed wc (w.heap.size + 1 + 1) 4 (.bool false) := by rw [hwc, ← zb]; exact Boxed.new wb _ _
  have hbc : Below w.heap.size w wc := by rw [hwc, hwb, hwa]; exact (((Below.refl _ w).alloc (Nat.le_refl _) _).alloc (by simp) _).alloc (by simp; omega) _
  have HSC : Hid (ScanP w l = ScanP w l) := Lib.hid rfl
  have HP : Hid (∀ v y b w', (∃ rest, b = (scanL (lines l)).isSome ∧ Own5 w' w.heap.size v (match scanL (lines l) with | some p => p.1 | none => []) ∧ rest = (match scanL (lines l) with | some p => l.drop p.2 | none => l) ∧ (∃ A c, y = .slice A rest.length c ∧ Bts w' w'.heap.size A rest ∧ rest.length ≤ c ∧ c ≤ maxLen) ∧ Below w.heap.size w w') → ScanP w l (.returned (.tuple #[v, y, .bool b])) w') := Lib.hid fun v y b w' ⟨rest, e, h1, h2, h3, h4⟩ => by
    subst e
    exact ⟨v, y, rest, rfl, h1, h2, h3, h4⟩
  generalize ScanP w l = R at *
  clear HSC
  generalize hln : l.length = n at *
  have HLN := Lib.hid hln
  clear hln
  gi_wp2_with fail
  refine (wpIn_wide (n := 9)).2 (wp_scope_straight ((wpIn_wide (n := 9)).1 ?_))
  gi_wp2_with fail
  refine wpIn_label ?_
  gi_wp2_with fail
  rw [← hwa, ← hwb, ← hwc]
  refine ⟨trivial, ?_⟩
  refine (callsIn_wide.2 (lines_fn _ _ _ _)).mono ?_
  rintro e w3 ⟨rfl, hw3⟩
  rw [zc]
  have hV3 : w3.heap[w.heap.size + 1 + 1 + 1]? = some (.cells #[.slice A n c] 22 (0, 0)) := by rw [hw3, ← zc]; exact World.alloc_heap_new wc _
  have z3 : w3.heap.size = w.heap.size + 1 + 1 + 1 + 1 := by rw [hw3]; simp [zc]
  have hb3 : Below wc.heap.size wc w3 := by rw [hw3]; exact (Below.refl _ wc).alloc (Nat.le_refl _) _
  have hBw : Below w.heap.size w w3 := hbc.trans (hb3.mono (by omega))
  obtain ⟨p, hp⟩ : ∃ p : Nat → Prop, p = fun k => k < w3.heap.size ∧ k ≠ w.heap.size ∧ k ≠ w.heap.size + 1 ∧ k ≠ w.heap.size + 1 + 1 := ⟨_, rfl⟩
  have hpp : ∀ k, p k → k < w3.heap.size ∧ k ≠ w.heap.size ∧ k ≠ w.heap.size + 1 ∧ k ≠ w.heap.size + 1 + 1 := fun k hk => by rw [hp] at hk; exact hk
  have h0 : ScI w w3 p w.heap.size w3.heap.size (.slice none 0 0) [] 0 false w3 := ⟨(hb3.block _ b1.lt).trans b1, (hb3.block _ b2.lt).trans b2, (hb3.block _ b3.lt).trans b3, Own5.nil _ _, hBw, Sm.refl _ _, Nat.le_refl _⟩
  have hGl := hG.lt
  have hbt3 := HB.out.below hBw
  have hstops := lines_stops p 8 (by omega) w3 (w.heap.size + 1 + 1 + 1) w.heap.size c A l (by rw [HLN.out]; exact hV3) hbt3 (by rw [hp]; exact ⟨by omega, by omega, by omega, by omega⟩) (by rw [hp]; exact ⟨by omega, by omega, by omega, by omega⟩)
    (fun ad e hne => by
      obtain ⟨ad', e', hlt, _⟩ := HB.out.at_ (k := 0) (by cases l with | nil => exact absurd rfl hne | cons a l => simp)
      rw [e] at e'
      injection e' with e'
      subst e'
      rw [hp]
      exact ⟨by omega, by omega, by omega, by omega⟩) (by rw [HLN.out]; exact hc) hm HA.out (by rw [HLN.out]; exact hl) (hG.below hBw hGl)
  have HPP := Lib.hid hpp
  have H0 := Lib.hid h0
  have HSTP := Lib.hid hstops
  have hbM : w.heap.size + 1 + 1 < w3.heap.size := by omega
  clear h0 hstops hbt3 hV3 hb3 hBw hw3 hp hpp b1 b2 b3 hbc
  gi_wp2_with fail
  refine wpIn_rangeFunc_ownG rfl (by omega) (gf := 24) (lb := #[.pointer (some ⟨w.heap.size + 1 + 1 + 1, 0, none⟩)]) rfl trivial (enters_of Try.func24 (by kernel_rfl) rfl)
    HSTP.out (fun h k => h.trans k) (fun W l o o' hl ho _ _ => ⟨by simp, fun k hk hl' => World.putObj_heap_other (by have := HPP.out k hk; omega)⟩) (Below.refl _ _) (fun _ => rfl)
    (ScJ w w3 p w.heap.size w3.heap.size w.heap.size) (ScX w w3 p w.heap.size w3.heap.size w.heap.size) (scJ_own hbM HPP.out) (fun c => scX_own hbM HPP.out c) ⟨by simp, _, H0.out⟩
    (fun x => { tmps := #[.slice A n c, undef, .slice none 0 0, .slice none 0 0, .bool false, .pointer (some ⟨w.heap.size, 0, none⟩), .pointer (some ⟨w.heap.size + 1, 0, none⟩), .pointer (some ⟨w.heap.size + 1 + 1, 0, none⟩), .slice x.1.1 x.1.2.2.length x.1.2.1, .slice A n c, .func (.func 24) #[] #[.pointer (some ⟨w.heap.size + 1 + 1 + 1, 0, none⟩)], .slice x.1.1 x.1.2.2.length x.1.2.1, undef, undef, undef, undef, undef, undef, undef, undef, undef, undef, undef, undef, undef, undef, undef, undef, undef, undef, undef, undef, undef, undef, undef, undef, undef, undef, undef, undef, undef], defers := [] }) ?assign ?body ?done ?stop
  case assign =>
    intro lp x X K' hK'
    dsimp only [encL]
    gi_wp2
    exact hK'
  case body =>
    rintro lp pre ⟨⟨Ax, cx, s⟩, hbx, hsc, hcm, hsl, hlb⟩ X ⟨hno, v, hst⟩ hlen
    dsimp only at hbx hsc hcm hsl hlb ⊢
    obtain ⟨y, hy⟩ : ∃ y : LineAt p w3 w.heap.size, y = ⟨(Ax, cx, s), hbx, hsc, hcm, hsl, hlb⟩ := ⟨_, rfl⟩
    rw [← hy]
    have hyl : byL y = s := by rw [hy]; rfl
    clear hy
    have hlen2 : pre.length < n + 1 := by rw [← HLN.out]; exact hlen
    have hql := flat_map_len pre
    have htl := texts_len (pre.map byL)
    have hls := hlb.len
    have HPR : Hid ((pre ++ [y]).map byL = pre.map byL ++ [s]) := Lib.hid (by rw [List.map_append]; simp [hyl])
    clear hyl
    have hq9 : (pre.map byL).flatten.length ≤ 500000000 := by omega
    have ht9 : (texts (pre.map byL)).length ≤ 500000000 := by omega
    generalize pre.map byL = ls at *
    have HNO := Lib.hid hno
    have HT9 := Lib.hid ht9
    clear hql htl hno ht9
    generalize hqe : ls.flatten.length = q at *
    have HQE := Lib.hid hqe
    clear hqe
    have y1 := hst.siz.cell
    have y2 := hst.siz.frozen
    obtain ⟨S1, KO1, SM1⟩ := hst.size HPP.out (q + s.length) ((q : Int) + (s.length : Int)) (by omega)
    have hb1 := hbx _ S1.sm
    obtain ⟨g, o, rfl, hg, hcell⟩ := bts_at_ hb1 (by omega)
    have hc0 := hcell 0 (by omega)
    rw [show o + 0 = o from rfl] at hc0
    have hstr := run_str Try.prog Try.underlying22 Try.underlying5 Try.underlying9 cx hb1
    have hls2 := last_str s
    have e0 : (((s.getD 0 0).toNat : Int) == 46) = (s.getD 0 0 == 46) := eq_byte _ 46
    have HD1 := Lib.hid (fun h => (dot_t (x := s) h hls).2)
    have HD2 := Lib.hid (fun h => (dot_f (x := s) h).2)
    have HBX := Lib.hid hbx
    have v1 := S1.box.cell
    have v2 := S1.box.frozen
    have f1 := S1.fin.cell
    have f2 := S1.fin.frozen
    have HS1 := Lib.hid S1
    have HK1 := Lib.hid KO1
    have HM1 := Lib.hid SM1
    clear hst hcell hb1 hbx S1 KO1 SM1
    generalize hsn : s.length = sn at *
    have HSN := Lib.hid hsn
    generalize hsx : str s = sx at *
    generalize hle : (s == last) = le at *
    have HLE := Lib.hid hle
    generalize s.getD 0 0 = c0 at *
    clear hsn hsx hle
    have hs0 : 0 < sn := by omega
    generalize hX1 : X.setCell ⟨w.heap.size + 1, 0, none⟩ (.int .i64 ((q : Int) + (sn : Int))) = X1 at *
    cases le with
    | true =>
      have hx : s = last := by have := HLE.out; simpa using this
      obtain ⟨S2, KO2, SM2⟩ := HS1.out.ends HPP.out true
      have HS2 := Lib.hid S2
      have HK2 := Lib.hid KO2
      have HM2 := Lib.hid SM2
      clear S2 KO2 SM2 HD1 HD2 e0
      gi_wp2_with fail
      refine ⟨(HK1.out.trans HK2.out).from _, rfl, ls, by rw [HPR.out, hx], HNO.out, v, ?_⟩
      have h3 : sn = 3 := by rw [← HSN.out, hx]; rfl
      rw [HQE.out, ← h3]
      exact HS2.out
    | false =>
      have hx : s ≠ last := by have := HLE.out; simpa using this
      have HNO2 : Hid (∀ x ∈ ls ++ [s], x ≠ last) := Lib.hid fun x hxm => by
        rcases List.mem_append.1 hxm with hxm | hxm
        · exact HNO.out x hxm
        · rw [List.mem_singleton.1 hxm]; exact hx
      have HQ2 : Hid ((ls ++ [s]).flatten.length = q + sn) := Lib.hid (by rw [List.flatten_append, List.length_append, HQE.out]; simp [HSN.out])
      clear hx
      by_cases h46 : c0 = 46
      · subst h46
        have HD := Lib.hid (HD1.out rfl)
        have HDL : Hid ((s.drop 1).length = sn - 1) := Lib.hid (by rw [List.length_drop, HSN.out])
        clear HD1 HD2
        gi_wp2_with fail
        have HS3 := Lib.hid HS1.out.drew
        have HK3 : Hid (KeepsOthers X1 X1.drew) := Lib.hid ⟨Nat.le_refl _, fun _ _ h _ => h⟩
        have HM3 : Hid (Sm p X1 X1.drew) := Lib.hid ⟨Nat.le_refl _, fun _ _ _ => rfl⟩
        refine regionIn_held_drew (S := (fun _ => True)) (Wide.round _ _ _) (by kernel_rfl) (by kernel_rfl) (trivial) (fun hHeld => ?_)
        generalize X1.drew = X2 at *
        have w1 := HS3.out.box.cell
        have hbt := HBX.out _ HS3.out.sm
        have HBT : Hid (Bts X2 w.heap.size (some ⟨g, o + 1, none⟩) (s.drop 1)) := Lib.hid (by have := hbt.drop_eq 1; rwa [add_at] at this)
        have hsz3 := HS3.out.sz
        clear hbt v1 v2 f1 f2 hc0 hstr
        have h1sn : (1 : Int) ≤ (sn : Int) := by omega
        have hcx1 : ¬ cx = 1 := by omega
        refine wpAnyH_take (i := 1) (v := .slice (some ⟨g, o, none⟩) sn cx) rfl (by kernel_rfl) (by kernel_rfl) (by kernel_rfl) (fun _ _ _ h => h) (Or.inl ⟨by rfl, fun w hS => by first | (go_simp; done) | (go_simp; with_reducible rfl)⟩) hHeld ?_
        try simp only [Act.put, List.getElem_toArray, List.getElem_cons_zero, List.getElem_cons_succ, List.setIfInBounds_toArray, List.set_cons_zero, List.set_cons_succ]
        refine wpAnyH_take (i := 2) (v := .slice (some ⟨g, o + 1, none⟩) (sn - 1) (cx - 1)) rfl (by kernel_rfl) (by kernel_rfl) (by kernel_rfl) (fun _ _ _ h => h) (Or.inl ⟨by rfl, fun w hS => by first | (go_simp; done) | (go_simp; with_reducible rfl)⟩) hHeld ?_
        try simp only [Act.put, List.getElem_toArray, List.getElem_cons_zero, List.getElem_cons_succ, List.setIfInBounds_toArray, List.set_cons_zero, List.set_cons_succ]
        refine wpAnyH_ready (rs := [0]) (by kernel_rfl) (by simp) ?_
        refine AllReadyH.cons rfl (fun K hK => ?_) AllReadyH.nil
        go_simp
        refine hK.out _ _ ?_ (fun hHeld => ?_)
        · trivial
        clear hK K
        try simp only [Act.put, List.getElem_toArray, List.getElem_cons_zero, List.setIfInBounds_toArray, List.set_cons_zero, List.set_cons_succ]
        refine wpAnyH_ready (rs := [3]) (by kernel_rfl) (by simp) ?_
        refine AllReadyH.cons rfl (fun K hK => ?_) AllReadyH.nil
        (refine step5 (.tmp 28) (.tmp 30) (by rfl) (by rfl) (l := texts ls) (m := s.drop 1) (by rfl) HS3.out.own (c := cx - 1) (by rw [HDL.out]; rfl) HBT.out (by rw [HDL.out]; have := HT9.out; omega) hsz3 ?_; intro v5 w5 h1 h2; obtain ⟨A5, k5, c5, rfl⟩ := own5_letters h1; obtain ⟨bx5, st5, ko5, sm5⟩ := HS3.out.app hbM HPP.out h1 h2; have x5 := bx5.cell; have z5 := bx5.frozen; have ST5 := Lib.hid st5; have KO5 := Lib.hid ko5; have SM5 := Lib.hid sm5; clear h1 h2 bx5 st5 ko5 sm5)
        refine hK.out _ _ ?_ (fun hHeld => ?_)
        · trivial
        clear hK K
        try simp only [Act.put, List.getElem_toArray, List.getElem_cons_zero, List.getElem_cons_succ, List.setIfInBounds_toArray, List.set_cons_zero, List.set_cons_succ]
        refine wpAnyH_ready (rs := [4]) (by kernel_rfl) (by simp) ?_
        refine AllReadyH.cons rfl (fun K hK => ?_) AllReadyH.nil
        go_simp
        refine hK.out _ _ ?_ (fun hHeld => ?_)
        · trivial
        clear hK K
        try simp only [Act.put, List.getElem_toArray, List.getElem_cons_zero, List.getElem_cons_succ, List.setIfInBounds_toArray, List.set_cons_zero, List.set_cons_succ]
        refine wpAnyH_done (by kernel_rfl) (NormalAt.mk ?_) _
        gi_wp2_with fail
        refine ⟨((HK1.out.trans HK3.out).trans KO5.out).from _, (HM1.out.trans HM3.out).trans SM5.out, by rw [HPR.out]; exact HNO2.out, .slice A5 k5 c5, ?_⟩
        rw [HPR.out, HQ2.out, texts_snoc, HD.out]
        exact ST5.out
      · have h46' : (c0 == 46) = false := by simpa using h46
        rw [h46'] at e0
        have HD := Lib.hid (HD2.out h46)
        clear HD1 HD2 h46 h46'
        gi_wp2_with (first
          | (refine lin_app5 (Wide.round _ _ _) (.tmp 16) (.tmp 17) rfl rfl (l := texts ls) (m := s) rfl HS1.out.own (c := cx) (by rw [HSN.out]; rfl) (HBX.out _ HS1.out.sm) (by rw [HSN.out]; have := HT9.out; omega) HS1.out.sz ?_; intro v5 w5 h1 h2; obtain ⟨A5, k5, c5, rfl⟩ := own5_letters h1; obtain ⟨bx5, st5, ko5, sm5⟩ := HS1.out.app hbM HPP.out h1 h2; have x5 := bx5.cell; have z5 := bx5.frozen; have ST5 := Lib.hid st5; have KO5 := Lib.hid ko5; have SM5 := Lib.hid sm5; clear h1 h2 bx5 st5 ko5 sm5)
          | fail)
        refine ⟨(HK1.out.trans KO5.out).from _, HM1.out.trans SM5.out, by rw [HPR.out]; exact HNO2.out, .slice A5 k5 c5, ?_⟩
        rw [HPR.out, HQ2.out, texts_snoc, HD.out]
        exact ST5.out
  case done =>
    rintro D xs X hD hS ⟨hno, v, hst⟩ hKd
    rw [hS] at hno
    have HSN := Lib.hid (scanL_no hno)
    have f1 := hst.fin.cell
    have HBL := Lib.hid hst.bel
    have hsz := hst.sz
    have HCL := Lib.hid (clone_any (HB.out.below hst.bel) c (by rw [HLN.out]; omega))
    rw [HLN.out] at HCL
    have HKD := Lib.hid hKd
    clear hst hKd hno
    gi_wp2_with (first
      | (refine ⟨trivial, (callsIn_wide.2 HCL.out).mono ?_⟩; rintro e w5 ⟨v5, rfl, ho5, hb5⟩; have HO5 := Lib.hid ho5; have HB5 := Lib.hid hb5; clear ho5 hb5)
      | fail)
    have hDX : D < X.heap.size := (Array.getElem?_eq_some_iff.1 HKD.out).1
    have hK5 : w5.heap[D]? = some (.deferred (some [])) := (HB5.out.block D hDX).trans HKD.out
    have hs5 := HB5.out.size
    have b5 : Below w.heap.size w w5 := HBL.out.trans (HB5.out.mono (by omega))
    have hD5 : D < w5.heap.size := by omega
    refine ⟨by simp, .inl ⟨_, _, rfl, run_takeDeferred hK5, ?_⟩⟩
    have hg := grownBy_putObj' w5 D (.deferred none)
    have ho5 := ownsRow_putObj HO5.out (.deferred none) hK5 rfl
    obtain ⟨A5, c5, rfl, hc5, hm5⟩ := own_slice HO5.out
    refine ⟨.tuple #[.slice none 0 0, .slice A5 l.length c5, .bool false], by simp [results, Try.results15, go_sem], HP.out _ _ _ _ ⟨l, ?_, ?_, ?_, ⟨A5, c5, rfl, Own5.bts ho5, hc5, hm5⟩, b5.grown hg b5.size (fun k e => by injection e with e; omega)⟩⟩
    · rw [HSN.out]; rfl
    · rw [HSN.out]; exact Own5.nil _ _
    · rw [HSN.out]
  case stop =>
    rintro D c' pre X hD hSp ⟨rfl, ls, hls, hno, v, hst⟩ hKd
    have hsc : scanL (lines l) = some (texts ls, ls.flatten.length + 3) := by
      obtain ⟨t, ht⟩ := hSp
      rw [hls, List.append_assoc] at ht
      rw [← ht]
      exact scanL_yes hno
    have hq : ls.flatten.length + 3 ≤ n := by
      have h1 := lines_sum l
      obtain ⟨t, ht⟩ := hSp
      rw [hls] at ht
      rw [← ht, HLN.out, List.flatten_append, List.flatten_append, List.length_append, List.length_append] at h1
      have h2 : ([last].flatten : L).length = 3 := rfl
      omega
    have hq3 : 3 ≤ ls.flatten.length + 3 := by omega
    have HSC := Lib.hid hsc
    generalize ls.flatten.length + 3 = q at *
    obtain ⟨g0, o0, rfl, _, _⟩ := bts_at_ HB.out (by rw [HLN.out]; omega)
    have f1 := hst.fin.cell
    have v1 := hst.box.cell
    have y1 := hst.siz.cell
    have HS := Lib.hid hst
    have hsz := hst.sz
    have hqn : (q : Int) ≤ (n : Int) := by omega
    have HKD := Lib.hid hKd
    have HB1 := Lib.hid (hst.bel.drew)
    have hm63 : c ≤ 9223372036854775807 := by unfold maxLen at hm; omega
    clear hst hKd hls hno hSp
    by_cases hcq : c = q
    · subst hcq
      have hnc : n = c := by omega
      have HCL : Hid (∀ Y, Below w.heap.size w Y → Calls Try.prog 18 #[.slice (some ⟨g0, o0, none⟩) 0 0] Y fun e w' => ∃ v, e = .returned v ∧ Own5 w' Y.heap.size v (l.drop c) ∧ Below Y.heap.size Y w') := Lib.hid fun Y hY => by
        have h1 : (l.drop c).length = 0 := by rw [List.length_drop, HLN.out]; omega
        have := clone_any (l := l.drop c) (w := Y) (B := w.heap.size) (A := some ⟨g0, o0, none⟩) (by rw [List.drop_eq_nil_of_le (by rw [HLN.out]; omega)]; exact Cs.nil) 0 (by omega)
        rwa [h1] at this
      gi_wp2_with fail
      refine regionIn_held_drew (S := (fun Y => Y.cell? ⟨w.heap.size, 0, none⟩ = some v ∧ Y.cell? ⟨w.heap.size + 1, 0, none⟩ = some (.int .i64 c))) (Wide.wide _ _) (by kernel_rfl) (by kernel_rfl) (⟨v1, y1⟩) (fun hHeld => ?_)
      have HS2 := Lib.hid HS.out.drew
      have HKD2 : Hid (X.drew.heap[D]? = some (.deferred (some []))) := HKD
      have hsz2 : w3.heap.size ≤ X.drew.heap.size := hsz
      generalize X.drew = X2 at *
      clear f1 v1 y1 HKD HS hsz
      refine wpAnyH_take (i := 0) (v := v) rfl (by kernel_rfl) (by kernel_rfl) (by kernel_rfl) (fun _ _ _ h => h) (Or.inl ⟨by rfl, fun w hS => by (have hc1 := hS.1; first | (go_simp; done) | (go_simp; with_reducible rfl))⟩) hHeld ?_
      try simp only [Act.put, List.getElem_toArray, List.getElem_cons_zero, List.setIfInBounds_toArray, List.set_cons_zero, List.set_cons_succ]
      refine wpAnyH_take (i := 1) (v := .slice (some ⟨g0, o0, none⟩) n c) rfl (by kernel_rfl) (by kernel_rfl) (by kernel_rfl) (fun _ _ _ h => h) (Or.inl ⟨by rfl, fun w hS => by first | (go_simp; done) | (go_simp; with_reducible rfl)⟩) hHeld ?_
      try simp only [Act.put, List.getElem_toArray, List.getElem_cons_zero, List.getElem_cons_succ, List.setIfInBounds_toArray, List.set_cons_zero, List.set_cons_succ]
      refine wpAnyH_take (i := 2) (v := .int .i64 c) rfl (by kernel_rfl) (by kernel_rfl) (by kernel_rfl) (fun _ _ _ h => h) (Or.inl ⟨by rfl, fun w hS => by (have hc1 := hS.2; first | (go_simp; done) | (go_simp; with_reducible rfl))⟩) hHeld ?_
      try simp only [Act.put, List.getElem_toArray, List.getElem_cons_zero, List.getElem_cons_succ, List.setIfInBounds_toArray, List.set_cons_zero, List.set_cons_succ]
      refine wpAnyH_take (i := 3) (v := .slice (some ⟨g0, o0, none⟩) 0 0) rfl (by kernel_rfl) (by kernel_rfl) (by kernel_rfl) (fun _ _ _ h => h) (Or.inl ⟨by rfl, fun w hS => by first | (go_simp; done) | (go_simp; with_reducible rfl)⟩) hHeld ?_
      try simp only [Act.put, List.getElem_toArray, List.getElem_cons_zero, List.getElem_cons_succ, List.setIfInBounds_toArray, List.set_cons_zero, List.set_cons_succ]
      refine wpAnyH_ready (rs := [4]) (by kernel_rfl) (by simp) ?_
      refine AllReadyH.cons rfl (fun K hK => ?_) AllReadyH.nil
      go_simp
      go_wp2_with ((refine (HCL.out _ HB1.out).mono ?_; rintro e w5 ⟨v5, rfl, ho5, hb5⟩))
      refine hK.out _ _ ?_ (fun hHeld => ?_)
      · exact ⟨(hb5.cell (p := ⟨w.heap.size, 0, none⟩) (by show w.heap.size < _; omega)).trans HS2.out.box.cell, (hb5.cell (p := ⟨w.heap.size + 1, 0, none⟩) (by show w.heap.size + 1 < _; omega)).trans HS2.out.siz.cell⟩
      clear hK K
      try simp only [Act.put, List.getElem_toArray, List.getElem_cons_zero, List.getElem_cons_succ, List.setIfInBounds_toArray, List.set_cons_zero, List.set_cons_succ]
      refine wpAnyH_take (i := 5) (v := v) rfl (by kernel_rfl) (by kernel_rfl) (by kernel_rfl) (fun _ _ _ h => h) (Or.inl ⟨by rfl, fun w hS => by first | (go_simp; done) | (go_simp; with_reducible rfl)⟩) hHeld ?_
      try simp only [Act.put, List.getElem_toArray, List.getElem_cons_zero, List.getElem_cons_succ, List.setIfInBounds_toArray, List.set_cons_zero, List.set_cons_succ]
      refine wpAnyH_take (i := 6) (v := v5) rfl (by kernel_rfl) (by kernel_rfl) (by kernel_rfl) (fun _ _ _ h => h) (Or.inl ⟨by rfl, fun w hS => by first | (go_simp; done) | (go_simp; with_reducible rfl)⟩) hHeld ?_
      try simp only [Act.put, List.getElem_toArray, List.getElem_cons_zero, List.getElem_cons_succ, List.setIfInBounds_toArray, List.set_cons_zero, List.set_cons_succ]
      refine wpAnyH_take (i := 7) (v := .bool true) rfl (by kernel_rfl) (by kernel_rfl) (by kernel_rfl) (fun _ _ _ h => h) (Or.inl ⟨by rfl, fun w hS => by first | (go_simp; done) | (go_simp; with_reducible rfl)⟩) hHeld ?_
      try simp only [Act.put, List.getElem_toArray, List.getElem_cons_zero, List.getElem_cons_succ, List.setIfInBounds_toArray, List.set_cons_zero, List.set_cons_succ]
      refine wpAnyH_done (by kernel_rfl) (NormalAt.mk ?_) _
      gi_wp2_with fail
      have hDX : D < X2.heap.size := (Array.getElem?_eq_some_iff.1 HKD2.out).1
      have hK5 : w5.heap[D]? = some (.deferred (some [])) := (hb5.block D hDX).trans HKD2.out
      have hs5 := hb5.size
      have b5 : Below w.heap.size w w5 := HB1.out.trans (hb5.mono (by omega))
      have hD5 : D < w5.heap.size := by omega
      refine ⟨by simp, .inl ⟨_, _, rfl, run_takeDeferred hK5, ?_⟩⟩
      have hg := grownBy_putObj' w5 D (.deferred none)
      have hw5 := ownsRow_putObj ho5 (.deferred none) hK5 rfl
      have hv5 := ownsRow_putObj (own_kept HS2.out.own hb5 (Nat.le_refl _)) (.deferred none) hK5 rfl
      obtain ⟨A5, c5, rfl, hc5, hm5⟩ := own_slice ho5
      refine ⟨.tuple #[v, .slice A5 (l.drop c).length c5, .bool true], by simp [results, Try.results15, go_sem], HP.out _ _ _ _ ⟨l.drop c, ?_, ?_, ?_, ⟨A5, c5, rfl, Own5.bts hw5, hc5, hm5⟩, b5.grown hg b5.size (fun k e => by injection e with e; omega)⟩⟩
      · rw [HSC.out]; rfl
      · rw [HSC.out]; exact own_more hv5 (by omega)
      · rw [HSC.out]
    · skip
      have HCL : Hid (∀ Y, Below w.heap.size w Y → Calls Try.prog 18 #[.slice (some ⟨g0, o0 + q, none⟩) (n - q) (c - q)] Y fun e w' => ∃ v, e = .returned v ∧ Own5 w' Y.heap.size v (l.drop q) ∧ Below Y.heap.size Y w') := Lib.hid fun Y hY => by
        have h1 : (l.drop q).length = n - q := by rw [List.length_drop, HLN.out]
        have := clone_any (l := l.drop q) (w := Y) (B := w.heap.size) (A := some ⟨g0, o0 + q, none⟩) (by have := (HB.out.below hY).drop_eq q; rwa [add_at] at this) (c - q) (by omega)
        rwa [h1] at this
      gi_wp2_with fail
      refine regionIn_held_drew (S := (fun Y => Y.cell? ⟨w.heap.size, 0, none⟩ = some v ∧ Y.cell? ⟨w.heap.size + 1, 0, none⟩ = some (.int .i64 q))) (Wide.wide _ _) (by kernel_rfl) (by kernel_rfl) (⟨v1, y1⟩) (fun hHeld => ?_)
      have HS2 := Lib.hid HS.out.drew
      have HKD2 : Hid (X.drew.heap[D]? = some (.deferred (some []))) := HKD
      have hsz2 : w3.heap.size ≤ X.drew.heap.size := hsz
      generalize X.drew = X2 at *
      clear f1 v1 y1 HKD HS hsz
      refine wpAnyH_take (i := 0) (v := v) rfl (by kernel_rfl) (by kernel_rfl) (by kernel_rfl) (fun _ _ _ h => h) (Or.inl ⟨by rfl, fun w hS => by (have hc1 := hS.1; first | (go_simp; done) | (go_simp; with_reducible rfl))⟩) hHeld ?_
      try simp only [Act.put, List.getElem_toArray, List.getElem_cons_zero, List.setIfInBounds_toArray, List.set_cons_zero, List.set_cons_succ]
      refine wpAnyH_take (i := 1) (v := .slice (some ⟨g0, o0, none⟩) n c) rfl (by kernel_rfl) (by kernel_rfl) (by kernel_rfl) (fun _ _ _ h => h) (Or.inl ⟨by rfl, fun w hS => by first | (go_simp; done) | (go_simp; with_reducible rfl)⟩) hHeld ?_
      try simp only [Act.put, List.getElem_toArray, List.getElem_cons_zero, List.getElem_cons_succ, List.setIfInBounds_toArray, List.set_cons_zero, List.set_cons_succ]
      refine wpAnyH_take (i := 2) (v := .int .i64 q) rfl (by kernel_rfl) (by kernel_rfl) (by kernel_rfl) (fun _ _ _ h => h) (Or.inl ⟨by rfl, fun w hS => by (have hc1 := hS.2; first | (go_simp; done) | (go_simp; with_reducible rfl))⟩) hHeld ?_
      try simp only [Act.put, List.getElem_toArray, List.getElem_cons_zero, List.getElem_cons_succ, List.setIfInBounds_toArray, List.set_cons_zero, List.set_cons_succ]
      refine wpAnyH_take (i := 3) (v := .slice (some ⟨g0, o0 + q, none⟩) (n - q) (c - q)) rfl (by kernel_rfl) (by kernel_rfl) (by kernel_rfl) (fun _ _ _ h => h) (Or.inl ⟨by rfl, fun w hS => by first | (go_simp; done) | (go_simp; with_reducible rfl)⟩) hHeld ?_
      try simp only [Act.put, List.getElem_toArray, List.getElem_cons_zero, List.getElem_cons_succ, List.setIfInBounds_toArray, List.set_cons_zero, List.set_cons_succ]
      refine wpAnyH_ready (rs := [4]) (by kernel_rfl) (by simp) ?_
      refine AllReadyH.cons rfl (fun K hK => ?_) AllReadyH.nil
      go_simp
      go_wp2_with ((refine (HCL.out _ HB1.out).mono ?_; rintro e w5 ⟨v5, rfl, ho5, hb5⟩))
      refine hK.out _ _ ?_ (fun hHeld => ?_)
      · exact ⟨(hb5.cell (p := ⟨w.heap.size, 0, none⟩) (by show w.heap.size < _; omega)).trans HS2.out.box.cell, (hb5.cell (p := ⟨w.heap.size + 1, 0, none⟩) (by show w.heap.size + 1 < _; omega)).trans HS2.out.siz.cell⟩
      clear hK K
      try simp only [Act.put, List.getElem_toArray, List.getElem_cons_zero, List.getElem_cons_succ, List.setIfInBounds_toArray, List.set_cons_zero, List.set_cons_succ]
      refine wpAnyH_take (i := 5) (v := v) rfl (by kernel_rfl) (by kernel_rfl) (by kernel_rfl) (fun _ _ _ h => h) (Or.inl ⟨by rfl, fun w hS => by first | (go_simp; done) | (go_simp; with_reducible rfl)⟩) hHeld ?_
      try simp only [Act.put, List.getElem_toArray, List.getElem_cons_zero, List.getElem_cons_succ, List.setIfInBounds_toArray, List.set_cons_zero, List.set_cons_succ]
      refine wpAnyH_take (i := 6) (v := v5) rfl (by kernel_rfl) (by kernel_rfl) (by kernel_rfl) (fun _ _ _ h => h) (Or.inl ⟨by rfl, fun w hS => by first | (go_simp; done) | (go_simp; with_reducible rfl)⟩) hHeld ?_
      try simp only [Act.put, List.getElem_toArray, List.getElem_cons_zero, List.getElem_cons_succ, List.setIfInBounds_toArray, List.set_cons_zero, List.set_cons_succ]
      refine wpAnyH_take (i := 7) (v := .bool true) rfl (by kernel_rfl) (by kernel_rfl) (by kernel_rfl) (fun _ _ _ h => h) (Or.inl ⟨by rfl, fun w hS => by first | (go_simp; done) | (go_simp; with_reducible rfl)⟩) hHeld ?_
      try simp only [Act.put, List.getElem_toArray, List.getElem_cons_zero, List.getElem_cons_succ, List.setIfInBounds_toArray, List.set_cons_zero, List.set_cons_succ]
      refine wpAnyH_done (by kernel_rfl) (NormalAt.mk ?_) _
      gi_wp2_with fail
      have hDX : D < X2.heap.size := (Array.getElem?_eq_some_iff.1 HKD2.out).1
      have hK5 : w5.heap[D]? = some (.deferred (some [])) := (hb5.block D hDX).trans HKD2.out
      have hs5 := hb5.size
      have b5 : Below w.heap.size w w5 := HB1.out.trans (hb5.mono (by omega))
      have hD5 : D < w5.heap.size := by omega
      refine ⟨by simp, .inl ⟨_, _, rfl, run_takeDeferred hK5, ?_⟩⟩
      have hg := grownBy_putObj' w5 D (.deferred none)
      have hw5 := ownsRow_putObj ho5 (.deferred none) hK5 rfl
      have hv5 := ownsRow_putObj (own_kept HS2.out.own hb5 (Nat.le_refl _)) (.deferred none) hK5 rfl
      obtain ⟨A5, c5, rfl, hc5, hm5⟩ := own_slice ho5
      refine ⟨.tuple #[v, .slice A5 (l.drop q).length c5, .bool true], by simp [results, Try.results15, go_sem], HP.out _ _ _ _ ⟨l.drop q, ?_, ?_, ?_, ⟨A5, c5, rfl, Own5.bts hw5, hc5, hm5⟩, b5.grown hg b5.size (fun k e => by injection e with e; omega)⟩⟩
      · rw [HSC.out]; rfl
      · rw [HSC.out]; exact own_more hv5 (by omega)
      · rw [HSC.out]
end Dt
end Go.Proofs.Ytdbmcbnohldolaa
