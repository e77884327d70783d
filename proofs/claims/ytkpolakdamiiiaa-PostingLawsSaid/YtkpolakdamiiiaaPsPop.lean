/- The last list less; container/heap's Pop, Push, Fix over the heap of lists. Conditions: as stated at each. -/
import Derived.Test.YtkpolakdamiiiaaPsPush
namespace Go.Proofs.Ytkpolakdamiiiaa
set_option maxRecDepth 100000
namespace Ps
open Go.RowKit Go
attribute [local go_sem] Oper.semAt_some
variable {w : World} {D P : Nat} {p : Nat → Prop} {H : List E}
set_option maxHeartbeats 3200000 in
theorem poplast_any {L : List E} {e : E} (h : Hp w D P p (L ++ [e])) (hn : L.length ≤ 100000) :
    Calls Try.prog 54 #[.pointer (some ⟨P, 0, none⟩)] w fun r w' => r = .returned (.iface 22 e.val) ∧ Hp w' D P p L ∧ Tk (hq p P) w w' := by
  obtain ⟨v, hb, hr, hv⟩ := h.ex
  obtain ⟨g, c, rfl, hc, _, _⟩ := at_row hr (i := L.length) (by simp)
  have HH := Lib.hid h
  have HR := Lib.hid hr
  have HV := Lib.hid hv
  rw [getD_at (by simp), List.getElem_append_right (Nat.le_refl _)] at hc
  simp only [Nat.sub_self, List.getElem_cons_zero] at hc
  have hlen : (L ++ [e]).length = L.length + 1 := by simp
  have ho := hr.own
  rw [hlen, List.map_append] at ho
  rw [hlen] at hb HR HV
  have HO := Lib.hid (own_pop (c := c) (A := some ⟨g, 0, none⟩) (u := e.val) ho)
  obtain ⟨ea, en, ec, hev⟩ : ∃ a n c, e.val = .slice a n c := ⟨_, _, _, rfl⟩
  rw [hev] at hc ⊢
  have hcap : L.length + 1 ≤ c ∧ c ≤ maxLen := by
    obtain ⟨A, c', e1, h1, h2⟩ := own_slice hr.own
    rw [hlen] at e1 h1
    injection e1 with _ _ e1
    rw [e1]
    exact ⟨h1, h2⟩
  obtain ⟨hc1, hc2⟩ := hcap
  unfold maxLen at hc2
  obtain ⟨n, hnn⟩ : ∃ n, L.length = n := ⟨_, rfl⟩
  rw [hnn] at hb hc HO hc1 hn HR HV
  have c0 := (BlkIs.cell hb 0).trans (rfl : _ = some _)
  have f0 := BlkIs.froz hb 0
  have HB := Lib.hid hb
  clear h hr hv ho hlen hb
  go_enter Try.func54, Try.ntmps54
  go_wp2_with fail
  go_ret
  have hne : ∀ g', (Value.slice (some ⟨g, 0, none⟩) (n + 1) c).ownBlock = some g' → P ≠ g' := fun g' hg => row_blk_ne HB.out HR.out.own (by decide) hg
  have ht : Tk (hq p P) w (w.setCell ⟨P, 0, none⟩ (.slice (some ⟨g, 0, none⟩) n c)) := Tk.setCell _ (fun o ho => by
    rw [show w.heap[P]? = _ from HB.out] at ho
    injection ho with ho
    exact ⟨.inl rfl, _, _, _, ho.symm, by decide⟩)
  refine ⟨rfl, ⟨⟨_, BlkIs.put HB.out 0 _, ⟨by rw [hnn]; exact own_kept' HO.out hne, fun e' he' => ?_, fun e' he' => HR.out.good e' (List.mem_append_left _ he')⟩, fun g' hg => HV.out g' hg⟩, HH.out.dp, HH.out.pd⟩, ht⟩
  have hd := HR.out.dat e' (List.mem_append_left _ he')
  exact ⟨hd.1.tk ht (fun i _ _ _ hi => hq_low HH.out hi), hd.2⟩
/-- a heap of lists whose keys are in order. -/
structure HpO (w : World) (D P : Nat) (p : Nat → Prop) (H : List E) : Prop where
  hp : Hp w D P p H
  key : HpK (ky H) H.length
set_option maxHeartbeats 3200000 in
theorem hpush_any (h : HpO w D P p H) (hp : ∀ i, w.heap.size ≤ i → p i) {e : E} (he : Ints w D e.a e.l) (hc : e.l.length ≤ e.c) (hg : e.l ≠ [] ∧ Up e.l) (hn : H.length + 1 ≤ 100000) :
    Calls Try.prog 28 #[ifc P, .iface 22 e.val] w fun r w' => r = .returned (.tuple #[]) ∧ (∃ H', HpO w' D P p H' ∧ H'.Perm (H ++ [e])) ∧ Tk (hq p P) w w' := by
  have HC := Lib.hid (push_any h.hp hp he hc hg (by omega))
  have HK := Lib.hid h.key
  have hmt := m_ptr row_push P w
  obtain ⟨ev, hev⟩ : ∃ x, e.val = x := ⟨_, rfl⟩
  rw [hev] at HC ⊢
  clear h hp he hc hg
  go_enter Try.func28, Try.ntmps28
  go_wp2_with fail
  refine HC.out.mono ?_
  rintro r w1 ⟨rfl, hp1, ht1⟩
  obtain ⟨v1, hb1, hc1⟩ := hp1.len
  rw [show (H ++ [e]).length = H.length + 1 by simp] at hc1
  have HP1 := Lib.hid hp1
  have HT1 := Lib.hid ht1
  have HC1 := Lib.hid hc1
  clear HC hp1 ht1 hc1 hmt
  have hmt := m_val row_len hb1
  clear hb1
  go_wp2_with fail
  refine HC1.out.mono ?_
  rintro r w2 ⟨rfl, rfl⟩
  have hu : UpK (ky (H ++ [e])) (H ++ [e]).length H.length := up_of (hp_congr HK.out (fun i hi => ky_app hi)) (by simp)
  have HU := Lib.hid (up_any HP1.out (j := H.length) (by simp) (by simp; omega) hu)
  clear HC1 hmt hu
  go_wp2_with fail
  refine HU.out.mono ?_
  rintro r w3 ⟨rfl, H', hp3, hpm, hk3, ht3⟩
  have HR := Lib.hid (And.intro (HpO.mk hp3 hk3) (And.intro hpm (HT1.out.trans ht3)))
  clear hp3 hpm hk3 ht3 HU
  go_wp2_with fail
  go_end0
  exact ⟨rfl, ⟨H', HR.out.1, HR.out.2.1⟩, HR.out.2.2⟩
theorem take_last {H : List E} {n : Nat} (h : H.length = n + 1) : H = H.take n ++ [H.getD n E0] := by
  have h1 : H.drop n = [H.getD n E0] := by
    rw [List.drop_eq_getElem_cons (by omega), getD_at (by omega), List.drop_eq_nil_of_le (by omega)]
  rw [← h1, List.take_append_drop]
set_option maxHeartbeats 3200000 in
theorem hpop_any (h : HpO w D P p H) {n : Nat} (hn : H.length = n + 1) (hN : n + 1 ≤ 100000) :
    Calls Try.prog 34 #[ifc P] w fun r w' => (∃ x, r = .returned x) ∧ (∃ H', HpO w' D P p H' ∧ (H' ++ [H.getD 0 E0]).Perm H) ∧ Tk (hq p P) w w' := by
  obtain ⟨v0, hb0, hc0⟩ := h.hp.len
  rw [hn] at hc0
  have hmt := m_val row_len hb0
  obtain ⟨v1, hb1, hc1⟩ := h.hp.swap (i := 0) (j := n) (by omega) (by omega)
  have hmt2 := m_val row_swap hb1
  have HH := Lib.hid h
  have HC0 := Lib.hid hc0
  have HC1 := Lib.hid hc1
  have HN := Lib.hid hn
  clear h hb0 hb1 hc0 hc1 hn
  go_enter Try.func34, Try.ntmps34
  go_wp2_with fail
  refine HC0.out.mono ?_
  rintro r w2 ⟨rfl, rfl⟩
  go_wp2_with fail
  refine HC1.out.mono ?_
  rintro r w2 ⟨rfl, hp2, ht2⟩
  have HT2 := Lib.hid ht2
  have hd : DnK (ky (swp H 0 n)) n 0 := dn_first (hp_le HH.out.key (by rw [HN.out]; omega)) (fun i h0 h1 => by
    rw [swp_ky (by rw [HN.out]; omega) (by rw [HN.out]; omega)]
    exact swK_o _ (by omega) (by omega))
  have HD := Lib.hid (down_any hp2 (n := n) (by rw [swp_length, HN.out]; omega) (by rw [swp_length, HN.out]; omega) (by rw [swp_length, HN.out]; exact hN) hd)
  clear hmt hmt2 HC0 HC1 hp2 ht2 hd
  go_wp2_with fail
  refine HD.out.mono ?_
  rintro r w3 ⟨b, H3, rfl, hd3⟩
  have hl3 : H3.length = n + 1 := by rw [hd3.perm.length_eq, swp_length, HN.out]
  have e3 : H3.getD n E0 = H.getD 0 E0 := by
    rw [hd3.far n (Nat.le_refl _)]
    unfold swp
    rw [List.getD_eq_getElem?_getD, List.getElem?_set_self (by rw [List.length_set, HN.out]; omega)]
    rfl
  have hs3 := take_last hl3
  rw [e3] at hs3
  have hpp := hd3.hp
  rw [hs3] at hpp
  have HC3 := Lib.hid (poplast_any hpp (by rw [List.length_take]; omega))
  have HPM : Hid ((H3.take n ++ [H.getD 0 E0]).Perm H) := Lib.hid (by rw [← hs3]; exact hd3.perm.trans (swp_perm (by rw [HN.out]; omega) (by rw [HN.out]; omega)))
  have HK3 : Hid (HpK (ky (H3.take n)) (H3.take n).length) := Lib.hid (by
    rw [List.length_take, Nat.min_eq_left (by omega)]
    exact hp_congr hd3.key (fun i hi => ky_take hi))
  have HT3 := Lib.hid (HT2.out.trans hd3.tk)
  have hmt := m_ptr row_pop P w3
  obtain ⟨ev, hev⟩ : ∃ x, (H.getD 0 E0).val = x := ⟨_, rfl⟩
  rw [hev] at HC3
  clear HD HT2 hd3 hpp hs3 e3
  go_wp2_with fail
  refine HC3.out.mono ?_
  rintro r w4 ⟨rfl, hp4, ht4⟩
  have HR := Lib.hid (And.intro hp4 ht4)
  clear hp4 ht4 HC3 hmt
  go_wp2_with fail
  go_ret
  exact ⟨⟨_, rfl⟩, ⟨_, ⟨HR.out.1, HK3.out⟩, HPM.out⟩, HT3.out.trans HR.out.2⟩
set_option maxHeartbeats 3200000 in
theorem hfix_any (h : Hp w D P p H) (h0 : 0 < H.length) (hN : H.length ≤ 100000) (hd : DnK (ky H) H.length 0) :
    Calls Try.prog 35 #[ifc P, .int .i64 0] w fun r w' => r = .returned (.tuple #[]) ∧ (∃ H', HpO w' D P p H' ∧ H'.Perm H) ∧ Tk (hq p P) w w' := by
  obtain ⟨v0, hb0, hc0⟩ := h.len
  have hmt := m_val row_len hb0
  have HC0 := Lib.hid hc0
  have HD := Lib.hid (down_any h (n := H.length) h0 (Nat.le_refl _) hN hd)
  have HL := Lib.hid (And.intro h0 hN)
  clear h hb0 hc0 h0 hN hd
  go_enter Try.func35, Try.ntmps35
  go_wp2_with fail
  refine HC0.out.mono ?_
  rintro r w2 ⟨rfl, rfl⟩
  clear HC0 hmt
  go_wp2_with fail
  refine HD.out.mono ?_
  rintro r w3 ⟨b, H3, rfl, hd3⟩
  have hl3 := hd3.perm.length_eq
  have HK : Hid (HpK (ky H3) H3.length) := Lib.hid (by rw [hl3]; exact hd3.key)
  have HU := Lib.hid (up_any hd3.hp (j := 0) (by rw [hl3]; exact HL.out.1) (by rw [hl3]; exact HL.out.2) (up_of_hp HK.out))
  have HR := Lib.hid hd3
  clear HD hd3
  cases b
  · go_wp2_with fail
    refine HU.out.mono ?_
    rintro r w4 ⟨rfl, H4, hp4, hpm, hk4, ht4⟩
    have HR4 := Lib.hid (And.intro (HpO.mk hp4 hk4) (And.intro (hpm.trans HR.out.perm) (HR.out.tk.trans ht4)))
    clear hp4 hpm hk4 ht4 HU
    go_wp2_with fail
    go_end0
    exact ⟨rfl, ⟨H4, HR4.out.1, HR4.out.2.1⟩, HR4.out.2.2⟩
  · go_wp2_with fail
    go_end0
    exact ⟨rfl, ⟨H3, ⟨HR.out.hp, HK.out⟩, HR.out.perm⟩, HR.out.tk⟩
end Ps
end Go.Proofs.Ytkpolakdamiiiaa
