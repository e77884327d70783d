/- The least number of a heap of lists; one less. Conditions: as stated at each. -/
import Derived.Test.YtkpolakdamiiiaaPsPop
namespace Go.Proofs.Ytkpolakdamiiiaa
set_option maxRecDepth 100000
namespace Ps
open Go.RowKit Go
attribute [local go_sem] Oper.semAt_some
variable {w : World} {D P : Nat} {p : Nat → Prop} {H : List E}
/-- the heap of all that is left, in order. -/
def HpS (w : World) (D P : Nat) (p : Nat → Prop) (S : List Int) : Prop := ∃ H, HpO w D P p H ∧ Srt S ∧ (left H).Perm S
theorem least_any {v : Value} (hr : Rw w D v H) (h0 : 0 < H.length) : Calls Try.prog 30 #[v] w fun e w' => e = .returned (.int .i64 (ky H 0)) ∧ w = w' := by
  obtain ⟨g, c, a1, n1, d1, rfl, b1, e1, _⟩ := hr.el h0
  clear hr
  generalize ky H 0 = k0 at *
  generalize H.length = n at *
  go_enter Try.func30, Try.ntmps30
  go_wp2_with fail
  go_ret
  exact ⟨rfl, rfl⟩
/-- a list's first number less. -/
def E.tl (e : E) : E := ⟨if e.c = 1 then e.a else e.a.map (·.add 1), e.c - 1, e.l.drop 1⟩
theorem left_set {H : List E} (h0 : 0 < H.length) (e : E) : ((H.getD 0 E0).l ++ left (H.set 0 e)).Perm (e.l ++ left H) := by
  rcases H with _ | ⟨x, H⟩
  · simp at h0
  · show (x.l ++ (e.l ++ left H)).Perm (e.l ++ (x.l ++ left H))
    rw [← List.append_assoc, ← List.append_assoc]
    exact List.perm_append_comm.append_right _
theorem left_skip {H : List E} (hG : Good H) (h0 : 0 < H.length) : (ky H 0 :: left (H.set 0 (H.getD 0 E0).tl)).Perm (left H) := by
  rcases H with _ | ⟨x, H⟩
  · simp at h0
  · have hx := (hG x (by simp)).1
    show (x.key :: ((x.l.drop 1) ++ left H)).Perm (x.l ++ left H)
    rcases hl : x.l with _ | ⟨a, l⟩
    · exact absurd hl hx
    · have : x.key = a := by unfold E.key; rw [hl]; rfl
      rw [this]
      exact List.Perm.refl _
theorem good_len : ∀ {H : List E}, Good H → H.length ≤ (left H).length
  | [], _ => Nat.zero_le _
  | x :: H, h => by
    have hx := (h x (by simp)).1
    have ih := good_len (H := H) (fun e he => h e (by simp [he]))
    have : (left (x :: H)).length = x.l.length + (left H).length := by simp [left]
    have := List.length_pos_iff.2 hx
    rw [List.length_cons]
    omega
set_option maxHeartbeats 6400000 in
theorem skip_any {n : Int} {S : List Int} (h : HpS w D P p (n :: S)) (hN : S.length + 1 ≤ 100000) :
    Calls Try.prog 31 #[.pointer (some ⟨P, 0, none⟩)] w fun r w' => r = .returned (.tuple #[]) ∧ HpS w' D P p S ∧ Tk (hq p P) w w' := by
  obtain ⟨H, ho, hS, hpm⟩ := h
  obtain ⟨hne, hk0⟩ := root_head ho.hp.good ho.key hS hpm
  have h0 : 0 < H.length := List.length_pos_iff.2 hne
  have hb : H.length ≤ 100000 := by
    have h1 := good_len ho.hp.good
    rw [hpm.length_eq, List.length_cons] at h1
    omega
  obtain ⟨v, hbP, hr, hv⟩ := ho.hp.ex
  obtain ⟨g, c, hv1, hc, hf, _, cur, hcur⟩ := at_row hr h0
  obtain ⟨g2, c2, ad, n0, c0, hv2, hc2, _, hval⟩ := hr.el h0
  subst hv1
  rw [hval] at hc
  have hdat := hr.dat (H.getD 0 E0) (by rw [getD_at h0]; exact List.getElem_mem h0)
  have hgd := hr.good (H.getD 0 E0) (by rw [getD_at h0]; exact List.getElem_mem h0)
  have hlen : (H.getD 0 E0).l.length = n0 + 1 := by unfold E.val at hval; injection hval
  have hcap : (H.getD 0 E0).c = c0 := by unfold E.val at hval; injection hval
  have hca : (H.getD 0 E0).a = some ad := by unfold E.val at hval; injection hval
  have hc0 : n0 + 1 ≤ c0 := by rw [← hlen, ← hcap]; exact hdat.2
  have c1 := (BlkIs.cell hbP 0).trans (rfl : _ = some _)
  have HH := Lib.hid (And.intro ho (And.intro hS hpm))
  have HR := Lib.hid hr
  have HV := Lib.hid hv
  have HB := Lib.hid hbP
  have HD := Lib.hid (And.intro hdat hgd)
  have HE := Lib.hid (And.intro hlen (And.intro hcap (And.intro hca hk0)))
  have HCU := Lib.hid hcur
  have HL := Lib.hid (And.intro h0 hb)
  clear ho hS hpm hne hr hv hbP hdat hgd hlen hcap hca hk0 hcur hc2 hv2 hval h0 hb
  go_enter Try.func31, Try.ntmps31
  have h0 := HL.out.1
  rcases n0 with _ | n0
  · have HC : Hid (Calls Try.prog 34 #[ifc P] w fun r w' => (∃ x, r = .returned x) ∧ HpS w' D P p S ∧ Tk (hq p P) w w') := Lib.hid (by
      refine (hpop_any HH.out.1 (n := H.length - 1) (by omega) (by have := HL.out.2; omega)).mono ?_
      rintro r w' ⟨hx, ⟨H', ho', hp'⟩, ht'⟩
      refine ⟨hx, ⟨H', ho', (List.pairwise_cons.1 HH.out.2.1).2, ?_⟩, ht'⟩
      have h1 := (left_perm hp').trans HH.out.2.2
      rw [left_app] at h1
      have h2 : (H.getD 0 E0).l = [n] := by
        have h3 := HE.out.2.2.2
        unfold ky E.key at h3
        have h4 := HE.out.1
        rcases hl : (H.getD 0 E0).l with _ | ⟨x, l⟩
        · rw [hl] at h4; simp at h4
        · rw [hl] at h3 h4
          rw [List.length_cons] at h4
          rw [List.eq_nil_of_length_eq_zero (by omega : l.length = 0)]
          exact congrArg (· :: []) h3
      rw [h2] at h1
      exact List.Perm.cons_inv (List.perm_append_comm.trans h1))
    go_wp2_with fail
    all_goals
      refine HC.out.mono ?_
      rintro r w2 ⟨⟨x, rfl⟩, hs2, ht2⟩
      have HR2 := Lib.hid (And.intro hs2 ht2)
      clear HC hs2 ht2
      go_wp2_with fail
      refine bodyPost_ret (results_none rfl _ _ _) rfl ?_
      exact ⟨rfl, HR2.out.1, HR2.out.2⟩
  · have hc1 : ¬ c0 = 1 := by omega
    have hu : (H.getD 0 E0).tl.val = .slice (some ⟨ad.block, ad.off + 1, none⟩) (n0 + 1) (c0 - 1) := by
      unfold E.tl E.val
      rw [HE.out.2.1, HE.out.2.2.1, if_neg hc1, List.length_drop, HE.out.1]
      simp [Addr.add]
    have hw2 : HpS w D P p (n :: S) → Hp (w.setCell ⟨g, 0, none⟩ (.slice (some ⟨ad.block, ad.off + 1, none⟩) (n0 + 1) (c0 - 1))) D P p (H.set 0 (H.getD 0 E0).tl) ∧ Tk (hq p P) w (w.setCell ⟨g, 0, none⟩ (.slice (some ⟨ad.block, ad.off + 1, none⟩) (n0 + 1) (c0 - 1))) := fun _ => by
      have ht : Tk (hq p P) w (w.setCell ⟨g, 0, none⟩ (.slice (some ⟨ad.block, ad.off + 1, none⟩) (n0 + 1) (c0 - 1))) := Tk.setCell _ (fun o ho => by
        rw [show w.heap[g]? = _ from HCU.out] at ho
        injection ho with ho
        exact ⟨.inr (HV.out g rfl), _, _, _, ho.symm, by decide⟩)
      have hne := row_blk_ne HB.out HR.out.own (by decide) (g := g) rfl
      have ho := own_put HR.out.own 0 (.slice (some ⟨ad.block, ad.off + 1, none⟩) (n0 + 1) (c0 - 1))
      rw [← hu, ← List.map_set] at ho
      rw [← hu] at ht ⊢
      refine ⟨⟨⟨_, HB.out.far (by exact hne) _, ⟨by rw [List.length_set]; exact ho, fun e he => ?_, fun e he => ?_⟩, HV.out⟩, HH.out.1.hp.dp, HH.out.1.hp.pd⟩, ht⟩
      · have hd : Ints w D e.a e.l ∧ e.l.length ≤ e.c := by
          rcases List.mem_or_eq_of_mem_set he with he | rfl
          · exact HR.out.dat e he
          · refine ⟨Ints.drop (k := 1) HD.out.1.1 _ HD.out.1.2, ?_⟩
            have := HD.out.1.2
            show ((H.getD 0 E0).l.drop 1).length ≤ (H.getD 0 E0).c - 1
            rw [List.length_drop]
            omega
        exact ⟨hd.1.tk ht (fun i _ _ _ hi => hq_low HH.out.1.hp hi), hd.2⟩
      · rcases List.mem_or_eq_of_mem_set he with he | rfl
        · exact HR.out.good e he
        · refine ⟨fun e0 => ?_, HD.out.2.2.sublist (List.drop_sublist _ _)⟩
          have h8 : ((H.getD 0 E0).l.drop 1).length = 0 := by rw [show (H.getD 0 E0).l.drop 1 = [] from e0]; rfl
          have h9 := HE.out.1
          rw [List.length_drop] at h8
          omega
    obtain ⟨hp2, ht2⟩ := hw2 ⟨H, HH.out⟩
    have hdn : DnK (ky (H.set 0 (H.getD 0 E0).tl)) (H.set 0 (H.getD 0 E0).tl).length 0 := by
      rw [List.length_set]
      exact dn_first HH.out.1.key (fun i h1 _ => ky_set (by omega))
    have HC : Hid (Calls Try.prog 35 #[ifc P, .int .i64 0] (w.setCell ⟨g, 0, none⟩ (.slice (some ⟨ad.block, ad.off + 1, none⟩) (n0 + 1) (c0 - 1))) fun r w' => r = .returned (.tuple #[]) ∧ HpS w' D P p S ∧ Tk (hq p P) w w') := Lib.hid (by
      refine (hfix_any hp2 (by rw [List.length_set]; exact h0) (by rw [List.length_set]; exact HL.out.2) hdn).mono ?_
      rintro r w' ⟨hx, ⟨H', ho', hp'⟩, ht'⟩
      refine ⟨hx, ⟨H', ho', (List.pairwise_cons.1 HH.out.2.1).2, ?_⟩, ht2.trans ht'⟩
      have h1 := (left_skip HH.out.1.hp.good h0).trans HH.out.2.2
      rw [HE.out.2.2.2] at h1
      exact (left_perm hp').trans (List.Perm.cons_inv h1))
    clear hw2 hp2 ht2 hdn hu
    go_wp2_with fail
    refine HC.out.mono ?_
    rintro r w2 ⟨rfl, hs2, ht2⟩
    have HR2 := Lib.hid (And.intro hs2 ht2)
    clear HC hs2 ht2
    go_wp2_with fail
    go_end0
    exact ⟨rfl, HR2.out.1, HR2.out.2⟩
end Ps
end Go.Proofs.Ytkpolakdamiiiaa
