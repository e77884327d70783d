/- mime.read's closure for the message. Conditions: as stated at each. -/
import Derived.Test.YtamekflgidfnfaaGreatDoorMiEnvl
namespace Go.Proofs.YtamekflgidfnfaaGreatDoor
set_option maxRecDepth 100000
namespace Mi
open Go.RowKit Go Go.Proofs.YtamekflgidfnfaaGreatDoor.Pa
attribute [local go_sem] Oper.semAt_some
def EncQ (w : World) (N R M : Nat) (nn l : L) (e : Ending) (w' : World) : Prop :=
  Tn (fun k => k = R ∨ k = M) w w' ∧ ((encP nn l = none ∧ e = Fa.bad 110) ∨ ∃ b, encP nn l = some b ∧ e = .returned (.tuple #[]) ∧ Rd w' N M b ∧ b.length ≤ l.length)
theorem enc_at {nn t0 a1 t1 a2 t2 a3 t3 : L} (h1 : lineS ([45, 45] ++ nn) t0 = some (a1, t1)) (h2 : lineS pMSG t1 = some (a2, t2)) (h3 : lineS [] t2 = some (a3, t3)) :
    encP nn t0 = if Go.Lib.hasSuffix t3 (tailS nn) = true then some (t3.take (t3.length - (tailS nn).length)) else none := by
  unfold encP
  rw [h1]; simp only; rw [h2]; simp only; rw [h3]
set_option maxHeartbeats 3200000 in
theorem enc_any {w0 : World} {N R S M Lb : Nat} {t0 nn : L} (h : Rd w0 N R t0) (hL : BlkIs w0 Lb 85 #[lineV R]) (hS : BlkIs w0 S 9 #[.string (str nn)]) (hM : BlkIs w0 M 22 #[.slice none 0 0])
    (hNR : N ≤ R) (hNM : N ≤ M) (hRL : Lb ≠ R) (hRS : S ≠ R) (hRM : R ≠ M) (hl0 : t0.length ≤ 100000) (hnn : nn.length ≤ 100000) (hG : GlM w0) (hg : 0 < N) :
    Calls Tryz.prog 51 #[.pointer (some ⟨Lb, 0, none⟩), .pointer (some ⟨S, 0, none⟩), .pointer (some ⟨R, 0, none⟩), .pointer (some ⟨M, 0, none⟩)] w0 (EncQ w0 N R M nn t0) := by
  have hen := hline
  have hNw : N ≤ w0.heap.size := by have := h.lt; omega
  have HLI := Lib.hid (lines_on hNR hG hg)
  have HLD : Hid (∀ X l, Below N w0 X → Rd X N R l → l.length ≤ 100000 → Calls Tryz.prog 43 #[.string (str ([45, 45] ++ nn)), .pointer (some ⟨R, 0, none⟩)] X (LineQ X N R ([45, 45] ++ nn) l)) := Lib.hid fun X l hX hr hl => HLI.out X _ l hX hr hl
  have HPN : Hid (∀ i, i < N → ¬ (i = R ∨ i = M)) := Lib.hid fun i hi e => by omega
  have HNE : Hid (¬ Lb = R ∧ ¬ S = R ∧ ¬ M = R) := Lib.hid ⟨hRL, hRS, fun e => hRM e.symm⟩
  have HT0 : Hid (Tn (fun k => k = R ∨ k = M) w0 w0) := Lib.hid (Tn.refl _ _)
  have HB0 : Hid (Below N w0 w0) := Lib.hid (Below.refl _ _)
  have HR0 := Lib.hid h
  have HL0 := Lib.hid hL
  have HS0 := Lib.hid hS
  have HM0 := Lib.hid hM
  have ed : (⟨#[45, 45]⟩ : ByteArray) ++ str nn = str ([45, 45] ++ nn) := dash_str nn
  have ed2 : str ([45, 45] ++ nn) ++ (⟨#[45, 45]⟩ : ByteArray) = str (([45, 45] ++ nn) ++ [45, 45]) := str_append _ _
  have zn : (str nn).size ≤ 100000 := by rw [str_size]; omega
  have zd : (str ([45, 45] ++ nn)).size ≤ 100002 := by rw [str_size, List.length_append]; simp only [List.length_cons, List.length_nil]; omega
  have HTX : Hid (linS [[], ([45, 45] ++ nn) ++ [45, 45]] = tailS nn) := Lib.hid (txt_tail nn)
  have HTL : Hid ((tailS nn).length ≤ 200020) := Lib.hid (by
    have g6 : cr.length = 2 := rfl
    have g7 : dash.length = 2 := rfl
    unfold tailS
    rw [List.length_append, List.length_append, List.length_append, List.length_append]
    omega)
  have HTT : Hid ((#[.string ⟨#[]⟩, .string (str (([45, 45] ++ nn) ++ [45, 45]))] : Array Value).toList = tv [[], ([45, 45] ++ nn) ++ [45, 45]]) := Lib.hid rfl
  clear h hL hS hM hG hg hRL hRS hRM hnn
  generalize ht3 : ([[], ([45, 45] ++ nn) ++ [45, 45]] : List L) = t3 at *
  have HT3N : Hid (t3.length = 2) := Lib.hid (by rw [← ht3]; rfl)
  clear ht3
  unfold EncQ
  generalize str (([45, 45] ++ nn) ++ [45, 45]) = sdd at *
  generalize str ([45, 45] ++ nn) = sd at *
  generalize str nn = sn at *
  go_enter Tryz.func51, Tryz.ntmps51
  have zS1 := (BlkIs.cell HS0.out 0).trans (rfl : _ = some (Value.string sn))
  have HC1 := Lib.hid (HLD.out w0 t0 HB0.out HR0.out hl0)
  have zL1 := (BlkIs.cell HL0.out 0).trans (rfl : _ = some (lineV R))
  go_wp2_with fail
  refine HC1.out.mono ?_
  rintro e w1 ⟨ht, ⟨h1, rfl⟩ | ⟨a1, t1, h1, rfl, hr⟩⟩
  · exact ⟨rfl, HT0.out.trans (ht.mono fun _ _ e => .inl e), .inl ⟨by unfold encP; rw [h1], rfl⟩⟩
  have hl1 : t1.length ≤ 100000 := by have := line_len h1; omega
  have HT1 := Lib.hid (HT0.out.trans (ht.mono (q := fun k => k = R ∨ k = M) fun _ _ e => .inl e))
  have HB1 := Lib.hid (HT1.out.below hNw HPN.out)
  have HR1 := Lib.hid hr
  have H1 := Lib.hid h1
  have HL1 : Hid (BlkIs w1 Lb 85 #[lineV R]) := Lib.hid (HL0.out.tn ht HNE.out.1)
  have HS1 : Hid (BlkIs w1 S 9 #[.string sn]) := Lib.hid (HS0.out.tn ht HNE.out.2.1)
  have HM1 : Hid (BlkIs w1 M 22 #[.slice none 0 0]) := Lib.hid (HM0.out.tn ht HNE.out.2.2)
  clear ht h1 hr zL1 HC1
  clear zS1
  have HC2 := Lib.hid (HLI.out w1 pMSG t1 HB1.out HR1.out hl1)
  have zL2 := (BlkIs.cell HL1.out 0).trans (rfl : _ = some (lineV R))
  go_wp2_with fail
  refine HC2.out.mono ?_
  rintro e w2 ⟨ht, ⟨h2, rfl⟩ | ⟨a2, t2, h2, rfl, hr⟩⟩
  · exact ⟨rfl, HT1.out.trans (ht.mono fun _ _ e => .inl e), .inl ⟨by unfold encP; rw [H1.out]; simp only; rw [h2], rfl⟩⟩
  have hl2 : t2.length ≤ 100000 := by have := line_len h2; omega
  have HT2 := Lib.hid (HT1.out.trans (ht.mono (q := fun k => k = R ∨ k = M) fun _ _ e => .inl e))
  have HB2 := Lib.hid (HT2.out.below hNw HPN.out)
  have HR2 := Lib.hid hr
  have H2 := Lib.hid h2
  have HL2 : Hid (BlkIs w2 Lb 85 #[lineV R]) := Lib.hid (HL1.out.tn ht HNE.out.1)
  have HS2 : Hid (BlkIs w2 S 9 #[.string sn]) := Lib.hid (HS1.out.tn ht HNE.out.2.1)
  have HM2 : Hid (BlkIs w2 M 22 #[.slice none 0 0]) := Lib.hid (HM1.out.tn ht HNE.out.2.2)
  clear ht h2 hr zL2 HC2
  have HC3 := Lib.hid (HLI.out w2 [] t2 HB2.out HR2.out hl2)
  have zL3 := (BlkIs.cell HL2.out 0).trans (rfl : _ = some (lineV R))
  go_wp2_with fail
  refine HC3.out.mono ?_
  rintro e w3 ⟨ht, ⟨h3, rfl⟩ | ⟨a3, u3, h3, rfl, hr⟩⟩
  · exact ⟨rfl, HT2.out.trans (ht.mono fun _ _ e => .inl e), .inl ⟨by unfold encP; rw [H1.out]; simp only; rw [H2.out]; simp only; rw [h3], rfl⟩⟩
  have hl3 : u3.length ≤ 100000 := by have := line_len h3; omega
  have HT3 := Lib.hid (HT2.out.trans (ht.mono (q := fun k => k = R ∨ k = M) fun _ _ e => .inl e))
  have HB3 := Lib.hid (HT3.out.below hNw HPN.out)
  have HR3 := Lib.hid hr
  have H3 := Lib.hid h3
  have HL3 : Hid (BlkIs w3 Lb 85 #[lineV R]) := Lib.hid (HL2.out.tn ht HNE.out.1)
  have HS3 : Hid (BlkIs w3 S 9 #[.string sn]) := Lib.hid (HS2.out.tn ht HNE.out.2.1)
  have HM3 : Hid (BlkIs w3 M 22 #[.slice none 0 0]) := Lib.hid (HM2.out.tn ht HNE.out.2.2)
  clear ht h3 hr zL3 HC3
  have HEN := Lib.hid (enc_at H1.out H2.out H3.out)
  have HLE : Hid (u3.length ≤ t0.length) := Lib.hid (by have := line_len H1.out; have := line_len H2.out; have := line_len H3.out; omega)
  obtain ⟨A, c, hRb, hbt, hrc, hcm, hAc⟩ := HR3.out
  have HRB := Lib.hid hRb
  have HBT := Lib.hid hbt
  have HA := Lib.hid (And.intro hcm hAc)
  clear hRb hbt hcm hAc
  generalize hrn : u3.length = rn at *
  have HRN := Lib.hid hrn
  clear hrn
  go_wp2_with fail
  have HTD := Lib.hid (HT3.out.trans (Tn.of_below (drewN_below _ _ 1) : Tn (fun k => k = R ∨ k = M) w3 w3.drew))
  have HRD : Hid (BlkIs w3.drew R 22 #[.slice A rn c]) := Lib.hid HRB.out
  have HSD : Hid (BlkIs w3.drew S 9 #[.string sn]) := Lib.hid HS3.out
  have HMD : Hid (BlkIs w3.drew M 22 #[.slice none 0 0]) := Lib.hid HM3.out
  have HBTD : Hid (Bts w3.drew N A u3) := Lib.hid HBT.out
  clear HT0 HT1 HT2 HB0 HB1 HB2 HR0 HR1 HR2 HR3 HL0 HL1 HL2 HL3 HS0 HS1 HS2 HS3 HM0 HM1 HM2 HM3 HRB HBT HB3
  refine wp_region_held_drew (S := (fun Y => BlkIs Y R 22 #[.slice A rn c] ∧ BlkIs Y S 9 #[.string sn])) (by kernel_rfl) (⟨HRD.out, HSD.out⟩) (fun hHeld => ?_)
  generalize w3.drew = w4 at *
  refine wpAnyH_take (i := 0) (v := .slice A rn c) rfl (by kernel_rfl) (by kernel_rfl) (by kernel_rfl) (fun _ _ _ h => h) (Or.inl ⟨by rfl, fun w hS => by (have c0 := (BlkIs.cell hS.1 0).trans (rfl : _ = some (Value.slice A rn c)); go_simp)⟩) hHeld ?_
  try simp only [Act.put, List.getElem_toArray, List.getElem_cons_zero, List.setIfInBounds_toArray, List.set_cons_zero, List.set_cons_succ]
  refine wpAnyH_take (i := 1) (v := .string sn) rfl (by kernel_rfl) (by kernel_rfl) (by kernel_rfl) (fun _ _ _ h => h) (Or.inl ⟨by rfl, fun w hS => by (have c0 := (BlkIs.cell hS.2 0).trans (rfl : _ = some (Value.string sn)); go_simp)⟩) hHeld ?_
  try simp only [Act.put, List.getElem_toArray, List.getElem_cons_zero, List.getElem_cons_succ, List.setIfInBounds_toArray, List.set_cons_zero, List.set_cons_succ]
  refine wpAnyH_take (i := 2) (v := .string sd) rfl (by kernel_rfl) (by kernel_rfl) (by kernel_rfl) (fun _ _ _ h => h) (Or.inl ⟨by rfl, fun w hS => by (go_simp; omega)⟩) hHeld ?_
  try simp only [Act.put, List.getElem_toArray, List.getElem_cons_zero, List.getElem_cons_succ, List.setIfInBounds_toArray, List.set_cons_zero, List.set_cons_succ]
  refine wpAnyH_take (i := 3) (v := .string sdd) rfl (by kernel_rfl) (by kernel_rfl) (by kernel_rfl) (fun _ _ _ h => h) (Or.inl ⟨by rfl, fun w hS => by (go_simp; omega)⟩) hHeld ?_
  try simp only [Act.put, List.getElem_toArray, List.getElem_cons_zero, List.getElem_cons_succ, List.setIfInBounds_toArray, List.set_cons_zero, List.set_cons_succ]
  have hba := belowA w4 (.cells #[.string ⟨#[]⟩, .string sdd] 9)
  have HLL := Lib.hid (lines_any ((tx_lit w4 _ t3 HTT.out).more (by simp)) 2 2 HT3N.out (by decide) (by rw [HTX.out]; have := HTL.out; omega))
  have HBA := Lib.hid hba
  clear hba
  have hn4 := HTD.out.size
  refine wpAnyH_ready (rs := [4]) (by kernel_rfl) (by simp) ?_
  refine AllReadyH.cons rfl (fun K hK => ?_) AllReadyH.nil
  go_simp
  refine hK.out _ _ ?_ (fun hHeld => ?_)
  · exact ⟨HRD.out.alloc _, HSD.out.alloc _⟩
  clear hK K
  try simp only [Act.put, List.getElem_toArray, List.getElem_cons_zero, List.getElem_cons_succ, List.setIfInBounds_toArray, List.set_cons_zero, List.set_cons_succ]
  refine wpAnyH_ready (rs := [5]) (by kernel_rfl) (by simp) ?_
  refine AllReadyH.cons rfl (fun K hK => ?_) AllReadyH.nil
  go_simp
  go_wp2_with (first | (refine HLL.out.mono ?_; rintro e w5 ⟨v5, rfl, ho5, hb5⟩; rw [HTX.out] at ho5; obtain ⟨A5, c5, rfl, _, _⟩ := own_slice ho5; have HO5 := Lib.hid ho5; have hbb : Below w4.heap.size w4 w5 := HBA.out.trans (hb5.mono (by simp)); have HB5 := Lib.hid hbb; have HR5 : Hid (BlkIs w5 R 22 #[.slice A rn c]) := Lib.hid ((hbb.block _ HRD.out.lt).trans HRD.out); have HS5 : Hid (BlkIs w5 S 9 #[.string sn]) := Lib.hid ((hbb.block _ HSD.out.lt).trans HSD.out); clear ho5 hb5 hbb) | fail)
  refine hK.out _ _ ?_ (fun hHeld => ?_)
  · exact ⟨HR5.out, HS5.out⟩
  clear hK K
  try simp only [Act.put, List.getElem_toArray, List.getElem_cons_zero, List.getElem_cons_succ, List.setIfInBounds_toArray, List.set_cons_zero, List.set_cons_succ]
  have HM5 : Hid (BlkIs w5 M 22 #[.slice none 0 0]) := Lib.hid ((HB5.out.block _ HMD.out.lt).trans HMD.out)
  have HBT5 : Hid (Bts w5 N A u3) := Lib.hid (HBTD.out.below (HB5.out.mono (by omega)))
  have HT5 := Lib.hid (HTD.out.trans (Tn.of_below (p := fun k => k = R ∨ k = M) HB5.out))
  have HCS := Lib.hid (cutsuf_any HBT5.out (Own5.bts HO5.out) c c5 (by rw [HRN.out]; exact hrc) (by rw [HRN.out]; omega))
  rw [HRN.out] at HCS
  generalize htl : (tailS nn).length = tl at *
  have HTLN := Lib.hid htl
  clear htl
  generalize hsu : Go.Lib.hasSuffix u3 (tailS nn) = su at *
  have HSU := Lib.hid hsu
  clear hsu
  cases su with
  | true =>
    refine wpAnyH_ready (rs := [6]) (by kernel_rfl) (by simp) ?_
    refine AllReadyH.cons rfl (fun K hK => ?_) AllReadyH.nil
    go_simp
    go_wp2_with (first | (refine HCS.out.mono ?_; rintro e w6 ⟨rfl, rfl⟩) | fail)
    refine hK.out _ _ ?_ (fun hHeld => ?_)
    · exact ⟨HR5.out, HS5.out⟩
    clear hK K
    try simp only [Act.put, List.getElem_toArray, List.getElem_cons_zero, List.getElem_cons_succ, List.setIfInBounds_toArray, List.set_cons_zero, List.set_cons_succ]
    refine wpAnyH_take (i := 7) (v := .tuple #[.slice A (rn - tl) c, .bool true]) rfl (by kernel_rfl) (by kernel_rfl) (by kernel_rfl) (fun _ _ _ h => h) (Or.inl ⟨by rfl, fun w hS => by first | (go_simp; done) | (go_simp; with_reducible rfl)⟩) hHeld ?_
    try simp only [Act.put, List.getElem_toArray, List.getElem_cons_zero, List.getElem_cons_succ, List.setIfInBounds_toArray, List.set_cons_zero, List.set_cons_succ]
    refine wpAnyH_take (i := 8) (v := .slice A (rn - tl) c) rfl (by kernel_rfl) (by kernel_rfl) (by kernel_rfl) (fun _ _ _ h => h) (Or.inl ⟨by rfl, fun w hS => by first | (go_simp; done) | (go_simp; with_reducible rfl)⟩) hHeld ?_
    try simp only [Act.put, List.getElem_toArray, List.getElem_cons_zero, List.getElem_cons_succ, List.setIfInBounds_toArray, List.set_cons_zero, List.set_cons_succ]
    refine wpAnyH_take (i := 9) (v := .bool true) rfl (by kernel_rfl) (by kernel_rfl) (by kernel_rfl) (fun _ _ _ h => h) (Or.inl ⟨by rfl, fun w hS => by first | (go_simp; done) | (go_simp; with_reducible rfl)⟩) hHeld ?_
    try simp only [Act.put, List.getElem_toArray, List.getElem_cons_zero, List.getElem_cons_succ, List.setIfInBounds_toArray, List.set_cons_zero, List.set_cons_succ]
    refine wpAnyH_take (i := 10) (v := .slice A (rn - tl) c) rfl (by kernel_rfl) (by kernel_rfl) (by kernel_rfl) (fun _ _ _ h => h) (Or.inl ⟨by rfl, fun w hS => by first | (go_simp; done) | (go_simp; with_reducible rfl)⟩) hHeld ?_
    try simp only [Act.put, List.getElem_toArray, List.getElem_cons_zero, List.getElem_cons_succ, List.setIfInBounds_toArray, List.set_cons_zero, List.set_cons_succ]
    refine wpAnyH_take (i := 11) (v := .bool true) rfl (by kernel_rfl) (by kernel_rfl) (by kernel_rfl) (fun _ _ _ h => h) (Or.inl ⟨by rfl, fun w hS => by first | (go_simp; done) | (go_simp; with_reducible rfl)⟩) hHeld ?_
    try simp only [Act.put, List.getElem_toArray, List.getElem_cons_zero, List.getElem_cons_succ, List.setIfInBounds_toArray, List.set_cons_zero, List.set_cons_succ]
    refine wpAnyH_done (by kernel_rfl) ?_ _
    have zm := (BlkIs.cell HM5.out 0).trans (rfl : _ = some (Value.slice none 0 0))
    have zf := HM5.out.froz 0
    have HM6 := Lib.hid (HM5.out.put 0 (.slice A (rn - tl) c))
    have HT6 := Lib.hid (HT5.out.setCell (x := ⟨M, 0, none⟩) (.inl (.inr rfl)) (.slice A (rn - tl) c))
    have HBT6 := Lib.hid (HBT5.out.below ((Below.refl N w5).setCell (p := ⟨M, 0, none⟩) hNM (.slice A (rn - tl) c)))
    go_wp2_with (first
      | (go_at_call 46; refine (Fa.mnd_ok _).mono ?_; rintro e w' ⟨rfl, rfl⟩)
      | fail)
    go_end0
    have hlen : (u3.take (rn - tl)).length = rn - tl := by rw [List.length_take, HRN.out]; omega
    exact ⟨HT6.out, .inr ⟨u3.take (rn - tl), by rw [HEN.out]; rfl, rfl, ⟨A, c, by rw [hlen]; exact HM6.out, HBT6.out.take _, by rw [hlen]; omega, HA.out.1, HA.out.2⟩, by rw [hlen]; have := HLE.out; omega⟩⟩
  | false =>
    refine wpAnyH_ready (rs := [6]) (by kernel_rfl) (by simp) ?_
    refine AllReadyH.cons rfl (fun K hK => ?_) AllReadyH.nil
    go_simp
    go_wp2_with (first | (refine HCS.out.mono ?_; rintro e w6 ⟨rfl, rfl⟩) | fail)
    refine hK.out _ _ ?_ (fun hHeld => ?_)
    · exact ⟨HR5.out, HS5.out⟩
    clear hK K
    try simp only [Act.put, List.getElem_toArray, List.getElem_cons_zero, List.getElem_cons_succ, List.setIfInBounds_toArray, List.set_cons_zero, List.set_cons_succ]
    refine wpAnyH_take (i := 7) (v := .tuple #[.slice A rn c, .bool false]) rfl (by kernel_rfl) (by kernel_rfl) (by kernel_rfl) (fun _ _ _ h => h) (Or.inl ⟨by rfl, fun w hS => by first | (go_simp; done) | (go_simp; with_reducible rfl)⟩) hHeld ?_
    try simp only [Act.put, List.getElem_toArray, List.getElem_cons_zero, List.getElem_cons_succ, List.setIfInBounds_toArray, List.set_cons_zero, List.set_cons_succ]
    refine wpAnyH_take (i := 8) (v := .slice A rn c) rfl (by kernel_rfl) (by kernel_rfl) (by kernel_rfl) (fun _ _ _ h => h) (Or.inl ⟨by rfl, fun w hS => by first | (go_simp; done) | (go_simp; with_reducible rfl)⟩) hHeld ?_
    try simp only [Act.put, List.getElem_toArray, List.getElem_cons_zero, List.getElem_cons_succ, List.setIfInBounds_toArray, List.set_cons_zero, List.set_cons_succ]
    refine wpAnyH_take (i := 9) (v := .bool false) rfl (by kernel_rfl) (by kernel_rfl) (by kernel_rfl) (fun _ _ _ h => h) (Or.inl ⟨by rfl, fun w hS => by first | (go_simp; done) | (go_simp; with_reducible rfl)⟩) hHeld ?_
    try simp only [Act.put, List.getElem_toArray, List.getElem_cons_zero, List.getElem_cons_succ, List.setIfInBounds_toArray, List.set_cons_zero, List.set_cons_succ]
    refine wpAnyH_take (i := 10) (v := .slice A rn c) rfl (by kernel_rfl) (by kernel_rfl) (by kernel_rfl) (fun _ _ _ h => h) (Or.inl ⟨by rfl, fun w hS => by first | (go_simp; done) | (go_simp; with_reducible rfl)⟩) hHeld ?_
    try simp only [Act.put, List.getElem_toArray, List.getElem_cons_zero, List.getElem_cons_succ, List.setIfInBounds_toArray, List.set_cons_zero, List.set_cons_succ]
    refine wpAnyH_take (i := 11) (v := .bool false) rfl (by kernel_rfl) (by kernel_rfl) (by kernel_rfl) (fun _ _ _ h => h) (Or.inl ⟨by rfl, fun w hS => by first | (go_simp; done) | (go_simp; with_reducible rfl)⟩) hHeld ?_
    try simp only [Act.put, List.getElem_toArray, List.getElem_cons_zero, List.getElem_cons_succ, List.setIfInBounds_toArray, List.set_cons_zero, List.set_cons_succ]
    refine wpAnyH_done (by kernel_rfl) ?_ _
    go_wp2_with (first
      | (go_at_call 46; refine (Fa.mnd_bad _).mono ?_; rintro e w' ⟨rfl, rfl⟩)
      | fail)
    exact ⟨rfl, HT5.out, .inl ⟨by rw [HEN.out]; rfl, rfl⟩⟩
end Mi
end Go.Proofs.YtamekflgidfnfaaGreatDoor
