/- mime.read's closure for a line. Conditions: as stated at each. -/
import Derived.Test.YtamekflgidfnfaaGreatDoorMiRd
import Derived.Test.YtamekflgidfnfaaGreatDoorMiReptN
namespace Go.Proofs.YtamekflgidfnfaaGreatDoor
set_option maxRecDepth 100000
namespace Mi
open Go.RowKit Go Go.Proofs.YtamekflgidfnfaaGreatDoor.Pa
attribute [local go_sem] Oper.semAt_some
/-- the box R holds what is left. -/
def Rd (w : World) (N R : Nat) (l : L) : Prop := ∃ A c, BlkIs w R 22 #[.slice A l.length c] ∧ Bts w N A l ∧ l.length ≤ c ∧ c ≤ maxLen ∧ (A = none → c = 0)
theorem Rd.lt {w : World} {N R : Nat} {l : L} (h : Rd w N R l) : R < w.heap.size := by
  obtain ⟨A, c, h1, _⟩ := h
  exact h1.lt
theorem Rd.tn {p : Nat → Prop} {w w' : World} {N R : Nat} {l : L} (h : Rd w N R l) (ht : Tn p w w') (hR : ¬ p R) (hN : N ≤ w.heap.size) (hp : ∀ i, i < N → ¬ p i) : Rd w' N R l := by
  obtain ⟨A, c, h1, h2, h3⟩ := h
  exact ⟨A, c, h1.tn ht hR, h2.below (ht.below hN fun i hi => hp i hi), h3⟩
def LineQ (w : World) (N R : Nat) (p l : L) (e : Ending) (w' : World) : Prop :=
  Tn (fun k => k = R) w w' ∧ ((lineS p l = none ∧ e = Fa.bad 110) ∨ ∃ a t, lineS p l = some (a, t) ∧ e = .returned (.string (str a)) ∧ Rd w' N R t)
theorem line_none {p l : L} (h : cutCR l = none) : lineS p l = none := by unfold lineS; rw [h]
theorem line_no {p l a t : L} (h : cutCR l = some (a, t)) (hp : p.isPrefixOf a = false) : lineS p l = none := by unfold lineS; rw [h]; simp [hp]
theorem line_yes {p l a t : L} (h : cutCR l = some (a, t)) (hp : p.isPrefixOf a = true) : lineS p l = some (a.drop p.length, t) := by unfold lineS; rw [h]; simp [hp]
set_option maxHeartbeats 3200000 in
theorem line_any {w : World} {N R : Nat} {p l : L} (h : Rd w N R l) (hNR : N ≤ R) (hl : l.length ≤ 100000) (hG : GlM w) :
    Calls Tryz.prog 43 #[.string (str p), .pointer (some ⟨R, 0, none⟩)] w (LineQ w N R p l) := by
  have hRlt := h.lt
  obtain ⟨A, c, hR, hb, hc, hm, hA⟩ := h
  have hcv := conv_const
  have HR := Lib.hid hR
  have x0 := (hR.cell 0).trans (rfl : _ = some (Value.slice A l.length c))
  have hba := belowA w (.cells #[.int .u8 13, .int .u8 10] 5 (2, 3))
  have HBA := Lib.hid hba
  have HCUT := Lib.hid (cut2_any (hb.below (hba.mono (by omega : N ≤ w.heap.size))) (bts_new w cr #[.int .u8 13, .int .u8 10] (2, 3) rfl) c 2 hc hA (by omega) (hG.below hba hG.lt))
  have HBT := Lib.hid hb
  have HRB := Lib.hid (fun X => run_byt p X)
  have HLN := Lib.hid (fun h => line_none (p := p) (l := l) h)
  have HLO := Lib.hid (fun a t h => line_no (p := p) (l := l) (a := a) (t := t) h)
  have HLY := Lib.hid (fun a t h => line_yes (p := p) (l := l) (a := a) (t := t) h)
  clear hb hba hR
  unfold LineQ
  generalize hsp : str p = sp at *
  have HPP := Lib.hid hsp
  clear hsp
  generalize hlk : l.length = ln at *
  go_enter Tryz.func43, Tryz.ntmps43
  go_wp2_with fail
  refine HCUT.out.mono ?_
  rintro e w2 ⟨⟨q, hq⟩, hcase⟩
  have HB2 : Hid (Below w.heap.size w w2) := Lib.hid (by rw [hq]; exact HBA.out.trans (drewN_below _ _ _))
  have HR2 : Hid (BlkIs w2 R 22 #[.slice A ln c]) := Lib.hid ((HB2.out.block _ hRlt).trans HR.out)
  have HW2 : Hid (Below N (w.alloc (.cells #[.int .u8 13, .int .u8 10] 5 (2, 3))) w2) := Lib.hid (by rw [hq]; exact drewN_below _ _ _)
  have HC := Lib.hid hcase
  clear hq hcase HCUT x0
  obtain ⟨c9, w3, hrun, hby, hb3⟩ := HRB.out w2
  have HBY := Lib.hid hby.bts
  have HB3 := Lib.hid (HB2.out.trans (hb3.mono HB2.out.size))
  have HR3 : Hid (BlkIs w3 R 22 #[.slice A ln c]) := Lib.hid ((HB3.out.block _ hRlt).trans HR.out)
  have HW3 : Hid (Below N (w.alloc (.cells #[.int .u8 13, .int .u8 10] 5 (2, 3))) w3) := Lib.hid (HW2.out.trans (hb3.mono (by have := HB2.out.size; omega)))
  clear hby hb3
  rcases HC.out with ⟨a, t, hcut, A2, c2, rfl, hba, hac, hbt, htc, hc2, hA2⟩ | ⟨hcut, rfl⟩
  · have HBT3 := Lib.hid (hbt.below HW3.out)
    have HBA3 := Lib.hid (hba.below HW3.out)
    have HCP := Lib.hid (cutpre_any HBA3.out HBY.out c c9 hac hA)
    have HCUT := Lib.hid hcut
    have HTC := Lib.hid (And.intro htc hA2)
    clear hba hbt hcut htc hA2
    generalize htl : t.length = tl at *
    have HTL := Lib.hid htl
    generalize hpl : p.length = pl at *
    have HPL := Lib.hid hpl
    clear htl hpl
    go_wp2_with fail
    refine HCP.out.mono ?_
    rintro e w4 ⟨rfl, ⟨hp, A3, c3, rfl, hb3, _, _, _⟩ | ⟨hp, rfl⟩⟩
    · have x3 := (HR3.out.cell 0).trans (rfl : _ = some (Value.slice A ln c))
      have xf := HR3.out.froz 0
      have HY := Lib.hid (HLY.out a t HCUT.out hp)
      have HB4 : Hid (Below N w3 (w3.setCell ⟨R, 0, none⟩ (.slice A2 tl c2))) := Lib.hid ((Below.refl N w3).setCell (p := ⟨R, 0, none⟩) hNR _)
      have HR4 := Lib.hid (HR3.out.put 0 (.slice A2 tl c2))
      have HT4 : Hid (Tn (fun k => k = R) w (w3.setCell ⟨R, 0, none⟩ (.slice A2 tl c2))) := Lib.hid ((Tn.of_below (p := fun k => k = R) HB3.out).setCell (x := ⟨R, 0, none⟩) (.inl rfl) _)
      have HV4 := Lib.hid (conv_str (hb3.below HB4.out) c3)
      have hv4 := HV4.out
      clear hb3 hp
      generalize a.drop pl = ad at *
      generalize ad.length = al at *
      generalize hsa : str ad = sa at *
      have HSA := Lib.hid hsa
      clear hsa
      go_wp2_with (first
        | (go_at_call 46; refine (Fa.mnd_t (by first | rfl | (simp; done)) _).mono ?_; rintro e w' ⟨rfl, rfl⟩)
        | fail)
      go_ret
      exact ⟨HT4.out, .inr ⟨ad, t, HY.out, by rw [HSA.out]; rfl, A2, c2, by rw [HTL.out]; exact HR4.out, HBT3.out.below HB4.out, by rw [HTL.out]; exact HTC.out.1, by omega, HTC.out.2⟩⟩
    · have HO := Lib.hid (HLO.out a t HCUT.out hp)
      clear hp
      go_wp2_with (first
        | (go_at_call 46; refine (Fa.mnd_f (by first | rfl | (simp; done)) _).mono ?_; rintro e w' ⟨rfl, rfl⟩)
        | fail)
      exact ⟨rfl, Tn.of_below HB3.out, .inl ⟨HO.out, rfl⟩⟩
  · have HO := Lib.hid (HLN.out hcut)
    have HCP := Lib.hid (cutpre_any (HBT.out.below (HB3.out.mono (by omega : N ≤ w.heap.size))) HBY.out c c9 (by rw [hlk]; exact hc) hA)
    rw [hlk] at HCP
    generalize hpl : p.length = pl at *
    clear hpl
    go_wp2_with fail
    refine HCP.out.mono ?_
    rintro e w4 ⟨rfl, ⟨hp, A3, c3, rfl, hb3, _, _, _⟩ | ⟨hp, rfl⟩⟩
    · generalize (l.drop pl).length = dl at *
      clear hb3 hp
      go_wp2_with (first
        | (go_at_call 46; refine (Fa.mnd_f (by first | rfl | (simp; done)) _).mono ?_; rintro e w' ⟨rfl, rfl⟩)
        | fail)
      exact ⟨rfl, Tn.of_below HB3.out, .inl ⟨HO.out, rfl⟩⟩
    · go_wp2_with (first
        | (go_at_call 46; refine (Fa.mnd_f (by first | rfl | (simp; done)) _).mono ?_; rintro e w' ⟨rfl, rfl⟩)
        | fail)
      exact ⟨rfl, Tn.of_below HB3.out, .inl ⟨HO.out, rfl⟩⟩
end Mi
end Go.Proofs.YtamekflgidfnfaaGreatDoor
