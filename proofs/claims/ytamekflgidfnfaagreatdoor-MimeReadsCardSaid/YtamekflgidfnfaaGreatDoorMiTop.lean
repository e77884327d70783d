/- mime.read's closures: the first lines, the envelope, the message. Conditions: as stated at each. -/
import Derived.Test.YtamekflgidfnfaaGreatDoorMiLine
namespace Go.Proofs.YtamekflgidfnfaaGreatDoor
set_option maxRecDepth 100000
namespace Mi
open Go.RowKit Go Go.Proofs.YtamekflgidfnfaaGreatDoor.Pa
attribute [local go_sem] Oper.semAt_some
/-- the closure for a line. -/
abbrev lineV (R : Nat) : Value := .func (.func 43) #[] #[.pointer (some ⟨R, 0, none⟩)]
theorem hline : ∀ args w, (callFunc 43 args).run Tryz.prog w = .ok (.enter 43 args) w := enters_of Tryz.func43 (by kernel_rfl) rfl
/-- lines are read wherever the rest lies. -/
theorem lines_on {w : World} {N R : Nat} (hNR : N ≤ R) (hG : GlM w) (hg : 0 < N) : ∀ X p l, Below N w X → Rd X N R l → l.length ≤ 100000 → Calls Tryz.prog 43 #[.string (str p), .pointer (some ⟨R, 0, none⟩)] X (LineQ X N R p l) :=
  fun _ _ _ hX hR hl => line_any hR hNR hl (hG.below hX hg)
def TopQ (w : World) (N R S : Nat) (l : L) (e : Ending) (w' : World) : Prop :=
  Tn (fun k => k = R ∨ k = S) w w' ∧ ((topP l = none ∧ e = Fa.bad 110) ∨ ∃ n t, topP l = some (n, t) ∧ e = .returned (.tuple #[]) ∧ Rd w' N R t ∧ BlkIs w' S 9 #[.string (str n)] ∧ n.length + t.length ≤ l.length)

set_option maxHeartbeats 3200000 in
theorem top_any {w0 : World} {N R S Lb : Nat} {t0 : L} {s0 : ByteArray} (h : Rd w0 N R t0) (hL : BlkIs w0 Lb 85 #[lineV R]) (hS : BlkIs w0 S 9 #[.string s0]) (hNR : N ≤ R) (hNS : N ≤ S) (hRL : Lb ≠ R) (hSL : Lb ≠ S) (hRS : R ≠ S) (hl0 : t0.length ≤ 100000) (hG : GlM w0) (hg : 0 < N) :
    Calls Tryz.prog 47 #[.pointer (some ⟨Lb, 0, none⟩), .pointer (some ⟨S, 0, none⟩)] w0 (TopQ w0 N R S t0) := by
  have hen := hline
  have hNw : N ≤ w0.heap.size := by have := h.lt; omega
  have HLI := Lib.hid (lines_on hNR hG hg)
  have HPN : Hid (∀ i, i < N → ¬ (i = R ∨ i = S)) := Lib.hid fun i hi e => by omega
  have HNE : Hid (¬ Lb = R ∧ ¬ S = R) := Lib.hid ⟨hRL, fun e => hRS e.symm⟩
  have HNE2 : Hid (¬ Lb = S ∧ ¬ R = S) := Lib.hid ⟨hSL, hRS⟩
  have HT0 : Hid (Tn (fun k => k = R ∨ k = S) w0 w0) := Lib.hid (Tn.refl _ _)
  have HB0 : Hid (Below N w0 w0) := Lib.hid (Below.refl _ _)
  have HR0 := Lib.hid h
  have HL0 := Lib.hid hL
  have HS0 := Lib.hid hS
  clear h hL hS hG hg hRL hSL hRS
  unfold TopQ
  go_enter Tryz.func47, Tryz.ntmps47
  have HC1 := Lib.hid (HLI.out w0 pVER t0 HB0.out HR0.out hl0)
  have zL1 := (BlkIs.cell HL0.out 0).trans (rfl : _ = some (lineV R))
  go_wp2_with fail
  refine HC1.out.mono ?_
  rintro e w1 ⟨ht, ⟨h1, rfl⟩ | ⟨a1, t1, h1, rfl, hr⟩⟩
  · exact ⟨rfl, HT0.out.trans (ht.mono fun _ _ e => .inl e), .inl ⟨by unfold topP; rw [h1], rfl⟩⟩
  have hl1 : t1.length ≤ 100000 := by have := line_len h1; omega
  have HT1 := Lib.hid (HT0.out.trans (ht.mono (q := fun k => k = R ∨ k = S) fun _ _ e => .inl e))
  have HB1 := Lib.hid (HT1.out.below hNw HPN.out)
  have HR1 := Lib.hid hr
  have H1 := Lib.hid h1
  have HL1 : Hid (BlkIs w1 Lb 85 #[lineV R]) := Lib.hid (HL0.out.tn ht HNE.out.1)
  have HS1 : Hid (BlkIs w1 S 9 #[.string s0]) := Lib.hid (HS0.out.tn ht HNE.out.2)
  clear ht h1 hr zL1 HC1
  have HC2 := Lib.hid (HLI.out w1 pMIX t1 HB1.out HR1.out hl1)
  have zL2 := (BlkIs.cell HL1.out 0).trans (rfl : _ = some (lineV R))
  go_wp2_with fail
  refine HC2.out.mono ?_
  rintro e w2 ⟨ht, ⟨h2, rfl⟩ | ⟨a2, t2, h2, rfl, hr⟩⟩
  · exact ⟨rfl, HT1.out.trans (ht.mono fun _ _ e => .inl e), .inl ⟨by unfold topP; rw [H1.out]; simp only; rw [h2], rfl⟩⟩
  have hl2 : t2.length ≤ 100000 := by have := line_len h2; omega
  have HT2 := Lib.hid (HT1.out.trans (ht.mono (q := fun k => k = R ∨ k = S) fun _ _ e => .inl e))
  have HB2 := Lib.hid (HT2.out.below hNw HPN.out)
  have HR2 := Lib.hid hr
  have H2 := Lib.hid h2
  have HL2 : Hid (BlkIs w2 Lb 85 #[lineV R]) := Lib.hid (HL1.out.tn ht HNE.out.1)
  have HS2 : Hid (BlkIs w2 S 9 #[.string s0]) := Lib.hid (HS1.out.tn ht HNE.out.2)
  clear ht h2 hr zL2 HC2
  have zs := (BlkIs.cell HS2.out 0).trans (rfl : _ = some (Value.string s0))
  have zf := HS2.out.froz 0
  have HS3 := Lib.hid (HS2.out.put 0 (.string (str a2)))
  have HL3 := Lib.hid (HL2.out.far (x := ⟨S, 0, none⟩) HNE2.out.1 (.string (str a2)))
  have HT3 := Lib.hid (HT2.out.setCell (x := ⟨S, 0, none⟩) (.inl (.inr rfl)) (.string (str a2)))
  have HB3 := Lib.hid (HT3.out.below hNw HPN.out)
  have HR3 := Lib.hid (HR2.out.tn (p := fun k => k = S) ((Tn.refl (fun k => k = S) w2).setCell (x := ⟨S, 0, none⟩) (.inl rfl) (.string (str a2))) HNE2.out.2 (by have := HB2.out.size; omega) (fun i hi e => by omega))
  have hl3 : t2.length ≤ 100000 := hl2
  generalize hsa : str a2 = sa at *
  have HSA := Lib.hid hsa
  clear hsa
  have HC := Lib.hid (HLI.out (w2.setCell ⟨S, 0, none⟩ (.string sa)) [] t2 HB3.out HR3.out hl3)
  have zL := (BlkIs.cell HL3.out 0).trans (rfl : _ = some (lineV R))
  go_wp2_with fail
  refine HC.out.mono ?_
  rintro e w4 ⟨ht, ⟨h4, rfl⟩ | ⟨a4, t4, h4, rfl, hr⟩⟩
  · exact ⟨rfl, HT3.out.trans (ht.mono fun _ _ e => .inl e), .inl ⟨by unfold topP; rw [H1.out]; simp only; rw [H2.out]; simp only; rw [h4], rfl⟩⟩
  have HT4 := Lib.hid (HT3.out.trans (ht.mono (q := fun k => k = R ∨ k = S) fun _ _ e => .inl e))
  have HS4 := Lib.hid (HS3.out.tn ht HNE.out.2)
  have HR4 := Lib.hid hr
  have HLE : Hid (a2.length + t4.length ≤ t0.length) := Lib.hid (by have := line_len H1.out; have := line_len H2.out; have := line_len h4; omega)
  have H4 := Lib.hid h4
  clear ht hr h4 HC zL
  go_wp2_with fail
  go_end0
  exact ⟨HT4.out, .inr ⟨a2, t4, by unfold topP; rw [H1.out]; simp only; rw [H2.out]; simp only; rw [H4.out], rfl, HR4.out, by rw [HSA.out]; exact HS4.out, HLE.out⟩⟩
end Mi
end Go.Proofs.YtamekflgidfnfaaGreatDoor
