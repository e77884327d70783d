/- mime.number; mime.read's closure for the envelope. Conditions: as stated at each. -/
import Derived.Test.YtamekflgidfnfaaGreatDoorMiTop
import Derived.Deep.RegionHeld
import Derived.Deep.LoopGhost
namespace Go.Proofs.YtamekflgidfnfaaGreatDoor
set_option maxRecDepth 100000
namespace Mi
open Go.RowKit Go Go.Proofs.YtamekflgidfnfaaGreatDoor.Pa
attribute [local go_sem] Oper.semAt_some
def NumQ (w : World) (ds : L) (e : Ending) (w' : World) : Prop := Below w.heap.size w w' ∧ ((∃ v, Lib.parseIntB 64 ds = .ok v ∧ e = .returned (.int .i64 v)) ∨ ((∀ v, Lib.parseIntB 64 ds ≠ .ok v) ∧ e = Fa.bad 110))
set_option maxHeartbeats 1600000 in
theorem number_any (ds : L) (w : World) (hl : ds.length ≤ 100000) (hE : GlE w) : Calls Tryz.prog 49 #[.string (str ds)] w (NumQ w ds) := by
  have HP := Lib.hid (parse_int ds (by omega) w hE)
  unfold NumQ
  generalize str ds = sd at *
  go_enter Tryz.func49, Tryz.ntmps49
  go_wp2_with fail
  refine HP.out.mono ?_
  rintro e w2 ⟨hb2, ⟨v, hp, rfl⟩ | ⟨hp, v, M, rfl⟩⟩
  · have HPP := Lib.hid hp
    have heq : ∀ (w : World), (binOp .eql 93 .nilIface .nilIface).run Tryz.prog w = .ok (.bool true) w := fun _ => by kernel_rfl
    clear hp
    go_wp2_with (first
      | (go_at_call 46; refine (Fa.mnd_ok _).mono ?_; rintro e w' ⟨rfl, rfl⟩)
      | fail)
    go_ret
    exact ⟨hb2, .inl ⟨v, HPP.out, rfl⟩⟩
  · have HPP := Lib.hid hp
    have heq : ∀ (w : World), (binOp .eql 93 (.iface 139 (.pointer (some ⟨M, 0, none⟩))) .nilIface).run Tryz.prog w = .ok (.bool false) w := fun _ => by kernel_rfl
    clear hp
    go_wp2_with (first
      | (go_at_call 46; refine (Fa.mnd_bad _).mono ?_; rintro e w' ⟨rfl, rfl⟩)
      | fail)
    exact ⟨rfl, hb2, .inr ⟨HPP.out, rfl⟩⟩
/-- the box of the envelope that is read. -/
def EnvIs (w : World) (lo E : Nat) (e : Env) : Prop := ∃ A c, BlkIs w E 34 #[.string (str e.1), .slice A e.2.1.length c, .int .i64 e.2.2] ∧ Tx w w.heap.size A e.2.1 ∧ (e.2.1.length ≤ c ∧ c ≤ maxLen) ∧ ∀ ad, A = some ad → lo ≤ ad.block
def EnvlQ (w : World) (N R E : Nat) (nn l : L) (e : Ending) (w' : World) : Prop :=
  Tn (fun k => k = R ∨ k = E) w w' ∧ ((envP nn l = none ∧ e = Fa.bad 110) ∨ ∃ en t, envP nn l = some (en, t) ∧ e = .returned (.tuple #[]) ∧ Rd w' N R t ∧ EnvIs w' w.heap.size E en ∧ t.length ≤ l.length)
theorem envP_at {nn t0 a1 t1 a2 t2 a3 t3 f t4 ds t6 : L} (h1 : lineS ([45, 45] ++ nn) t0 = some (a1, t1)) (h2 : lineS pPLN t1 = some (a2, t2)) (h3 : lineS [] t2 = some (a3, t3)) (h4 : lineS pSND t3 = some (f, t4)) (h6 : lineS pRCV t4 = some (ds, t6)) :
    envP nn t0 = match Lib.parseIntB 64 ds with
      | .ok v => (match tosP 101 t6 with | none => none | some (l, r6) => some ((f, l, v), r6))
      | _ => none := by
  unfold envP
  rw [h1]; simp only; rw [h2]; simp only; rw [h3]; simp only; rw [h4]; simp only; rw [h6]
  rfl
theorem envP_bad {nn t0 a1 t1 a2 t2 a3 t3 f t4 ds t6 : L} (h1 : lineS ([45, 45] ++ nn) t0 = some (a1, t1)) (h2 : lineS pPLN t1 = some (a2, t2)) (h3 : lineS [] t2 = some (a3, t3)) (h4 : lineS pSND t3 = some (f, t4)) (h6 : lineS pRCV t4 = some (ds, t6)) (hv : ∀ v, Lib.parseIntB 64 ds ≠ .ok v) : envP nn t0 = none := by
  rw [envP_at h1 h2 h3 h4 h6]
  split
  · rename_i v hq
    exact absurd hq (hv v)
  · rfl
theorem envP_ok {nn t0 a1 t1 a2 t2 a3 t3 f t4 ds t6 : L} {v : Int} (h1 : lineS ([45, 45] ++ nn) t0 = some (a1, t1)) (h2 : lineS pPLN t1 = some (a2, t2)) (h3 : lineS [] t2 = some (a3, t3)) (h4 : lineS pSND t3 = some (f, t4)) (h6 : lineS pRCV t4 = some (ds, t6)) (hv : Lib.parseIntB 64 ds = .ok v) :
    envP nn t0 = match tosP 101 t6 with | none => none | some (l, r6) => some ((f, l, v), r6) := by
  rw [envP_at h1 h2 h3 h4 h6, hv]
/-- what the loop over recipients has yet to say. -/
theorem tos_more {k : Nat} {s : L} (h : pRCP.isPrefixOf s = true) (acc : List L) : (match tosP (k + 1) s with | none => (none : Option (List L × L)) | some (l, s2) => some (acc ++ l, s2)) = match lineS pRCP s with
    | none => none
    | some (t, s') => (match tosP k s' with | none => none | some (l, s2) => some ((acc ++ [t]) ++ l, s2)) := by
  rw [tosP, if_pos h]
  cases lineS pRCP s with
  | none => rfl
  | some q =>
    obtain ⟨t, s'⟩ := q
    simp only
    cases tosP k s' with
    | none => rfl
    | some p =>
      obtain ⟨l, s2⟩ := p
      simp
theorem tos_end {k : Nat} {s : L} (h : k = 0 ∨ pRCP.isPrefixOf s = false) (acc : List L) : (match tosP k s with | none => (none : Option (List L × L)) | some (l, s2) => some (acc ++ l, s2)) = some (acc, s) := by
  cases k with
  | zero => simp [tosP]
  | succ k =>
    rcases h with h | h
    · omega
    · rw [tosP, if_neg (by rw [h]; decide)]
      simp
theorem own_tn {p : Nat → Prop} {w w' : World} {N sz n : Nat} {e : TypeId} {v : Value} {xs : List Value} (h : w.ownsRow N e sz v n xs) (ht : Tn p w w') (hp : ∀ i, N ≤ i → ¬ p i) : w'.ownsRow N e sz v n xs := by
  refine ⟨h.1, ?_⟩
  rcases h.2 with h0 | ⟨g, cap, cur, rfl, hn, hh, rest⟩
  · exact .inl h0
  · exact .inr ⟨g, cap, cur, rfl, hn, (ht.block g (Array.getElem?_eq_some_iff.1 hh).1 (hp g hn)).trans hh, rest⟩
/-- a text more, in a region that draws its order. -/
theorem stepTx {w : World} {ops : Array Oper} {o : Oper} {a : Act} {K : Act → World → Prop} {Q : Exit → Act → World → Prop} {E : Prop} (s x : Operand)
    (ho : o.op = .call { callee := .builtin .append, args := #[s, x], argTypes := #[32, 32] }) (hgd : o.guard = none)
    {N : Nat} {v : Value} {ps : List L} {p : L} (hs : a.eval s = v) (hown : w.ownsRow N 9 1 v ps.length (tv ps))
    {B : Nat} {A : Option Addr} {c : Nat} (hx : a.eval x = .slice A 1 c) (hr : Tx w B A [p]) (h63 : ps.length + 1 ≤ 1000000000) (hN : N ≤ w.heap.size)
    (h : ∀ v' w', w'.ownsRow N 9 1 v' (ps ++ [p]).length (tv (ps ++ [p])) → w.grownBy w' v.ownBlock → K (a.put o.dst v') w') : if Region.wanted o (yielded ops a.tmps) = true then Oper.wp Tryz.prog o a w K Q else E := by
  have hw : Region.wanted o (yielded ops a.tmps) = true := by simp [Region.wanted, hgd]
  rw [if_pos hw]
  obtain ⟨i, hi, hz, h0, h1⟩ := info_parts info9
  refine wp_app s x ho Tryz.underlying32 hi hz h0 h1 rfl hs hown hx hr (by rw [tv_length]; rfl) (tv_one [p]) h63 (by decide) hN fun v' w' h2 h3 => h v' w' ?_ h3
  rw [List.length_append, show tv (ps ++ [p]) = tv ps ++ tv [p] by simp [tv]]
  exact h2
set_option maxHeartbeats 6400000 in
theorem envl_any {w0 : World} {N R S E Lb : Nat} {t0 nn : L} (h : Rd w0 N R t0) (hL : BlkIs w0 Lb 85 #[lineV R]) (hS : BlkIs w0 S 9 #[.string (str nn)]) (hE : BlkIs w0 E 34 #[.string ⟨#[]⟩, .slice none 0 0, .int .i64 0])
    (hNR : N ≤ R) (hNE : N ≤ E) (hRL : Lb ≠ R) (hEL : Lb ≠ E) (hRS : S ≠ R) (hSE : S ≠ E) (hRE : R ≠ E) (hl0 : t0.length ≤ 100000) (hnn : nn.length ≤ 100000) (hG : GlM w0) (hg : 0 < N) (hGE : GlE w0) (hge : 2 < N ∧ 3 < N) :
    Calls Tryz.prog 48 #[.pointer (some ⟨Lb, 0, none⟩), .pointer (some ⟨S, 0, none⟩), .pointer (some ⟨E, 0, none⟩), .pointer (some ⟨R, 0, none⟩)] w0 (EnvlQ w0 N R E nn t0) := by
  have hen := hline
  have hcv := conv_const
  have hNw : N ≤ w0.heap.size := by have := h.lt; omega
  have HLI := Lib.hid (lines_on hNR hG hg)
  have HLD : Hid (∀ X l, Below N w0 X → Rd X N R l → l.length ≤ 100000 → Calls Tryz.prog 43 #[.string (str ([45, 45] ++ nn)), .pointer (some ⟨R, 0, none⟩)] X (LineQ X N R ([45, 45] ++ nn) l)) := Lib.hid fun X l hX hr hl => HLI.out X _ l hX hr hl
  have HNU : Hid (∀ X ds, Below N w0 X → ds.length ≤ 100000 → Calls Tryz.prog 49 #[.string (str ds)] X (NumQ X ds)) := Lib.hid fun X ds hX hl => number_any ds X hl (hGE.below hX hge)
  have HPN : Hid (∀ i, i < N → ¬ (i = R ∨ i = E)) := Lib.hid fun i hi e => by omega
  have HNE : Hid (¬ Lb = R ∧ ¬ S = R ∧ ¬ E = R) := Lib.hid ⟨hRL, hRS, fun e => hRE e.symm⟩
  have HNE2 : Hid (¬ Lb = E ∧ ¬ S = E ∧ ¬ R = E) := Lib.hid ⟨hEL, hSE, hRE⟩
  have HT0 : Hid (Tn (fun k => k = R ∨ k = E) w0 w0) := Lib.hid (Tn.refl _ _)
  have HB0 : Hid (Below N w0 w0) := Lib.hid (Below.refl _ _)
  have HR0 := Lib.hid h
  have HL0 := Lib.hid hL
  have HS0 := Lib.hid hS
  have HE0 := Lib.hid hE
  have HRE : Hid (R < w0.heap.size ∧ E < w0.heap.size) := Lib.hid ⟨h.lt, hE.lt⟩
  have ed : (⟨#[45, 45]⟩ : ByteArray) ++ str nn = str ([45, 45] ++ nn) := dash_str nn
  have zn : (str nn).size ≤ 100000 := by rw [str_size]; omega
  clear h hL hS hE hG hg hRL hEL hRS hSE hRE hGE hge hnn
  unfold EnvlQ
  generalize str ([45, 45] ++ nn) = sd at *
  generalize hsn : str nn = sn at *
  clear hsn
  go_enter Tryz.func48, Tryz.ntmps48
  have zS1 := (BlkIs.cell HS0.out 0).trans (rfl : _ = some (Value.string sn))
  have HC1 := Lib.hid (HLD.out w0 t0 HB0.out HR0.out hl0)
  have zL1 := (BlkIs.cell HL0.out 0).trans (rfl : _ = some (lineV R))
  go_wp2_with fail
  refine HC1.out.mono ?_
  rintro e w1 ⟨ht, ⟨h1, rfl⟩ | ⟨a1, t1, h1, rfl, hr⟩⟩
  · exact ⟨rfl, HT0.out.trans (ht.mono fun _ _ e => .inl e), .inl ⟨by unfold envP; rw [h1], rfl⟩⟩
  have hl1 : t1.length ≤ 100000 := by have := line_len h1; omega
  have HT1 := Lib.hid (HT0.out.trans (ht.mono (q := fun k => k = R ∨ k = E) fun _ _ e => .inl e))
  have HB1 := Lib.hid (HT1.out.below hNw HPN.out)
  have HR1 := Lib.hid hr
  have H1 := Lib.hid h1
  have HL1 : Hid (BlkIs w1 Lb 85 #[lineV R]) := Lib.hid (HL0.out.tn ht HNE.out.1)
  have HE1 : Hid (BlkIs w1 E 34 #[.string ⟨#[]⟩, .slice none 0 0, .int .i64 0]) := Lib.hid (HE0.out.tn ht HNE.out.2.2)
  clear ht h1 hr zL1 HC1
  clear zS1
  have HC2 := Lib.hid (HLI.out w1 pPLN t1 HB1.out HR1.out hl1)
  have zL2 := (BlkIs.cell HL1.out 0).trans (rfl : _ = some (lineV R))
  go_wp2_with fail
  refine HC2.out.mono ?_
  rintro e w2 ⟨ht, ⟨h2, rfl⟩ | ⟨a2, t2, h2, rfl, hr⟩⟩
  · exact ⟨rfl, HT1.out.trans (ht.mono fun _ _ e => .inl e), .inl ⟨by unfold envP; rw [H1.out]; simp only; rw [h2], rfl⟩⟩
  have hl2 : t2.length ≤ 100000 := by have := line_len h2; omega
  have HT2 := Lib.hid (HT1.out.trans (ht.mono (q := fun k => k = R ∨ k = E) fun _ _ e => .inl e))
  have HB2 := Lib.hid (HT2.out.below hNw HPN.out)
  have HR2 := Lib.hid hr
  have H2 := Lib.hid h2
  have HL2 : Hid (BlkIs w2 Lb 85 #[lineV R]) := Lib.hid (HL1.out.tn ht HNE.out.1)
  have HE2 : Hid (BlkIs w2 E 34 #[.string ⟨#[]⟩, .slice none 0 0, .int .i64 0]) := Lib.hid (HE1.out.tn ht HNE.out.2.2)
  clear ht h2 hr zL2 HC2
  have HC3 := Lib.hid (HLI.out w2 [] t2 HB2.out HR2.out hl2)
  have zL3 := (BlkIs.cell HL2.out 0).trans (rfl : _ = some (lineV R))
  go_wp2_with fail
  refine HC3.out.mono ?_
  rintro e w3 ⟨ht, ⟨h3, rfl⟩ | ⟨a3, t3, h3, rfl, hr⟩⟩
  · exact ⟨rfl, HT2.out.trans (ht.mono fun _ _ e => .inl e), .inl ⟨by unfold envP; rw [H1.out]; simp only; rw [H2.out]; simp only; rw [h3], rfl⟩⟩
  have hl3 : t3.length ≤ 100000 := by have := line_len h3; omega
  have HT3 := Lib.hid (HT2.out.trans (ht.mono (q := fun k => k = R ∨ k = E) fun _ _ e => .inl e))
  have HB3 := Lib.hid (HT3.out.below hNw HPN.out)
  have HR3 := Lib.hid hr
  have H3 := Lib.hid h3
  have HL3 : Hid (BlkIs w3 Lb 85 #[lineV R]) := Lib.hid (HL2.out.tn ht HNE.out.1)
  have HE3 : Hid (BlkIs w3 E 34 #[.string ⟨#[]⟩, .slice none 0 0, .int .i64 0]) := Lib.hid (HE2.out.tn ht HNE.out.2.2)
  clear ht h3 hr zL3 HC3
  have HC4 := Lib.hid (HLI.out w3 pSND t3 HB3.out HR3.out hl3)
  have zL4 := (BlkIs.cell HL3.out 0).trans (rfl : _ = some (lineV R))
  go_wp2_with fail
  refine HC4.out.mono ?_
  rintro e w4 ⟨ht, ⟨h4, rfl⟩ | ⟨a4, t4, h4, rfl, hr⟩⟩
  · exact ⟨rfl, HT3.out.trans (ht.mono fun _ _ e => .inl e), .inl ⟨by unfold envP; rw [H1.out]; simp only; rw [H2.out]; simp only; rw [H3.out]; simp only; rw [h4], rfl⟩⟩
  have hl4 : t4.length ≤ 100000 := by have := line_len h4; omega
  have HT4 := Lib.hid (HT3.out.trans (ht.mono (q := fun k => k = R ∨ k = E) fun _ _ e => .inl e))
  have HB4 := Lib.hid (HT4.out.below hNw HPN.out)
  have HR4 := Lib.hid hr
  have H4 := Lib.hid h4
  have HL4 : Hid (BlkIs w4 Lb 85 #[lineV R]) := Lib.hid (HL3.out.tn ht HNE.out.1)
  have HE4 : Hid (BlkIs w4 E 34 #[.string ⟨#[]⟩, .slice none 0 0, .int .i64 0]) := Lib.hid (HE3.out.tn ht HNE.out.2.2)
  clear ht h4 hr zL4 HC4
  have zs := (BlkIs.cell HE4.out 0).trans (rfl : _ = some (Value.string ⟨#[]⟩))
  have zf := HE4.out.froz 0
  have HE5 : Hid (BlkIs (w4.setCell ⟨E, 0, none⟩ (.string (str a4))) E 34 #[.string (str a4), .slice none 0 0, .int .i64 0]) := Lib.hid (HE4.out.put 0 (.string (str a4)))
  have HL5 := Lib.hid (HL4.out.far (x := ⟨E, 0, none⟩) HNE2.out.1 (.string (str a4)))
  have HT5 := Lib.hid (HT4.out.setCell (x := ⟨E, 0, none⟩) (.inl (.inr rfl)) (.string (str a4)))
  have HB5 := Lib.hid (HT5.out.below hNw HPN.out)
  have HR5 := Lib.hid (HR4.out.tn (p := fun k => k = E) ((Tn.refl (fun k => k = E) w4).setCell (x := ⟨E, 0, none⟩) (.inl rfl) (.string (str a4))) HNE2.out.2.2 (by have := HB4.out.size; omega) (fun i hi e => by omega))
  have hl5 : t4.length ≤ 100000 := hl4
  generalize hsa : str a4 = sa at *
  have HSA := Lib.hid hsa
  clear hsa
  have HC6 := Lib.hid (HLI.out (w4.setCell ⟨E, 0, none⟩ (.string sa)) pRCV t4 HB5.out HR5.out hl5)
  have zL6 := (BlkIs.cell HL5.out 0).trans (rfl : _ = some (lineV R))
  go_wp2_with fail
  refine HC6.out.mono ?_
  rintro e w6 ⟨ht, ⟨h6, rfl⟩ | ⟨a6, t6, h6, rfl, hr⟩⟩
  · exact ⟨rfl, HT5.out.trans (ht.mono fun _ _ e => .inl e), .inl ⟨by unfold envP; rw [H1.out]; simp only; rw [H2.out]; simp only; rw [H3.out]; simp only; rw [H4.out]; simp only; rw [h6], rfl⟩⟩
  have hl6 : t6.length ≤ 100000 ∧ a6.length ≤ 100000 := by have := line_len h6; omega
  have HT6 := Lib.hid (HT5.out.trans (ht.mono (q := fun k => k = R ∨ k = E) fun _ _ e => .inl e))
  have HB6 := Lib.hid (HT6.out.below hNw HPN.out)
  have HR6 := Lib.hid hr
  have H6 := Lib.hid h6
  have HL6 : Hid (BlkIs w6 Lb 85 #[lineV R]) := Lib.hid (HL5.out.tn ht HNE.out.1)
  have HE6 : Hid (BlkIs w6 E 34 #[.string sa, .slice none 0 0, .int .i64 0]) := Lib.hid (HE5.out.tn ht HNE.out.2.2)
  clear ht h6 hr HC6 zL6 zs zf
  have HN6 := Lib.hid (HNU.out w6 a6 HB6.out hl6.2)
  generalize str a6 = s6 at *
  go_wp2_with fail
  refine HN6.out.mono ?_
  rintro e w7 ⟨hb7, ⟨v, hv, rfl⟩ | ⟨hv, rfl⟩⟩
  rotate_left
  · exact ⟨rfl, HT6.out.trans (Tn.of_below hb7), .inl ⟨envP_bad H1.out H2.out H3.out H4.out H6.out hv, rfl⟩⟩
  have HT7 := Lib.hid (HT6.out.trans (Tn.of_below (p := fun k => k = R ∨ k = E) hb7))
  have HB7 := Lib.hid (HT7.out.below hNw HPN.out)
  have HR7 := Lib.hid (HR6.out.tn (p := fun _ => False) (Tn.of_below hb7) (fun e => e) (by have := HB6.out.size; omega) (fun _ _ e => e))
  have HL7 : Hid (BlkIs w7 Lb 85 #[lineV R]) := Lib.hid ((hb7.block _ HL6.out.lt).trans HL6.out)
  have HE7 : Hid (BlkIs w7 E 34 #[.string sa, .slice none 0 0, .int .i64 0]) := Lib.hid ((hb7.block _ HE6.out.lt).trans HE6.out)
  have HV := Lib.hid hv
  clear hb7 hv HN6
  have zs := (BlkIs.cell HE7.out 2).trans (rfl : _ = some (Value.int .i64 0))
  have zf := HE7.out.froz 2
  have HE8 : Hid (BlkIs (w7.setCell ⟨E, 2, none⟩ (.int .i64 v)) E 34 #[.string sa, .slice none 0 0, .int .i64 v]) := Lib.hid (HE7.out.put 2 (.int .i64 v))
  have HL8 := Lib.hid (HL7.out.far (x := ⟨E, 2, none⟩) HNE2.out.1 (.int .i64 v))
  have HT8 := Lib.hid (HT7.out.setCell (x := ⟨E, 2, none⟩) (.inl (.inr rfl)) (.int .i64 v))
  have HB8 := Lib.hid (HT8.out.below hNw HPN.out)
  have HR8 := Lib.hid (HR7.out.tn (p := fun k => k = E) ((Tn.refl (fun k => k = E) w7).setCell (x := ⟨E, 2, none⟩) (.inl rfl) (.int .i64 v)) HNE2.out.2.2 (by have := HB7.out.size; omega) (fun i hi e => by omega))
  have HEN : Hid (envP nn t0 = match tosP 101 t6 with | none => none | some (l, r6) => some ((a4, l, v), r6)) := Lib.hid (envP_ok H1.out H2.out H3.out H4.out H6.out HV.out)
  have HLE : Hid (t6.length ≤ t0.length) := Lib.hid (by have := line_len H1.out; have := line_len H2.out; have := line_len H3.out; have := line_len H4.out; have := line_len H6.out; omega)
  go_wp2_with fail
  have HGE := Lib.hid HT8.out.size
  generalize w7.setCell ⟨E, 2, none⟩ (.int .i64 v) = w8 at *
  clear zs zf HE0 HE1 HE2 HE3 HE4 HE5 HE6 HE7 HL0 HL1 HL2 HL3 HL4 HL5 HL6 HL7 HT0 HT1 HT2 HT3 HT4 HT5 HT6 HT7 HB0 HB1 HB2 HB3 HB4 HB5 HB6 HB7 HR0 HR1 HR2 HR3 HR4 HR5 HR6 HR7
  go_loopg [] 102 (fun g wr => ∃ (acc : List L) (rest : L) (A8 : Option Addr) (c8 k : Nat), k = acc.length ∧ k ≤ 101 ∧ g = 102 - k ∧ Hid ((match tosP 101 t6 with | none => (none : Option (List L × L)) | some (l, r6) => some (l, r6)) = match tosP (101 - k) rest with | none => none | some (l, s2) => some (acc ++ l, s2)) ∧ rest.length ≤ 100000 ∧ Hid (rest.length ≤ t0.length) ∧
    Hid (Tn (fun k => k = R ∨ k = E) w0 wr) ∧ Hid (Rd wr N R rest) ∧ Hid (BlkIs wr Lb 85 #[lineV R]) ∧ Hid (BlkIs wr E 34 #[.string sa, .slice A8 k c8, .int .i64 v]) ∧ Hid (wr.ownsRow w0.heap.size 9 1 (.slice A8 k c8) acc.length (tv acc)))
  case atStart => exact ⟨[], t6, none, 0, 0, rfl, by omega, rfl, Lib.hid (by cases tosP 101 t6 with | none => rfl | some q => rfl), hl6.1, HLE, HT8, HR8, HL8, HE8, Lib.hid (World.ownsRow_nil _ _ _ _)⟩
  case round =>
    obtain ⟨acc, rest, A8, c8, k, hka, hk, rfl, HCO, hrl, HRL, HT, HR, HL, HE, HO⟩ := hrel
    have HKA := Lib.hid hka
    have HB := Lib.hid (HT.out.below hNw HPN.out)
    have hN8 := HT.out.size
    clear hka
    have z1 := (BlkIs.cell HE.out 1).trans (rfl : _ = some (Value.slice A8 k c8))
    -- how it ends
    have HFIN : Hid ((k = 101 ∨ pRCP.isPrefixOf rest = false) → ∀ X, Below wr.heap.size wr X → Tn (fun k => k = R ∨ k = E) w0 X ∧ (∃ en t, envP nn t0 = some (en, t) ∧ Rd X N R t ∧ EnvIs X w0.heap.size E en ∧ t.length ≤ t0.length)) := Lib.hid fun he X hX => by
      have hend := HCO.out.trans (tos_end (k := 101 - k) (s := rest) (he.imp (fun h => by omega) id) acc)
      have hto : tosP 101 t6 = some (acc, rest) := by
        cases hq : tosP 101 t6 with
        | none => rw [hq] at hend; cases hend
        | some q => rw [hq] at hend; exact hend
      refine ⟨HT.out.trans (Tn.of_below hX), (a4, acc, v), rest, by rw [HEN.out, hto], HR.out.tn (p := fun _ => False) (Tn.of_below hX) (fun e => e) (by omega) (fun _ _ e => e), ⟨A8, c8, ?_, ?_, ?_⟩, HRL.out⟩
      · show BlkIs X E _ #[.string (str a4), .slice A8 acc.length c8, .int .i64 v]
        rw [HSA.out, ← HKA.out]
        exact (hX.block _ HE.out.lt).trans HE.out
      · have h1 := own_kept HO.out hX (Nat.le_refl _)
        rw [← HKA.out] at h1
        exact Tx.of_own h1
      · obtain ⟨A', c', e1, h1, h2⟩ := own_slice HO.out
        injection e1 with _ e2 e3
        show (acc.length ≤ c8 ∧ c8 ≤ maxLen) ∧ _
        subst e3
        exact ⟨⟨h1, h2⟩, fun ad e => by subst e; exact (HO.out.lt ad.block rfl).1⟩
    by_cases hk100 : k ≤ 100
    · have zk : (k : Int) ≤ 100 := by omega
      obtain ⟨A, c, hRb, hbt, hrc, hcm, hAc⟩ := HR.out
      have zR := (hRb.cell 0).trans (rfl : _ = some (Value.slice A rest.length c))
      have hba := belowA wr (.cells #[.int .u8 82, .int .u8 101, .int .u8 99, .int .u8 105, .int .u8 112, .int .u8 105, .int .u8 101, .int .u8 110, .int .u8 116, .int .u8 58, .int .u8 32] 5 (11, 12))
      have HPR := Lib.hid (prefix_any (hbt.below (hba.mono (by have := HB.out.size; omega))) (bts_new wr pRCP #[.int .u8 82, .int .u8 101, .int .u8 99, .int .u8 105, .int .u8 112, .int .u8 105, .int .u8 101, .int .u8 110, .int .u8 116, .int .u8 58, .int .u8 32] (11, 12) rfl) c 11 hrc)
      rw [pre_is] at HPR
      have HBA := Lib.hid hba
      clear hRb hbt hrc hcm hAc hba
      generalize hrn : rest.length = rn at *
      cases hpre : pRCP.isPrefixOf rest with
      | false =>
        rw [hpre] at HPR
        have HF := Lib.hid (HFIN.out (.inr hpre) _ HBA.out)
        clear hpre
        go_wp2_with fail
        refine HPR.out.mono ?_
        rintro e w9 ⟨rfl, rfl⟩
        go_wp2_with fail
        go_end0
        obtain ⟨f1, en, t, f2, f3, f4, f5⟩ := HF.out
        exact ⟨f1, .inr ⟨en, t, f2, rfl, f3, f4, f5⟩⟩
      | true =>
        rw [hpre] at HPR
        have HPRE := Lib.hid hpre
        clear hpre
        go_wp2_with fail
        refine HPR.out.mono ?_
        rintro e w9 ⟨rfl, rfl⟩
        go_wp2_with fail
        have hTA : Tn (fun k => k = R ∨ k = E) w0 (wr.alloc (.cells #[.int .u8 82, .int .u8 101, .int .u8 99, .int .u8 105, .int .u8 112, .int .u8 105, .int .u8 101, .int .u8 110, .int .u8 116, .int .u8 58, .int .u8 32] 5 (11, 12))).drew := (HT.out.trans (Tn.of_below HBA.out)).trans (Tn.of_below (drewN_below _ _ 1))
        have HTD := Lib.hid hTA
        have HBD := Lib.hid (HTD.out.below hNw HPN.out)
        have hba2 : Below wr.heap.size wr (wr.alloc (.cells #[.int .u8 82, .int .u8 101, .int .u8 99, .int .u8 105, .int .u8 112, .int .u8 105, .int .u8 101, .int .u8 110, .int .u8 116, .int .u8 58, .int .u8 32] 5 (11, 12))).drew := below_drewN HBA.out 1
        have HRD := Lib.hid (HR.out.tn (p := fun _ => False) (Tn.of_below hba2) (fun e => e) (by omega) (fun _ _ e => e))
        have HLDd : Hid (BlkIs (wr.alloc (.cells #[.int .u8 82, .int .u8 101, .int .u8 99, .int .u8 105, .int .u8 112, .int .u8 105, .int .u8 101, .int .u8 110, .int .u8 116, .int .u8 58, .int .u8 32] 5 (11, 12))).drew Lb 85 #[lineV R]) := Lib.hid ((hba2.block _ HL.out.lt).trans HL.out)
        have HED : Hid (BlkIs (wr.alloc (.cells #[.int .u8 82, .int .u8 101, .int .u8 99, .int .u8 105, .int .u8 112, .int .u8 105, .int .u8 101, .int .u8 110, .int .u8 116, .int .u8 58, .int .u8 32] 5 (11, 12))).drew E 34 #[.string sa, .slice A8 k c8, .int .i64 v]) := Lib.hid ((hba2.block _ HE.out.lt).trans HE.out)
        have HOD : Hid ((wr.alloc (.cells #[.int .u8 82, .int .u8 101, .int .u8 99, .int .u8 105, .int .u8 112, .int .u8 105, .int .u8 101, .int .u8 110, .int .u8 116, .int .u8 58, .int .u8 32] 5 (11, 12))).drew.ownsRow w0.heap.size 9 1 (.slice A8 k c8) acc.length (tv acc)) := Lib.hid (own_kept HO.out hba2 (Nat.le_refl _))
        have HC := Lib.hid (HLI.out (wr.alloc (.cells #[.int .u8 82, .int .u8 101, .int .u8 99, .int .u8 105, .int .u8 112, .int .u8 105, .int .u8 101, .int .u8 110, .int .u8 116, .int .u8 58, .int .u8 32] 5 (11, 12))).drew pRCP rest HBD.out HRD.out (by omega))
        clear hTA hba2 HT HR HL HE HO HFIN zR z1 HBA
        refine wp_region_key ((fun Y => BlkIs Y E 34 #[.string sa, .slice A8 k c8, .int .i64 v] ∧ BlkIs Y Lb 85 #[lineV R])) 7 (by kernel_rfl) (⟨HED.out, HLDd.out⟩) (fun hHeld => ?_)
        generalize (wr.alloc (.cells #[.int .u8 82, .int .u8 101, .int .u8 99, .int .u8 105, .int .u8 112, .int .u8 105, .int .u8 101, .int .u8 110, .int .u8 116, .int .u8 58, .int .u8 32] 5 (11, 12))).drew = w9 at *
        refine wpAnyK_take (i := 0) (v := .pointer (some ⟨E, 1, none⟩)) rfl (by kernel_rfl) (by kernel_rfl) (by kernel_rfl) (by kernel_rfl) (fun _ _ _ h => h) (Or.inl ⟨by rfl, fun w hS => by first | (go_simp; done) | (go_simp; with_reducible rfl)⟩) hHeld ?_
        try simp only [Act.put, List.getElem_toArray, List.getElem_cons_zero, List.setIfInBounds_toArray, List.set_cons_zero, List.set_cons_succ]
        refine wpAnyK_take (i := 1) (v := .slice A8 k c8) rfl (by kernel_rfl) (by kernel_rfl) (by kernel_rfl) (by kernel_rfl) (fun _ _ _ h => h) (Or.inl ⟨by rfl, fun w hS => by (have c0 := (BlkIs.cell hS.1 1).trans (rfl : _ = some (Value.slice A8 k c8)); go_simp)⟩) hHeld ?_
        try simp only [Act.put, List.getElem_toArray, List.getElem_cons_zero, List.getElem_cons_succ, List.setIfInBounds_toArray, List.set_cons_zero, List.set_cons_succ]
        refine wpAnyK_take (i := 2) (v := lineV R) rfl (by kernel_rfl) (by kernel_rfl) (by kernel_rfl) (by kernel_rfl) (fun _ _ _ h => h) (Or.inl ⟨by rfl, fun w hS => by (have c0 := (BlkIs.cell hS.2 0).trans (rfl : _ = some (lineV R)); go_simp)⟩) hHeld ?_
        try simp only [Act.put, List.getElem_toArray, List.getElem_cons_zero, List.getElem_cons_succ, List.setIfInBounds_toArray, List.set_cons_zero, List.set_cons_succ]
        refine wpAnyK_ready (rs := [3]) (by kernel_rfl) (by simp) ?_
        refine AllReadyK.cons rfl (fun K hK => ?_) AllReadyK.nil
        go_simp
        go_wp2_with (first | (refine HC.out.mono ?_; rintro e w10 ⟨ht, ⟨h10, rfl⟩ | ⟨a10, t10, h10, rfl, hr⟩⟩) | fail)
        · have hbad : envP nn t0 = none := by
            rw [HEN.out]
            have h1 := HCO.out
            rw [show 101 - k = (100 - k) + 1 by omega, tos_more HPRE.out acc, h10] at h1
            cases hq : tosP 101 t6 with
            | none => rfl
            | some q => rw [hq] at h1; cases h1
          first
            | exact ⟨rfl, HTD.out.trans (ht.mono fun _ _ e => .inl e), .inl ⟨hbad, rfl⟩⟩
            | exact ⟨rfl, rfl, HTD.out.trans (ht.mono fun _ _ e => .inl e), .inl ⟨hbad, rfl⟩⟩
        have hTn : Tn (fun k => k = R ∨ k = E) w0 w10 := HTD.out.trans (ht.mono fun _ _ e => .inl e)
        have HT10 := Lib.hid hTn
        have HL10 : Hid (BlkIs w10 Lb 85 #[lineV R]) := Lib.hid (HLDd.out.tn ht HNE.out.1)
        have HE10 : Hid (BlkIs w10 E 34 #[.string sa, .slice A8 k c8, .int .i64 v]) := Lib.hid (HED.out.tn ht HNE.out.2.2)
        have HO10 : Hid (w10.ownsRow w0.heap.size 9 1 (.slice A8 k c8) acc.length (tv acc)) := Lib.hid (own_tn HOD.out ht (fun i hi e => by have := HRE.out.1; omega))
        have HR10 := Lib.hid hr
        have H10 := Lib.hid h10
        have hl10 := line_len h10
        have hz10 := hTn.size
        refine hK.out _ _ ?_ (fun hHeld => ?_)
        · exact ⟨HE10.out, HL10.out⟩
        clear hK K ht hTn hr h10 HC HTD HBD HRD HLDd HED HOD
        try simp only [Act.put, List.getElem_toArray, List.getElem_cons_zero, List.getElem_cons_succ, List.setIfInBounds_toArray, List.set_cons_zero, List.set_cons_succ]
        have HBA := Lib.hid (belowA w10 (.cells #[.string (str a10)] 9))
        have HOA : Hid ((w10.alloc (.cells #[.string (str a10)] 9)).ownsRow w0.heap.size 9 1 (.slice A8 k c8) acc.length (tv acc)) := Lib.hid (own_kept HO10.out HBA.out (Nat.le_refl _))
        have HTX := Lib.hid (tx_lit w10 #[.string (str a10)] [a10] rfl)
        have HEA := Lib.hid (HE10.out.alloc (.cells #[.string (str a10)] 9))
        have HLA := Lib.hid (HL10.out.alloc (.cells #[.string (str a10)] 9))
        have hz11 : w0.heap.size ≤ (w10.alloc (.cells #[.string (str a10)] 9)).heap.size := by simp; omega
        refine wpAnyK_ready (rs := [4]) (by kernel_rfl) (by simp) ?_
        refine AllReadyK.cons rfl (fun K hK => ?_) AllReadyK.nil
        go_simp
        refine hK.out _ _ ?_ (fun hHeld => ?_)
        · exact ⟨HEA.out, HLA.out⟩
        clear hK K
        try simp only [Act.put, List.getElem_toArray, List.getElem_cons_zero, List.getElem_cons_succ, List.setIfInBounds_toArray, List.set_cons_zero, List.set_cons_succ]
        refine wpAnyK_ready (rs := [5]) (by kernel_rfl) (by simp) ?_
        refine AllReadyK.cons rfl (fun K hK => ?_) AllReadyK.nil
        (refine stepTx (.tmp 30) (.tmp 33) (by rfl) (by rfl) (by rfl) HOA.out (A := some ⟨w10.heap.size, 0, none⟩) (c := 1) (by rfl) HTX.out (by rw [← HKA.out]; omega) hz11 ?_; intro v11 w11 h1 h2; generalize hq : (acc ++ [a10]).length = k11 at h1; have HK11 := Lib.hid hq; clear hq; obtain ⟨A11, c11, rfl, _, _⟩ := own_slice h1; have HO11 := Lib.hid h1; have HG11 := Lib.hid h2; have HE11 := Lib.hid (HEA.out.grown h2 (own_row HOA.out HEA.out (by decide))); have HL11 := Lib.hid (HLA.out.grown h2 (own_row HOA.out HLA.out (by decide))); clear h1 h2)
        refine hK.out _ _ ?_ (fun hHeld => ?_)
        · exact ⟨HE11.out, HL11.out⟩
        clear hK K
        try simp only [Act.put, List.getElem_toArray, List.getElem_cons_zero, List.getElem_cons_succ, List.setIfInBounds_toArray, List.set_cons_zero, List.set_cons_succ]
        refine wpAnyK_take (i := 6) (v := .pointer (some ⟨E, 1, none⟩)) rfl (by kernel_rfl) (by kernel_rfl) (by kernel_rfl) (by kernel_rfl) (fun _ _ _ h => h) (Or.inl ⟨by rfl, fun w hS => by first | (go_simp; done) | (go_simp; with_reducible rfl)⟩) hHeld ?_
        try simp only [Act.put, List.getElem_toArray, List.getElem_cons_zero, List.getElem_cons_succ, List.setIfInBounds_toArray, List.set_cons_zero, List.set_cons_succ]
        have HT11 : Hid (Tn (fun k => k = R ∨ k = E) w0 w11) := Lib.hid ((HT10.out.trans (Tn.of_below HBA.out)).grown HG11.out (fun g hg => .inr (HOA.out.lt g hg).1))
        have HR11 : Hid (Rd w11 N R t10) := Lib.hid (by
          have h1 := HR10.out.tn (p := fun _ => False) (Tn.of_below HBA.out) (fun e => e) (by omega) (fun _ _ e => e)
          obtain ⟨AR, cR, g1, g2, g3⟩ := h1
          exact ⟨AR, cR, g1.grown HG11.out (own_row HOA.out g1 (by decide)), g2.below ((Below.refl N _).grown HG11.out (by omega) (fun q hq => by have := (HOA.out.lt q hq).1; omega)), g3⟩)
        have zc := (BlkIs.cell HE11.out 1).trans (rfl : _ = some (Value.slice A8 k c8))
        have zf := HE11.out.froz 1
        have HE12 : Hid (BlkIs (w11.setCell ⟨E, 1, none⟩ (.slice A11 k11 c11)) E 34 #[.string sa, .slice A11 k11 c11, .int .i64 v]) := Lib.hid (HE11.out.put 1 _)
        have HL12 := Lib.hid (HL11.out.far (x := ⟨E, 1, none⟩) HNE2.out.1 (.slice A11 k11 c11))
        have HT12 := Lib.hid (HT11.out.setCell (x := ⟨E, 1, none⟩) (.inl (.inr rfl)) (.slice A11 k11 c11))
        have HR12 := Lib.hid (HR11.out.tn (p := fun k => k = E) ((Tn.refl (fun k => k = E) w11).setCell (x := ⟨E, 1, none⟩) (.inl rfl) (.slice A11 k11 c11)) HNE2.out.2.2 (by have := HT11.out.size; omega) (fun i hi e => by omega))
        have HO12 : Hid ((w11.setCell ⟨E, 1, none⟩ (.slice A11 k11 c11)).ownsRow w0.heap.size 9 1 (.slice A11 k11 c11) k11 (tv (acc ++ [a10]))) := Lib.hid (own_far HO11.out (fun g hg => by have := (HO11.out.lt g hg).1; have := HRE.out.2; show g ≠ E; omega) _)
        refine wpAnyK_ready (rs := [7]) (by kernel_rfl) (by simp) ?_
        refine AllReadyK.late rfl (by kernel_rfl) (fun K hK => ?_) AllReadyK.nil
        go_simp
        refine hK.out _ _ ?_ (fun _ => ?_)
        · trivial
        clear hK K
        try simp only [Act.put, List.getElem_toArray, List.getElem_cons_zero, List.getElem_cons_succ, List.setIfInBounds_toArray, List.set_cons_zero, List.set_cons_succ]
        refine wpAnyK_done (by kernel_rfl) ?_ _
        go_wp2_with fail
        have hk11 : k11 = k + 1 := by rw [← HK11.out, List.length_append, HKA.out]; rfl
        go_roundg (102 - k11)
        case measure => omega
        case rel =>
          refine ⟨acc ++ [a10], t10, A11, c11, k11, HK11.out.symm, by omega, rfl, Lib.hid ?_, by omega, Lib.hid (by have := HRL.out; omega), HT12, HR12, HL12, HE12, Lib.hid (by rw [HK11.out]; exact HO12.out)⟩
          rw [HCO.out, show 101 - k = (100 - k) + 1 by omega, tos_more HPRE.out acc, H10.out, show 101 - k11 = 100 - k by omega]
    · have hk1 : k = 101 := by omega
      have zk : ¬ (k : Int) ≤ 100 := by omega
      have HF := Lib.hid (HFIN.out (.inl hk1) wr (Below.refl _ _))
      clear hk1
      go_wp2_with fail
      go_end0
      obtain ⟨f1, en, t, f2, f3, f4, f5⟩ := HF.out
      first
        | exact ⟨f1, .inr ⟨en, t, f2, rfl, f3, f4, f5⟩⟩
        | exact ⟨f1, .inr ⟨en.1, en.2.1, en.2.2, t, f2, rfl, f3, f4, f5⟩⟩
        | exact ⟨f1, .inr ⟨en.1, en.2.1, en.2.2, t, f2, f3, f4, f5⟩⟩
end Mi
end Go.Proofs.YtamekflgidfnfaaGreatDoor
