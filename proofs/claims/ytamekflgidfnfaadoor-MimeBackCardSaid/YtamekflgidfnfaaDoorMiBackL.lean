/- The walk of MimeBack. Conditions: as stated at each. -/
import Derived.Test.YtamekflgidfnfaaDoorMiSame
import Derived.Test.YtamekflgidfnfaaDoorMiLaws
namespace Go.Proofs.YtamekflgidfnfaaDoor
set_option maxRecDepth 100000
namespace Mi
open Go.RowKit Go Go.Proofs.YtamekflgidfnfaaDoor.Pa
attribute [local go_sem] Oper.semAt_some
theorem own5_nilm {w : World} {N n c : Nat} {A : Option Addr} {l : L} (h : Own5 w N (.slice A n c) l) : A = none → c = 0 := by
  intro e
  subst e
  rcases h.2 with ⟨h0, _⟩ | ⟨g, cap, cur, h0, _⟩
  · injection h0
  · injection h0 with h1 _ _
    cases h1
theorem rep_len {e : Env} {l : L} (h : errS e l = 0) (hs : SmallE e) (hl : l.length ≤ 1000) : (repS e l).length ≤ 100000 := by
  obtain ⟨h1, h2, _⟩ := err_0.1 h
  have h3 := (env_small h1 h2).2
  have hn := bndS_len l (by omega)
  have hf : e.1.length ≤ 320 := by
    unfold envOk at h1
    simp only [Bool.and_eq_true, Bool.or_eq_true] at h1
    rcases h1.1 with h | h
    · rw [List.isEmpty_iff] at h; rw [h]; simp
    · exact mail_len h
  have h4 := Lib.itoa_length_le e.2.2 hs.v0 (Int.le_of_lt_add_one hs.v1)
  have g0 : seg0.length = 59 := rfl
  have g1 : seg1.length = 4 := rfl
  have g2 : seg2.length = 36 := rfl
  have g3 : seg3.length = 10 := rfl
  have g5 : seg5.length = 32 := rfl
  have g6 : cr.length = 2 := rfl
  have g7 : dash.length = 2 := rfl
  unfold repS headS tailS
  simp only [List.length_append]
  omega
theorem readM_rep {e : Env} {l : L} (h : errS e l = 0) (hs : SmallE e) : readM (repS e l) = some (e, l) := by
  unfold readM
  rw [prog_rep h hs.v1]
  simp only
  rw [if_pos ⟨h, trivial⟩]
/-- what Report answers, with what the slice has room for. -/
def RepO (w : World) (e : Env) (l : L) (r : Ending) (w' : World) : Prop :=
  Below w.heap.size w w' ∧ ∃ v, r = .returned (.tuple #[v, .int .i64 (errS e l : Nat)]) ∧
    ((errS e l = 0 ∧ ∃ A c, v = .slice A (repS e l).length c ∧ Bts w' w'.heap.size A (repS e l) ∧ (repS e l).length ≤ c ∧ c ≤ maxLen ∧ (A = none → c = 0)) ∨ (errS e l ≠ 0 ∧ v = .slice none 0 0))
set_option maxHeartbeats 1600000 in
theorem report_own {w : World} {x : Value} {e : Env} {A : Option Addr} {l : L} (h : EnvAt w w.heap.size x e) (hs : SmallE e) (hb : Bts w w.heap.size A l) (c : Nat) (hc : l.length ≤ c) (hcm : c ≤ maxLen) (hA : A = none → c = 0) (hl : l.length ≤ 100000) (hT : GlT w) (hG : GlM w) :
    Calls Tryd.prog 24 #[x, .slice A l.length c] w (RepO w e l) := by
  have h0 := h
  obtain ⟨AT, cT, rfl, hTx, hc1, hc2⟩ := h
  have HRP : Hid (∀ X, Below w.heap.size w X → Calls Tryd.prog 44 #[.agg #[.string (str e.1), .slice AT e.2.1.length cT, .int .i64 e.2.2], .slice A l.length c] X (RptQ X e l)) := Lib.hid fun X hX => reported_any ((h0.below hX).more hX.size) hs ((hb.below hX).more hX.size) c hc hcm hA hl (hT.below hX hT.lt) (hG.below hX hG.lt)
  unfold RepO
  clear hTx hs hT hG hA h0 hb hc1
  generalize str e.1 = sf at *
  generalize e.2.1.length = n at *
  generalize e.2.2 = v at *
  generalize l.length = ln at *
  have k0 : BlkIs (w.alloc (.cells #[.string sf, .slice AT n cT, .int .i64 v] 40)) w.heap.size 40 #[.string sf, .slice AT n cT, .int .i64 v] := BlkIs.new w _ _
  have k1 := BlkIs.new (w.alloc (.cells #[.string sf, .slice AT n cT, .int .i64 v] 40)) 22 #[.slice A ln c]
  have k2 := BlkIs.new ((w.alloc (.cells #[.string sf, .slice AT n cT, .int .i64 v] 40)).alloc (.cells #[.slice A ln c] 22)) 22 #[.slice none 0 0]
  rw [World.size_alloc] at k1
  rw [World.size_alloc, World.size_alloc] at k2
  have kB : Below w.heap.size w (((w.alloc (.cells #[.string sf, .slice AT n cT, .int .i64 v] 40)).alloc (.cells #[.slice A ln c] 22)).alloc (.cells #[.slice none 0 0] 22)) := (((Below.refl _ w).alloc (Nat.le_refl _) _).alloc (by simp) _).alloc (by simp; omega) _
  have kz : (((w.alloc (.cells #[.string sf, .slice AT n cT, .int .i64 v] 40)).alloc (.cells #[.slice A ln c] 22)).alloc (.cells #[.slice none 0 0] 22)).heap.size = w.heap.size + 3 := by simp
  have HKB := Lib.hid (And.intro kB (And.intro ((k0.alloc (.cells #[.slice A ln c] 22)).alloc (.cells #[.slice none 0 0] 22)) (And.intro (k1.alloc (.cells #[.slice none 0 0] 22)) (And.intro k2 kz))))
  have HAT : Hid (∀ w2, Below w.heap.size w w2 → BlkIs w2 w.heap.size 40 #[.string sf, .slice AT n cT, .int .i64 v] → BlkIs w2 (w.heap.size + 1) 22 #[.slice A ln c] → BlkIs w2 (w.heap.size + 1 + 1) 22 #[.slice none 0 0] → w2.heap.size = w.heap.size + 3 →
      Calls Tryd.prog 34 #[.func (.func 43) #[] #[.pointer (some ⟨w.heap.size, 0, none⟩), .pointer (some ⟨w.heap.size + 1, 0, none⟩), .pointer (some ⟨w.heap.size + 1 + 1, 0, none⟩)]] w2 fun r w' => ∃ x, r = .returned (.int .i64 x) ∧ Rq (w2.alloc (.cells #[.int .i64 0] 28)) w.heap.size (w.heap.size + 1 + 1) e l x w') := Lib.hid fun w2 g1 g2 g3 g4 g5 => by
    refine Fa.attempt_c 43 _ w2 _ (enters_of Tryd.func43 (by kernel_rfl) rfl _) ?_
    have ga : Below w2.heap.size w2 (w2.alloc (.cells #[.int .i64 0] 28)) := (Below.refl _ _).alloc (Nat.le_refl _) _
    have gb := g1.trans (ga.mono (by omega))
    exact report1_any (HRP.out _ gb) (by omega) (by omega) (by omega) (BlkIs.new w2 _ _) (g2.alloc _) (g3.alloc _) (g4.alloc _)
  clear k0 k1 k2 kB kz HRP
  go_enter Tryd.func24, Tryd.ntmps24
  go_wp2_with fail
  refine (HAT.out _ HKB.out.1 HKB.out.2.1 HKB.out.2.2.1 HKB.out.2.2.2.1 HKB.out.2.2.2.2).mono ?_
  rintro r w3 ⟨x, rfl, hbel, hx, hq⟩
  have HB3 : Below w.heap.size w w3 := (HKB.out.1.alloc (by simp; omega) _).trans hbel
  have HBH := Lib.hid HB3
  subst hx
  clear hbel HB3 HAT HKB
  rcases hq with ⟨h1, v4, h3, h4⟩ | ⟨h1, h3⟩
  · have y0 := (h3.cell 0).trans (rfl : _ = some v4)
    obtain ⟨A6, c6, rfl, hs1, hs2⟩ := own_slice h4
    have HF := Lib.hid (And.intro h1 (And.intro (Own5.bts h4) (And.intro hs1 (And.intro hs2 (own5_nilm h4)))))
    clear h1 h3 h4 hs1 hs2
    generalize hrn : (repS e l).length = rn at *
    have HRN := Lib.hid hrn
    clear hrn
    go_wp2_with fail
    refine bodyPost_ret (results_tmp2 rfl _ _ _) rfl ?_
    exact ⟨HBH.out, _, rfl, .inl ⟨HF.out.1, A6, c6, by rw [HRN.out]; rfl, HF.out.2.1, by rw [HRN.out]; exact HF.out.2.2.1, HF.out.2.2.2.1, HF.out.2.2.2.2⟩⟩
  · have y0 := (h3.cell 0).trans (rfl : _ = some (Value.slice none 0 0))
    have HF := Lib.hid h1
    clear h1 h3
    go_wp2_with fail
    refine bodyPost_ret (results_tmp2 rfl _ _ _) rfl ?_
    exact ⟨HBH.out, _, rfl, .inr ⟨HF.out, rfl⟩⟩
set_option maxHeartbeats 3200000 in
theorem lback_any {w : World} {x : Value} {e : Env} {A : Option Addr} {l : L} (he : EnvAt w w.heap.size x e) (ht : ∀ k, (e.2.1.getD k []).length ≤ 140737488355328) (hf : e.1.length ≤ 140737488355328) (hv0 : -9223372036854775808 ≤ e.2.2) (hv1 : e.2.2 < 9223372036854775808)
    (h : Bts w w.heap.size A l) (c : Nat) (hc : l.length ≤ c) (hm : c ≤ maxLen) (hA : A = none → c = 0) (hT : GlT w) (hE : GlE w) (hG : GlM w) :
    Calls Tryd.prog 9 #[x, .slice A l.length c] w fun r w' => r = .returned (.bool true) ∧ Below w.heap.size w w' := by
  have HGT := Lib.hid (fun (X : World) (hX : Below w.heap.size w X) => And.intro (hT.below hX hT.lt) (And.intro (hG.below hX hG.lt) (hE.below hX hE.lt)))
  have HAW := Lib.hid (fun (X : World) (hX : Below w.heap.size w X) => awake_any X (HGT.out X hX).1 (HGT.out X hX).2.1)
  have HSM := Lib.hid (fun hf hn => small_of (e := e) ht hv0 hv1 hf hn)
  have HR1 : Hid (∀ X, Below w.heap.size w X → SmallE e → l.length ≤ 1000 → Calls Tryd.prog 24 #[x, .slice A l.length c] X (RepO X e l)) := Lib.hid fun X hX hs hl => report_own ((he.below hX).more hX.size) hs ((h.below hX).more hX.size) c hc hm hA (by omega) (HGT.out X hX).1 (HGT.out X hX).2.1
  have HRD : Hid (∀ X, Below w.heap.size w X → SmallE e → l.length ≤ 1000 → errS e l = 0 → ∀ A1 c1, Bts X X.heap.size A1 (repS e l) → (repS e l).length ≤ c1 → c1 ≤ maxLen → (A1 = none → c1 = 0) → Calls Tryd.prog 26 #[.slice A1 (repS e l).length c1] X fun r w' => Below X.heap.size X w' ∧ ∃ y A2 c2, r = .returned (.tuple #[y, .slice A2 l.length c2, .int .i64 0]) ∧ EnvAt w' w'.heap.size y e ∧ Bts w' w'.heap.size A2 l) := Lib.hid fun X hX hs hl h0 A1 c1 hb1 h1 h2 h3 => (Read_any hb1 c1 h1 h2 h3 (rep_len h0 hs hl) (HGT.out X hX).2.1 (HGT.out X hX).1 (HGT.out X hX).2.2).mono fun r w' hq => by
    obtain ⟨hbl, ⟨hm, _⟩ | ⟨en, b, y, A2, c2, hm, rfl, hy, hbt⟩⟩ := hq
    · rw [readM_rep h0 hs] at hm
      cases hm
    · rw [readM_rep h0 hs] at hm
      injection hm with hm
      injection hm with hm1 hm2
      subst hm1 hm2
      exact ⟨hbl, y, A2, c2, rfl, hy, hbt⟩
  have HSA : Hid (∀ X y, Below w.heap.size w X → EnvAt X X.heap.size y e → Calls Tryd.prog 27 #[x, y] X fun r w' => r = .returned (.bool true) ∧ Below X.heap.size X w') := Lib.hid fun X y hX hy => rsame_any ((he.below hX).more hX.size) hy
  have HCL : Hid (∀ X A1 c1, Bts X X.heap.size A1 l → (convert 22 9 (.slice A1 l.length c1)).run Tryd.prog X = .ok (.string (str l)) X) := Lib.hid fun X A1 c1 h => conv_str h c1
  have HL := Lib.hid h
  have hfz := str_size e.1
  obtain ⟨AT, cT, rfl, hTx, hc1, hc2⟩ := he
  have HFW := Lib.hid (fun X => few_any X (str e.1) AT A e.2.1.length cT l.length c e.2.2 (by omega))
  have hsz0 : (str e.1).size = e.1.length := str_size e.1
  clear h hTx ht hv0 hv1 hT hG hA hf
  unfold RepO at HR1
  unfold FewP at HFW
  rw [hsz0] at HFW
  clear hsz0
  generalize hrn : (repS e l).length = rn at *
  have HRN := Lib.hid hrn
  clear hrn
  generalize str (repS e l) = sr at *
  generalize errS e l = er at *
  generalize str e.1 = sf at *
  generalize e.2.1.length = tn at *
  generalize e.2.2 = v at *
  generalize l.length = ln at *
  have hqn := BlkIs.new w 40 #[.string sf, .slice AT tn cT, .int .i64 v]
  have HQ := Lib.hid hqn
  have HB0 : Hid (Below w.heap.size w (w.alloc (.cells #[.string sf, .slice AT tn cT, .int .i64 v] 40))) := Lib.hid ((Below.refl _ _).alloc (Nat.le_refl _) _)
  clear hqn
  have HA1 := Lib.hid (HAW.out _ HB0.out)
  go_enter Tryd.func9, Tryd.ntmps9
  go_wp2_with fail
  refine HA1.out.mono ?_
  rintro r w1 ⟨rfl, b1⟩
  have B1 := Lib.hid (HB0.out.trans (b1.mono HB0.out.size))
  have Q1 : Hid (BlkIs w1 w.heap.size 40 #[.string sf, .slice AT tn cT, .int .i64 v]) := Lib.hid ((b1.block _ HQ.out.lt).trans HQ.out)
  clear b1 HA1
  have z0 := (BlkIs.cell Q1.out 0).trans (rfl : _ = some (Value.string sf))
  have z1 := (BlkIs.cell Q1.out 1).trans (rfl : _ = some (Value.slice AT tn cT))
  have z2 := (BlkIs.cell Q1.out 2).trans (rfl : _ = some (Value.int .i64 v))
  go_wp2_with fail
  refine (HFW.out w1).mono ?_
  rintro r w2 ⟨⟨b, rfl, hb⟩, b2⟩
  have HFB := Lib.hid hb
  have B2 := Lib.hid (B1.out.trans (b2.mono B1.out.size))
  have Q2 : Hid (BlkIs w2 w.heap.size 40 #[.string sf, .slice AT tn cT, .int .i64 v]) := Lib.hid ((b2.block _ Q1.out.lt).trans Q1.out)
  clear b2 hb z0 z1 z2
  cases b with
  | false =>
    go_wp2_with fail
    go_ret
    exact ⟨rfl, B2.out⟩
  | true =>
    have hfb := HFB.out rfl
    have HSE := Lib.hid (HSM.out hfb.1 hfb.2.1)
    have HC1 := Lib.hid (HR1.out w2 B2.out HSE.out hfb.2.2)
    have z0 := (BlkIs.cell Q2.out 0).trans (rfl : _ = some (Value.string sf))
    have z1 := (BlkIs.cell Q2.out 1).trans (rfl : _ = some (Value.slice AT tn cT))
    have z2 := (BlkIs.cell Q2.out 2).trans (rfl : _ = some (Value.int .i64 v))
    have HLN := Lib.hid hfb.2.2
    clear hfb
    go_wp2_with fail
    refine HC1.out.mono ?_
    rintro r w3 ⟨b3, v1, rfl, hq1⟩
    have B3 := Lib.hid (B2.out.trans (b3.mono B2.out.size))
    have Q3 : Hid (BlkIs w3 w.heap.size 40 #[.string sf, .slice AT tn cT, .int .i64 v]) := Lib.hid ((b3.block _ Q2.out.lt).trans Q2.out)
    clear b3 z0 z1 z2 HC1
    rcases hq1 with ⟨h0, A1, c1, rfl, hbt1, hc3, hc4, hc5⟩ | ⟨h0, rfl⟩
    · have HC2 := Lib.hid (HRD.out w3 B3.out HSE.out HLN.out h0 A1 c1 hbt1 hc3 hc4 hc5)
      subst h0
      clear hbt1 hc3 hc4 hc5
      go_wp2_with fail
      refine HC2.out.mono ?_
      rintro r w4 ⟨b4, y, A2, c2, rfl, hy, hbt2⟩
      have B4 := Lib.hid (B3.out.trans (b4.mono B3.out.size))
      have Q4 : Hid (BlkIs w4 w.heap.size 40 #[.string sf, .slice AT tn cT, .int .i64 v]) := Lib.hid ((b4.block _ Q3.out.lt).trans Q3.out)
      have HY := Lib.hid hy
      have HT2 := Lib.hid hbt2
      obtain ⟨A3, c3, rfl, _, _, _⟩ := hy
      clear hbt2 b4 HC2
      generalize str e.1 = sf3 at *
      generalize e.2.1.length = tn3 at *
      generalize e.2.2 = v3 at *
      have R5 := BlkIs.new w4 40 #[.string sf3, .slice A3 tn3 c3, .int .i64 v3]
      have Q5 := Q4.out.alloc (.cells #[.string sf3, .slice A3 tn3 c3, .int .i64 v3] 40)
      have b5 : Below w4.heap.size w4 (w4.alloc (.cells #[.string sf3, .slice A3 tn3 c3, .int .i64 v3] 40)) := (Below.refl _ _).alloc (Nat.le_refl _) _
      have HC3 := Lib.hid (HSA.out _ _ (B4.out.trans (b5.mono B4.out.size)) ((HY.out.below b5).more b5.size))
      have B5 := Lib.hid (B4.out.trans (b5.mono B4.out.size))
      have HT5 := Lib.hid ((HT2.out.below b5).more b5.size)
      clear b5
      have z0 := (BlkIs.cell Q5 0).trans (rfl : _ = some (Value.string sf))
      have z1 := (BlkIs.cell Q5 1).trans (rfl : _ = some (Value.slice AT tn cT))
      have z2 := (BlkIs.cell Q5 2).trans (rfl : _ = some (Value.int .i64 v))
      have y0 := (BlkIs.cell R5 0).trans (rfl : _ = some (Value.string sf3))
      have y1 := (BlkIs.cell R5 1).trans (rfl : _ = some (Value.slice A3 tn3 c3))
      have y2 := (BlkIs.cell R5 2).trans (rfl : _ = some (Value.int .i64 v3))
      clear Q5 R5
      go_wp2_with fail
      refine HC3.out.mono ?_
      rintro r w5 ⟨rfl, b6⟩
      have B6 := Lib.hid (B5.out.trans (b6.mono B5.out.size))
      have hv1 := HCL.out w5 A c ((HL.out.below B6.out).more B6.out.size)
      have hv2 := HCL.out w5 A2 c2 ((HT5.out.below b6).more b6.size)
      generalize str l = sl at *
      clear b6 HC3 z0 z1 z2 y0 y1 y2
      go_wp2_with fail
      go_ret
      exact ⟨by first | rfl | simp, B6.out⟩
    · have h0' : (er : Int) ≠ 0 := by omega
      clear h0
      go_wp2_with fail
      go_ret
      exact ⟨by first | rfl | simp, B3.out⟩
end Mi
end Go.Proofs.YtamekflgidfnfaaDoor
