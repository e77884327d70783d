/- The walks of MimeBoundaries, MimeReports. Conditions: as stated at each. -/
import Derived.Test.YtamekflgidfnfaaDoorMiAwake
namespace Go.Proofs.YtamekflgidfnfaaDoor
set_option maxRecDepth 100000
namespace Mi
open Go.RowKit Go Go.Proofs.YtamekflgidfnfaaDoor.Pa
attribute [local go_sem] Oper.semAt_some
set_option maxHeartbeats 1600000 in
theorem lbound_any {w : World} {A : Option Addr} {l : L} (h : Bts w w.heap.size A l) (c : Nat) (hc : l.length ≤ c) (hm : c ≤ maxLen) (hA : A = none → c = 0) (hT : GlT w) (hG : GlM w) :
    Calls Tryd.prog 7 #[.slice A l.length c] w fun r w' => r = .returned (.bool true) ∧ Below w.heap.size w w' := by
  have HAW := Lib.hid (awake_any w hT hG)
  have HGT := Lib.hid (fun (X : World) (hX : Below w.heap.size w X) => And.intro (hT.below hX hT.lt) (hG.below hX hG.lt))
  have HB1 : Hid (∀ X, Below w.heap.size w X → l.length ≤ 1000 → Calls Tryd.prog 21 #[.slice A l.length c] X (BndP X l)) := Lib.hid fun X hX hl => boundary_any ((h.below hX).more hX.size) c hc hm hA (by omega) (HGT.out X hX).2 (HGT.out X hX).1
  have HB2 : Hid (∀ X, Below w.heap.size w X → l.length ≤ 1000 → Calls Tryd.prog 22 #[.slice A l.length c] X (BndP X l)) := Lib.hid fun X hX hl => rboundary_any ((h.below hX).more hX.size) c (by omega) (HGT.out X hX).1
  unfold BndP at HB1 HB2
  clear h hT hG hA
  generalize str (bndS l) = sb at *
  generalize l.length = n at *
  go_enter Tryd.func7, Tryd.ntmps7
  go_wp2_with fail
  refine HAW.out.mono ?_
  rintro r w1 ⟨rfl, b1⟩
  have B1 := Lib.hid b1
  clear b1 HAW
  by_cases hl : n ≤ 1000
  · have hl2 : ¬ (1000 : Int) < (n : Int) := by omega
    have HC1 := Lib.hid (HB1.out w1 B1.out hl)
    go_wp2_with fail
    refine HC1.out.mono ?_
    rintro r w2 ⟨rfl, b2⟩
    have B2 := Lib.hid (B1.out.trans (b2.mono B1.out.size))
    have HC2 := Lib.hid (HB2.out w2 B2.out hl)
    clear b2
    go_wp2_with fail
    refine HC2.out.mono ?_
    rintro r w3 ⟨rfl, b3⟩
    have B3 := Lib.hid (B2.out.trans (b3.mono B2.out.size))
    clear b3
    go_wp2_with fail
    go_ret
    exact ⟨by first | rfl | simp, B3.out⟩
  · have hl2 : (1000 : Int) < (n : Int) := by omega
    go_wp2_with fail
    go_ret
    exact ⟨by first | rfl | simp [hl2], B1.out⟩
theorem small_of {e : Env} (ht : ∀ k, (e.2.1.getD k []).length ≤ 140737488355328) (h0 : -9223372036854775808 ≤ e.2.2) (h1 : e.2.2 < 9223372036854775808) (hf : e.1.length ≤ 300) (hn : e.2.1.length ≤ 10 ∨ e.2.1.length = 101) : SmallE e := ⟨by omega, ht, by omega, h0, h1⟩
theorem conv_nil (X : World) : (convert 22 9 (.slice none 0 0)).run Tryd.prog X = .ok (.string (str [])) X := conv_str (B := 0) (l := []) Cs.nil 0
set_option maxHeartbeats 3200000 in
theorem lreports_any {w : World} {x : Value} {e : Env} {A : Option Addr} {l : L} (he : EnvAt w w.heap.size x e) (ht : ∀ k, (e.2.1.getD k []).length ≤ 140737488355328) (hf : e.1.length ≤ 140737488355328) (hv0 : -9223372036854775808 ≤ e.2.2) (hv1 : e.2.2 < 9223372036854775808)
    (h : Bts w w.heap.size A l) (c : Nat) (hc : l.length ≤ c) (hm : c ≤ maxLen) (hA : A = none → c = 0) (hT : GlT w) (hG : GlM w) :
    Calls Tryd.prog 8 #[x, .slice A l.length c] w fun r w' => r = .returned (.bool true) ∧ Below w.heap.size w w' := by
  have HGT := Lib.hid (fun (X : World) (hX : Below w.heap.size w X) => And.intro (hT.below hX hT.lt) (hG.below hX hG.lt))
  have HAW := Lib.hid (fun (X : World) (hX : Below w.heap.size w X) => awake_any X (HGT.out X hX).1 (HGT.out X hX).2)
  have HSM := Lib.hid (fun hf hn => small_of (e := e) ht hv0 hv1 hf hn)
  have HR1 : Hid (∀ X, Below w.heap.size w X → SmallE e → l.length ≤ 1000 → Calls Tryd.prog 24 #[x, .slice A l.length c] X (RepP X e l)) := Lib.hid fun X hX hs hl => report_any ((he.below hX).more hX.size) hs ((h.below hX).more hX.size) c hc hm hA (by omega) (HGT.out X hX).1 (HGT.out X hX).2
  have HR2 : Hid (∀ X, Below w.heap.size w X → SmallE e → l.length ≤ 1000 → Calls Tryd.prog 25 #[x, .slice A l.length c] X (RepP X e l)) := Lib.hid fun X hX hs hl => rreport_any ((he.below hX).more hX.size) hs ((h.below hX).more hX.size) c (by omega) (HGT.out X hX).1
  have hfz := str_size e.1
  obtain ⟨AT, cT, rfl, hTx, hc1, hc2⟩ := he
  have HFW := Lib.hid (fun X => few_any X (str e.1) AT A e.2.1.length cT l.length c e.2.2 (by omega))
  have HCV : Hid (∀ X A1 c1, Bts X X.heap.size A1 (repS e l) → (convert 22 9 (.slice A1 (repS e l).length c1)).run Tryd.prog X = .ok (.string (str (repS e l))) X) := Lib.hid fun X A1 c1 h => conv_str h c1
  have hcn := conv_nil
  have hsz0 : (str e.1).size = e.1.length := str_size e.1
  clear h hTx ht hv0 hv1 hT hG hA hf
  unfold RepP at HR1 HR2
  unfold FewP at HFW
  rw [hsz0] at HFW
  clear hsz0
  generalize hrn : (repS e l).length = rn at *
  have HRN := Lib.hid hrn
  clear hrn
  generalize str (repS e l) = sr at *
  generalize errS e l = er at *
  generalize str e.1 = sf at *
  generalize e.2.1.length = tn at *
  generalize e.2.2 = v at *
  generalize l.length = ln at *
  have hqn := BlkIs.new w 40 #[.string sf, .slice AT tn cT, .int .i64 v]
  have HQ := Lib.hid hqn
  have HB0 : Hid (Below w.heap.size w (w.alloc (.cells #[.string sf, .slice AT tn cT, .int .i64 v] 40))) := Lib.hid ((Below.refl _ _).alloc (Nat.le_refl _) _)
  clear hqn
  have HA1 := Lib.hid (HAW.out _ HB0.out)
  go_enter Tryd.func8, Tryd.ntmps8
  go_wp2_with fail
  refine HA1.out.mono ?_
  rintro r w1 ⟨rfl, b1⟩
  have B1 := Lib.hid (HB0.out.trans (b1.mono HB0.out.size))
  have Q1 : Hid (BlkIs w1 w.heap.size 40 #[.string sf, .slice AT tn cT, .int .i64 v]) := Lib.hid ((b1.block _ HQ.out.lt).trans HQ.out)
  clear b1 HA1
  have z0 := (BlkIs.cell Q1.out 0).trans (rfl : _ = some (Value.string sf))
  have z1 := (BlkIs.cell Q1.out 1).trans (rfl : _ = some (Value.slice AT tn cT))
  have z2 := (BlkIs.cell Q1.out 2).trans (rfl : _ = some (Value.int .i64 v))
  go_wp2_with fail
  refine (HFW.out w1).mono ?_
  rintro r w2 ⟨⟨b, rfl, hb⟩, b2⟩
  have HFB := Lib.hid hb
  have B2 := Lib.hid (B1.out.trans (b2.mono B1.out.size))
  have Q2 : Hid (BlkIs w2 w.heap.size 40 #[.string sf, .slice AT tn cT, .int .i64 v]) := Lib.hid ((b2.block _ Q1.out.lt).trans Q1.out)
  clear b2 hb z0 z1 z2
  cases b with
  | false =>
    go_wp2_with fail
    go_ret
    exact ⟨rfl, B2.out⟩
  | true =>
    have hfb := HFB.out rfl
    have HSE := Lib.hid (HSM.out hfb.1 hfb.2.1)
    have HC1 := Lib.hid (HR1.out w2 B2.out HSE.out hfb.2.2)
    have z0 := (BlkIs.cell Q2.out 0).trans (rfl : _ = some (Value.string sf))
    have z1 := (BlkIs.cell Q2.out 1).trans (rfl : _ = some (Value.slice AT tn cT))
    have z2 := (BlkIs.cell Q2.out 2).trans (rfl : _ = some (Value.int .i64 v))
    have HLN := Lib.hid hfb.2.2
    clear hfb
    go_wp2_with fail
    refine HC1.out.mono ?_
    rintro r w3 ⟨b3, v1, rfl, hq1⟩
    have B3 := Lib.hid (B2.out.trans (b3.mono B2.out.size))
    have Q3 : Hid (BlkIs w3 w.heap.size 40 #[.string sf, .slice AT tn cT, .int .i64 v]) := Lib.hid ((b3.block _ Q2.out.lt).trans Q2.out)
    have HQ1 := Lib.hid hq1
    have HC2 := Lib.hid (HR2.out w3 B3.out HSE.out HLN.out)
    clear b3 z0 z1 z2 hq1 HC1
    have z0 := (BlkIs.cell Q3.out 0).trans (rfl : _ = some (Value.string sf))
    have z1 := (BlkIs.cell Q3.out 1).trans (rfl : _ = some (Value.slice AT tn cT))
    have z2 := (BlkIs.cell Q3.out 2).trans (rfl : _ = some (Value.int .i64 v))
    go_wp2_with fail
    refine HC2.out.mono ?_
    rintro r w4 ⟨b4, v2, rfl, hq2⟩
    have B4 := Lib.hid (B3.out.trans (b4.mono B3.out.size))
    clear z0 z1 z2 HC2
    rcases HQ1.out with ⟨h0, A1, c1, rfl, hbt1⟩ | ⟨h0, rfl⟩
    · rcases hq2 with ⟨_, A2, c2, rfl, hbt2⟩ | ⟨h0', _⟩
      · have hv1 := HCV.out w4 A1 c1 ((hbt1.below b4).more b4.size)
        have hv2 := HCV.out w4 A2 c2 hbt2
        clear hbt1 hbt2 b4 h0 HQ1
        go_wp2_with fail
        go_ret
        exact ⟨by first | rfl | simp, B4.out⟩
      · exact absurd h0 h0'
    · rcases hq2 with ⟨h0', _⟩ | ⟨_, rfl⟩
      · exact absurd h0' h0
      · clear b4 h0 HQ1
        go_wp2_with fail
        go_ret
        exact ⟨by first | rfl | simp, B4.out⟩
end Mi
end Go.Proofs.YtamekflgidfnfaaDoor
