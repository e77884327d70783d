/- RcLawE. Conditions: as stated at each. -/
import Derived.Test.YteapnkedpmcokaaGreatDoorRm46
/- Few; the statement on Encode. Conditions: as stated at each. -/
namespace Go.Proofs.YteapnkedpmcokaaGreatDoor
set_option maxRecDepth 100000
namespace Rc
open Go.RowKit Go Go.Proofs.YteapnkedpmcokaaGreatDoor.Pa
attribute [local go_sem] Oper.semAt_some
/-- what a parameter has. -/
structure InR (r : R) : Prop where
  m : En.InM r.msg
  nm : r.nm.length ≤ 140737488355328
  who : r.who.length ≤ 140737488355328
  p0 : -9223372036854775808 ≤ r.pid
  p1 : r.pid < 9223372036854775808
  t0 : -9223372036854775808 ≤ r.pat
  t1 : r.pat < 9223372036854775808
/-- what is few. -/
structure FewR (r : R) : Prop where
  m : r.msg.cls.length ≤ 50 ∧ r.msg.fr.length ≤ 300 ∧ (r.msg.tos.length ≤ 10 ∨ r.msg.tos.length = 101) ∧ r.msg.body.length ≤ 1000
  nm : r.nm.length ≤ 100
  who : r.who.length ≤ 300
theorem InR.small {r : R} (h : InR r) (hf : FewR r) : SmallR r := ⟨h.m.small hf.m, by have := hf.nm; omega, by have := hf.who; omega, h.p0, h.p1, h.t0, h.t1⟩
def FewP (w : World) (r : R) (e : Ending) (w' : World) : Prop := (∃ b : Bool, e = .returned (.bool b) ∧ (b = true → FewR r)) ∧ Below w.heap.size w w'
set_option maxHeartbeats 3200000 in
theorem few16 {w : World} {X : List Value} {r : R} (hR : RecAt w w.heap.size X r) (hi : InR r) :
    Calls Tryz.prog 8 #[.agg X.toArray] w (FewP w r) := by
  obtain ⟨v1, v2, rfl, hA, hk⟩ := hR
  have HFW := Lib.hid (fun (W : World) (hW : Below w.heap.size w W) => En.few_any ((hA.below hW).more hW.size) (by have := hi.m.fl; omega) (by have := hi.m.cl; omega))
  have hB := BlkIs.new w 36 (rc r v1 v2).toArray
  have hF := fields (blk_rng hB) hk
  have HY := Lib.hid hF.m
  have HB := Lib.hid hB
  have HF7 : Hid (∀ W, BlkIs W w.heap.size 36 (rc r v1 v2).toArray → W.cell? ⟨w.heap.size, 107, none⟩ = some (.string (str r.nm)) ∧ W.cell? ⟨w.heap.size, 108, none⟩ = some (.string (str r.who))) := Lib.hid fun W h => ⟨(fields (blk_rng h) hk).h 0 _ rfl, (fields (blk_rng h) hk).h 1 _ rfl⟩
  have HI : Hid ((Tryz.prog.info? 27).map (·.size) = some (mc r.msg v1 v2).length) := Lib.hid isz_m
  have hs1 := str_size r.nm
  have hs2 := str_size r.who
  have HB0 : Hid (Below w.heap.size w (w.alloc (.cells (rc r v1 v2).toArray 36))) := Lib.hid ((Below.refl _ _).alloc (Nat.le_refl _) _)
  unfold En.FewP at HFW
  clear hA hk hB hF hi
  generalize rc r v1 v2 = X at *
  generalize mc r.msg v1 v2 = Y at *
  have HS := Lib.hid (And.intro hs1 hs2)
  clear hs1 hs2
  generalize str r.nm = s0 at *
  generalize str r.who = s1 at *
  go_enter Tryz.func8, Tryz.ntmps8
  go_wp2_with (first
    | (refine wpList_load_mid rfl 27 (.tmp 3) rfl w.heap.size 1 rfl Y _ HY.out Tryz.underlying27 rfl HI.out ?_)
    | fail)
  refine (HFW.out _ HB0.out).mono ?_
  rintro e w2 ⟨⟨b, rfl, hfew⟩, hb2⟩
  have HB2 := Lib.hid (HB0.out.trans (hb2.mono HB0.out.size))
  have hX2 : BlkIs w2 w.heap.size 36 X.toArray := (hb2.block _ HB.out.lt).trans HB.out
  obtain ⟨c7, c8⟩ := HF7.out w2 hX2
  have HFE := Lib.hid hfew
  clear hb2 hX2 HFW HF7 HB0 HB HY HI hfew
  cases b with
  | false =>
    go_wp2_with fail
    go_ret
    unfold FewP
    exact ⟨⟨false, rfl, fun h => by cases h⟩, HB2.out⟩
  | true =>
    by_cases h1 : s0.size ≤ 100
    · by_cases h2 : s1.size ≤ 300
      · have HQ : Hid (FewR r) := Lib.hid ⟨HFE.out rfl, by rw [← HS.out.1]; exact h1, by rw [← HS.out.2]; exact h2⟩
        have h1' : (s0.size : Int) ≤ 100 := by omega
        have h2' : (s1.size : Int) ≤ 300 := by omega
        go_wp2_with fail
        go_ret
        unfold FewP
        exact ⟨⟨true, rfl, fun _ => HQ.out⟩, HB2.out⟩
      · have h1' : (s0.size : Int) ≤ 100 := by omega
        have H2 : Hid (¬ (s1.size : Int) ≤ 300) := Lib.hid (by omega)
        go_wp2_with fail
        go_ret
        unfold FewP
        exact ⟨⟨decide ((s1.size : Int) ≤ 300), rfl, fun h => by have h1 := H2.out; have h2 := of_decide_eq_true h; omega⟩, HB2.out⟩
    · have h1' : ¬ (s0.size : Int) ≤ 100 := by omega
      go_wp2_with fail
      go_ret
      unfold FewP
      exact ⟨⟨false, rfl, fun h => by cases h⟩, HB2.out⟩
set_option maxHeartbeats 3200000 in
theorem lencodes16 {w : World} {X : List Value} {r : R} (hR : RecAt w w.heap.size X r) (hi : InR r) (hG : En.GlT w) :
    Calls Tryz.prog 3 #[.agg X.toArray] w fun e w' => e = .returned (.bool true) ∧ Below w.heap.size w w' := by
  have HRW := fun (W : World) (h : Below w.heap.size w W) => (hR.below h).more h.size
  have HGT := fun (W : World) (h : Below w.heap.size w W) => hG.below h hG.lt
  have HAW := Lib.hid (fun W (h : Below w.heap.size w W) => awake16 W (HGT W h))
  have HFW := Lib.hid (fun W (h : Below w.heap.size w W) => few16 (HRW W h) hi)
  have HEN := Lib.hid (fun W (h : Below w.heap.size w W) (hf : FewR r) => Encode_any (HRW W h) (hi.small hf) (HGT W h))
  have HRE := Lib.hid (fun W (h : Below w.heap.size w W) (hf : FewR r) => rEncode_any (HRW W h) (hi.small hf) (HGT W h))
  have HLX := Lib.hid hR.len
  have HB0 : Hid (Below w.heap.size w (w.alloc (.cells X.toArray 36))) := Lib.hid ((Below.refl _ _).alloc (Nat.le_refl _) _)
  have HN0 := Lib.hid (BlkIs.new w 36 X.toArray)
  have HI : Hid ((Tryz.prog.info? 36).map (·.size) = some X.length) := Lib.hid (by rw [HLX.out]; exact isz_r)
  unfold FewP at HFW
  unfold EncRP at HEN HRE
  clear hR hi hG HRW HGT
  generalize encR r = o at *
  rcases o with ⟨t, z⟩
  dsimp only at HEN HRE
  go_enter Tryz.func3, Tryz.ntmps3
  go_wp2_with fail
  refine (HAW.out _ HB0.out).mono ?_
  rintro e w2 ⟨rfl, hb2⟩
  have HB2 := Lib.hid (HB0.out.trans (hb2.mono HB0.out.size))
  have HN2 : Hid (BlkIs w2 w.heap.size 36 X.toArray) := Lib.hid ((hb2.block _ HN0.out.lt).trans HN0.out)
  clear hb2 HAW HB0 HN0
  go_wp2_with (first
    | (refine wpList_load_mid rfl 36 (.tmp 1) rfl w.heap.size 0 rfl X _ (blk_rng HN2.out) Tryz.underlying36 rfl HI.out ?_)
    | fail)
  refine (HFW.out _ HB2.out).mono ?_
  rintro e w3 ⟨⟨b, rfl, hfew⟩, hb3⟩
  have HB3 := Lib.hid (HB2.out.trans (hb3.mono HB2.out.size))
  have HN3 : Hid (BlkIs w3 w.heap.size 36 X.toArray) := Lib.hid ((hb3.block _ HN2.out.lt).trans HN2.out)
  have HFE := Lib.hid hfew
  clear hb3 hfew HFW HB2 HN2
  cases b with
  | false =>
    go_wp2_with fail
    go_ret
    exact ⟨rfl, HB3.out⟩
  | true =>
    have hf := HFE.out rfl
    have HE3 := Lib.hid (HEN.out w3 HB3.out hf)
    have HRE2 := Lib.hid (fun W h => HRE.out W h hf)
    clear hf HEN HRE
    go_wp2_with (first
      | (refine wpList_load_mid rfl 36 (.tmp 1) rfl w.heap.size 0 rfl X _ (blk_rng HN3.out) Tryz.underlying36 rfl HI.out ?_)
      | fail)
    refine HE3.out.mono ?_
    rintro e w4 ⟨hb4, v, rfl, hv⟩
    have HB4 := Lib.hid (HB3.out.trans (hb4.mono HB3.out.size))
    have HN4 : Hid (BlkIs w4 w.heap.size 36 X.toArray) := Lib.hid ((hb4.block _ HN3.out.lt).trans HN3.out)
    have HE4 := Lib.hid (HRE2.out w4 HB4.out)
    have HV := Lib.hid hv
    clear hb4 hv HE3 HRE2 HB3 HN3
    go_wp2_with (first
      | (refine wpList_load_mid rfl 36 (.tmp 1) rfl w.heap.size 0 rfl X _ (blk_rng HN4.out) Tryz.underlying36 rfl HI.out ?_)
      | fail)
    refine HE4.out.mono ?_
    rintro e w5 ⟨hb5, v', rfl, hv'⟩
    have HB5 := Lib.hid (HB4.out.trans (hb5.mono HB4.out.size))
    rcases HV.out with ⟨h1, ho⟩ | ⟨h1, rfl⟩
    · rcases hv' with ⟨_, ho'⟩ | ⟨h2, _⟩
      · obtain ⟨A, c, rfl, _, _⟩ := own_slice ho
        obtain ⟨A', c', rfl, _, _⟩ := own_slice ho'
        have q1 := En.conv_str (ho.bts.below hb5) c
        have q2 := En.conv_str ho'.bts c'
        clear hb5 ho ho' HV HE4 HB4 HN4 h1
        generalize str t = s at *
        generalize t.length = tn at *
        go_wp2_with fail
        go_ret
        exact ⟨rfl, HB5.out⟩
      · exact absurd h1 h2
    · rcases hv' with ⟨h2, _⟩ | ⟨_, rfl⟩
      · exact absurd h2 h1
      · have q1 : (convert 25 9 (.slice none 0 0)).run Tryz.prog w5 = .ok (.string (str [])) w5 := En.conv_str (B := 0) (l := []) Cs.nil 0
        clear hb5 HV HE4 HB4 HN4 h1
        go_wp2_with fail
        go_ret
        exact ⟨rfl, HB5.out⟩
end Rc
end Go.Proofs.YteapnkedpmcokaaGreatDoor
