/- The statement on the way back. Conditions: as stated at each. -/
import Derived.Test.YtpfonpjcnpfipaaDoorEnDec
import Derived.Test.YtpfonpjcnpfipaaDoorEnSame
import Derived.Test.YtpfonpjcnpfipaaDoorEnAwake
import Derived.Deep.CutBlock
namespace Go.Proofs.YtpfonpjcnpfipaaDoor
set_option maxRecDepth 100000
namespace En
open Go.RowKit Go Go.Proofs.YtpfonpjcnpfipaaDoor.Pa
attribute [local go_sem] Oper.semAt_some
theorem enc_len2 {m : M} (h : okB m = true) (ht : m.at_ ≤ 9223372036854775807) (hf : m.tos.length ≤ 10 ∨ m.tos.length = 101) (hb : m.body.length ≤ 1000) : (putS (fldS m)).length ≤ 10000 := by
  obtain ⟨h1, h2, h3, h4, h5, h6, h7⟩ := ok_parts h
  rw [fld_is, put_app, put_one, List.length_append]
  have hc : m.cls.length ≤ 20 := by
    unfold Rt.smallS at h7
    rw [Bool.and_eq_true, decide_eq_true_eq] at h7
    omega
  have ha := put_len 400 (fiveS m ++ m.tos) (fun p hp => by
    unfold fiveS at hp
    simp only [List.mem_cons, List.mem_append, List.not_mem_nil, or_false] at hp
    rcases hp with (rfl | rfl | rfl | rfl | rfl) | hp
    · have := dec_len (n := m.id.toNat) (by omega); omega
    · omega
    · rcases h1 with h1 | h1
      · rw [h1]; simp
      · have := mail_len h1; omega
    · have := dec_len (n := m.at_.toNat) (by omega); omega
    · have := dec_len (n := m.tos.length) (by omega); omega
    · have := mail_len (h4 p hp); omega) (by omega)
  have hl : (fiveS m ++ m.tos).length ≤ 15 := by simp [fiveS]; omega
  have hb := dec_len (n := m.body.length) (by omega)
  have hm := Nat.mul_le_mul_right (400 + 32) hl
  simp only [partS, List.length_append, List.length_cons, List.length_nil] at *
  omega
/-- what follows once parts are right. -/
abbrev BkQ (w0 : World) (e : Ending) (w' : World) : Prop := e = .returned (.bool true) ∧ Below w0.heap.size w0 w'
set_option maxHeartbeats 6400000 in
theorem lback_any {w0 : World} {x : Value} {m : M} {A1 A2 : Option Addr} {a more : L} {ca cm : Nat} (h : MsgAt w0 w0.heap.size x m) (hi : InM m)
    (ha : Bts w0 w0.heap.size A1 a) (hca : a.length ≤ ca) (hma : ca ≤ maxLen) (hb : Bts w0 w0.heap.size A2 more) (hG : GlT w0) (hE : GlE w0) :
    Calls Tryd.prog 6 #[x, .slice A1 a.length ca, .slice A2 more.length cm] w0 (BkQ w0) := by
  have h0 := h
  obtain ⟨A, c, Ab, cb, rfl, hT, hc1, hc2, hB, hb1, hb2, hA⟩ := h
  have HM0 := Lib.hid (fun X (hX : Below w0.heap.size w0 X) => (h0.below hX).more hX.size)
  have HFW := Lib.hid (fun X (hX : Below w0.heap.size w0 X) => few_any (HM0.out X hX) (by have := hi.fl; omega) (by have := hi.cl; omega))
  have HG := Lib.hid (fun (X : World) (hX : Below w0.heap.size w0 X) => And.intro (hG.below hX hG.lt) (hE.below hX hE.lt))
  have HEN := Lib.hid (fun X (hX : Below w0.heap.size w0 X) (hs : SmallM m) => encode_any (HM0.out X hX) hs (HG.out X hX).1)
  have HSM := Lib.hid hi.small
  have HAW := Lib.hid (fun X (hX : Below w0.heap.size w0 X) => awake_any X (hG.below hX hG.lt))
  have HPU := Lib.hid (fun X (hX : Below w0.heap.size w0 X) (hl : a.length ≤ 2000) => put_any (w := X.alloc (.cells #[.slice A1 a.length ca] 22)) ((Rws.one ((ha.below hX).more hX.size) (Nat.le_refl _) hca hma).more (by simp)) 1 1 rfl (by rw [put_one]; have := dec_len (n := a.length) (by omega); simp only [partS, List.length_append, List.length_cons, List.length_nil]; omega) (HG.out _ (hX.alloc hX.size _)).1)
  have HBM := Lib.hid (fun X (hX : Below w0.heap.size w0 X) => hb.below hX)
  have HCA := Lib.hid (fun X (hX : Below w0.heap.size w0 X) => conv_str (ha.below hX) ca)
  have HCM := Lib.hid (fun X (hX : Below w0.heap.size w0 X) => conv_str (hb.below hX) cm)
  have HTK : Hid (a.length ≤ 2000 → takeS (partS a ++ more) = some (a, more)) := Lib.hid fun h => take_part more (by omega)
  have HPL : Hid (a.length ≤ 2000 → more.length ≤ 500 → (partS a).length ≤ 3000) := Lib.hid fun h1 h2 => by
    have := dec_len (n := a.length) (by omega)
    simp only [partS, List.length_append, List.length_cons, List.length_nil]
    omega
  have HDC : Hid (okB m = true → decS (putS (fldS m)) = some m) := Lib.hid fun h => dec_enc (by have := hi.v1; omega) (by unfold encS; rw [if_pos h])
  have HEL : Hid (okB m = true → (m.tos.length ≤ 10 ∨ m.tos.length = 101) → m.body.length ≤ 1000 → (putS (fldS m)).length ≤ 10000) := Lib.hid fun h1 h2 h3 => enc_len2 h1 (by have := hi.v1; omega) h2 h3
  clear h0 hT hB ha hb hG hE hi
  simp only [put_one] at HPU
  unfold EncodeP at HEN
  unfold FewP at HFW
  generalize hal : a.length = na at *
  generalize hml : more.length = nm at *
  have HNL := Lib.hid (And.intro hal hml)
  clear hal hml
  have hqn := BlkIs.new w0 32 #[.int .i64 m.id, .string (str m.cls), .string (str m.fr), .slice A m.tos.length c, .int .i64 m.at_, .slice Ab m.body.length cb]
  have HB1 : Hid (Below w0.heap.size w0 (w0.alloc (.cells #[.int .i64 m.id, .string (str m.cls), .string (str m.fr), .slice A m.tos.length c, .int .i64 m.at_, .slice Ab m.body.length cb] 32))) := Lib.hid ((Below.refl _ _).alloc (Nat.le_refl _) _)
  have HQ1 := Lib.hid hqn
  clear hqn
  generalize hsc : str m.cls = sc at *
  generalize hsf : str m.fr = sf at *
  generalize hn : m.tos.length = n at *
  generalize hbn : m.body.length = bn at *
  generalize ht : m.at_ = t at *
  generalize hid : m.id = id at *
  have HLT := Lib.hid (And.intro hsc (And.intro hsf (And.intro hn (And.intro hbn (And.intro ht hid)))))
  clear hsc hsf hn hbn ht hid
  have HA1 := Lib.hid (HAW.out _ HB1.out)
  clear HAW
  go_enter Tryd.func6, Tryd.ntmps6
  go_wp2_with fail
  refine HA1.out.mono ?_
  rintro e w2 ⟨rfl, hb2⟩
  have HB2 := Lib.hid (HB1.out.trans (hb2.mono HB1.out.size))
  have HQ2 : Hid (BlkIs w2 w0.heap.size 32 #[.int .i64 id, .string sc, .string sf, .slice A n c, .int .i64 t, .slice Ab bn cb]) := Lib.hid ((hb2.block _ HQ1.out.lt).trans HQ1.out)
  clear hb2 HA1 HB1 HQ1
  have HF1 := Lib.hid (HFW.out w2 HB2.out)
  have z0 := (BlkIs.cell HQ2.out 0).trans (rfl : _ = some (Value.int .i64 id))
  have z1 := (BlkIs.cell HQ2.out 1).trans (rfl : _ = some (Value.string sc))
  have z2 := (BlkIs.cell HQ2.out 2).trans (rfl : _ = some (Value.string sf))
  have z3 := (BlkIs.cell HQ2.out 3).trans (rfl : _ = some (Value.slice A n c))
  have z4 := (BlkIs.cell HQ2.out 4).trans (rfl : _ = some (Value.int .i64 t))
  have z5 := (BlkIs.cell HQ2.out 5).trans (rfl : _ = some (Value.slice Ab bn cb))
  clear HFW
  go_wp2_with fail
  refine HF1.out.mono ?_
  rintro e w3 ⟨⟨b, rfl, hfew⟩, hb3⟩
  have HFE := Lib.hid hfew
  have HB3 := Lib.hid (HB2.out.trans (hb3.mono HB2.out.size))
  have HQ3 : Hid (BlkIs w3 w0.heap.size 32 #[.int .i64 id, .string sc, .string sf, .slice A n c, .int .i64 t, .slice Ab bn cb]) := Lib.hid ((hb3.block _ HQ2.out.lt).trans HQ2.out)
  clear hfew hb3 z0 z1 z2 z3 z4 z5 HF1 HQ2 HB2
  cases b with
  | false =>
    go_wp2_with fail
    go_ret
    exact ⟨rfl, HB3.out⟩
  | true =>
    have HFX := Lib.hid (HFE.out rfl)
    have HS := Lib.hid (HSM.out HFX.out)
    clear HFE HSM
    by_cases h1 : (2000 : Int) < na
    · go_wp2_with fail
      go_ret
      exact ⟨rfl, HB3.out⟩
    by_cases h2 : (500 : Int) < nm
    · go_wp2_with fail
      go_ret
      exact ⟨rfl, HB3.out⟩
    have HP1 := Lib.hid (HPU.out w3 HB3.out (by omega))
    have HTK1 := Lib.hid (HTK.out (by omega))
    have HPL1 := Lib.hid (HPL.out (by omega) (by omega))
    have HBA3 : Hid (Below w3.heap.size w3 (w3.alloc (.cells #[.slice A1 na ca] 22))) := Lib.hid ((Below.refl _ _).alloc (Nat.le_refl _) _)
    have HZ3 : Hid (w0.heap.size < w3.heap.size) := Lib.hid HQ3.out.lt
    clear HPU HTK HPL
    unfold OutP at HP1
    go_wp2_with fail
    refine HP1.out.mono ?_
    rintro e w4 ⟨v4, rfl, ho4, hb4⟩
    have HB4 := Lib.hid (HB3.out.trans ((HBA3.out.trans (hb4.mono HBA3.out.size)).mono HB3.out.size))
    have HQ4 : Hid (BlkIs w4 w0.heap.size 32 #[.int .i64 id, .string sc, .string sf, .slice A n c, .int .i64 t, .slice Ab bn cb]) := Lib.hid (((HBA3.out.trans (hb4.mono HBA3.out.size)).block _ HQ3.out.lt).trans HQ3.out)
    have HO4 : Hid (Own5 w4 w3.heap.size v4 (partS a)) := Lib.hid (own_more ho4 (by simp))
    have hz4 : w3.heap.size ≤ w4.heap.size := by have := hb4.size; simp at this; omega
    obtain ⟨Av, cv, rfl, _, _⟩ := own_slice ho4
    clear ho4 hb4 HP1 HQ3 HBA3
    generalize hpl : (partS a).length = pl at *
    have HPLL := Lib.hid hpl
    clear hpl
    go_upto_region 6 with (first
      | (refine app5 (.tmp 32) (.tmp 33) rfl rfl _ _ (partS a) more rfl HO4.out _ _ _ (by rw [HNL.out.2]; rfl) (HBM.out _ HB4.out) (by rw [HPLL.out, HNL.out.2]; have := HPL1.out; omega) hz4 ?_; intro v5 w5 g1 g2; have HO5 : Hid (Own5 w5 w3.heap.size v5 (partS a ++ more)) := Lib.hid g1; have HB5 := Lib.hid (HB4.out.grown g2 HB4.out.size (fun k hk => by have h3 := (HO4.out.lt k hk).1; have := HZ3.out; omega)); have HQ5 := Lib.hid (HQ4.out.grown g2 (fun e => by have h3 := (HO4.out.lt _ e).1; have := HZ3.out; omega)); obtain ⟨A5, c5, e5, l5, m5⟩ := own_slice g1; subst e5; have hT5 := take_any (w := w5) (B := w5.heap.size) HO5.out.bts (Nat.le_refl _) c5 l5 m5 (own5_nil HO5.out) (by rw [List.length_append, HPLL.out, HNL.out.2]; have := HPL1.out; omega) (HG.out _ HB5.out).1 (HG.out _ HB5.out).2; have HT5 := Lib.hid hT5; clear hT5 HO5; generalize hq : (partS a ++ more).length = l9 at *; clear hq; clear g1 g2 l5 m5)
      | (go_at_call 10; refine HT5.out.mono ?_; rintro e w6 ⟨hb6, htk⟩; have HB6 := Lib.hid (HB5.out.trans (hb6.mono HB5.out.size)); have HQ6 : Hid (BlkIs w6 w0.heap.size 32 #[.int .i64 id, .string sc, .string sf, .slice A n c, .int .i64 t, .slice Ab bn cb]) := Lib.hid ((hb6.block _ HQ5.out.lt).trans HQ5.out); replace htk := htk.resolve_left (fun h => by (have h1 := h.1; rw [HTK1.out] at h1; cases h1)); obtain ⟨p, r, hn6, v1, v2, rfl, ho1, ho2⟩ := htk; rw [HTK1.out] at hn6; injection hn6 with hn6; injection hn6 with e1 e2; subst e1; subst e2; obtain ⟨B1, d1, rfl, _, _⟩ := own_slice ho1; obtain ⟨B2, d2, rfl, _, _⟩ := own_slice ho2; have hs1 := conv_str (Own5.bts ho1) d1; have hs2 := conv_str (Own5.bts ho2) d2; have hs3 := HCA.out w6 HB6.out; have hs4 := HCM.out w6 HB6.out; rw [HNL.out.1] at hs1; rw [HNL.out.2] at hs2; rw [HNL.out.1, HNL.out.2]; have HE1 := Lib.hid (HEN.out w6 HB6.out HS.out); have z0 := (BlkIs.cell HQ6.out 0).trans (rfl : _ = some (Value.int .i64 id)); have z1 := (BlkIs.cell HQ6.out 1).trans (rfl : _ = some (Value.string sc)); have z2 := (BlkIs.cell HQ6.out 2).trans (rfl : _ = some (Value.string sf)); have z3 := (BlkIs.cell HQ6.out 3).trans (rfl : _ = some (Value.slice A n c)); have z4 := (BlkIs.cell HQ6.out 4).trans (rfl : _ = some (Value.int .i64 t)); have z5 := (BlkIs.cell HQ6.out 5).trans (rfl : _ = some (Value.slice Ab bn cb)); clear ho1 ho2 hb6 HT5)
      | fail)
    clear HB5 HQ5 HTK1 HPL1 HBM HCA HCM HO4 HB4 HQ4 HEN
    generalize str a = sa at *
    generalize str more = sm at *
    cases hok : okB m with
    | false =>
      rw [hok] at HE1
      have en : numE false = 150 := rfl
      rw [en] at HE1
      go_wp2_with fail
      refine HE1.out.mono ?_
      rintro e w7 ⟨hb7, v7, rfl, ⟨h, _⟩ | ⟨_, rfl⟩⟩
      · cases h
      have HB7 := Lib.hid (HB6.out.trans (hb7.mono HB6.out.size))
      clear hb7 HE1
      go_wp2_with fail
      go_ret
      exact ⟨by first | rfl | simp, HB7.out⟩
    | true =>
      rw [hok] at HE1
      have en : numE true = 0 := rfl
      rw [en] at HE1
      go_wp2_with fail
      refine HE1.out.mono ?_
      rintro e w7 ⟨hb7, v7, rfl, ⟨_, ho7⟩ | ⟨h, _⟩⟩
      · have HB7 := Lib.hid (HB6.out.trans (hb7.mono HB6.out.size))
        have HQ7 : Hid (BlkIs w7 w0.heap.size 32 #[.int .i64 id, .string sc, .string sf, .slice A n c, .int .i64 t, .slice Ab bn cb]) := Lib.hid ((hb7.block _ HQ6.out.lt).trans HQ6.out)
        obtain ⟨A7, c7, rfl, l7, m7⟩ := own_slice ho7
        have HD7 := Lib.hid (decode_any (w := w7) ho7.bts l7 m7 (own5_nil ho7) (HEL.out hok HFX.out.2.2.1 HFX.out.2.2.2) (HG.out _ HB7.out).1 (HG.out _ HB7.out).2)
        have HDY := Lib.hid (HDC.out hok)
        clear z0 z1 z2 z3 z4 z5 HE1 hb7 ho7 l7 m7 HQ6 HB6 hs1 hs2 hs3 hs4
        generalize (putS (fldS m)).length = n7 at *
        unfold DecodeP at HD7
        go_wp2_with fail
        refine HD7.out.mono ?_
        rintro e w8 ⟨hb8, ⟨hd8, _⟩ | ⟨m8, x8, hd8, rfl, hm8⟩⟩
        · rw [HDY.out] at hd8; cases hd8
        · rw [HDY.out] at hd8
          injection hd8 with hd8
          subst hd8
          have HB8 := Lib.hid (HB7.out.trans (hb8.mono HB7.out.size))
          have HQ8 : Hid (BlkIs w8 w0.heap.size 32 #[.int .i64 id, .string sc, .string sf, .slice A n c, .int .i64 t, .slice Ab bn cb]) := Lib.hid ((hb8.block _ HQ7.out.lt).trans HQ7.out)
          have HM8 := Lib.hid hm8
          obtain ⟨v1, v2, rfl, g1, g2⟩ := hm8
          obtain ⟨C1, k1, rfl, _, _⟩ := OwnT.slice g1
          obtain ⟨C2, k2, rfl, _, _⟩ := own_slice g2
          rw [HLT.out.1, HLT.out.2.1, HLT.out.2.2.1, HLT.out.2.2.2.1, HLT.out.2.2.2.2.1, HLT.out.2.2.2.2.2] at HM8
          rw [HLT.out.1, HLT.out.2.1, HLT.out.2.2.1, HLT.out.2.2.2.1, HLT.out.2.2.2.2.1, HLT.out.2.2.2.2.2]
          have HBA : Hid (Below w8.heap.size w8 (w8.alloc (.cells #[.int .i64 id, .string sc, .string sf, .slice C1 n k1, .int .i64 t, .slice C2 bn k2] 32))) := Lib.hid ((Below.refl _ _).alloc (Nat.le_refl _) _)
          have HB9 := Lib.hid (HB8.out.trans (HBA.out.mono HB8.out.size))
          have HSAM := Lib.hid (Same_any (m := m) (MsgO.at_ (HM8.out.on HBA.out)) (HM0.out _ HB9.out))
          have HQ9 := Lib.hid (HQ8.out.alloc (.cells #[.int .i64 id, .string sc, .string sf, .slice C1 n k1, .int .i64 t, .slice C2 bn k2] 32))
          have HQN := Lib.hid (BlkIs.new w8 32 #[.int .i64 id, .string sc, .string sf, .slice C1 n k1, .int .i64 t, .slice C2 bn k2])
          have y0 := (BlkIs.cell HQ9.out 0).trans (rfl : _ = some (Value.int .i64 id))
          have y1 := (BlkIs.cell HQ9.out 1).trans (rfl : _ = some (Value.string sc))
          have y2 := (BlkIs.cell HQ9.out 2).trans (rfl : _ = some (Value.string sf))
          have y3 := (BlkIs.cell HQ9.out 3).trans (rfl : _ = some (Value.slice A n c))
          have y4 := (BlkIs.cell HQ9.out 4).trans (rfl : _ = some (Value.int .i64 t))
          have y5 := (BlkIs.cell HQ9.out 5).trans (rfl : _ = some (Value.slice Ab bn cb))
          have x0 := (BlkIs.cell HQN.out 0).trans (rfl : _ = some (Value.int .i64 id))
          have x1 := (BlkIs.cell HQN.out 1).trans (rfl : _ = some (Value.string sc))
          have x2 := (BlkIs.cell HQN.out 2).trans (rfl : _ = some (Value.string sf))
          have x3 := (BlkIs.cell HQN.out 3).trans (rfl : _ = some (Value.slice C1 n k1))
          have x4 := (BlkIs.cell HQN.out 4).trans (rfl : _ = some (Value.int .i64 t))
          have x5 := (BlkIs.cell HQN.out 5).trans (rfl : _ = some (Value.slice C2 bn k2))
          clear g1 g2 hb8 HD7
          go_wp2_with (first
            | (go_at_call 18; refine HSAM.out.mono ?_; rintro e w10 ⟨rfl, hb10⟩; have HB10 := Lib.hid (HB9.out.trans (hb10.mono HB9.out.size)); clear hb10)
            | fail)
          go_ret
          exact ⟨by first | rfl | simp, HB10.out⟩
      · cases h
end En
end Go.Proofs.YtpfonpjcnpfipaaDoor
