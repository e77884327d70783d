/- EnChk EnChks EnEncd EnEnc. Conditions: as stated at each. -/
import Derived.Test.YteapnkedpmcokaaGreatDoorRm22
import Derived.Test.YteapnkedpmcokaaGreatDoorRm29
import Derived.Deep.CutBlock
import Derived.Test.YteapnkedpmcokaaGreatDoorRm26
import Derived.Test.YteapnkedpmcokaaGreatDoorRm27
import Derived.Test.YteapnkedpmcokaaGreatDoorRm28
/- entry.need, entry.check; the document's Check. Conditions: as stated at each. -/
namespace Go.Proofs.YteapnkedpmcokaaGreatDoor
set_option maxRecDepth 100000
namespace En
open Go.RowKit Go Go.Proofs.YteapnkedpmcokaaGreatDoor.Pa
attribute [local go_sem] Oper.semAt_some
theorem ned_t {b : Bool} (h : b = true) (w : World) : Calls Tryz.prog 126 #[.bool b] w fun e w' => e = .returned (.tuple #[]) ∧ w = w' := by
  subst h
  go_enter Tryz.func126, Tryz.ntmps126
  go_wp2_with (first
    | (refine (Fa.nd_ok 150 _).mono ?_; rintro e w' ⟨rfl, rfl⟩)
    | fail)
  go_end0
  exact ⟨rfl, rfl⟩
theorem ned_f {b : Bool} (h : b = false) (w : World) : Calls Tryz.prog 126 #[.bool b] w fun e w' => e = Fa.bad 150 ∧ w = w' := by
  subst h
  go_enter Tryz.func126, Tryz.ntmps126
  go_wp2_with (first
    | (refine (Fa.nd_bad 150 _).mono ?_; rintro e w' ⟨rfl, rfl⟩)
    | fail)
  exact ⟨rfl, rfl, rfl⟩
/-- what Check asks of an envelope and of how many bytes there are. -/
def checkE (e : Env) (n : Nat) : Bool := envB e.1 e.2.1 e.2.2 && decide (n ≤ 500000)
def CheckP (w : World) (r : Bool) (e : Ending) (w' : World) : Prop := Below w.heap.size w w' ∧ ((r = true ∧ e = .returned (.tuple #[])) ∨ (r = false ∧ e = Fa.bad 150))
set_option maxHeartbeats 3200000 in
theorem check_any {w : World} {x : Value} {e : Env} (h : EnvAt w w.heap.size x e) (hs : SmallE e) (A2 : Option Addr) (n2 c2 : Nat) :
    Calls Tryz.prog 125 #[x, .slice A2 n2 c2] w (CheckP w (checkE e n2)) := by
  obtain ⟨A, c, rfl, hT, hc1, hc2⟩ := h
  obtain ⟨ff, ps, v⟩ := e
  obtain ⟨s1, s2, s3, s4, s5⟩ := hs
  simp only at hT hc1 hc2 s1 s2 s3 s4 s5 ⊢
  have HMB := Lib.hid (fun X => mailbox_any ff (by omega) X)
  have HMT := Lib.hid (fun k X => mailbox_any (ps.getD k []) (s2 k) X)
  have HOK : Hid (checkE (ff, ps, v) n2 = (((ff.isEmpty || mailS ff) && (decide (1 ≤ ps.length ∧ ps.length ≤ 100) && (decide (0 ≤ v) && ps.all mailS))) && decide (n2 ≤ 500000))) := Lib.hid rfl
  have hse := str_empty ff
  have HEL := Lib.hid hT.els
  have HALL := Lib.hid (fun n (hn : ps.length = n) => all_mail hn)
  have HBAD := Lib.hid (fun n j (hn : ps.length = n) => not_mail (j := j) hn)
  have hqn := BlkIs.new w 24 #[.string (str ff), .slice A ps.length c, .int .i64 v]
  have han : Below w.heap.size w (w.alloc (.cells #[.string (str ff), .slice A ps.length c, .int .i64 v] 24)) := (Below.refl _ _).alloc (Nat.le_refl _) _
  unfold CheckP
  clear hT s1 s2
  generalize ff.isEmpty = fe at *
  generalize mailS ff = mb at *
  generalize checkE (ff, ps, v) n2 = res at *
  generalize str ff = s0 at *
  generalize hn : ps.length = n at *
  have HALL2 := Lib.hid (HALL.out n rfl)
  have HBAD2 := Lib.hid (fun j => HBAD.out n j rfl)
  clear HALL HBAD hn
  have HB0 := Lib.hid han
  have HQ0 := Lib.hid hqn
  have z0c := (BlkIs.cell hqn 0).trans (rfl : _ = some (Value.string s0))
  clear hqn han
  go_enter Tryz.func125, Tryz.ntmps125
  go_upto_region 1 with fail
  generalize hw1 : w.alloc (.cells #[.string s0, .slice A n c, .int .i64 v] 24) = w1 at *
  clear hw1
  go_cut [] from 6 (fun wd => (fe || mb) = true ∧ Hid (Below w.heap.size w wd) ∧ Hid (BlkIs wd w.heap.size 24 #[.string s0, .slice A n c, .int .i64 v]))
  case first =>
    cases fe with
    | true =>
      go_wp2_with (first | (go_at_call 126; refine (ned_t (by first | rfl | (simp; done) | (simp; omega)) _).mono ?_; rintro e w' ⟨rfl, rfl⟩) | fail)
      go_meet
      exact ⟨rfl, HB0, HQ0⟩
    | false =>
      cases mb with
      | true =>
        go_wp2_with (first
          | (go_at_call 129; refine (HMB.out _).mono ?_; rintro e w2 ⟨rfl, hb2⟩; have HB2 := Lib.hid (HB0.out.trans (hb2.mono HB0.out.size)); have HQ2 : Hid (BlkIs w2 w.heap.size 24 #[.string s0, .slice A n c, .int .i64 v]) := Lib.hid ((hb2.block _ HQ0.out.lt).trans HQ0.out); clear hb2)
          | (go_at_call 126; refine (ned_t (by first | rfl | (simp; done) | (simp; omega)) _).mono ?_; rintro e w' ⟨rfl, rfl⟩) | fail)
        go_meet
        exact ⟨rfl, HB2, HQ2⟩
      | false =>
        have HR : Hid (res = false) := Lib.hid (by rw [HOK.out]; simp)
        go_wp2_with (first
          | (go_at_call 129; refine (HMB.out _).mono ?_; rintro e w2 ⟨rfl, hb2⟩; have HB2 := Lib.hid (HB0.out.trans (hb2.mono HB0.out.size)); clear hb2)
          | (go_at_call 126; refine (ned_f (by first | rfl | (simp; done) | (simp; omega)) _).mono ?_; rintro e w' ⟨rfl, rfl⟩) | fail)
        first | exact ⟨rfl, HB2.out, .inr ⟨HR.out, rfl⟩⟩ | exact ⟨HB2.out, .inr ⟨HR.out, rfl⟩⟩ | exact ⟨rfl, HB2.out, .inr ⟨HR.out, rfl, rfl⟩⟩
  case rest =>
    obtain ⟨hfm, HBX, HQX⟩ := hcut
    rw [hfm, Bool.true_and] at HOK
    clear HB0 HQ0 z0c hfm HMB
    have z1 := (BlkIs.cell HQX.out 1).trans (rfl : _ = some (Value.slice A n c))
    have z2 := (BlkIs.cell HQX.out 2).trans (rfl : _ = some (Value.int .i64 v))
    by_cases hn0 : n = 0
    · have HR : Hid (res = false) := Lib.hid (by rw [HOK.out, decide_eq_false (by omega : ¬ (1 ≤ n ∧ n ≤ 100))]; simp)
      subst hn0
      go_wp2_with (first | (go_at_call 126; refine (ned_f (by first | rfl | (simp; done) | (simp; omega)) _).mono ?_; rintro e w' ⟨rfl, rfl⟩) | fail)
      first | exact ⟨rfl, HBX.out, .inr ⟨HR.out, rfl⟩⟩ | exact ⟨HBX.out, .inr ⟨HR.out, rfl⟩⟩ | exact ⟨rfl, HBX.out, .inr ⟨HR.out, rfl, rfl⟩⟩
    have hn0' : (0 : Int) < n := by omega
    by_cases hn1 : (n : Int) ≤ 100
    · have HO2 : Hid (res = ((decide (0 ≤ v) && ps.all mailS) && decide (n2 ≤ 500000))) := Lib.hid (by rw [HOK.out, decide_eq_true (by omega : 1 ≤ n ∧ n ≤ 100), Bool.true_and])
      clear HOK z2
      go_wp2_with (first | (go_at_call 126; refine (ned_t (by first | rfl | (simp; done) | (simp; omega)) _).mono ?_; rintro e w' ⟨rfl, rfl⟩) | fail)
      go_loopw [29] (fun i wr => ∃ k : Nat, k ≤ n ∧ i = .int .i64 (k : Nat) ∧ Hid (∀ j, j < k → mailS (ps.getD j []) = true) ∧ Hid (Below w.heap.size w wr) ∧ Hid (BlkIs wr w.heap.size 24 #[.string s0, .slice A n c, .int .i64 v])) (fun i _ => n + 1 - (intOf i).toNat)
      case atStart => exact ⟨0, Nat.zero_le _, rfl, Lib.hid fun j hj => absurd hj (Nat.not_lt_zero _), HBX, HQX⟩
      case round =>
        obtain ⟨k, hk, rfl, HJ, HBK, HQK⟩ := hrel
        clear HBX HQX z1
        by_cases hlt : k < n
        · obtain ⟨g, o, rfl, hg, hX⟩ := HEL.out k hlt
          have hcell := hX wr HBK.out
          have HM := Lib.hid (HMT.out k)
          have hkn : (k : Int) < (n : Int) := by omega
          clear hX
          generalize hms : mailS (ps.getD k []) = mk at *
          have HMS := Lib.hid hms
          clear hms
          generalize str (ps.getD k []) = sk at *
          cases mk with
          | true =>
            go_wp2_with (first
              | (go_at_call 129; refine (HM.out _).mono ?_; rintro e w3 ⟨rfl, hb3⟩; have HB3 := Lib.hid (HBK.out.trans (hb3.mono HBK.out.size)); have HQ3 : Hid (BlkIs w3 w.heap.size 24 #[.string s0, .slice (some ⟨g, o, none⟩) n c, .int .i64 v]) := Lib.hid ((hb3.block _ HQK.out.lt).trans HQK.out); clear hb3)
              | (go_at_call 126; refine (ned_t (by first | rfl | (simp; done) | (simp; omega)) _).mono ?_; rintro e w' ⟨rfl, rfl⟩) | fail)
            go_roundw
            case rel =>
              refine ⟨k + 1, by omega, by go_num, Lib.hid fun j hj => ?_, HB3, HQ3⟩
              rcases Nat.lt_or_ge j k with h | h
              · exact HJ.out j h
              · obtain rfl : j = k := by omega
                exact HMS.out
            case measure => simp [intOf]; omega
          | false =>
            have HR : Hid (res = false) := Lib.hid (by rw [HO2.out, HBAD2.out k hlt HMS.out]; simp)
            go_wp2_with (first
              | (go_at_call 129; refine (HM.out _).mono ?_; rintro e w3 ⟨rfl, hb3⟩; have HB3 := Lib.hid (HBK.out.trans (hb3.mono HBK.out.size)); clear hb3)
              | (go_at_call 126; refine (ned_f (by first | rfl | (simp; done) | (simp; omega)) _).mono ?_; rintro e w' ⟨rfl, rfl⟩) | fail)
            first | exact ⟨rfl, HB3.out, .inr ⟨HR.out, rfl⟩⟩ | exact ⟨HB3.out, .inr ⟨HR.out, rfl⟩⟩ | exact ⟨rfl, HB3.out, .inr ⟨HR.out, rfl, rfl⟩⟩
        · obtain rfl : k = n := by omega
          have hkn : ¬ (k : Int) < (k : Int) := by omega
          have z2 := (BlkIs.cell HQK.out 2).trans (rfl : _ = some (Value.int .i64 v))
          rw [HALL2.out HJ.out, Bool.and_true] at HO2
          by_cases hv : 0 ≤ v
          · by_cases hb : n2 ≤ 500000
            · have HR : Hid (res = true) := Lib.hid (by rw [HO2.out, decide_eq_true hv, decide_eq_true hb]; rfl)
              have hb' : (n2 : Int) ≤ 500000 := by omega
              go_wp2_with (first | (go_at_call 126; refine (ned_t (by first | rfl | (simp; done) | (simp; omega)) _).mono ?_; rintro e w' ⟨rfl, rfl⟩) | fail)
              go_end0
              first | exact ⟨HBK.out, .inl ⟨HR.out, rfl⟩⟩ | exact ⟨HBK.out, .inl HR.out⟩
            · have HR : Hid (res = false) := Lib.hid (by rw [HO2.out, decide_eq_false hb]; simp)
              have hb' : ¬ (n2 : Int) ≤ 500000 := by omega
              go_wp2_with (first | (go_at_call 126; first | (refine (ned_t (by first | rfl | (simp; done) | (simp; omega)) _).mono ?_; rintro e w' ⟨rfl, rfl⟩) | (refine (ned_f (by first | rfl | (simp; done) | (simp; omega)) _).mono ?_; rintro e w' ⟨rfl, rfl⟩)) | fail)
              first | exact ⟨rfl, HBK.out, .inr ⟨HR.out, rfl⟩⟩ | exact ⟨HBK.out, .inr ⟨HR.out, rfl⟩⟩ | exact ⟨rfl, HBK.out, .inr ⟨HR.out, rfl, rfl⟩⟩
          · have HR : Hid (res = false) := Lib.hid (by rw [HO2.out, decide_eq_false hv]; simp)
            go_wp2_with (first | (go_at_call 126; refine (ned_f (by first | rfl | (simp; done) | (simp; omega)) _).mono ?_; rintro e w' ⟨rfl, rfl⟩) | fail)
            first | exact ⟨rfl, HBK.out, .inr ⟨HR.out, rfl⟩⟩ | exact ⟨HBK.out, .inr ⟨HR.out, rfl⟩⟩ | exact ⟨rfl, HBK.out, .inr ⟨HR.out, rfl, rfl⟩⟩
    · have HR : Hid (res = false) := Lib.hid (by rw [HOK.out, decide_eq_false (by omega : ¬ (1 ≤ n ∧ n ≤ 100))]; simp)
      go_wp2_with (first | (go_at_call 126; refine (ned_f (by first | rfl | (simp; done) | (simp; omega)) _).mono ?_; rintro e w' ⟨rfl, rfl⟩) | fail)
      first | exact ⟨rfl, HBX.out, .inr ⟨HR.out, rfl⟩⟩ | exact ⟨HBX.out, .inr ⟨HR.out, rfl⟩⟩ | exact ⟨rfl, HBX.out, .inr ⟨HR.out, rfl, rfl⟩⟩
end En
end Go.Proofs.YteapnkedpmcokaaGreatDoor
/- entry.Check; the document's Check. Conditions: as stated at each. -/
namespace Go.Proofs.YteapnkedpmcokaaGreatDoor
set_option maxRecDepth 100000
namespace En
open Go.RowKit Go Go.Proofs.YteapnkedpmcokaaGreatDoor.Pa
attribute [local go_sem] Oper.semAt_some
/-- an error's number: 0 where it may be. -/
def numE (b : Bool) : Int := if b = true then 0 else 150
def NumP (w : World) (b : Bool) (e : Ending) (w' : World) : Prop := e = .returned (.int .i64 (numE b)) ∧ Below w.heap.size w w'
def ChkQ (N : Nat) (W : World) (b : Bool) (x : Int) (w' : World) : Prop := x = numE b ∧ Below N W w'
theorem check_is (e : Env) (n : Nat) : checkE e n = (decide (e.2.1.length ≤ 100) && (renvB e && decide (n ≤ 500000))) := by
  unfold checkE envB renvB
  rw [show decide (1 ≤ e.2.1.length ∧ e.2.1.length ≤ 100) = (decide (1 ≤ e.2.1.length) && decide (e.2.1.length ≤ 100)) from Bool.decide_and _ _]
  cases (e.1.isEmpty || mailS e.1) <;> cases decide (1 ≤ e.2.1.length) <;> cases decide (e.2.1.length ≤ 100) <;> simp
set_option maxHeartbeats 1600000 in
theorem rCheck_any {w : World} {x : Value} {e : Env} (h : EnvAt w w.heap.size x e) (hs : SmallE e) (A2 : Option Addr) (n2 c2 : Nat) :
    Calls Tryz.prog 40 #[x, .slice A2 n2 c2] w (NumP w (checkE e n2)) := by
  have hX := h
  obtain ⟨A, c, rfl, _, _, _⟩ := h
  have HCH := Lib.hid (fun (X : World) (hb : Below w.heap.size w X) => renvelope_any ((hX.below hb).more hb.size) hs)
  have HIS := Lib.hid (check_is e n2)
  unfold NumP
  generalize checkE e n2 = res at *
  generalize renvB e = rb at *
  clear hX hs
  obtain ⟨ff, ps, v⟩ := e
  simp only at HCH HIS ⊢
  generalize str ff = s0 at *
  generalize ps.length = n at *
  have k0 := BlkIs.new w 24 #[.string s0, .slice A n c, .int .i64 v]
  have HB1 : Hid (Below w.heap.size w (w.alloc (.cells #[.string s0, .slice A n c, .int .i64 v] 24))) := Lib.hid ((Below.refl _ w).alloc (Nat.le_refl _) _)
  have z0 := (k0.cell 0).trans (rfl : _ = some (Value.string s0))
  have z1 := (k0.cell 1).trans (rfl : _ = some (Value.slice A n c))
  have z2 := (k0.cell 2).trans (rfl : _ = some (Value.int .i64 v))
  have HC1 := Lib.hid (HCH.out _ HB1.out)
  clear k0 HCH
  go_enter Tryz.func40, Tryz.ntmps40
  by_cases hn : (100 : Int) < n
  · have HR : Hid (res = false) := Lib.hid (by rw [HIS.out, decide_eq_false (by omega : ¬ n ≤ 100)]; rfl)
    go_wp2_with fail
    go_ret
    exact ⟨by rw [HR.out]; rfl, HB1.out⟩
  · rw [decide_eq_true (by omega : n ≤ 100), Bool.true_and] at HIS
    cases rb with
    | false =>
      go_wp2_with fail
      refine HC1.out.mono ?_
      rintro e w2 ⟨rfl, hb2⟩
      have HB2 := Lib.hid (HB1.out.trans (hb2.mono HB1.out.size))
      clear hb2
      go_wp2_with fail
      go_ret
      exact ⟨by rw [HIS.out]; rfl, HB2.out⟩
    | true =>
      rw [Bool.true_and] at HIS
      by_cases hb : n2 ≤ 500000
      · have hb' : ¬ (500000 : Int) < n2 := by omega
        rw [decide_eq_true hb] at HIS
        go_wp2_with fail
        refine HC1.out.mono ?_
        rintro e w2 ⟨rfl, hb2⟩
        have HB2 := Lib.hid (HB1.out.trans (hb2.mono HB1.out.size))
        clear hb2
        go_wp2_with fail
        go_ret
        exact ⟨by rw [HIS.out]; rfl, HB2.out⟩
      · have hb' : (500000 : Int) < n2 := by omega
        rw [decide_eq_false hb] at HIS
        go_wp2_with fail
        refine HC1.out.mono ?_
        rintro e w2 ⟨rfl, hb2⟩
        have HB2 := Lib.hid (HB1.out.trans (hb2.mono HB1.out.size))
        clear hb2
        go_wp2_with fail
        go_ret
        exact ⟨by rw [HIS.out]; rfl, HB2.out⟩
end En
end Go.Proofs.YteapnkedpmcokaaGreatDoor
/- entry.encoded. Conditions: as stated at each. -/
namespace Go.Proofs.YteapnkedpmcokaaGreatDoor
set_option maxRecDepth 100000
namespace En
open Go.RowKit Go Go.Proofs.YteapnkedpmcokaaGreatDoor.Pa
attribute [local go_sem] Oper.semAt_some
def EncP (w : World) (m : M) (e : Ending) (w' : World) : Prop := Below w.heap.size w w' ∧ ((okB m = true ∧ ∃ v, e = .returned v ∧ Own5 w' w.heap.size v (putS (fldS m))) ∨ (okB m = false ∧ e = Fa.bad 150))
set_option maxHeartbeats 6400000 in
theorem encoded_any {w0 : World} {x : Value} {m : M} (h : MsgAt w0 w0.heap.size x m) (hs : SmallM m) (hG : GlT w0) :
    Calls Tryz.prog 116 #[x] w0 (EncP w0 m) := by
  obtain ⟨A, c, Ab, cb, rfl, hT, hc1, hc2, hB, hb1, hb2, hA⟩ := h
  obtain ⟨s1, s2, s3, s4, s5, s6, s7, s8, s9⟩ := hs
  obtain ⟨id, cls, fr, tos, t, body⟩ := m
  simp only at hT hc1 hc2 hB hb1 hb2 hA s1 s2 s3 s4 s5 s6 s7 s8 s9 ⊢
  have HOK : Hid (okB ⟨id, cls, fr, tos, t, body⟩ = (checkE (fr, tos, t) body.length && (decide (1 ≤ id ∧ id ≤ 1099511627776) && Rt.smallS 20 cls))) := Lib.hid rfl
  have HTOT0 : Hid (okB ⟨id, cls, fr, tos, t, body⟩ = true → (putS (fldS ⟨id, cls, fr, tos, t, body⟩)).length ≤ 600000) := Lib.hid fun h => enc_len h (by show t ≤ 9223372036854775807; omega)
  have HPO : Hid (okB ⟨id, cls, fr, tos, t, body⟩ = true → 1 ≤ id ∧ 0 ≤ t ∧ (∀ a ∈ tos, a.length ≤ 320)) := Lib.hid fun h => by
    obtain ⟨_, _, h3, h4, _, h6, _⟩ := ok_parts h
    exact ⟨h6.1, h3, fun a ha => mail_len (h4 a ha)⟩
  have HFD : Hid (fiveS ⟨id, cls, fr, tos, t, body⟩ ++ tos ++ [body] = fldS ⟨id, cls, fr, tos, t, body⟩) := Lib.hid (fld_is _).symm
  have HFL : Hid ((fiveS ⟨id, cls, fr, tos, t, body⟩).length = 5) := Lib.hid rfl
  have HFV : Hid ((fiveS ⟨id, cls, fr, tos, t, body⟩).getD 0 [] = dec id.toNat ∧ (fiveS ⟨id, cls, fr, tos, t, body⟩).getD 1 [] = cls ∧ (fiveS ⟨id, cls, fr, tos, t, body⟩).getD 2 [] = fr ∧ (fiveS ⟨id, cls, fr, tos, t, body⟩).getD 3 [] = dec t.toNat ∧ (fiveS ⟨id, cls, fr, tos, t, body⟩).getD 4 [] = dec tos.length) := Lib.hid ⟨rfl, rfl, rfl, rfl, rfl⟩
  have HSM : Hid (Rt.smallS 20 cls = (cls.all azB && decide (1 ≤ cls.length ∧ cls.length ≤ 20))) := Lib.hid rfl
  have HEL := Lib.hid hT.els
  have HBO := Lib.hid hB
  have HGT := Lib.hid (fun (X : World) (hX : Below w0.heap.size w0 X) => hG.below hX hG.lt)
  have hsc := str_size cls
  have hse := str_empty cls
  have HAT := Lib.hid (str_at cls)
  have HCV1 := Lib.hid (fun X => run_bts cls (by omega) X)
  have HCV2 := Lib.hid (fun X => run_bts fr (by omega) X)
  have HCK := Lib.hid (fun (X : World) (hb : Below w0.heap.size w0 X) => check_any (w := X) (x := .agg #[.string (str fr), .slice A tos.length c, .int .i64 t]) (e := (fr, tos, t)) ⟨A, c, rfl, (hT.below hb).more hb.size, hc1, hc2⟩ ⟨s2, s3, s4, s5, s6⟩ Ab body.length cb)
  unfold EncP
  have hqn := BlkIs.new w0 27 #[.int .i64 id, .string (str cls), .string (str fr), .slice A tos.length c, .int .i64 t, .slice Ab body.length cb]
  have han : Below w0.heap.size w0 (w0.alloc (.cells #[.int .i64 id, .string (str cls), .string (str fr), .slice A tos.length c, .int .i64 t, .slice Ab body.length cb] 27)) := (Below.refl _ _).alloc (Nat.le_refl _) _
  have HALLS := Lib.hid (fun k (hk : k < cls.length) => And.intro (allK_succ (f := azB) hk) (fun h => allK_false (f := azB) hk h))
  clear hT hB hG s2 s3 hA
  generalize okB ⟨id, cls, fr, tos, t, body⟩ = ok at *
  generalize hFV : fiveS ⟨id, cls, fr, tos, t, body⟩ = FV at *
  generalize hFLD : fldS ⟨id, cls, fr, tos, t, body⟩ = FLD at *
  clear hFV hFLD
  generalize str cls = sc at *
  generalize str fr = sf at *
  generalize hn : tos.length = n at *
  generalize hbn : body.length = bn at *
  have HNN := Lib.hid hn
  have HBL := Lib.hid hbn
  clear hn hbn
  have HQ1 := Lib.hid hqn
  have HB1 := Lib.hid han
  generalize checkE (fr, tos, t) bn = ck at *
  generalize Rt.smallS 20 cls = sm at *
  have HCK1 := Lib.hid (HCK.out _ HB1.out)
  have z0 := (BlkIs.cell hqn 0).trans (rfl : _ = some (Value.int .i64 id))
  have z1 := (BlkIs.cell hqn 1).trans (rfl : _ = some (Value.string sc))
  have z2 := (BlkIs.cell hqn 2).trans (rfl : _ = some (Value.string sf))
  have z3 := (BlkIs.cell hqn 3).trans (rfl : _ = some (Value.slice A n c))
  have z4 := (BlkIs.cell hqn 4).trans (rfl : _ = some (Value.int .i64 t))
  have z5 := (BlkIs.cell hqn 5).trans (rfl : _ = some (Value.slice Ab bn cb))
  clear hqn han HCK
  go_enter Tryz.func116, Tryz.ntmps116
  go_wp2_with fail
  refine HCK1.out.mono ?_
  rintro e w2 ⟨hb2, ⟨rfl, rfl⟩ | ⟨rfl, rfl⟩⟩
  · have HB2 := Lib.hid (HB1.out.trans (hb2.mono HB1.out.size))
    have HQ2 : Hid (BlkIs w2 w0.heap.size 27 #[.int .i64 id, .string sc, .string sf, .slice A n c, .int .i64 t, .slice Ab bn cb]) := Lib.hid ((hb2.block _ HQ1.out.lt).trans HQ1.out)
    rw [Bool.true_and] at HOK
    clear hb2 z0 z1 z2 z3 z4 z5 HCK1 HB1 HQ1
    have z0 := (BlkIs.cell HQ2.out 0).trans (rfl : _ = some (Value.int .i64 id))
    have z1 := (BlkIs.cell HQ2.out 1).trans (rfl : _ = some (Value.string sc))
    by_cases hi0 : 1 ≤ id ∧ id ≤ 1099511627776
    · obtain ⟨hi1, hi2⟩ := hi0
      rw [decide_eq_true (And.intro hi1 hi2), Bool.true_and] at HOK
      by_cases hl0 : 1 ≤ cls.length ∧ cls.length ≤ 20
      · obtain ⟨hl1, hl2⟩ := hl0
        rw [decide_eq_true (And.intro hl1 hl2), Bool.and_true] at HSM
        have hem : cls.isEmpty = false := by
          cases cls with
          | nil => simp at hl1
          | cons a b => rfl
        rw [hem] at hse
        have hi3 : 0 < id := by omega
        have hl3 : (sc.size : Int) ≤ 20 := by omega
        obtain ⟨cx, w3, hrun, hx1, hx2, hbt, hby, hsz⟩ := HCV1.out w2
        have HB3 := Lib.hid (HB2.out.trans (hby.mono HB2.out.size))
        have HQ3 : Hid (BlkIs w3 w0.heap.size 27 #[.int .i64 id, .string sc, .string sf, .slice A n c, .int .i64 t, .slice Ab bn cb]) := Lib.hid ((hby.block _ HQ2.out.lt).trans HQ2.out)
        have HCL := Lib.hid (fun k hk => (hbt.at_ (k := k) hk))
        clear hbt hby
        generalize hcl : cls.length = cl at *
        have HCLL := Lib.hid hcl
        clear hcl
        have z2 : (sc.toList == []) = false := hse
        go_wp2_with (first | (go_at_call 126; refine (ned_t (by first | rfl | (simp; done) | (simp; omega)) _).mono ?_; rintro e w' ⟨rfl, rfl⟩) | fail)
        go_loopw [36] (fun i wr => ∃ k : Nat, k ≤ cl ∧ i = .int .i64 (k : Nat) ∧ Hid (allK azB cls k = true) ∧ wr = w3) (fun i _ => cl + 1 - (intOf i).toNat)
        case atStart => exact ⟨0, Nat.zero_le _, rfl, Lib.hid rfl, rfl⟩
        case round =>
          obtain ⟨k, hk, rfl, HAL, rfl⟩ := hrel
          clear hse z2 z0 z1
          by_cases hlt : k < cl
          · obtain ⟨ad, ead, _, hc⟩ := HCL.out k hlt
            injection ead with ead
            subst ead
            rw [add_at, Nat.zero_add] at hc
            obtain ⟨hs1, hs2⟩ := HALLS.out k hlt
            have HS1 := Lib.hid hs1
            have HS2 := Lib.hid hs2
            have hkn : (k : Int) < (cl : Int) := by omega
            clear hs1 hs2
            generalize cls.getD k 0 = ch at *
            have HZ : Hid (azB ch = decide (97 ≤ (ch.toNat : Int) ∧ (ch.toNat : Int) ≤ 122)) := Lib.hid (by unfold azB; rw [Bool.eq_iff_iff, decide_eq_true_eq, decide_eq_true_eq]; omega)
            by_cases h1 : 97 ≤ (ch.toNat : Int)
            · by_cases h2 : (ch.toNat : Int) ≤ 122
              · go_wp2_with (first | (go_at_call 126; refine (ned_t (by first | rfl | (simp; done) | (simp; omega)) _).mono ?_; rintro e w' ⟨rfl, rfl⟩) | fail)
                go_roundw
                case rel => exact ⟨k + 1, by omega, by go_num, Lib.hid (by rw [HS1.out, HAL.out, HZ.out, decide_eq_true (And.intro h1 h2)]; rfl), by first | rfl | trivial⟩
                case measure => simp [intOf]; omega
              · have HR : Hid (ok = false) := Lib.hid (by rw [HOK.out, HSM.out, HS2.out (by rw [HZ.out, decide_eq_false (by omega)])])
                go_wp2_with (first | (go_at_call 126; refine (ned_f (by first | rfl | (simp; done) | (simp; omega)) _).mono ?_; rintro e w' ⟨rfl, rfl⟩) | fail)
                first | exact ⟨rfl, HB3.out, .inr ⟨HR.out, rfl⟩⟩ | exact ⟨HB3.out, .inr ⟨HR.out, rfl⟩⟩ | exact ⟨rfl, HB3.out, .inr ⟨HR.out, rfl, rfl⟩⟩
            · have HR : Hid (ok = false) := Lib.hid (by rw [HOK.out, HSM.out, HS2.out (by rw [HZ.out, decide_eq_false (by omega)])])
              go_wp2_with (first | (go_at_call 126; refine (ned_f (by first | rfl | (simp; done) | (simp; omega)) _).mono ?_; rintro e w' ⟨rfl, rfl⟩) | fail)
              first | exact ⟨rfl, HB3.out, .inr ⟨HR.out, rfl⟩⟩ | exact ⟨HB3.out, .inr ⟨HR.out, rfl⟩⟩ | exact ⟨rfl, HB3.out, .inr ⟨HR.out, rfl, rfl⟩⟩
          · obtain rfl : k = cl := by omega
            have hz : ¬ (k : Int) < (k : Int) := by omega
            have HR : Hid (ok = true) := Lib.hid (by
              have h1 := HAL.out
              rw [allK_full (by rw [HCLL.out]; omega)] at h1
              rw [HOK.out, HSM.out, h1])
            clear HAL HALLS HCL
            obtain ⟨hid1, ht0, hto⟩ := HPO.out HR.out
            have HTO := Lib.hid (fun k (hk : k < n) X => run_bts (tos.getD k []) (by have := hto (tos.getD k []) (by simp [List.getD, HNN.out, hk]); omega) X)
            have HTOT := Lib.hid (HTOT0.out HR.out)
            have HDG0 := Lib.hid (fun X (hX : Below w0.heap.size w0 X) => OutP.outS' (digits_any id X (by omega) (by omega) (HGT.out X hX)))
            have HDG3 := Lib.hid (fun X (hX : Below w0.heap.size w0 X) => OutP.outS' (digits_any t X (by omega) (by omega) (HGT.out X hX)))
            have HDG4 := Lib.hid (fun X (hX : Below w0.heap.size w0 X) => OutP.outS' (digits_any (n : Int) X (by omega) (by omega) (HGT.out X hX)))
            have HBX := HB3
            have HQX := HQ3
            clear hto HB3 HQ3 HB2 HQ2 HOK HSM HPO HTOT0
            unfold OutS at HDG0 HDG3 HDG4
            generalize hwX : wr = wX at *
            go_wp2_with fail
            have hq5 : BlkIs wX.drew w0.heap.size 27 #[.int .i64 id, .string sc, .string sf, .slice A n c, .int .i64 t, .slice Ab bn cb] := HQX.out
            have hb5 : Below w0.heap.size w0 wX.drew := HBX.out.drew
            clear HQX HBX
            refine wp_region_held_drew (S := (fun Y => BlkIs Y w0.heap.size 27 #[.int .i64 id, .string sc, .string sf, .slice A n c, .int .i64 t, .slice Ab bn cb] ∧ Below w0.heap.size w0 Y)) (by kernel_rfl) (⟨hq5, hb5⟩) (fun hHeld => ?_)
            clear hq5 hb5
            generalize wX.drew = wD at *
            refine wpAnyH_take (i := 0) (v := .pointer (some ⟨w0.heap.size, 0, none⟩)) rfl (by kernel_rfl) (by kernel_rfl) (by kernel_rfl) (fun _ _ _ h => h) (Or.inl ⟨by rfl, fun w hS => by first | (go_simp; done) | (go_simp; with_reducible rfl)⟩) hHeld ?_
            try simp only [Act.put, List.getElem_toArray, List.getElem_cons_zero, List.setIfInBounds_toArray, List.set_cons_zero, List.set_cons_succ]
            refine wpAnyH_take (i := 1) (v := .int .i64 id) rfl (by kernel_rfl) (by kernel_rfl) (by kernel_rfl) (fun _ _ _ h => h) (Or.inl ⟨by rfl, fun w hS => by (have c0 := (BlkIs.cell hS.1 0).trans (rfl : _ = some (Value.int .i64 id)); first | (go_simp; done) | (go_simp; with_reducible rfl))⟩) hHeld ?_
            try simp only [Act.put, List.getElem_toArray, List.getElem_cons_zero, List.getElem_cons_succ, List.setIfInBounds_toArray, List.set_cons_zero, List.set_cons_succ]
            refine wpAnyH_take (i := 3) (v := .pointer (some ⟨w0.heap.size, 1, none⟩)) rfl (by kernel_rfl) (by kernel_rfl) (by kernel_rfl) (fun _ _ _ h => h) (Or.inl ⟨by rfl, fun w hS => by first | (go_simp; done) | (go_simp; with_reducible rfl)⟩) hHeld ?_
            try simp only [Act.put, List.getElem_toArray, List.getElem_cons_zero, List.getElem_cons_succ, List.setIfInBounds_toArray, List.set_cons_zero, List.set_cons_succ]
            refine wpAnyH_take (i := 4) (v := .string sc) rfl (by kernel_rfl) (by kernel_rfl) (by kernel_rfl) (fun _ _ _ h => h) (Or.inl ⟨by rfl, fun w hS => by (have c0 := (BlkIs.cell hS.1 1).trans (rfl : _ = some (Value.string sc)); first | (go_simp; done) | (go_simp; with_reducible rfl))⟩) hHeld ?_
            try simp only [Act.put, List.getElem_toArray, List.getElem_cons_zero, List.getElem_cons_succ, List.setIfInBounds_toArray, List.set_cons_zero, List.set_cons_succ]
            refine wpAnyH_take (i := 6) (v := .pointer (some ⟨w0.heap.size, 2, none⟩)) rfl (by kernel_rfl) (by kernel_rfl) (by kernel_rfl) (fun _ _ _ h => h) (Or.inl ⟨by rfl, fun w hS => by first | (go_simp; done) | (go_simp; with_reducible rfl)⟩) hHeld ?_
            try simp only [Act.put, List.getElem_toArray, List.getElem_cons_zero, List.getElem_cons_succ, List.setIfInBounds_toArray, List.set_cons_zero, List.set_cons_succ]
            refine wpAnyH_take (i := 7) (v := .pointer (some ⟨w0.heap.size, 2, none⟩)) rfl (by kernel_rfl) (by kernel_rfl) (by kernel_rfl) (fun _ _ _ h => h) (Or.inl ⟨by rfl, fun w hS => by first | (go_simp; done) | (go_simp; with_reducible rfl)⟩) hHeld ?_
            try simp only [Act.put, List.getElem_toArray, List.getElem_cons_zero, List.getElem_cons_succ, List.setIfInBounds_toArray, List.set_cons_zero, List.set_cons_succ]
            refine wpAnyH_take (i := 8) (v := .string sf) rfl (by kernel_rfl) (by kernel_rfl) (by kernel_rfl) (fun _ _ _ h => h) (Or.inl ⟨by rfl, fun w hS => by (have c0 := (BlkIs.cell hS.1 2).trans (rfl : _ = some (Value.string sf)); first | (go_simp; done) | (go_simp; with_reducible rfl))⟩) hHeld ?_
            try simp only [Act.put, List.getElem_toArray, List.getElem_cons_zero, List.getElem_cons_succ, List.setIfInBounds_toArray, List.set_cons_zero, List.set_cons_succ]
            refine wpAnyH_take (i := 10) (v := .pointer (some ⟨w0.heap.size, 2, none⟩)) rfl (by kernel_rfl) (by kernel_rfl) (by kernel_rfl) (fun _ _ _ h => h) (Or.inl ⟨by rfl, fun w hS => by first | (go_simp; done) | (go_simp; with_reducible rfl)⟩) hHeld ?_
            try simp only [Act.put, List.getElem_toArray, List.getElem_cons_zero, List.getElem_cons_succ, List.setIfInBounds_toArray, List.set_cons_zero, List.set_cons_succ]
            refine wpAnyH_take (i := 11) (v := .pointer (some ⟨w0.heap.size, 4, none⟩)) rfl (by kernel_rfl) (by kernel_rfl) (by kernel_rfl) (fun _ _ _ h => h) (Or.inl ⟨by rfl, fun w hS => by first | (go_simp; done) | (go_simp; with_reducible rfl)⟩) hHeld ?_
            try simp only [Act.put, List.getElem_toArray, List.getElem_cons_zero, List.getElem_cons_succ, List.setIfInBounds_toArray, List.set_cons_zero, List.set_cons_succ]
            refine wpAnyH_take (i := 12) (v := .int .i64 t) rfl (by kernel_rfl) (by kernel_rfl) (by kernel_rfl) (fun _ _ _ h => h) (Or.inl ⟨by rfl, fun w hS => by (have c0 := (BlkIs.cell hS.1 4).trans (rfl : _ = some (Value.int .i64 t)); first | (go_simp; done) | (go_simp; with_reducible rfl))⟩) hHeld ?_
            try simp only [Act.put, List.getElem_toArray, List.getElem_cons_zero, List.getElem_cons_succ, List.setIfInBounds_toArray, List.set_cons_zero, List.set_cons_succ]
            refine wpAnyH_take (i := 14) (v := .pointer (some ⟨w0.heap.size, 2, none⟩)) rfl (by kernel_rfl) (by kernel_rfl) (by kernel_rfl) (fun _ _ _ h => h) (Or.inl ⟨by rfl, fun w hS => by first | (go_simp; done) | (go_simp; with_reducible rfl)⟩) hHeld ?_
            try simp only [Act.put, List.getElem_toArray, List.getElem_cons_zero, List.getElem_cons_succ, List.setIfInBounds_toArray, List.set_cons_zero, List.set_cons_succ]
            refine wpAnyH_take (i := 15) (v := .pointer (some ⟨w0.heap.size, 3, none⟩)) rfl (by kernel_rfl) (by kernel_rfl) (by kernel_rfl) (fun _ _ _ h => h) (Or.inl ⟨by rfl, fun w hS => by first | (go_simp; done) | (go_simp; with_reducible rfl)⟩) hHeld ?_
            try simp only [Act.put, List.getElem_toArray, List.getElem_cons_zero, List.getElem_cons_succ, List.setIfInBounds_toArray, List.set_cons_zero, List.set_cons_succ]
            refine wpAnyH_take (i := 16) (v := .slice A n c) rfl (by kernel_rfl) (by kernel_rfl) (by kernel_rfl) (fun _ _ _ h => h) (Or.inl ⟨by rfl, fun w hS => by (have c0 := (BlkIs.cell hS.1 3).trans (rfl : _ = some (Value.slice A n c)); first | (go_simp; done) | (go_simp; with_reducible rfl))⟩) hHeld ?_
            try simp only [Act.put, List.getElem_toArray, List.getElem_cons_zero, List.getElem_cons_succ, List.setIfInBounds_toArray, List.set_cons_zero, List.set_cons_succ]
            refine wpAnyH_take (i := 17) (v := .int .i64 n) rfl (by kernel_rfl) (by kernel_rfl) (by kernel_rfl) (fun _ _ _ h => h) (Or.inl ⟨by rfl, fun w hS => by first | (go_simp; done) | (go_simp; with_reducible rfl)⟩) hHeld ?_
            try simp only [Act.put, List.getElem_toArray, List.getElem_cons_zero, List.getElem_cons_succ, List.setIfInBounds_toArray, List.set_cons_zero, List.set_cons_succ]
            refine wpAnyH_join [2, 5, 9, 13, 18] [50, 53, 57, 61, 66] _ _ _ (fun k v X => SlV X v (FV.getD k [])) 2 rfl (by kernel_rfl) (by decide) (by decide) rfl hHeld ?_ ?_
            · intro k i s xs X hk hs hx hS
              obtain ⟨x1, x2, x3, x4, x5, rfl⟩ : ∃ x1 x2 x3 x4 x5, xs = [x1, x2, x3, x4, x5] := by
                match xs, hx with
                | [a, b, c, d, e], _ => exact ⟨a, b, c, d, e, rfl⟩
              clear hx
              match k, hk, hs with
              | 0, hk, hs =>
                obtain rfl : 2 = i := by simpa using hk
                obtain rfl : 50 = s := by simpa using hs
                refine wpOp_step rfl (fun K hK => ?_)
                replace hK : Shut _ := hK
                simp only [setT, List.setIfInBounds_toArray, List.set_cons_succ, List.set_cons_zero]
                have HC := Lib.hid (HDG0.out X hS.2)
                have HS := Lib.hid hS
                clear hS
                go_simp
                go_wp2_with (first
                  | (go_at_call 114; refine HC.out.mono ?_; rintro e Y ⟨Ax, cx, rfl, hbt, hc1, hc2, hby⟩; have HBY := Lib.hid hby; have HBT := Lib.hid (And.intro hbt (And.intro hc1 hc2)); clear hbt hc1 hc2 hby)
                  | fail)
                refine hK.out _ _ ⟨?v0, ?e0, ?p0, ?s0, ?k0⟩
                case e0 => simp only [setT, List.setIfInBounds_toArray, List.set_cons_succ, List.set_cons_zero] <;> rfl
                case p0 => exact ⟨Ax, cx, by rw [HFV.out.1] <;> rfl, by rw [HFV.out.1]; exact HBT.out.1, by rw [HFV.out.1]; exact HBT.out.2.1, HBT.out.2.2⟩
                case s0 => exact ⟨(HBY.out.block _ HS.out.1.lt).trans HS.out.1, HS.out.2.trans (HBY.out.mono HS.out.2.size)⟩
                case k0 => exact fun j x hj => hj.below HBY.out
              | 1, hk, hs =>
                obtain rfl : 5 = i := by simpa using hk
                obtain rfl : 53 = s := by simpa using hs
                refine wpOp_step rfl (fun K hK => ?_)
                replace hK : Shut _ := hK
                simp only [setT, List.setIfInBounds_toArray, List.set_cons_succ, List.set_cons_zero]
                obtain ⟨cx, Y, hrun, hc1, hc2, hbt, hby, hsz⟩ := HCV1.out X
                have HS := Lib.hid hS
                have HBY := Lib.hid hby
                have HBT := Lib.hid hbt
                clear hS hby hbt
                go_simp
                refine hK.out _ _ ⟨?v1, ?e1, ?p1, ?s1, ?k1⟩
                case e1 => simp only [setT, List.setIfInBounds_toArray, List.set_cons_succ, List.set_cons_zero] <;> rfl
                case p1 => exact ⟨some ⟨X.heap.size, 0, none⟩, cx, by rw [HFV.out.2.1] <;> first | rfl | (rw [HCLL.out] <;> rfl), by rw [HFV.out.2.1]; exact HBT.out.more (by omega), by rw [HFV.out.2.1]; first | exact hc1 | (rw [HCLL.out]; exact hc1), hc2⟩
                case s1 => exact ⟨(HBY.out.block _ HS.out.1.lt).trans HS.out.1, HS.out.2.trans (HBY.out.mono HS.out.2.size)⟩
                case k1 => exact fun j x hj => hj.below HBY.out
              | 2, hk, hs =>
                obtain rfl : 9 = i := by simpa using hk
                obtain rfl : 57 = s := by simpa using hs
                refine wpOp_step rfl (fun K hK => ?_)
                replace hK : Shut _ := hK
                simp only [setT, List.setIfInBounds_toArray, List.set_cons_succ, List.set_cons_zero]
                obtain ⟨cx, Y, hrun, hc1, hc2, hbt, hby, hsz⟩ := HCV2.out X
                have HS := Lib.hid hS
                have HBY := Lib.hid hby
                have HBT := Lib.hid hbt
                clear hS hby hbt
                go_simp
                refine hK.out _ _ ⟨?v2, ?e2, ?p2, ?s2, ?k2⟩
                case e2 => simp only [setT, List.setIfInBounds_toArray, List.set_cons_succ, List.set_cons_zero] <;> rfl
                case p2 => exact ⟨some ⟨X.heap.size, 0, none⟩, cx, by rw [HFV.out.2.2.1] <;> first | rfl | (rw [HCLL.out] <;> rfl), by rw [HFV.out.2.2.1]; exact HBT.out.more (by omega), by rw [HFV.out.2.2.1]; first | exact hc1 | (rw [HCLL.out]; exact hc1), hc2⟩
                case s2 => exact ⟨(HBY.out.block _ HS.out.1.lt).trans HS.out.1, HS.out.2.trans (HBY.out.mono HS.out.2.size)⟩
                case k2 => exact fun j x hj => hj.below HBY.out
              | 3, hk, hs =>
                obtain rfl : 13 = i := by simpa using hk
                obtain rfl : 61 = s := by simpa using hs
                refine wpOp_step rfl (fun K hK => ?_)
                replace hK : Shut _ := hK
                simp only [setT, List.setIfInBounds_toArray, List.set_cons_succ, List.set_cons_zero]
                have HC := Lib.hid (HDG3.out X hS.2)
                have HS := Lib.hid hS
                clear hS
                go_simp
                go_wp2_with (first
                  | (go_at_call 114; refine HC.out.mono ?_; rintro e Y ⟨Ax, cx, rfl, hbt, hc1, hc2, hby⟩; have HBY := Lib.hid hby; have HBT := Lib.hid (And.intro hbt (And.intro hc1 hc2)); clear hbt hc1 hc2 hby)
                  | fail)
                refine hK.out _ _ ⟨?v3, ?e3, ?p3, ?s3, ?k3⟩
                case e3 => simp only [setT, List.setIfInBounds_toArray, List.set_cons_succ, List.set_cons_zero] <;> rfl
                case p3 => exact ⟨Ax, cx, by rw [HFV.out.2.2.2.1] <;> rfl, by rw [HFV.out.2.2.2.1]; exact HBT.out.1, by rw [HFV.out.2.2.2.1]; exact HBT.out.2.1, HBT.out.2.2⟩
                case s3 => exact ⟨(HBY.out.block _ HS.out.1.lt).trans HS.out.1, HS.out.2.trans (HBY.out.mono HS.out.2.size)⟩
                case k3 => exact fun j x hj => hj.below HBY.out
              | 4, hk, hs =>
                obtain rfl : 18 = i := by simpa using hk
                obtain rfl : 66 = s := by simpa using hs
                refine wpOp_step rfl (fun K hK => ?_)
                replace hK : Shut _ := hK
                simp only [setT, List.setIfInBounds_toArray, List.set_cons_succ, List.set_cons_zero]
                have HC := Lib.hid (HDG4.out X hS.2)
                have HS := Lib.hid hS
                clear hS
                go_simp
                go_wp2_with (first
                  | (go_at_call 114; refine HC.out.mono ?_; rintro e Y ⟨Ax, cx, rfl, hbt, hc1, hc2, hby⟩; have HBY := Lib.hid hby; have HBT := Lib.hid (And.intro hbt (And.intro hc1 hc2)); clear hbt hc1 hc2 hby)
                  | fail)
                refine hK.out _ _ ⟨?v4, ?e4, ?p4, ?s4, ?k4⟩
                case e4 => simp only [setT, List.setIfInBounds_toArray, List.set_cons_succ, List.set_cons_zero] <;> rfl
                case p4 => exact ⟨Ax, cx, by rw [HFV.out.2.2.2.2] <;> rfl, by rw [HFV.out.2.2.2.2]; exact HBT.out.1, by rw [HFV.out.2.2.2.2]; exact HBT.out.2.1, HBT.out.2.2⟩
                case s4 => exact ⟨(HBY.out.block _ HS.out.1.lt).trans HS.out.1, HS.out.2.trans (HBY.out.mono HS.out.2.size)⟩
                case k4 => exact fun j x hj => hj.below HBY.out
              | k + 5, hk, hs => simp at hk
            intro xs X hx hφ hS
            obtain ⟨x1, x2, x3, x4, x5, rfl⟩ : ∃ x1 x2 x3 x4 x5, xs = [x1, x2, x3, x4, x5] := by
              match xs, hx with
              | [a, b, c, d, e], _ => exact ⟨a, b, c, d, e, rfl⟩
            have hrow := RowP.lit (w := X) #[x1, x2, x3, x4, x5] FV (by rw [HFL.out]; rfl) (by rw [HFL.out]; decide) (fun k l hk => by
              have hk5 : k < 5 := by rw [← HFL.out]; exact (List.getElem?_eq_some_iff.1 hk).1
              have hx5 : ∃ x, [x1, x2, x3, x4, x5][k]? = some x := ⟨_, List.getElem?_eq_getElem (by simpa using hk5)⟩
              obtain ⟨x, hx⟩ := hx5
              refine ⟨x, by simpa using hx, ?_⟩
              have := hφ k x hx
              rwa [show FV.getD k [] = l by simp [List.getD, hk]] at this)
            rw [HFL.out] at hrow
            have HROW := Lib.hid hrow
            have HBX2 := Lib.hid (hS.2.alloc hS.2.size (.cells #[x1, x2, x3, x4, x5] 25))
            have HQX2 := Lib.hid (hS.1.alloc (.cells #[x1, x2, x3, x4, x5] 25))
            have hzX := hS.2.size
            have hlX := hS.1.lt
            have hHeld := hS
            clear hx hS hrow
            obtain ⟨B1, e1, rfl, _, _, _⟩ := hφ 0 x1 rfl
            obtain ⟨B2, e2, rfl, _, _, _⟩ := hφ 1 x2 rfl
            obtain ⟨B3, e3, rfl, _, _, _⟩ := hφ 2 x3 rfl
            obtain ⟨B4, e4, rfl, _, _, _⟩ := hφ 3 x4 rfl
            obtain ⟨B5, e5, rfl, _, _, _⟩ := hφ 4 x5 rfl
            clear hφ
            generalize (FV.getD 0 []).length = m1 at *
            generalize (FV.getD 1 []).length = m2 at *
            generalize (FV.getD 2 []).length = m3 at *
            generalize (FV.getD 3 []).length = m4 at *
            generalize (FV.getD 4 []).length = m5 at *
            simp only [setT, List.setIfInBounds_toArray, List.set_cons_succ, List.set_cons_zero]
            refine wpAnyH_ready (rs := [19]) (by kernel_rfl) (by simp) ?_
            refine AllReadyH.cons rfl (fun K hK => ?_) AllReadyH.nil
            go_simp
            refine hK.out _ _ ?_ (fun hHeld => ?_)
            · exact ⟨HQX2.out, HBX2.out⟩
            clear hK K
            try simp only [Act.put, List.getElem_toArray, List.getElem_cons_zero, List.getElem_cons_succ, List.setIfInBounds_toArray, List.set_cons_zero, List.set_cons_succ]
            refine wpAnyH_take (i := 20) (v := .slice (some ⟨X.heap.size, 0, none⟩) 5 5) rfl (by kernel_rfl) (by kernel_rfl) (by kernel_rfl) (fun _ _ _ h => h) (Or.inl ⟨by rfl, fun w hS => by first | (go_simp; done) | (go_simp; with_reducible rfl)⟩) hHeld ?_
            try simp only [Act.put, List.getElem_toArray, List.getElem_cons_zero, List.getElem_cons_succ, List.setIfInBounds_toArray, List.set_cons_zero, List.set_cons_succ]
            refine wpAnyH_done (by kernel_rfl) ?_ _
            generalize hw7 : X.alloc (.cells #[.slice B1 m1 e1, .slice B2 m2 e2, .slice B3 m3 e3, .slice B4 m4 e4, .slice B5 m5 e5] 25) = w7 at *
            clear hw7 hHeld
            generalize X.heap.size = b6 at *
            have z3 := (BlkIs.cell HQX2.out 3).trans (rfl : _ = some (Value.slice A n c))
            go_wp2_with fail
            go_loopw [5, 72] (fun x5 i wr => ∃ k : Nat, k ≤ n ∧ i = .int .i64 (k : Nat) ∧ Hid (RowP wr b6 x5 (FV ++ tos.take k)) ∧ Hid (Below w0.heap.size w0 wr) ∧ Hid (BlkIs wr w0.heap.size 27 #[.int .i64 id, .string sc, .string sf, .slice A n c, .int .i64 t, .slice Ab bn cb]) ∧ b6 ≤ wr.heap.size) (fun _ i _ => n + 1 - (intOf i).toNat)
            case atStart => exact ⟨0, Nat.zero_le _, rfl, Lib.hid (by rw [List.take_zero, List.append_nil]; exact HROW.out), HBX2, HQX2, by have := (HROW.out.low b6 rfl).2; omega⟩
            case round =>
              obtain ⟨k, hk, rfl, HRW, HBK, HQK, hb6⟩ := hrel
              clear HROW HBX2 HQX2 z3
              by_cases hlt : k < n
              · obtain ⟨g, o, rfl, hg, hXX⟩ := HEL.out k hlt
                have hcell := hXX wr HBK.out
                have hkn : (k : Int) < (n : Int) := by omega
                obtain ⟨cx, w8, hrun, hc1, hc2, hbt, hby, hsz⟩ := HTO.out k hlt wr
                have HTK : Hid (FV ++ tos.take (k + 1) = FV ++ tos.take k ++ [tos.getD k []]) := Lib.hid (by rw [List.take_succ_eq_append_getElem (by rw [HNN.out]; exact hlt), List.append_assoc]; simp [List.getD, HNN.out, hlt])
                have HKL : Hid ((FV ++ tos.take k).length + 1 ≤ 1000000000) := Lib.hid (by rw [List.length_append, HFL.out, List.length_take, HNN.out]; omega)
                have HB8 := Lib.hid (HBK.out.trans (hby.mono HBK.out.size))
                have HQ8 : Hid (BlkIs w8 w0.heap.size 27 #[.int .i64 id, .string sc, .string sf, .slice (some ⟨g, o, none⟩) n c, .int .i64 t, .slice Ab bn cb]) := Lib.hid ((hby.block _ HQK.out.lt).trans HQK.out)
                have HR8 := Lib.hid (HRW.out.below hby)
                have HBT := Lib.hid hbt
                have hlw := fun j hj => (HRW.out.low j hj).2
                obtain ⟨A5, c5, rfl, _, _⟩ := HRW.out.slice
                generalize hfl : (FV ++ tos.take k).length = fl at *
                have HFLL := Lib.hid hfl
                have HLW := Lib.hid hlw
                clear hfl hlw
                clear hXX hbt hby HRW
                generalize tos.getD k [] = p at *
                generalize hpl : p.length = pl at *
                have HPL := Lib.hid hpl
                clear hpl
                generalize str p = sp at *
                have HSW := Lib.hid hsz
                have HBA : Hid (Below w8.heap.size w8 (w8.alloc (.cells #[.slice (some ⟨wr.heap.size, 0, none⟩) pl cx] 25))) := Lib.hid ((Below.refl _ _).alloc (Nat.le_refl _) _)
                have HCE := Lib.hid ((cell_of_row _ w8.heap.size 0 #[.slice (some ⟨wr.heap.size, 0, none⟩) pl cx] 25 (0, 0) (heap_alloc_new w8 _)).trans rfl)
                clear hsz
                go_wp2_with (first
                  | (refine lappR (.tmp 76) (.tmp 79) rfl rfl (v := .slice A5 fl c5) (l := p) (A := some ⟨wr.heap.size, 0, none⟩) (c := cx) rfl (HR8.out.below HBA.out) (.inr ⟨(HBT.out.below (HBA.out.mono (by rw [HSW.out]; omega))).more (by rw [World.size_alloc, HSW.out]; omega), fun ad e hc => by (injection e with e; subst e; exact absurd (HLW.out _ hc) (Nat.lt_irrefl _))⟩) (by rw [HPL.out]; exact hc1) hc2 (g := w8.heap.size) (c1 := 1) rfl (by rw [HPL.out]; exact HCE.out) (by rw [HFLL.out]; exact HKL.out) (by rw [World.size_alloc, HSW.out]; omega) ?_; intro v9 w9 h1 h2 h3; have HR9 := Lib.hid h1; have HB9 := Lib.hid ((HB8.out.alloc HB8.out.size (.cells #[.slice (some ⟨wr.heap.size, 0, none⟩) pl cx] 25)).grown h2 (by rw [World.size_alloc, HSW.out]; have := HBK.out.size; omega) (fun j hj => by have := h3 j hj; omega)); have HQ9 := Lib.hid ((HQ8.out.alloc (.cells #[.slice (some ⟨wr.heap.size, 0, none⟩) pl cx] 25)).grown h2 (fun e => by have := h3 _ e; omega)); have hz9 := h2.size; clear h1 h2 h3)
                  | fail)
                have hz9' : b6 ≤ w9.heap.size := by rw [World.size_alloc, HSW.out] at hz9; omega
                clear hz9
                go_roundw
                case rel => exact ⟨k + 1, by omega, by go_num, Lib.hid (by rw [HTK.out]; exact HR9.out), HB9, HQ9, hz9'⟩
                case measure => simp [intOf]; omega
              · obtain rfl : k = n := by omega
                have hz : ¬ (k : Int) < (k : Int) := by omega
                have z5 := (BlkIs.cell HQK.out 5).trans (rfl : _ = some (Value.slice Ab bn cb))
                have HTK : Hid (FV ++ tos.take k ++ [body] = FLD) := Lib.hid (by rw [List.take_of_length_le (by rw [HNN.out]; omega)]; exact HFD.out)
                have HKL : Hid ((FV ++ tos.take k).length + 1 ≤ 1000000000) := Lib.hid (by rw [List.length_append, HFL.out, List.length_take, HNN.out]; omega)
                have HBA : Hid (Below wr.heap.size wr (wr.alloc (.cells #[.slice Ab bn cb] 25))) := Lib.hid ((Below.refl _ _).alloc (Nat.le_refl _) _)
                have HCE := Lib.hid ((cell_of_row _ wr.heap.size 0 #[.slice Ab bn cb] 25 (0, 0) (heap_alloc_new wr _)).trans rfl)
                have hel2 := El.old (HBO.out.below HBK.out) HBK.out.size (fun j hj => by have := (HRW.out.low j hj).1; omega)
                obtain ⟨A5, c5, rfl, _, _⟩ := HRW.out.slice
                have HEL2 : Hid (El wr (.slice A5 (FV ++ tos.take k).length c5) Ab body) := Lib.hid hel2
                clear hel2
                generalize hls : FV ++ tos.take k = ls at *
                clear hls
                generalize hfl : ls.length = fl at *
                have HFLL := Lib.hid hfl
                clear hfl
                go_wp2_with (first
                  | (refine lappR (.tmp 82) (.tmp 85) rfl rfl (v := .slice A5 fl c5) (l := body) (A := Ab) (c := cb) rfl (HRW.out.below HBA.out) (HEL2.out.below HBA.out) (by rw [HBL.out]; exact hb1) hb2 (g := wr.heap.size) (c1 := 1) rfl (by rw [HBL.out]; exact HCE.out) (by rw [HFLL.out]; exact HKL.out) (by rw [World.size_alloc]; omega) ?_; intro v9 w9 h1 h2 h3; rw [HTK.out] at h1; have HB9 := Lib.hid ((HBK.out.alloc HBK.out.size (.cells #[.slice Ab bn cb] 25)).grown h2 (by rw [World.size_alloc]; have := HBK.out.size; omega) (fun j hj => by have := h3 j hj; omega)); obtain ⟨A9, c9, rfl, _, _⟩ := h1.slice; have HRS := Lib.hid h1.rws; have HPU := Lib.hid (put_any HRS.out FLD.length c9 rfl (by have := HTOT.out; omega) (HGT.out _ HB9.out)); clear h1 h2 h3)
                  | (go_at_call 107; refine HPU.out.mono ?_; rintro e w10 ⟨v10, rfl, ho10, hb10⟩; have HF := Lib.hid (And.intro (own_more ho10 HB9.out.size) (HB9.out.trans (hb10.mono HB9.out.size))); clear ho10 hb10)
                  | fail)
                go_ret
                exact ⟨HF.out.2, .inl ⟨HR.out, v10, rfl, HF.out.1⟩⟩
      · have HR : Hid (ok = false) := Lib.hid (by rw [HOK.out, HSM.out, decide_eq_false hl0, Bool.and_false])
        have hi3 : 0 < id := by omega
        by_cases hnil : cls.isEmpty = true
        · rw [hnil] at hse
          go_wp2_with (first | (go_at_call 126; first | (refine (ned_t (by first | rfl | (simp; done) | (simp; omega)) _).mono ?_; rintro e w' ⟨rfl, rfl⟩) | (refine (ned_f (by first | rfl | (simp; done) | (simp; omega)) _).mono ?_; rintro e w' ⟨rfl, rfl⟩)) | fail)
          first | exact ⟨rfl, HB2.out, .inr ⟨HR.out, rfl⟩⟩ | exact ⟨HB2.out, .inr ⟨HR.out, rfl⟩⟩ | exact ⟨rfl, HB2.out, .inr ⟨HR.out, rfl, rfl⟩⟩
        · have hnil2 : cls.isEmpty = false := by simpa using hnil
          rw [hnil2] at hse
          have hl1 : 1 ≤ cls.length := by
            cases cls with
            | nil => simp at hnil
            | cons a b => simp
          have hl3 : ¬ (sc.size : Int) ≤ 20 := by omega
          clear hnil hnil2
          go_wp2_with (first | (go_at_call 126; first | (refine (ned_t (by first | rfl | (simp; done) | (simp; omega)) _).mono ?_; rintro e w' ⟨rfl, rfl⟩) | (refine (ned_f (by first | rfl | (simp; done) | (simp; omega)) _).mono ?_; rintro e w' ⟨rfl, rfl⟩)) | fail)
          first | exact ⟨rfl, HB2.out, .inr ⟨HR.out, rfl⟩⟩ | exact ⟨HB2.out, .inr ⟨HR.out, rfl⟩⟩ | exact ⟨rfl, HB2.out, .inr ⟨HR.out, rfl, rfl⟩⟩
    · have HR : Hid (ok = false) := Lib.hid (by rw [HOK.out, decide_eq_false hi0, Bool.false_and])
      by_cases hi3 : 0 < id
      · have hi4 : ¬ id ≤ 1099511627776 := by omega
        go_wp2_with (first | (go_at_call 126; refine (ned_f (by first | rfl | (simp; done) | (simp; omega)) _).mono ?_; rintro e w' ⟨rfl, rfl⟩) | fail)
        first | exact ⟨rfl, HB2.out, .inr ⟨HR.out, rfl⟩⟩ | exact ⟨HB2.out, .inr ⟨HR.out, rfl⟩⟩ | exact ⟨rfl, HB2.out, .inr ⟨HR.out, rfl, rfl⟩⟩
      · go_wp2_with (first | (go_at_call 126; refine (ned_f (by first | rfl | (simp; done) | (simp; omega)) _).mono ?_; rintro e w' ⟨rfl, rfl⟩) | fail)
        first | exact ⟨rfl, HB2.out, .inr ⟨HR.out, rfl⟩⟩ | exact ⟨HB2.out, .inr ⟨HR.out, rfl⟩⟩ | exact ⟨rfl, HB2.out, .inr ⟨HR.out, rfl, rfl⟩⟩
  · have HR : Hid (ok = false) := Lib.hid (by rw [HOK.out, Bool.false_and])
    have HB2 := Lib.hid (HB1.out.trans (hb2.mono HB1.out.size))
    first | exact ⟨rfl, HB2.out, .inr ⟨HR.out, rfl⟩⟩ | exact ⟨HB2.out, .inr ⟨HR.out, rfl⟩⟩ | exact ⟨rfl, HB2.out, .inr ⟨HR.out, rfl, rfl⟩⟩
end En
end Go.Proofs.YteapnkedpmcokaaGreatDoor
/- entry.Encode. Conditions: as stated at each. -/
namespace Go.Proofs.YteapnkedpmcokaaGreatDoor
set_option maxRecDepth 100000
namespace En
open Go.RowKit Go Go.Proofs.YteapnkedpmcokaaGreatDoor.Pa
attribute [local go_sem] Oper.semAt_some
theorem own_far {w : World} {N n sz : Nat} {e : TypeId} {v : Value} {xs : List Value} (h : w.ownsRow N e sz v n xs) {x : Addr} (hx : ∀ g, v.ownBlock = some g → g ≠ x.block) (u : Value) : (w.setCell x u).ownsRow N e sz v n xs := by
  refine ⟨h.1, ?_⟩
  rcases h.2 with h0 | ⟨g, cap, cur, rfl, hn, hh, rest⟩
  · exact .inl h0
  · exact .inr ⟨g, cap, cur, rfl, hn, (Below.heap_setCell w x u g (hx g rfl)).trans hh, rest⟩
/-- behind the closure of Encode. -/
def EncQ (w : World) (N R : Nat) (m : M) (x : Int) (X : World) : Prop :=
  Below N w X ∧ x = numE (okB m) ∧ ((okB m = true ∧ ∃ v, BlkIs X R 25 #[v] ∧ Own5 X N v (putS (fldS m))) ∨ (okB m = false ∧ BlkIs X R 25 #[.slice none 0 0]))
set_option maxHeartbeats 1600000 in
theorem encode1_any {W : World} {N R E V : Nat} {x0 x1 x2 x3 x4 x5 : Value} {m : M}
    (hS : Calls Tryz.prog 116 #[.agg #[x0, x1, x2, x3, x4, x5]] W (EncP W m))
    (hNR : N ≤ R) (hNE : N ≤ E) (hRE : R ≠ E) (hE : BlkIs W E 39 #[.int .i64 0]) (hV : BlkIs W V 27 #[x0, x1, x2, x3, x4, x5]) (hR : BlkIs W R 25 #[.slice none 0 0]) :
    Calls Tryz.prog 115 #[.pointer (some ⟨V, 0, none⟩), .pointer (some ⟨R, 0, none⟩)] W fun r w' => BlkIs w' E 39 #[.int .i64 0] ∧ ((r = .returned (.tuple #[]) ∧ EncQ W N R m 0 w') ∨ ∃ x, r = Fa.bad x ∧ EncQ W N R m x (w'.setCell ⟨E, 0, none⟩ (.int .i64 x))) := by
  have HS := Lib.hid hS
  have HE := Lib.hid (And.intro hE (And.intro hR (And.intro hNR (And.intro hNE hRE))))
  have y0 := (hV.cell 0).trans (rfl : _ = some x0)
  have y1 := (hV.cell 1).trans (rfl : _ = some x1)
  have y2 := (hV.cell 2).trans (rfl : _ = some x2)
  have y3 := (hV.cell 3).trans (rfl : _ = some x3)
  have y4 := (hV.cell 4).trans (rfl : _ = some x4)
  have y5 := (hV.cell 5).trans (rfl : _ = some x5)
  have hRlt : R < W.heap.size := hR.lt
  clear hE hV hR hNR hNE hRE hS
  unfold EncQ
  go_enter Tryz.func115, Tryz.ntmps115
  go_wp2_with fail
  refine HS.out.mono ?_
  rintro r w' ⟨hb, ⟨h1, v3, rfl, h3⟩ | ⟨h1, rfl⟩⟩
  · obtain ⟨A6, c6, rfl, _, _⟩ := own_slice h3
    have hR' : BlkIs w' R 25 #[.slice none 0 0] := (hb.block _ hRlt).trans HE.out.2.1
    have hE' : BlkIs w' E 39 #[.int .i64 0] := (hb.block _ HE.out.1.lt).trans HE.out.1
    have z0 := (hR'.cell 0).trans (rfl : _ = some (Value.slice none 0 0))
    have zf := hR'.froz 0
    have hNW : N ≤ W.heap.size := by have := HE.out.2.2.1; omega
    have hO : Own5 (w'.setCell ⟨R, 0, none⟩ (.slice A6 (putS (fldS m)).length c6)) N (.slice A6 (putS (fldS m)).length c6) (putS (fldS m)) := own_more (own_far h3 (fun g hg => by have := (h3.lt g hg).1; show g ≠ R; omega) _) hNW
    have HF : Hid (BlkIs (w'.setCell ⟨R, 0, none⟩ (.slice A6 (putS (fldS m)).length c6)) E 39 #[.int .i64 0] ∧ (Below N W (w'.setCell ⟨R, 0, none⟩ (.slice A6 (putS (fldS m)).length c6)) ∧ (0 : Int) = numE (okB m) ∧ ((okB m = true ∧ ∃ v, BlkIs (w'.setCell ⟨R, 0, none⟩ (.slice A6 (putS (fldS m)).length c6)) R 25 #[v] ∧ Own5 (w'.setCell ⟨R, 0, none⟩ (.slice A6 (putS (fldS m)).length c6)) N v (putS (fldS m))) ∨ (okB m = false ∧ BlkIs (w'.setCell ⟨R, 0, none⟩ (.slice A6 (putS (fldS m)).length c6)) R 25 #[.slice none 0 0])))) :=
      Lib.hid ⟨hE'.far (fun e => HE.out.2.2.2.2 e.symm) _, (hb.mono hNW).setCell HE.out.2.2.1 _, by rw [h1]; rfl, .inl ⟨h1, _, hR'.put 0 _, hO⟩⟩
    clear hb h1 h3 hO hR' hE'
    generalize (putS (fldS m)).length = m9 at *
    go_wp2_with fail
    go_end0
    exact ⟨HF.out.1, .inl ⟨rfl, HF.out.2⟩⟩
  · have hR' : BlkIs w' R 25 #[.slice none 0 0] := (hb.block _ hRlt).trans HE.out.2.1
    have hE' : BlkIs w' E 39 #[.int .i64 0] := (hb.block _ HE.out.1.lt).trans HE.out.1
    have hNW : N ≤ W.heap.size := by have := HE.out.2.2.1; omega
    exact ⟨rfl, hE', .inr ⟨_, rfl, (hb.mono hNW).setCell HE.out.2.2.2.1 _, by rw [h1]; rfl, .inr ⟨h1, hR'.far (fun e => HE.out.2.2.2.2 e) _⟩⟩⟩
/-- what Encode answers. -/
def EncodeP (w : World) (m : M) (e : Ending) (w' : World) : Prop := Below w.heap.size w w' ∧ ∃ v, e = .returned (.tuple #[v, .int .i64 (numE (okB m))]) ∧ ((okB m = true ∧ Own5 w' w.heap.size v (putS (fldS m))) ∨ (okB m = false ∧ v = .slice none 0 0))
set_option maxHeartbeats 1600000 in
theorem encode_any {w : World} {x : Value} {m : M} (h : MsgAt w w.heap.size x m) (hs : SmallM m) (hG : GlT w) :
    Calls Tryz.prog 108 #[x] w (EncodeP w m) := by
  have h0 := h
  obtain ⟨A, c, Ab, cb, rfl, _⟩ := h
  have HRP := Lib.hid (fun X (hX : Below w.heap.size w X) => encoded_any ((h0.below hX).more hX.size) hs (hG.below hX hG.lt))
  unfold EncodeP
  clear h0 hs hG
  generalize str m.cls = sc at *
  generalize str m.fr = sf at *
  generalize m.tos.length = n at *
  generalize m.body.length = bn at *
  generalize m.at_ = t at *
  generalize m.id = id at *
  have k0 : BlkIs (w.alloc (.cells #[.int .i64 id, .string sc, .string sf, .slice A n c, .int .i64 t, .slice Ab bn cb] 27)) w.heap.size 27 #[.int .i64 id, .string sc, .string sf, .slice A n c, .int .i64 t, .slice Ab bn cb] := BlkIs.new w _ _
  have k1 := BlkIs.new (w.alloc (.cells #[.int .i64 id, .string sc, .string sf, .slice A n c, .int .i64 t, .slice Ab bn cb] 27)) 25 #[.slice none 0 0]
  rw [World.size_alloc] at k1
  have kB : Below w.heap.size w ((w.alloc (.cells #[.int .i64 id, .string sc, .string sf, .slice A n c, .int .i64 t, .slice Ab bn cb] 27)).alloc (.cells #[.slice none 0 0] 25)) := ((Below.refl _ w).alloc (Nat.le_refl _) _).alloc (by simp) _
  have kz : ((w.alloc (.cells #[.int .i64 id, .string sc, .string sf, .slice A n c, .int .i64 t, .slice Ab bn cb] 27)).alloc (.cells #[.slice none 0 0] 25)).heap.size = w.heap.size + 2 := by simp
  have HKB := Lib.hid (And.intro kB (And.intro (k0.alloc (.cells #[.slice none 0 0] 25)) (And.intro k1 kz)))
  have HAT : Hid (∀ w2, Below w.heap.size w w2 → BlkIs w2 w.heap.size 27 #[.int .i64 id, .string sc, .string sf, .slice A n c, .int .i64 t, .slice Ab bn cb] → BlkIs w2 (w.heap.size + 1) 25 #[.slice none 0 0] → w2.heap.size = w.heap.size + 2 →
      Calls Tryz.prog 22 #[.func (.func 115) #[] #[.pointer (some ⟨w.heap.size, 0, none⟩), .pointer (some ⟨w.heap.size + 1, 0, none⟩)]] w2 fun r w' => ∃ x, r = .returned (.int .i64 x) ∧ EncQ (w2.alloc (.cells #[.int .i64 0] 39)) w.heap.size (w.heap.size + 1) m x w') := Lib.hid fun w2 g1 g2 g3 g4 => by
    refine Fa.attempt_c 115 _ w2 _ (enters_of Tryz.func115 (by kernel_rfl) rfl _) ?_
    have ga : Below w2.heap.size w2 (w2.alloc (.cells #[.int .i64 0] 39)) := (Below.refl _ _).alloc (Nat.le_refl _) _
    have gb := g1.trans (ga.mono g1.size)
    exact encode1_any (HRP.out _ gb) (by omega) (by omega) (by omega) (BlkIs.new w2 _ _) (g2.alloc _) (g3.alloc _)
  clear k0 k1 kB kz HRP
  go_enter Tryz.func108, Tryz.ntmps108
  go_wp2_with fail
  refine (HAT.out _ HKB.out.1 HKB.out.2.1 HKB.out.2.2.1 HKB.out.2.2.2).mono ?_
  rintro r w3 ⟨x, rfl, hbel, rfl, hq⟩
  have HB3 : Hid (Below w.heap.size w w3) := Lib.hid ((HKB.out.1.alloc HKB.out.1.size _).trans hbel)
  clear hbel HAT HKB
  rcases hq with ⟨h1, v4, h3, h4⟩ | ⟨h1, h3⟩
  · have y0 := (h3.cell 0).trans (rfl : _ = some v4)
    have HF := Lib.hid (And.intro h1 h4)
    clear h1 h3 h4
    generalize hne : numE (okB m) = ne at *
    have HNE := Lib.hid hne
    clear hne
    go_wp2_with fail
    refine bodyPost_ret (results_tmp2 rfl _ _ _) rfl ?_
    exact ⟨HB3.out, _, by rw [HNE.out]; rfl, .inl ⟨HF.out.1, HF.out.2⟩⟩
  · have y0 := (h3.cell 0).trans (rfl : _ = some (Value.slice none 0 0))
    have HF := Lib.hid h1
    clear h1 h3
    generalize hne : numE (okB m) = ne at *
    have HNE := Lib.hid hne
    clear hne
    go_wp2_with fail
    refine bodyPost_ret (results_tmp2 rfl _ _ _) rfl ?_
    exact ⟨HB3.out, _, by rw [HNE.out]; rfl, .inr ⟨HF.out, rfl⟩⟩
end En
end Go.Proofs.YteapnkedpmcokaaGreatDoor
