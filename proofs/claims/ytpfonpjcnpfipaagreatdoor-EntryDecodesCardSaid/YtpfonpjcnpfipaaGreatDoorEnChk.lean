/- entry.need, entry.check; the document's Check. Conditions: as stated at each. -/
import Derived.Test.YtpfonpjcnpfipaaGreatDoorEnTx
import Derived.Test.YtpfonpjcnpfipaaGreatDoorPaEach
import Derived.Deep.CutBlock
namespace Go.Proofs.YtpfonpjcnpfipaaGreatDoor
set_option maxRecDepth 100000
namespace En
open Go.RowKit Go Go.Proofs.YtpfonpjcnpfipaaGreatDoor.Pa
attribute [local go_sem] Oper.semAt_some
theorem ned_t {b : Bool} (h : b = true) (w : World) : Calls Tryz.prog 23 #[.bool b] w fun e w' => e = .returned (.tuple #[]) ∧ w = w' := by
  subst h
  go_enter Tryz.func23, Tryz.ntmps23
  go_wp2_with (first
    | (refine (Fa.nd_ok 150 _).mono ?_; rintro e w' ⟨rfl, rfl⟩)
    | fail)
  go_end0
  exact ⟨rfl, rfl⟩
theorem ned_f {b : Bool} (h : b = false) (w : World) : Calls Tryz.prog 23 #[.bool b] w fun e w' => e = Fa.bad 150 ∧ w = w' := by
  subst h
  go_enter Tryz.func23, Tryz.ntmps23
  go_wp2_with (first
    | (refine (Fa.nd_bad 150 _).mono ?_; rintro e w' ⟨rfl, rfl⟩)
    | fail)
  exact ⟨rfl, rfl, rfl⟩
/-- what Check asks of an envelope and of how many bytes there are. -/
def checkE (e : Env) (n : Nat) : Bool := envB e.1 e.2.1 e.2.2 && decide (n ≤ 500000)
def CheckP (w : World) (r : Bool) (e : Ending) (w' : World) : Prop := Below w.heap.size w w' ∧ ((r = true ∧ e = .returned (.tuple #[])) ∨ (r = false ∧ e = Fa.bad 150))
set_option maxHeartbeats 3200000 in
theorem check_any {w : World} {x : Value} {e : Env} (h : EnvAt w w.heap.size x e) (hs : SmallE e) (A2 : Option Addr) (n2 c2 : Nat) :
    Calls Tryz.prog 19 #[x, .slice A2 n2 c2] w (CheckP w (checkE e n2)) := by
  obtain ⟨A, c, rfl, hT, hc1, hc2⟩ := h
  obtain ⟨ff, ps, v⟩ := e
  obtain ⟨s1, s2, s3, s4, s5⟩ := hs
  simp only at hT hc1 hc2 s1 s2 s3 s4 s5 ⊢
  have HMB := Lib.hid (fun X => mailbox_any ff (by omega) X)
  have HMT := Lib.hid (fun k X => mailbox_any (ps.getD k []) (s2 k) X)
  have HOK : Hid (checkE (ff, ps, v) n2 = (((ff.isEmpty || mailS ff) && (decide (1 ≤ ps.length ∧ ps.length ≤ 100) && (decide (0 ≤ v) && ps.all mailS))) && decide (n2 ≤ 500000))) := Lib.hid rfl
  have hse := str_empty ff
  have HEL := Lib.hid hT.els
  have HALL := Lib.hid (fun n (hn : ps.length = n) => all_mail hn)
  have HBAD := Lib.hid (fun n j (hn : ps.length = n) => not_mail (j := j) hn)
  have hqn := BlkIs.new w 26 #[.string (str ff), .slice A ps.length c, .int .i64 v]
  have han : Below w.heap.size w (w.alloc (.cells #[.string (str ff), .slice A ps.length c, .int .i64 v] 26)) := (Below.refl _ _).alloc (Nat.le_refl _) _
  unfold CheckP
  clear hT s1 s2
  generalize ff.isEmpty = fe at *
  generalize mailS ff = mb at *
  generalize checkE (ff, ps, v) n2 = res at *
  generalize str ff = s0 at *
  generalize hn : ps.length = n at *
  have HALL2 := Lib.hid (HALL.out n rfl)
  have HBAD2 := Lib.hid (fun j => HBAD.out n j rfl)
  clear HALL HBAD hn
  have HB0 := Lib.hid han
  have HQ0 := Lib.hid hqn
  have z0c := (BlkIs.cell hqn 0).trans (rfl : _ = some (Value.string s0))
  clear hqn han
  go_enter Tryz.func19, Tryz.ntmps19
  go_upto_region 1 with fail
  generalize hw1 : w.alloc (.cells #[.string s0, .slice A n c, .int .i64 v] 26) = w1 at *
  clear hw1
  go_cut [] from 6 (fun wd => (fe || mb) = true ∧ Hid (Below w.heap.size w wd) ∧ Hid (BlkIs wd w.heap.size 26 #[.string s0, .slice A n c, .int .i64 v]))
  case first =>
    cases fe with
    | true =>
      go_wp2_with (first | (go_at_call 23; refine (ned_t (by first | rfl | (simp; done) | (simp; omega)) _).mono ?_; rintro e w' ⟨rfl, rfl⟩) | fail)
      go_meet
      exact ⟨rfl, HB0, HQ0⟩
    | false =>
      cases mb with
      | true =>
        go_wp2_with (first
          | (go_at_call 35; refine (HMB.out _).mono ?_; rintro e w2 ⟨rfl, hb2⟩; have HB2 := Lib.hid (HB0.out.trans (hb2.mono HB0.out.size)); have HQ2 : Hid (BlkIs w2 w.heap.size 26 #[.string s0, .slice A n c, .int .i64 v]) := Lib.hid ((hb2.block _ HQ0.out.lt).trans HQ0.out); clear hb2)
          | (go_at_call 23; refine (ned_t (by first | rfl | (simp; done) | (simp; omega)) _).mono ?_; rintro e w' ⟨rfl, rfl⟩) | fail)
        go_meet
        exact ⟨rfl, HB2, HQ2⟩
      | false =>
        have HR : Hid (res = false) := Lib.hid (by rw [HOK.out]; simp)
        go_wp2_with (first
          | (go_at_call 35; refine (HMB.out _).mono ?_; rintro e w2 ⟨rfl, hb2⟩; have HB2 := Lib.hid (HB0.out.trans (hb2.mono HB0.out.size)); clear hb2)
          | (go_at_call 23; refine (ned_f (by first | rfl | (simp; done) | (simp; omega)) _).mono ?_; rintro e w' ⟨rfl, rfl⟩) | fail)
        first | exact ⟨rfl, HB2.out, .inr ⟨HR.out, rfl⟩⟩ | exact ⟨HB2.out, .inr ⟨HR.out, rfl⟩⟩ | exact ⟨rfl, HB2.out, .inr ⟨HR.out, rfl, rfl⟩⟩
  case rest =>
    obtain ⟨hfm, HBX, HQX⟩ := hcut
    rw [hfm, Bool.true_and] at HOK
    clear HB0 HQ0 z0c hfm HMB
    have z1 := (BlkIs.cell HQX.out 1).trans (rfl : _ = some (Value.slice A n c))
    have z2 := (BlkIs.cell HQX.out 2).trans (rfl : _ = some (Value.int .i64 v))
    by_cases hn0 : n = 0
    · have HR : Hid (res = false) := Lib.hid (by rw [HOK.out, decide_eq_false (by omega : ¬ (1 ≤ n ∧ n ≤ 100))]; simp)
      subst hn0
      go_wp2_with (first | (go_at_call 23; refine (ned_f (by first | rfl | (simp; done) | (simp; omega)) _).mono ?_; rintro e w' ⟨rfl, rfl⟩) | fail)
      first | exact ⟨rfl, HBX.out, .inr ⟨HR.out, rfl⟩⟩ | exact ⟨HBX.out, .inr ⟨HR.out, rfl⟩⟩ | exact ⟨rfl, HBX.out, .inr ⟨HR.out, rfl, rfl⟩⟩
    have hn0' : (0 : Int) < n := by omega
    by_cases hn1 : (n : Int) ≤ 100
    · have HO2 : Hid (res = ((decide (0 ≤ v) && ps.all mailS) && decide (n2 ≤ 500000))) := Lib.hid (by rw [HOK.out, decide_eq_true (by omega : 1 ≤ n ∧ n ≤ 100), Bool.true_and])
      clear HOK z2
      go_wp2_with (first | (go_at_call 23; refine (ned_t (by first | rfl | (simp; done) | (simp; omega)) _).mono ?_; rintro e w' ⟨rfl, rfl⟩) | fail)
      go_loopw [29] (fun i wr => ∃ k : Nat, k ≤ n ∧ i = .int .i64 (k : Nat) ∧ Hid (∀ j, j < k → mailS (ps.getD j []) = true) ∧ Hid (Below w.heap.size w wr) ∧ Hid (BlkIs wr w.heap.size 26 #[.string s0, .slice A n c, .int .i64 v])) (fun i _ => n + 1 - (intOf i).toNat)
      case atStart => exact ⟨0, Nat.zero_le _, rfl, Lib.hid fun j hj => absurd hj (Nat.not_lt_zero _), HBX, HQX⟩
      case round =>
        obtain ⟨k, hk, rfl, HJ, HBK, HQK⟩ := hrel
        clear HBX HQX z1
        by_cases hlt : k < n
        · obtain ⟨g, o, rfl, hg, hX⟩ := HEL.out k hlt
          have hcell := hX wr HBK.out
          have HM := Lib.hid (HMT.out k)
          have hkn : (k : Int) < (n : Int) := by omega
          clear hX
          generalize hms : mailS (ps.getD k []) = mk at *
          have HMS := Lib.hid hms
          clear hms
          generalize str (ps.getD k []) = sk at *
          cases mk with
          | true =>
            go_wp2_with (first
              | (go_at_call 35; refine (HM.out _).mono ?_; rintro e w3 ⟨rfl, hb3⟩; have HB3 := Lib.hid (HBK.out.trans (hb3.mono HBK.out.size)); have HQ3 : Hid (BlkIs w3 w.heap.size 26 #[.string s0, .slice (some ⟨g, o, none⟩) n c, .int .i64 v]) := Lib.hid ((hb3.block _ HQK.out.lt).trans HQK.out); clear hb3)
              | (go_at_call 23; refine (ned_t (by first | rfl | (simp; done) | (simp; omega)) _).mono ?_; rintro e w' ⟨rfl, rfl⟩) | fail)
            go_roundw
            case rel =>
              refine ⟨k + 1, by omega, by go_num, Lib.hid fun j hj => ?_, HB3, HQ3⟩
              rcases Nat.lt_or_ge j k with h | h
              · exact HJ.out j h
              · obtain rfl : j = k := by omega
                exact HMS.out
            case measure => simp [intOf]; omega
          | false =>
            have HR : Hid (res = false) := Lib.hid (by rw [HO2.out, HBAD2.out k hlt HMS.out]; simp)
            go_wp2_with (first
              | (go_at_call 35; refine (HM.out _).mono ?_; rintro e w3 ⟨rfl, hb3⟩; have HB3 := Lib.hid (HBK.out.trans (hb3.mono HBK.out.size)); clear hb3)
              | (go_at_call 23; refine (ned_f (by first | rfl | (simp; done) | (simp; omega)) _).mono ?_; rintro e w' ⟨rfl, rfl⟩) | fail)
            first | exact ⟨rfl, HB3.out, .inr ⟨HR.out, rfl⟩⟩ | exact ⟨HB3.out, .inr ⟨HR.out, rfl⟩⟩ | exact ⟨rfl, HB3.out, .inr ⟨HR.out, rfl, rfl⟩⟩
        · obtain rfl : k = n := by omega
          have hkn : ¬ (k : Int) < (k : Int) := by omega
          have z2 := (BlkIs.cell HQK.out 2).trans (rfl : _ = some (Value.int .i64 v))
          rw [HALL2.out HJ.out, Bool.and_true] at HO2
          by_cases hv : 0 ≤ v
          · by_cases hb : n2 ≤ 500000
            · have HR : Hid (res = true) := Lib.hid (by rw [HO2.out, decide_eq_true hv, decide_eq_true hb]; rfl)
              have hb' : (n2 : Int) ≤ 500000 := by omega
              go_wp2_with (first | (go_at_call 23; refine (ned_t (by first | rfl | (simp; done) | (simp; omega)) _).mono ?_; rintro e w' ⟨rfl, rfl⟩) | fail)
              go_end0
              first | exact ⟨HBK.out, .inl ⟨HR.out, rfl⟩⟩ | exact ⟨HBK.out, .inl HR.out⟩
            · have HR : Hid (res = false) := Lib.hid (by rw [HO2.out, decide_eq_false hb]; simp)
              have hb' : ¬ (n2 : Int) ≤ 500000 := by omega
              go_wp2_with (first | (go_at_call 23; first | (refine (ned_t (by first | rfl | (simp; done) | (simp; omega)) _).mono ?_; rintro e w' ⟨rfl, rfl⟩) | (refine (ned_f (by first | rfl | (simp; done) | (simp; omega)) _).mono ?_; rintro e w' ⟨rfl, rfl⟩)) | fail)
              first | exact ⟨rfl, HBK.out, .inr ⟨HR.out, rfl⟩⟩ | exact ⟨HBK.out, .inr ⟨HR.out, rfl⟩⟩ | exact ⟨rfl, HBK.out, .inr ⟨HR.out, rfl, rfl⟩⟩
          · have HR : Hid (res = false) := Lib.hid (by rw [HO2.out, decide_eq_false hv]; simp)
            go_wp2_with (first | (go_at_call 23; refine (ned_f (by first | rfl | (simp; done) | (simp; omega)) _).mono ?_; rintro e w' ⟨rfl, rfl⟩) | fail)
            first | exact ⟨rfl, HBK.out, .inr ⟨HR.out, rfl⟩⟩ | exact ⟨HBK.out, .inr ⟨HR.out, rfl⟩⟩ | exact ⟨rfl, HBK.out, .inr ⟨HR.out, rfl, rfl⟩⟩
    · have HR : Hid (res = false) := Lib.hid (by rw [HOK.out, decide_eq_false (by omega : ¬ (1 ≤ n ∧ n ≤ 100))]; simp)
      go_wp2_with (first | (go_at_call 23; refine (ned_f (by first | rfl | (simp; done) | (simp; omega)) _).mono ?_; rintro e w' ⟨rfl, rfl⟩) | fail)
      first | exact ⟨rfl, HBX.out, .inr ⟨HR.out, rfl⟩⟩ | exact ⟨HBX.out, .inr ⟨HR.out, rfl⟩⟩ | exact ⟨rfl, HBX.out, .inr ⟨HR.out, rfl, rfl⟩⟩
end En
end Go.Proofs.YtpfonpjcnpfipaaGreatDoor
