/- The document's Covers. Conditions: as stated at each. -/
import Derived.Test.YtamjellnmlgbeaaHoRLift
import Derived.Test.YtamjellnmlgbeaaHoCovers
namespace Go.Proofs.Ytamjellnmlgbeaa
set_option maxRecDepth 100000
namespace Ho
open Go.RowKit Go Go.Proofs.Ytamjellnmlgbeaa.Pa Go.Proofs.Ytamjellnmlgbeaa.Rt
theorem covB_1 {h : R} {fr : L} {to : List L} (c : (h.2 == []) = true) : covB h fr to = true := by unfold covB; rw [c]; rfl
theorem covB_2 {h : R} {fr : L} {to : List L} (c : (foldS fr == foldS h.2) = true) : covB h fr to = true := by unfold covB; rw [c, Bool.or_true]; rfl
theorem covB_3 {h : R} {fr : L} {to : List L} {m : Nat} (hm : m < to.length) (c : (foldS (to.getD m []) == foldS h.2) = true) : covB h fr to = true := by
  unfold covB
  rw [anyT_hit (f := fun a => foldS a == foldS h.2) hm c, Bool.or_true]
theorem covB_4 {h : R} {fr : L} {to : List L} (c1 : (h.2 == []) = false) (c2 : (foldS fr == foldS h.2) = false) (c3 : ∀ m, m < to.length → (foldS (to.getD m []) == foldS h.2) = false) : covB h fr to = false := by
  unfold covB
  rw [c1, c2, Bool.false_or, Bool.false_or, List.any_eq_false]
  intro x hx
  obtain ⟨i, hi, rfl⟩ := List.mem_iff_getElem.1 hx
  have := c3 i hi
  rw [List.getD, List.getElem?_eq_getElem hi] at this
  simpa using this
set_option maxHeartbeats 6400000 in
theorem rcovers_any {w0 : World} {B : Nat} {A T : Option Addr} {l : List R} {fr : L} {to : List L} (hp : Prs w0 B A (cvR l)) (ht : Tx w0 B T to) (hB : B ≤ w0.heap.size) (n c tn tc : Nat) (at' : Int) (hn : l.length = n) (htn : to.length = tn) (hn1 : n ≤ 1000) (hn2 : tn ≤ 1000) (hok : OkH l) (hfr : fr.length ≤ 140737488355328) (hto : ∀ k, (to.getD k []).length ≤ 140737488355328) :
    Calls Try.prog 16 #[.slice A n c, .agg #[.string (str fr), .slice T tn tc, .int .i64 at']] w0 fun e w' => e = .returned (.bool (covS l fr to)) ∧ Below w0.heap.size w0 w' := by
  have HEL := Lib.hid (holds_of hp)
  have HET := Lib.hid ht.els
  have HL := Lib.hid hn
  have HTN := Lib.hid htn
  have HB0 := Lib.hid hB
  have hbx := below_b w0 (.cells #[.string (str fr), .slice T tn tc, .int .i64 at'] 29)
  have HN := BlkIs.new w0 29 #[.string (str fr), .slice T tn tc, .int .i64 at']
  have HFW := Lib.hid (fun k X => rfold_any (l.getD k r0).2 X (hok.at_ k).2)
  have HFF := Lib.hid (fun X => rfold_any fr X hfr)
  have HFT := Lib.hid (fun k X => rfold_any (to.getD k []) X (hto k))
  have HQ1 := Lib.hid (fun k => beq_st (a := foldS fr) (b := foldS (l.getD k r0).2))
  have HQ2 := Lib.hid (fun k m => beq_st (a := foldS (to.getD m [])) (b := foldS (l.getD k r0).2))
  clear hp ht hn htn hok hfr hto
  generalize str fr = s0 at *
  generalize str (foldS fr) = s1 at *
  go_enter Try.func16, Try.ntmps16
  go_wp2_with fail
  generalize w0.alloc (.cells #[.string s0, .slice T tn tc, .int .i64 at'] 29) = w1 at *
  go_loopw [6, 7, 12] (fun _ _ i wr => ∃ k : Nat, k ≤ n ∧ i = .int .i64 k ∧ (∀ j, j < k → covB (l.getD j r0) fr to = false) ∧ Below w0.heap.size w0 wr ∧ BlkIs wr w0.heap.size 29 #[.string s0, .slice T tn tc, .int .i64 at']) (fun _ _ i _ => n - (intOf i).toNat)
  case atStart => exact ⟨0, Nat.zero_le _, rfl, fun j hj => absurd hj (Nat.not_lt_zero _), hbx, HN⟩
  case round =>
    obtain ⟨k, hk, rfl, hno, hbel, hblk⟩ := hrel
    clear hbx HN
    by_cases hlt : k < n
    · obtain ⟨g, o, rfl, hg, hall⟩ := HEL.out k (by rw [HL.out]; exact hlt)
      obtain ⟨y0, y1⟩ := hall wr (hbel.mono HB0.out)
      have hbl := hblk.lt
      have HNO := Lib.hid hno
      have hb1 := hbel.trans ((below_b wr (.cells #[.string (str (l.getD k r0).1), .string (str (l.getD k r0).2)] 24)).mono hbel.size)
      have hq1 := hblk.alloc (.cells #[.string (str (l.getD k r0).1), .string (str (l.getD k r0).2)] 24)
      have hr1 := BlkIs.new wr 24 #[.string (str (l.getD k r0).1), .string (str (l.getD k r0).2)]
      have HHIT := Lib.hid (fun h => cov_hit (l := l) (fr := fr) (to := to) (k := k) (by rw [HL.out]; exact hlt) h)
      have HK := HFW.out k
      have he1 := HQ1.out k
      have HE2 := Lib.hid (HQ2.out k)
      have hew := st_empty (l.getD k r0).2
      clear hall hbel hblk hno HFW HQ1 HQ2
      generalize str (l.getD k r0).1 = t0 at *
      generalize str (l.getD k r0).2 = t1 at *
      generalize str (foldS (l.getD k r0).2) = t2 at *
      have HK2 := Lib.hid HK
      have HB1 := Lib.hid (And.intro hb1 (And.intro hq1 hr1))
      clear HK hb1 hq1 hr1
      go_wp2_with fail
      have hx1 := HB1.out.2.2.lt
      have z1 := (HB1.out.2.2.cell 1).trans (rfl : _ = some (Value.string t1))
      generalize wr.alloc (.cells #[.string t0, .string t1] 24) = w2 at *
      generalize hbk : wr.heap.size = bk at *
      clear hbk
      refine (HK2.out _).mono ?_
      rintro e w3 ⟨rfl, hb3⟩
      have HB3 : Hid (Below w0.heap.size w0 w3 ∧ BlkIs w3 w0.heap.size 29 #[.string s0, .slice T tn tc, .int .i64 at'] ∧ BlkIs w3 bk 24 #[.string t0, .string t1]) := Lib.hid ⟨HB1.out.1.trans (hb3.mono HB1.out.1.size), (hb3.block _ HB1.out.2.1.lt).trans HB1.out.2.1, (hb3.block _ HB1.out.2.2.lt).trans HB1.out.2.2⟩
      have z3 := (BlkIs.cell HB3.out.2.2 1).trans (rfl : _ = some (Value.string t1))
      have x3 := (BlkIs.cell HB3.out.2.1 0).trans (rfl : _ = some (Value.string s0))
      clear hb3 HB1 HK2 z1 hx1
      cases c1 : ((l.getD k r0).2 == []) with
      | true =>
        have HF := Lib.hid (HHIT.out (covB_1 c1))
        rw [c1] at hew
        clear c1 HHIT
        go_wp2_with fail
        go_ret
        exact ⟨ret_bool HF.out.symm, HB3.out.1⟩
      | false =>
        rw [c1] at hew
        cases c2 : (foldS fr == foldS (l.getD k r0).2) with
        | true =>
          have HF := Lib.hid (HHIT.out (covB_2 c2))
          rw [c2] at he1
          clear c1 c2 HHIT
          go_wp2_with (first | (go_at_call 30; refine (HFF.out _).mono ?_; rintro e w4 ⟨rfl, hb4⟩; have HB4 := Lib.hid (HB3.out.1.trans (hb4.mono HB3.out.1.size)); clear hb4) | fail)
          go_ret
          exact ⟨ret_bool HF.out.symm, HB4.out⟩
        | false =>
          rw [c2] at he1
          have HNX := Lib.hid (fun c3 => covB_4 (h := l.getD k r0) (fr := fr) (to := to) c1 c2 c3)
          have HH3 := Lib.hid (fun m hm c => HHIT.out (covB_3 (h := l.getD k r0) (fr := fr) (to := to) (m := m) hm c))
          clear c1 c2 HHIT
          go_wp2_with (first | (go_at_call 30; refine (HFF.out _).mono ?_; rintro e w4 ⟨rfl, hb4⟩; have HB4 : Hid (Below w0.heap.size w0 w4 ∧ BlkIs w4 w0.heap.size 29 #[.string s0, .slice T tn tc, .int .i64 at']) := Lib.hid ⟨HB3.out.1.trans (hb4.mono HB3.out.1.size), (hb4.block _ HB3.out.2.1.lt).trans HB3.out.2.1⟩; clear hb4; have x4 := (BlkIs.cell HB4.out.2 1).trans (rfl : _ = some (Value.slice T tn tc))) | fail)
          clear HB3 z3 x3 y0 y1 x4 hew he1
          go_loopw [9, 32] (fun _ i wr => ∃ m : Nat, m ≤ tn ∧ i = .int .i64 m ∧ (∀ j, j < m → (foldS (to.getD j []) == foldS (l.getD k r0).2) = false) ∧ Below w0.heap.size w0 wr ∧ BlkIs wr w0.heap.size 29 #[.string s0, .slice T tn tc, .int .i64 at']) (fun _ i _ => tn - (intOf i).toNat)
          case atStart => exact ⟨0, Nat.zero_le _, rfl, fun j hj => absurd hj (Nat.not_lt_zero _), HB4.out.1, HB4.out.2⟩
          case round =>
            obtain ⟨m, hm, rfl, hmo, hbel, hblk⟩ := hrel
            clear HB4
            by_cases hmt : m < tn
            · obtain ⟨g2, o2, rfl, hg2, hall⟩ := HET.out m (by rw [HTN.out]; exact hmt)
              have u0 := hall wr (hbel.mono HB0.out)
              have HFM := Lib.hid (HFT.out m)
              have he2 := HE2.out m
              have HB := Lib.hid (And.intro hbel hblk)
              have HMO := Lib.hid hmo
              cases c3 : (foldS (to.getD m []) == foldS (l.getD k r0).2) with
              | true =>
                have HF := Lib.hid (HH3.out m (by rw [HTN.out]; exact hmt) c3)
                rw [c3] at he2
                clear c3 hall hbel hblk hmo HFT HE2
                generalize str (to.getD m []) = q0 at *
                generalize str (foldS (to.getD m [])) = q1 at *
                go_wp2_with (first | (go_at_call 30; refine (HFM.out _).mono ?_; rintro e w5 ⟨rfl, hb5⟩; have HB5 := Lib.hid (HB.out.1.trans (hb5.mono HB.out.1.size)); clear hb5) | fail)
                go_ret
                exact ⟨ret_bool HF.out.symm, HB5.out⟩
              | false =>
                have HM2 : Hid (∀ j, j < m + 1 → (foldS (to.getD j []) == foldS (l.getD k r0).2) = false) := Lib.hid fun j hj => by
                  rcases Nat.lt_or_ge j m with h | h
                  · exact HMO.out j h
                  · obtain rfl : j = m := by omega
                    exact c3
                rw [c3] at he2
                clear c3 hall hbel hblk hmo HFT HE2
                generalize str (to.getD m []) = q0 at *
                generalize str (foldS (to.getD m [])) = q1 at *
                go_wp2_with (first | (go_at_call 30; refine (HFM.out _).mono ?_; rintro e w5 ⟨rfl, hb5⟩; have HB5 := Lib.hid (And.intro (HB.out.1.trans (hb5.mono HB.out.1.size)) (show BlkIs w5 _ _ _ from (hb5.block _ HB.out.2.lt).trans HB.out.2)); clear hb5) | fail)
                go_roundw
                case rel => exact ⟨m + 1, by omega, by go_num, HM2.out, HB5.out.1, HB5.out.2⟩
                case measure => simp [intOf]; omega
            · have hmn : m = tn := by omega
              have HCB := Lib.hid (HNX.out (fun j hj => hmo j (by rw [hmn, ← HTN.out]; exact hj)))
              have HN2 : Hid (∀ j, j < k + 1 → covB (l.getD j r0) fr to = false) := Lib.hid fun j hj => by
                rcases Nat.lt_or_ge j k with h | h
                · exact HNO.out j h
                · obtain rfl : j = k := by omega
                  exact HCB.out
              have HB := Lib.hid (And.intro hbel hblk)
              clear hmo hbel hblk HNX HH3
              go_wp2_with fail
              go_roundw
              case rel => exact ⟨k + 1, by omega, by go_num, HN2.out, HB.out.1, HB.out.2⟩
              case measure => simp [intOf]; omega
    · have hkn : k = n := by omega
      have HF := Lib.hid (cov_miss (l := l) (fr := fr) (to := to) (fun j hj => hno j (by rw [hkn, ← HL.out]; exact hj)))
      have HB := Lib.hid hbel
      clear hno hbel hblk
      go_wp2_with fail
      go_ret
      exact ⟨ret_bool HF.out.symm, HB.out⟩
end Ho
end Go.Proofs.Ytamjellnmlgbeaa
