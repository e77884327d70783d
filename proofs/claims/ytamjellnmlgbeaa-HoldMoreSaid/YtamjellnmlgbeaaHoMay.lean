/- Whether a hold may be: hold.may. Conditions: as stated at each. -/
import Derived.Test.YtamjellnmlgbeaaHoSmall
import Derived.Test.YtamjellnmlgbeaaPaEach
namespace Go.Proofs.Ytamjellnmlgbeaa
set_option maxRecDepth 100000
namespace Ho
open Go.RowKit Go Go.Proofs.Ytamjellnmlgbeaa.Pa Go.Proofs.Ytamjellnmlgbeaa.Rt
theorem st_empty (l : L) : (str l).toList.isEmpty = (l == []) := by
  rw [Go.Lib.toList_data, str_data]; cases l <;> rfl
/-- a name that may be. -/
def nameS (n : L) : Bool := n.all nmB && decide (1 ≤ n.length ∧ n.length ≤ 30)
theorem hold_is (r : R) : holdS r = (nameS r.1 && (r.2 == [] || mailS r.2)) := rfl
theorem name_e {n : L} (h : (n == []) = true) : nameS n = false := by
  obtain rfl : n = [] := by simpa using h
  rfl
theorem name_l {n : L} (h : ¬ n.length ≤ 30) : nameS n = false := by
  unfold nameS
  rw [decide_eq_false (by omega), Bool.and_false]
theorem name_m {n : L} (h : (n == []) = false) (h2 : n.length ≤ 30) : nameS n = n.all nmB := by
  unfold nameS
  have : n ≠ [] := by simpa using h
  have := List.length_pos_iff.2 this
  rw [decide_eq_true (by omega), Bool.and_true]
/-- the second half: whose it is. -/
def MayP (w : World) (q : Bool) (e : Ending) (w' : World) : Prop := e = .returned (.bool q) ∧ Below w.heap.size w w'
set_option maxHeartbeats 1600000 in
theorem may_any (r : R) (w : World) (h2 : r.2.length ≤ 140737488355328) :
    Calls Try.prog 17 #[.agg #[.string (str r.1), .string (str r.2)]] w fun e w' => e = .returned (.bool (holdS r)) ∧ Below w.heap.size w w' := by
  have HM := Lib.hid (fun X => mailbox_any r.2 h2 X)
  have HQ := Lib.hid (hold_is r)
  have hsz := str_size r.1
  have he0 := st_empty r.1
  have he1 := st_empty r.2
  have hb := below_b w (.cells #[.string (str r.1), .string (str r.2)] 24)
  have HB := Lib.hid hb
  have HN := BlkIs.new w 24 #[.string (str r.1), .string (str r.2)]
  obtain ⟨c, w2, hrun, hby, hb2⟩ := run_byt r.1 (w.alloc (.cells #[.string (str r.1), .string (str r.2)] 24))
  have HR : Hid (r.1.length ≤ 30 → Calls Try.prog 31 #[.slice (some ⟨w.heap.size + 1, 0, none⟩) r.1.length c, .func (.func 32) #[] #[]] w2 fun e w' => e = .returned (.bool (!(r.1.all nmB))) ∧ w2 = w') := Lib.hid fun h => containsN_any (by simpa using hby.bts) _ c rfl (by omega)
  have y1 := (BlkIs.cell ((hb2.block _ HN.lt).trans HN) 1).trans (rfl : _ = some (Value.string (str r.2)))
  have HB2 := Lib.hid (hb.trans (hb2.mono hb.size))
  have hw2 := HB2.out.size
  have hw3 : w.heap.size < w2.heap.size := Nat.lt_of_lt_of_le HN.lt hb2.size
  simp only [World.size_alloc] at hrun
  clear hby hb2 h2 hb HN
  rw [HQ.out]
  clear HQ
  generalize hS : str r.1 = s0 at *
  generalize hT : str r.2 = s1 at *
  have HS := Lib.hid (And.intro hS hT)
  clear hS hT
  cases c1 : (r.1 == []) with
  | true =>
    rw [name_e c1, Bool.false_and]
    rw [c1] at he0
    clear c1 hrun HR y1 hsz he1
    go_enter Try.func17, Try.ntmps17
    go_wp2_with fail
    go_ret
    exact ⟨ret_bool (by simp), HB.out⟩
  | false =>
    rw [c1] at he0
    by_cases c2 : r.1.length ≤ 30
    · rw [name_m c1 c2]
      have HR1 := Lib.hid (HR.out c2)
      have hs2 : s0.size ≤ 30 := by omega
      clear HR c1
      generalize r.1.length = n0 at *
      cases c3 : r.1.all nmB with
      | false =>
        rw [c3] at HR1
        rw [Bool.false_and]
        clear c3 y1 he1
        go_enter Try.func17, Try.ntmps17
        go_wp2_with (first | (go_at_call 31; refine HR1.out.mono ?_; rintro e w3 ⟨rfl, rfl⟩) | fail)
        go_ret
        exact ⟨ret_bool (by simp), HB2.out⟩
      | true =>
        rw [c3] at HR1
        rw [Bool.true_and]
        clear c3
        cases c4 : (r.2 == []) with
        | true =>
          rw [c4] at he1
          rw [Bool.true_or]
          clear c4 HM
          go_enter Try.func17, Try.ntmps17
          go_wp2_with (first | (go_at_call 31; refine HR1.out.mono ?_; rintro e w3 ⟨rfl, rfl⟩) | fail)
          go_ret
          exact ⟨ret_bool (by simp), HB2.out⟩
        | false =>
          rw [c4] at he1
          rw [Bool.false_or]
          clear c4
          generalize mailS r.2 = m at *
          go_enter Try.func17, Try.ntmps17
          go_wp2_with (first | (go_at_call 31; refine HR1.out.mono ?_; rintro e w3 ⟨rfl, rfl⟩) | (go_at_call 33; refine (HM.out _).mono ?_; rintro e w4 ⟨rfl, hb4⟩) | fail)
          go_ret
          exact ⟨ret_bool (by simp), HB2.out.trans (hb4.mono hw2)⟩
    · rw [name_l c2, Bool.false_and]
      have hs2 : ¬ s0.size ≤ 30 := by omega
      clear c1 c2 hrun HR y1 hsz he1
      go_enter Try.func17, Try.ntmps17
      go_wp2_with fail
      go_ret
      exact ⟨ret_bool (by simp), HB.out⟩
end Ho
end Go.Proofs.Ytamjellnmlgbeaa
