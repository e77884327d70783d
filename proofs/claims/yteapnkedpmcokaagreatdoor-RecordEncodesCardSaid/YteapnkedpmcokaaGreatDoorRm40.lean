/- HoOwn HoOf HoMay HoPlace RcWrC EnAwake. Conditions: as stated at each. -/
import Derived.Test.YteapnkedpmcokaaGreatDoorRm39
import Derived.Laws.Rows
import Derived.Deep.RegionHeld
import Derived.Test.YteapnkedpmcokaaGreatDoorRm29
import Derived.Test.YteapnkedpmcokaaGreatDoorRm36
import Derived.Test.YteapnkedpmcokaaGreatDoorRm30
import Derived.Test.YteapnkedpmcokaaGreatDoorRm26
/- A copy of a hold. Conditions: as stated at each. -/
namespace Go.Proofs.YteapnkedpmcokaaGreatDoor
set_option maxRecDepth 100000
namespace Ho
open Go.RowKit Go Go.Proofs.YteapnkedpmcokaaGreatDoor.Pa Go.Proofs.YteapnkedpmcokaaGreatDoor.Rt
set_option maxHeartbeats 1600000 in
theorem own_any (r : R) (w0 : World) (h1 : r.1.length ≤ 140737488355328) (h2 : r.2.length ≤ 140737488355328) :
    Calls Tryz.prog 123 #[.agg #[.string (str r.1), .string (str r.2)]] w0 fun e w' => e = .returned (.agg #[.string (str r.1), .string (str r.2)]) ∧ Below w0.heap.size w0 w' := by
  have HCA := Lib.hid (fun X => called_any r X h1)
  have HCL := Lib.hid (fun X => clone_s r.2 X h2)
  clear h1 h2
  generalize str r.1 = s0 at *
  generalize str r.2 = s1 at *
  have hq1 := (BlkIs.new w0 34 #[.string s0, .string s1]).alloc (.cells #[.string ⟨#[]⟩, .string ⟨#[]⟩] 34)
  have hq2 := BlkIs.new (w0.alloc (.cells #[.string s0, .string s1] 34)) 34 #[.string ⟨#[]⟩, .string ⟨#[]⟩]
  simp only [World.size_alloc] at hq2
  have hb := (below_b w0 (.cells #[.string s0, .string s1] 34)).alloc (by simp) (.cells #[.string ⟨#[]⟩, .string ⟨#[]⟩] 34)
  go_enter Tryz.func123, Tryz.ntmps123
  go_wp2_with fail
  generalize (w0.alloc (.cells #[.string s0, .string s1] 34)).alloc (.cells #[.string ⟨#[]⟩, .string ⟨#[]⟩] 34) = w1 at *
  replace hq1 : BlkIs w1.drew w0.heap.size 34 #[.string s0, .string s1] := hq1
  replace hq2 : BlkIs w1.drew (w0.heap.size + 1) 34 #[.string ⟨#[]⟩, .string ⟨#[]⟩] := hq2
  replace hb := hb.drew
  refine wp_region_held_drew (S := (fun Y => BlkIs Y w0.heap.size 34 #[.string s0, .string s1] ∧ Below w0.heap.size w0 Y)) (by kernel_rfl) (⟨hq1, hb⟩) (fun hHeld => ?_)
  generalize w1.drew = w2 at *
  refine wpAnyH_take (i := 0) (v := .agg #[.string s0, .string s1]) rfl (by kernel_rfl) (by kernel_rfl) (by kernel_rfl) (fun _ _ _ h => h) (Or.inl ⟨by rfl, fun w hS => by (have x0 := (BlkIs.cell hS.1 0).trans (rfl : _ = some (Value.string s0)); have x1 := (BlkIs.cell hS.1 1).trans (rfl : _ = some (Value.string s1)); first | (go_simp; done) | (go_simp; with_reducible rfl))⟩) hHeld ?_
  try simp only [Act.put, List.getElem_toArray, List.getElem_cons_zero, List.setIfInBounds_toArray, List.set_cons_zero, List.set_cons_succ]
  refine wpAnyH_take (i := 2) (v := .pointer (some ⟨w0.heap.size, 1, none⟩)) rfl (by kernel_rfl) (by kernel_rfl) (by kernel_rfl) (fun _ _ _ h => h) (Or.inl ⟨by rfl, fun w hS => by first | (go_simp; done) | (go_simp; with_reducible rfl)⟩) hHeld ?_
  try simp only [Act.put, List.getElem_toArray, List.getElem_cons_zero, List.getElem_cons_succ, List.setIfInBounds_toArray, List.set_cons_zero, List.set_cons_succ]
  refine wpAnyH_take (i := 3) (v := .string s1) rfl (by kernel_rfl) (by kernel_rfl) (by kernel_rfl) (fun _ _ _ h => h) (Or.inl ⟨by rfl, fun w hS => by (have x1 := (BlkIs.cell hS.1 1).trans (rfl : _ = some (Value.string s1)); first | (go_simp; done) | (go_simp; with_reducible rfl))⟩) hHeld ?_
  try simp only [Act.put, List.getElem_toArray, List.getElem_cons_zero, List.getElem_cons_succ, List.setIfInBounds_toArray, List.set_cons_zero, List.set_cons_succ]
  refine wpAnyH_ready (rs := [1]) (by kernel_rfl) (by simp) ?_
  refine AllReadyH.cons rfl (fun K hK => ?_) AllReadyH.nil
  go_simp
  go_wp2_with ((first | (refine (HCA.out _).mono ?_; rintro e w3 ⟨rfl, hb3⟩) | fail))
  refine hK.out _ _ ?_ (fun hHeld => ?_)
  · exact ⟨(hb3.block _ hq1.lt).trans hq1, hb.trans (hb3.mono hb.size)⟩
  clear hK K
  try simp only [Act.put, List.getElem_toArray, List.getElem_cons_zero, List.getElem_cons_succ, List.setIfInBounds_toArray, List.set_cons_zero, List.set_cons_succ]
  have hq1 : BlkIs w3 _ _ _ := (hb3.block _ hq1.lt).trans hq1
  have hq2 : BlkIs w3 _ _ _ := (hb3.block _ hq2.lt).trans hq2
  have hb := hb.trans (hb3.mono hb.size)
  clear hb3
  refine wpAnyH_ready (rs := [4]) (by kernel_rfl) (by simp) ?_
  refine AllReadyH.cons rfl (fun K hK => ?_) AllReadyH.nil
  go_simp
  go_wp2_with ((first | (refine (HCL.out _).mono ?_; rintro e w4 ⟨rfl, hb4⟩) | fail))
  refine hK.out _ _ ?_ (fun hHeld => ?_)
  · exact ⟨(hb4.block _ hq1.lt).trans hq1, hb.trans (hb4.mono hb.size)⟩
  clear hK K
  try simp only [Act.put, List.getElem_toArray, List.getElem_cons_zero, List.getElem_cons_succ, List.setIfInBounds_toArray, List.set_cons_zero, List.set_cons_succ]
  have hq1 : BlkIs w4 _ _ _ := (hb4.block _ hq1.lt).trans hq1
  have hq2 : BlkIs w4 _ _ _ := (hb4.block _ hq2.lt).trans hq2
  have hb := hb.trans (hb4.mono hb.size)
  clear hb4
  refine wpAnyH_take (i := 5) (v := .agg #[.string s0, .string s1]) rfl (by kernel_rfl) (by kernel_rfl) (by kernel_rfl) (fun _ _ _ h => h) (Or.inl ⟨by rfl, fun w hS => by first | (go_simp; done) | (go_simp; with_reducible rfl)⟩) hHeld ?_
  try simp only [Act.put, List.getElem_toArray, List.getElem_cons_zero, List.getElem_cons_succ, List.setIfInBounds_toArray, List.set_cons_zero, List.set_cons_succ]
  have x0 := (BlkIs.cell hq2 0).trans (rfl : _ = some (Value.string ⟨#[]⟩))
  have x1 := (BlkIs.cell hq2 1).trans (rfl : _ = some (Value.string ⟨#[]⟩))
  have f0 := hq2.froz 0
  have f1 := hq2.froz 1
  have HQF := Lib.hid ((hq2.put 0 (.string s0)).put 1 (.string s1))
  have HBF := Lib.hid ((hb.setCell (p := ⟨w0.heap.size + 1, 0, none⟩) (Nat.le_succ _) (.string s0)).setCell (p := ⟨w0.heap.size + 1, 1, none⟩) (Nat.le_succ _) (.string s1))
  have HQG := Lib.hid (And.intro ((hq1.far (x := ⟨w0.heap.size + 1, 0, none⟩) (by show w0.heap.size ≠ w0.heap.size + 1; omega) (.string s0)).far (x := ⟨w0.heap.size + 1, 1, none⟩) (by show w0.heap.size ≠ w0.heap.size + 1; omega) (.string s1)) HBF.out)
  refine wpAnyH_ready (rs := [6]) (by kernel_rfl) (by simp) ?_
  refine AllReadyH.cons rfl (fun K hK => ?_) AllReadyH.nil
  go_simp
  refine hK.out _ _ ?_ (fun hHeld => ?_)
  · exact HQG.out
  clear hK K
  try simp only [Act.put, List.getElem_toArray, List.getElem_cons_zero, List.getElem_cons_succ, List.setIfInBounds_toArray, List.set_cons_zero, List.set_cons_succ]
  refine wpAnyH_done (by kernel_rfl) ?_ _
  go_wp2_with fail
  exact bodyPost_ret_by (results_cell_row rfl _ _ (w0.heap.size + 1) 34 #[.string s0, .string s1] (0, 0) _ rfl HQF.out Tryz.underlying34 rfl (by kernel_rfl)) rfl ⟨rfl, HBF.out⟩
end Ho
end Go.Proofs.YteapnkedpmcokaaGreatDoor
/- What is made of each hold: of, with own, called, who. Conditions: as stated at each. -/
namespace Go.Proofs.YteapnkedpmcokaaGreatDoor
set_option maxRecDepth 100000
namespace Ho
open Go.RowKit Go Go.Proofs.YteapnkedpmcokaaGreatDoor.Pa Go.Proofs.YteapnkedpmcokaaGreatDoor.Rt
theorem take_next {α : Type} {l : List α} {d : α} {k : Nat} (h : k < l.length) : l.take (k + 1) = l.take k ++ [l.getD k d] := by
  rw [List.take_succ_eq_append_getElem h, List.getD, List.getElem?_eq_getElem h]
  rfl
theorem map_next {α β : Type} {l : List α} {d : α} (f : α → β) {k : Nat} (h : k < l.length) : (l.take (k + 1)).map f = (l.take k).map f ++ [f (l.getD k d)] := by
  rw [take_next (d := d) h, List.map_append]
  rfl
def OutH (w : World) (t : List R) (e : Ending) (w' : World) : Prop := ∃ v, e = .returned v ∧ OwnH w' w.heap.size v t ∧ Below w.heap.size w w'
def OutT (w : World) (t : List L) (e : Ending) (w' : World) : Prop := ∃ v, e = .returned v ∧ OwnT w' w.heap.size v t ∧ Below w.heap.size w w'
set_option maxHeartbeats 1600000 in
theorem of_own {w : World} {B : Nat} {A : Option Addr} {l : List R} (h : Prs w B A (cvR l)) (hB : B ≤ w.heap.size) (n c : Nat) (hn : l.length = n) (hn1 : n ≤ 1000) (hok : OkH l) :
    Calls Tryz.prog 122 #[.slice A n c, .func (.func 123) #[] #[]] w (OutH w l) := by
  have HEL := Lib.hid (holds_of h)
  have HN := Lib.hid hn
  have HG := Lib.hid (fun k X => own_any (l.getD k r0) X (hok.at_ k).1 (hok.at_ k).2)
  clear h hn hok
  go_enter Tryz.func122, Tryz.ntmps122
  go_wp2_with fail
  go_loopw [5, 7, 10] (fun v _ i wr => ∃ k : Nat, k ≤ n ∧ i = .int .i64 k ∧ OwnH wr w.heap.size v (l.take k) ∧ Below w.heap.size w wr) (fun _ _ i _ => n - (intOf i).toNat)
  case atStart => exact ⟨0, Nat.zero_le _, rfl, OwnH.nil _ _, Below.refl _ _⟩
  case round =>
    obtain ⟨k, hk, rfl, hown, hbel⟩ := hrel
    by_cases hlt : k < n
    · obtain ⟨g, o, rfl, hg, hall⟩ := HEL.out k (by rw [HN.out]; exact hlt)
      obtain ⟨y0, y1⟩ := hall wr (hbel.mono hB)
      have HNX := Lib.hid (take_next (l := l) (d := r0) (k := k) (by rw [HN.out]; exact hlt))
      have HC := Lib.hid (HG.out k)
      have hln : (l.take k).length = k := by rw [List.length_take, HN.out]; omega
      have HLN := Lib.hid hln
      have HB := Lib.hid hbel
      have HOW := Lib.hid hown
      have hws := hbel.size
      clear hall hbel hown hln HG HEL
      
      generalize hs0 : str (l.getD k r0).1 = s0 at *
      generalize hs1 : str (l.getD k r0).2 = s1 at *
      have HS := Lib.hid (And.intro hs0 hs1)
      clear hs0 hs1
      go_wp2_with (first
        | (go_at_call 123; refine (HC.out _).mono ?_; rintro e w1 ⟨rfl, hb1⟩; have HB1 := Lib.hid ((below_b wr _).trans (hb1.mono (below_b wr _).size)); clear hb1; have hws1 := HB1.out.size)
        | (refine lappH (.tmp 14) (.tmp 18) rfl rfl (N := w.heap.size) (l := l.take k) (m := [l.getD k r0]) rfl (HOW.out.below (HB1.out.trans ((below_b w1 _).mono HB1.out.size))) (B := w1.heap.size + 1) (n := 1) (c := 1) rfl (by rw [← HS.out.1, ← HS.out.2]; exact prs_one w1 (l.getD k r0)) rfl (by rw [HLN.out]; omega) (by simp; omega) ?_; intro v2 w2 ho2 hg2; have HO2 := Lib.hid ho2; have HG2 := Lib.hid hg2; clear ho2 hg2)
        | fail)
      go_roundw
      case rel => exact ⟨k + 1, by omega, by go_num, by rw [HNX.out]; exact HO2.out, HB.out.trans ((HB1.out.trans ((below_b w1 _).mono HB1.out.size)).mono HB.out.size |>.grown HG2.out (by simp; omega) (fun j hj => (HOW.out.low j hj).1))⟩
      case measure => simp [intOf]; omega
    · have hkn : k = n := by omega
      rw [show (l.take k) = l by rw [hkn, ← HN.out, List.take_length]] at hown
      have HF := Lib.hid hown
      have HB := Lib.hid hbel
      clear hown hbel
      go_wp2_with fail
      go_ret
      exact ⟨_, rfl, HF.out, HB.out⟩
def wf (r : R) : L := foldS r.2
end Ho
end Go.Proofs.YteapnkedpmcokaaGreatDoor
/- Whether a hold may be: hold.may. Conditions: as stated at each. -/
namespace Go.Proofs.YteapnkedpmcokaaGreatDoor
set_option maxRecDepth 100000
namespace Ho
open Go.RowKit Go Go.Proofs.YteapnkedpmcokaaGreatDoor.Pa Go.Proofs.YteapnkedpmcokaaGreatDoor.Rt
theorem st_empty (l : L) : (str l).toList.isEmpty = (l == []) := by
  rw [Go.Lib.toList_data, str_data]; cases l <;> rfl
/-- a name that may be. -/
def nameS (n : L) : Bool := n.all nmB && decide (1 ≤ n.length ∧ n.length ≤ 30)
theorem hold_is (r : R) : holdS r = (nameS r.1 && (r.2 == [] || mailS r.2)) := rfl
theorem name_e {n : L} (h : (n == []) = true) : nameS n = false := by
  obtain rfl : n = [] := by simpa using h
  rfl
theorem name_l {n : L} (h : ¬ n.length ≤ 30) : nameS n = false := by
  unfold nameS
  rw [decide_eq_false (by omega), Bool.and_false]
theorem name_m {n : L} (h : (n == []) = false) (h2 : n.length ≤ 30) : nameS n = n.all nmB := by
  unfold nameS
  have : n ≠ [] := by simpa using h
  have := List.length_pos_iff.2 this
  rw [decide_eq_true (by omega), Bool.and_true]
/-- the second half: whose it is. -/
def MayP (w : World) (q : Bool) (e : Ending) (w' : World) : Prop := e = .returned (.bool q) ∧ Below w.heap.size w w'
set_option maxHeartbeats 1600000 in
theorem may_any (r : R) (w : World) (h2 : r.2.length ≤ 140737488355328) :
    Calls Tryz.prog 120 #[.agg #[.string (str r.1), .string (str r.2)]] w fun e w' => e = .returned (.bool (holdS r)) ∧ Below w.heap.size w w' := by
  have HM := Lib.hid (fun X => mailbox_any r.2 h2 X)
  have HQ := Lib.hid (hold_is r)
  have hsz := str_size r.1
  have he0 := st_empty r.1
  have he1 := st_empty r.2
  have hb := below_b w (.cells #[.string (str r.1), .string (str r.2)] 34)
  have HB := Lib.hid hb
  have HN := BlkIs.new w 34 #[.string (str r.1), .string (str r.2)]
  obtain ⟨c, w2, hrun, hby, hb2⟩ := run_byt r.1 (w.alloc (.cells #[.string (str r.1), .string (str r.2)] 34))
  have HR : Hid (r.1.length ≤ 30 → Calls Tryz.prog 127 #[.slice (some ⟨w.heap.size + 1, 0, none⟩) r.1.length c, .func (.func 128) #[] #[]] w2 fun e w' => e = .returned (.bool (!(r.1.all nmB))) ∧ w2 = w') := Lib.hid fun h => containsN_any (by simpa using hby.bts) _ c rfl (by omega)
  have y1 := (BlkIs.cell ((hb2.block _ HN.lt).trans HN) 1).trans (rfl : _ = some (Value.string (str r.2)))
  have HB2 := Lib.hid (hb.trans (hb2.mono hb.size))
  have hw2 := HB2.out.size
  have hw3 : w.heap.size < w2.heap.size := Nat.lt_of_lt_of_le HN.lt hb2.size
  simp only [World.size_alloc] at hrun
  clear hby hb2 h2 hb HN
  rw [HQ.out]
  clear HQ
  generalize hS : str r.1 = s0 at *
  generalize hT : str r.2 = s1 at *
  have HS := Lib.hid (And.intro hS hT)
  clear hS hT
  cases c1 : (r.1 == []) with
  | true =>
    rw [name_e c1, Bool.false_and]
    rw [c1] at he0
    clear c1 hrun HR y1 hsz he1
    go_enter Tryz.func120, Tryz.ntmps120
    go_wp2_with fail
    go_ret
    exact ⟨ret_bool (by simp), HB.out⟩
  | false =>
    rw [c1] at he0
    by_cases c2 : r.1.length ≤ 30
    · rw [name_m c1 c2]
      have HR1 := Lib.hid (HR.out c2)
      have hs2 : s0.size ≤ 30 := by omega
      clear HR c1
      generalize r.1.length = n0 at *
      cases c3 : r.1.all nmB with
      | false =>
        rw [c3] at HR1
        rw [Bool.false_and]
        clear c3 y1 he1
        go_enter Tryz.func120, Tryz.ntmps120
        go_wp2_with (first | (go_at_call 127; refine HR1.out.mono ?_; rintro e w3 ⟨rfl, rfl⟩) | fail)
        go_ret
        exact ⟨ret_bool (by simp), HB2.out⟩
      | true =>
        rw [c3] at HR1
        rw [Bool.true_and]
        clear c3
        cases c4 : (r.2 == []) with
        | true =>
          rw [c4] at he1
          rw [Bool.true_or]
          clear c4 HM
          go_enter Tryz.func120, Tryz.ntmps120
          go_wp2_with (first | (go_at_call 127; refine HR1.out.mono ?_; rintro e w3 ⟨rfl, rfl⟩) | fail)
          go_ret
          exact ⟨ret_bool (by simp), HB2.out⟩
        | false =>
          rw [c4] at he1
          rw [Bool.false_or]
          clear c4
          generalize mailS r.2 = m at *
          go_enter Tryz.func120, Tryz.ntmps120
          go_wp2_with (first | (go_at_call 127; refine HR1.out.mono ?_; rintro e w3 ⟨rfl, rfl⟩) | (go_at_call 129; refine (HM.out _).mono ?_; rintro e w4 ⟨rfl, hb4⟩) | fail)
          go_ret
          exact ⟨ret_bool (by simp), HB2.out.trans (hb4.mono hw2)⟩
    · rw [name_l c2, Bool.false_and]
      have hs2 : ¬ s0.size ≤ 30 := by omega
      clear c1 c2 hrun HR y1 hsz he1
      go_enter Tryz.func120, Tryz.ntmps120
      go_wp2_with fail
      go_ret
      exact ⟨ret_bool (by simp), HB.out⟩
end Ho
end Go.Proofs.YteapnkedpmcokaaGreatDoor
/- hold.Place. Conditions: as stated at each. -/
namespace Go.Proofs.YteapnkedpmcokaaGreatDoor
set_option maxRecDepth 100000
namespace Ho
open Go.RowKit Go Go.Proofs.YteapnkedpmcokaaGreatDoor.Pa Go.Proofs.YteapnkedpmcokaaGreatDoor.Rt
theorem place_1 {l : List R} {h : R} (c : holdS h = false) : placeE l h = 140 ∧ placeS l h = [] := by
  have : placeE l h = 140 := by unfold placeE; rw [c]; rfl
  exact ⟨this, by unfold placeS; rw [this]; rfl⟩
theorem place_2 {l : List R} {h : R} (c : hasN l h.1 = true) : placeE l h = 140 ∧ placeS l h = [] := by
  have : placeE l h = 140 := by unfold placeE; rw [c, Bool.not_true, Bool.and_false]; rfl
  exact ⟨this, by unfold placeS; rw [this]; rfl⟩
theorem place_3 {l : List R} {h : R} (c1 : holdS h = true) (c : hasN l h.1 = false) (c2 : 100 ≤ l.length) : placeE l h = 2 ∧ placeS l h = [] := by
  have : placeE l h = 2 := by unfold placeE; rw [c1, c, if_pos c2]; rfl
  exact ⟨this, by unfold placeS; rw [this]; rfl⟩
theorem place_4 {l : List R} {h : R} (c1 : holdS h = true) (c : hasN l h.1 = false) (c2 : ¬ 100 ≤ l.length) : placeE l h = 0 ∧ placeS l h = l ++ [h] := by
  have : placeE l h = 0 := by unfold placeE; rw [c1, c, if_neg c2]; rfl
  exact ⟨this, by unfold placeS; rw [this]; rfl⟩
/-- what Place and Lift answer: holds of the call's own, the error's number. -/
def OutE (w : World) (t : List R) (z : Int) (e : Ending) (w' : World) : Prop := ∃ v, e = .returned (.tuple #[v, .int .i64 z]) ∧ OwnH w' w.heap.size v t ∧ Below w.heap.size w w'
set_option maxHeartbeats 3200000 in
theorem place_any {w0 : World} {B : Nat} {A : Option Addr} {l : List R} {h : R} (hp : Prs w0 B A (cvR l)) (hB : B ≤ w0.heap.size) (n c : Nat) (hn : l.length = n) (hn1 : n ≤ 1000) (hok : OkH l) (h1 : h.1.length ≤ 140737488355328) (h2 : h.2.length ≤ 140737488355328) :
    Calls Tryz.prog 113 #[.slice A n c, .agg #[.string (str h.1), .string (str h.2)]] w0 (OutE w0 (placeS l h) (placeE l h)) := by
  have HMY := Lib.hid (fun X => may_any h X h2)
  have HFD : Hid (∀ X, Below w0.heap.size w0 X → Calls Tryz.prog 121 #[.slice A n c, .string (str h.1)] X (FindP X l h.1)) := Lib.hid fun X hX => find_any h.1 (hp.below (hX.mono hB)) (Nat.le_trans hB hX.size) n c hn hn1
  have HOF : Hid (∀ X, Below w0.heap.size w0 X → Calls Tryz.prog 122 #[.slice A n c, .func (.func 123) #[] #[]] X (OutH X l)) := Lib.hid fun X hX => of_own (hp.below (hX.mono hB)) (Nat.le_trans hB hX.size) n c hn hn1 hok
  have HOW := Lib.hid (fun X => own_any h X h1 h2)
  have HBX := Lib.hid (below_b w0 (.cells #[.string (str h.1), .string (str h.2)] 34))
  have HN := BlkIs.new w0 34 #[.string (str h.1), .string (str h.2)]
  have HP1 := Lib.hid (place_1 (l := l) (h := h))
  have HP2 := Lib.hid (place_2 (l := l) (h := h))
  have HP3 := Lib.hid (place_3 (l := l) (h := h))
  have HP4 := Lib.hid (place_4 (l := l) (h := h))
  have HL := Lib.hid hn
  have HONE : Hid (∀ X : World, Prs (X.alloc (.cells #[.string (str h.1), .string (str h.2)] 34)) (X.heap.size + 1) (some ⟨X.heap.size, 0, none⟩) (cvR [h])) := Lib.hid fun X => prs_one X h
  clear hp hn hok h1 h2
  generalize str h.1 = s0 at *
  generalize str h.2 = s1 at *
  have x0 := (HN.cell 0).trans (rfl : _ = some (Value.string s0))
  have x1 := (HN.cell 1).trans (rfl : _ = some (Value.string s1))
  have hNl := HN.lt
  cases c1 : holdS h with
  | false =>
    rw [c1] at HMY
    obtain ⟨e1, e2⟩ := HP1.out c1
    rw [e1, e2]
    clear c1 e1 e2 HP1 HP2 HP3 HP4
    go_enter Tryz.func113, Tryz.ntmps113
    go_wp2_with (first | (go_at_call 120; refine (HMY.out _).mono ?_; rintro e w3 ⟨rfl, hb3⟩; have HB3 := Lib.hid (HBX.out.trans (hb3.mono HBX.out.size)); clear hb3) | fail)
    refine bodyPost_ret (results_tmp2 rfl _ _ _) rfl ?_
    exact ⟨_, rfl, OwnH.nil _ _, HB3.out⟩
  | true =>
    rw [c1] at HMY
    go_enter Tryz.func113, Tryz.ntmps113
    go_wp2_with fail
    have HQ := Lib.hid HN
    have HBB := HBX.out
    clear HN x0 x1
    generalize w0.alloc (.cells #[.string s0, .string s1] 34) = w1 at *
    refine (HMY.out _).mono ?_
    rintro e w3 ⟨rfl, hb3⟩
    have HB3 := Lib.hid (HBB.trans (hb3.mono HBB.size))
    have HQ3 : Hid (BlkIs w3 w0.heap.size 34 #[.string s0, .string s1]) := Lib.hid ((hb3.block _ hNl).trans HQ.out)
    have x0 := (BlkIs.cell HQ3.out 0).trans (rfl : _ = some (Value.string s0))
    clear hb3 HBX HBB HQ HMY
    go_wp2_with fail
    refine (HFD.out _ HB3.out).mono ?_
    rintro e w4 ⟨z, rfl, hz, hb4⟩
    have HB4 := Lib.hid (HB3.out.trans (hb4.mono HB3.out.size))
    have HQ4 : Hid (BlkIs w4 w0.heap.size 34 #[.string s0, .string s1]) := Lib.hid ((hb4.block _ HQ3.out.lt).trans HQ3.out)
    clear hb4 x0 HFD HB3 HQ3
    rcases hz with ⟨rfl, hz⟩ | ⟨k, rfl, hk, hz, _⟩
    · by_cases c2 : 100 ≤ l.length
      · obtain ⟨e1, e2⟩ := HP3.out c1 hz c2
        have HE := Lib.hid (And.intro e1 e2)
        rw [HL.out] at c2
        clear c1 e1 e2 HP1 HP2 HP3 HP4 hz
        go_wp2_with fail
        refine bodyPost_ret (results_tmp2 rfl _ _ _) rfl ?_
        exact ⟨.slice none 0 0, by rw [HE.out.1]; rfl, by rw [HE.out.2]; exact OwnH.nil _ _, HB4.out⟩
      · obtain ⟨e1, e2⟩ := HP4.out c1 hz c2
        have HE := Lib.hid (And.intro e1 e2)
        rw [HL.out] at c2
        clear c1 e1 e2 HP1 HP2 HP3 HP4 hz
        go_wp2_with fail
        have hq : BlkIs w4.drew w0.heap.size 34 #[.string s0, .string s1] := HQ4.out
        have hb : Below w0.heap.size w0 w4.drew := HB4.out.drew
        clear HQ4 HB4
        refine wp_region_held_drew (S := (fun Y => BlkIs Y w0.heap.size 34 #[.string s0, .string s1] ∧ Below w0.heap.size w0 Y)) (by kernel_rfl) (⟨hq, hb⟩) (fun hHeld => ?_)
        generalize w4.drew = w5 at *
        refine wpAnyH_take (i := 0) (v := .slice A n c) rfl (by kernel_rfl) (by kernel_rfl) (by kernel_rfl) (fun _ _ _ h => h) (Or.inl ⟨by rfl, fun w hS => by first | (go_simp; done) | (go_simp; with_reducible rfl)⟩) hHeld ?_
        try simp only [Act.put, List.getElem_toArray, List.getElem_cons_zero, List.setIfInBounds_toArray, List.set_cons_zero, List.set_cons_succ]
        refine wpAnyH_take (i := 2) (v := .agg #[.string s0, .string s1]) rfl (by kernel_rfl) (by kernel_rfl) (by kernel_rfl) (fun _ _ _ h => h) (Or.inl ⟨by rfl, fun w hS => by (have x0 := (BlkIs.cell hS.1 0).trans (rfl : _ = some (Value.string s0)); have x1 := (BlkIs.cell hS.1 1).trans (rfl : _ = some (Value.string s1)); first | (go_simp; done) | (go_simp; with_reducible rfl))⟩) hHeld ?_
        try simp only [Act.put, List.getElem_toArray, List.getElem_cons_zero, List.getElem_cons_succ, List.setIfInBounds_toArray, List.set_cons_zero, List.set_cons_succ]
        refine wpAnyH_ready (rs := [1]) (by kernel_rfl) (by simp) ?_
        refine AllReadyH.cons rfl (fun K hK => ?_) AllReadyH.nil
        go_simp
        go_wp2_with ((first | (refine (HOF.out _ hb).mono ?_; rintro e w6 ⟨v6, rfl, ho6, hb6⟩) | fail))
        refine hK.out _ _ ?_ (fun hHeld => ?_)
        · exact ⟨(hb6.block _ hq.lt).trans hq, hb.trans (hb6.mono hb.size)⟩
        clear hK K
        try simp only [Act.put, List.getElem_toArray, List.getElem_cons_zero, List.getElem_cons_succ, List.setIfInBounds_toArray, List.set_cons_zero, List.set_cons_succ]
        have hq6 : BlkIs w6 _ _ _ := (hb6.block _ hq.lt).trans hq
        have hb06 := hb.trans (hb6.mono hb.size)
        have HO6 : Hid (OwnH w6 w5.heap.size v6 l) := Lib.hid ho6
        have hlt5 : w0.heap.size < w5.heap.size := hq.lt
        have hs56 := hb6.size
        clear hq hb hb6 ho6 HOF
        refine wpAnyH_ready (rs := [3]) (by kernel_rfl) (by simp) ?_
        refine AllReadyH.cons rfl (fun K hK => ?_) AllReadyH.nil
        go_simp
        go_wp2_with ((first | (refine (HOW.out _).mono ?_; rintro e w7 ⟨rfl, hb7⟩) | fail))
        refine hK.out _ _ ?_ (fun hHeld => ?_)
        · exact ⟨(hb7.block _ hq6.lt).trans hq6, hb06.trans (hb7.mono hb06.size)⟩
        clear hK K
        try simp only [Act.put, List.getElem_toArray, List.getElem_cons_zero, List.getElem_cons_succ, List.setIfInBounds_toArray, List.set_cons_zero, List.set_cons_succ]
        have hs67 := hb7.size
        have hq7 : BlkIs w7 _ _ _ := (hb7.block _ hq6.lt).trans hq6
        have hb07 := hb06.trans (hb7.mono hb06.size)
        have HO7 : Hid (OwnH w7 w5.heap.size v6 l) := Lib.hid (HO6.out.below hb7)
        clear hq6 hb06 hb7 HO6 HOW
        have HB8 := Lib.hid (And.intro (hq7.alloc (.cells #[.string s0, .string s1] 34)) (hb07.alloc hb07.size (.cells #[.string s0, .string s1] 34)))
        refine wpAnyH_ready (rs := [4]) (by kernel_rfl) (by simp) ?_
        refine AllReadyH.cons rfl (fun K hK => ?_) AllReadyH.nil
        go_simp
        refine hK.out _ _ ?_ (fun hHeld => ?_)
        · exact HB8.out
        clear hK K
        try simp only [Act.put, List.getElem_toArray, List.getElem_cons_zero, List.getElem_cons_succ, List.setIfInBounds_toArray, List.set_cons_zero, List.set_cons_succ]
        have HO8 : Hid (OwnH (w7.alloc (.cells #[.string s0, .string s1] 34)) w5.heap.size v6 l) := Lib.hid (HO7.out.below (below_b w7 _))
        have HLO := Lib.hid (fun k hk => (HO8.out.low k hk).1)
        have hs7 := hb07.size
        refine wpAnyH_ready (rs := [5]) (by kernel_rfl) (by simp) ?_
        refine AllReadyH.cons rfl (fun K hK => ?_) AllReadyH.nil
        refine stepH (.tmp 20) (.tmp 23) rfl rfl (N := w5.heap.size) (l := l) (m := [h]) rfl HO8.out (B := w7.heap.size + 1) (n := 1) (c := 1) rfl (HONE.out w7) rfl (by rw [HL.out]; omega) (by simp; omega) ?_; intro v9 w9 ho9 hg9
        refine hK.out _ _ ?_ (fun hHeld => ?_)
        · exact ⟨HB8.out.1.grown hg9 (fun e => by have := HLO.out _ e; omega), HB8.out.2.grown hg9 HB8.out.2.size (fun k hk => by have := HLO.out k hk; omega)⟩
        clear hK K
        try simp only [Act.put, List.getElem_toArray, List.getElem_cons_zero, List.getElem_cons_succ, List.setIfInBounds_toArray, List.set_cons_zero, List.set_cons_succ]
        have HF : Hid (OwnH w9 w0.heap.size v9 (l ++ [h]) ∧ Below w0.heap.size w0 w9) := Lib.hid ⟨ho9.more (by omega), HB8.out.2.grown hg9 HB8.out.2.size (fun k hk => by have := HLO.out k hk; omega)⟩
        refine wpAnyH_take (i := 6) (v := v9) rfl (by kernel_rfl) (by kernel_rfl) (by kernel_rfl) (fun _ _ _ h => h) (Or.inl ⟨by rfl, fun w hS => by first | (go_simp; done) | (go_simp; with_reducible rfl)⟩) hHeld ?_
        try simp only [Act.put, List.getElem_toArray, List.getElem_cons_zero, List.getElem_cons_succ, List.setIfInBounds_toArray, List.set_cons_zero, List.set_cons_succ]
        refine wpAnyH_take (i := 7) (v := .int .i64 0) rfl (by kernel_rfl) (by kernel_rfl) (by kernel_rfl) (fun _ _ _ h => h) (Or.inl ⟨by rfl, fun w hS => by first | (go_simp; done) | (go_simp; with_reducible rfl)⟩) hHeld ?_
        try simp only [Act.put, List.getElem_toArray, List.getElem_cons_zero, List.getElem_cons_succ, List.setIfInBounds_toArray, List.set_cons_zero, List.set_cons_succ]
        refine wpAnyH_done (by kernel_rfl) ?_ _
        go_wp2_with fail
        refine bodyPost_ret (results_tmp2 rfl _ _ _) rfl ?_
        exact ⟨v9, by rw [HE.out.1]; rfl, by rw [HE.out.2]; exact HF.out.1, HF.out.2⟩
    · obtain ⟨e1, e2⟩ := HP2.out hz
      have HE := Lib.hid (And.intro e1 e2)
      have hk0 : (0 : Int) ≤ k := by omega
      clear c1 e1 e2 HP1 HP2 HP3 HP4 hz
      go_wp2_with fail
      refine bodyPost_ret (results_tmp2 rfl _ _ _) rfl ?_
      exact ⟨.slice none 0 0, by rw [HE.out.1]; rfl, by rw [HE.out.2]; exact OwnH.nil _ _, HB4.out⟩
end Ho
end Go.Proofs.YteapnkedpmcokaaGreatDoor
/- record.may; the writer's seal. Conditions: as stated at each. -/
namespace Go.Proofs.YteapnkedpmcokaaGreatDoor
set_option maxRecDepth 100000
namespace Rc
open Go.RowKit Go Go.Proofs.YteapnkedpmcokaaGreatDoor.Pa
attribute [local go_sem] Oper.semAt_some
theorem place_none (h : Ho.H) : Ho.placeE [] h = if Ho.holdS h then 0 else 140 := by
  unfold Ho.placeE
  cases Ho.holdS h
  · rfl
  · rfl
set_option maxHeartbeats 1600000 in
theorem rmay_any (a c : L) (w : World) (h1 : a.length ≤ 100000) (h2 : c.length ≤ 100000) :
    Calls Tryz.prog 106 #[.agg #[.string (str a), .string (str c)]] w fun e w' => e = .returned (.bool (Ho.holdS (a, c))) ∧ Below w.heap.size w w' := by
  have HPL := Lib.hid (fun (X : World) => Ho.place_any (w0 := X) (B := X.heap.size) (A := none) (l := []) (h := (a, c)) (.inl rfl) (Nat.le_refl _) 0 0 rfl (by omega) (fun r hr => by cases hr) (by show a.length ≤ _; omega) (by show c.length ≤ _; omega))
  rw [place_none] at HPL
  unfold Ho.OutE at HPL
  simp only at HPL
  generalize Ho.holdS (a, c) = q at *
  generalize str a = s0 at *
  generalize str c = s1 at *
  generalize Ho.placeS [] (a, c) = ps at *
  cases q with
  | true =>
    go_enter Tryz.func106, Tryz.ntmps106
    go_wp2_with fail
    refine (HPL.out _).mono ?_
    rintro e w2 ⟨v, rfl, _, hb2⟩
    have HB2 : Hid (Below w.heap.size w w2) := Lib.hid (((Below.refl _ w).alloc (Nat.le_refl _) _).trans (hb2.mono (by simp)))
    clear hb2 HPL
    go_wp2_with fail
    go_ret
    exact ⟨rfl, HB2.out⟩
  | false =>
    go_enter Tryz.func106, Tryz.ntmps106
    go_wp2_with fail
    refine (HPL.out _).mono ?_
    rintro e w2 ⟨v, rfl, _, hb2⟩
    have HB2 : Hid (Below w.heap.size w w2) := Lib.hid (((Below.refl _ w).alloc (Nat.le_refl _) _).trans (hb2.mono (by simp)))
    clear hb2 HPL
    go_wp2_with fail
    go_ret
    exact ⟨rfl, HB2.out⟩
set_option maxHeartbeats 3200000 in
theorem wseal_any {W : World} {g M B : Nat} {X : List Value} {vb : Value} {l : L} {r : R} (hW : WrS W g X vb) (hO : Own5 W M vb l) (hR : RecAt W B X r) (hM : M ≤ W.heap.size) (hl : l.length ≤ 100) :
    Calls Tryz.prog 105 #[.pointer (some ⟨g, 0, none⟩)] W (WrP W g M X (sealB r.sl) 160 (l ++ bytesS r.sl)) := by
  obtain ⟨v1, v2, rfl, _, hk⟩ := hR
  have HY := Lib.hid (fields hW.rng hk).s
  have HS := Lib.hid hk.sl
  have HBY := Lib.hid (bytes_any r.sl W hk.sl)
  have HPA := Lib.hid (fun (A : Option Addr) (B : Nat) (w : World) (h : Bts w B A (bytesS r.sl)) (hB : B ≤ w.heap.size) => parse_any A B 72 (bytesS r.sl) w h hB (bytesS_length hk.sl) (Nat.le_refl _))
  have HX := Lib.hid (parseR_ok (bytesS r.sl))
  have HSM := Lib.hid (seal_same hk.sl)
  have HBL := Lib.hid (bytesS_length hk.sl)
  have HEQ := Lib.hid (fun w => run_eq39 (parseR (bytesS r.sl)).1 r.sl (parseR_ok _) hk.sl w)
  have HFL : Hid (∀ (w : World), w.rangeAt g 0 (rc r v1 v2) → w.rangeAt g 41 (sc r.sl)) := Lib.hid fun w h => (fields h hk).s
  have HW := Lib.hid hW
  have HO := Lib.hid hO
  clear hk hW hO
  generalize rc r v1 v2 = X at *
  generalize r.sl = s at *
  generalize (parseR (bytesS s)).1 = x at *
  generalize (parseR (bytesS s)).2 = er at *
  generalize bytesS s = b at *
  generalize sealB s = ok at *
  have hgl := HW.out.lt
  go_enter Tryz.func105, Tryz.ntmps105
  go_wp2_with (first
    | (refine load_wt (by rfl) 32 (.tmp 8) rfl g 41 rfl (sc s) _ HY.out Tryz.underlying32 rfl (isz39s HS.out) ?_)
    | fail)
  refine HBY.out.mono ?_
  rintro e w2 ⟨gB, rfl, hgB, hgBl, hb2⟩
  have HW2 := Lib.hid (HW.out.below hb2 hgl)
  have HO2 := Lib.hid (own_kept HO.out hb2 (Nat.le_refl _))
  have HF2 : Hid (Fr g M W w2) := Lib.hid (fr_below hb2)
  have HGB : Hid (Bts w2 w2.heap.size (some ⟨gB, 0, none⟩) b) := Lib.hid (BlkIs.bts hgB hgB.lt)
  have hsz2 := hb2.size
  clear hgB hgBl hb2 HBY HY HW HO
  go_wp2_with fail
  refine (HPA.out _ _ w2 HGB.out (Nat.le_refl _)).mono ?_
  rintro e w3 ⟨rfl, hb3⟩
  have HW3 := Lib.hid (HW2.out.below hb3 HW2.out.lt)
  have HO3 := Lib.hid (own_kept HO2.out hb3 (Nat.le_refl _))
  have HF3 : Hid (Fr g M W w3) := Lib.hid (HF2.out.on hb3)
  have HG3 := Lib.hid ((HGB.out.below hb3).more hb3.size)
  have hsz3 := hb3.size
  clear hb3 HPA HGB HW2 HO2 HF2
  go_upto_region 2 with (first
    | (refine store_bl (.tmp 3) (.tmp 14) 32 w3.heap.size 32 _ (sc x).toArray (BlkIs.new w3 _ _) rfl rfl rfl rfl rfl (isz39a HX.out) (sc_size zeroS_ok HX.out) (sc_all _) ?_; intro w4 hb4 ht4)
    | fail)
  have hbW : Below w3.heap.size w3 w4 := ((Below.refl _ w3).alloc (Nat.le_refl _) _).trans (ht4.below (by simp) (fun i hi h => by omega))
  have HW4 := Lib.hid (HW3.out.below hbW HW3.out.lt)
  have HO4 := Lib.hid (own_kept HO3.out hbW (Nat.le_refl _))
  have HF4 : Hid (Fr g M W w4) := Lib.hid (HF3.out.on hbW)
  have HG4 := Lib.hid ((HG3.out.below hbW).more hbW.size)
  have HP4 := Lib.hid (blk_rng hb4)
  have hsz4 := hbW.size
  clear hb4 ht4 hbW HG3 HW3 HO3 HF3
  rcases HSM.out with ⟨h1, h2, h3⟩ | ⟨h3, h1 | ⟨h1, h2⟩⟩
  · subst h1
    rw [h2] at HEQ
    have HQ := Lib.hid h3
    clear h2 h3 HSM
    go_wp2_with fail
    have HW5 : Hid (WrS w4.drew g X vb) := Lib.hid ⟨HW4.out.blk, HW4.out.len⟩
    have HO5 : Hid (Own5 w4.drew M vb l) := Lib.hid HO4.out
    have HF5 : Hid (Fr g M W w4.drew) := Lib.hid HF4.out.drew
    have HG5 : Hid (Bts w4.drew w4.drew.heap.size (some ⟨gB, 0, none⟩) b) := Lib.hid HG4.out
    have HP5 : Hid (w4.drew.rangeAt w3.heap.size 0 (sc x)) := Lib.hid HP4.out
    have hsz5 : w3.heap.size ≤ w4.drew.heap.size := hsz4
    clear HW4 HO4 HF4 HG4 HP4 hsz4
    refine wp_region_held_drew (S := (fun Y => Y.rangeAt w3.heap.size 0 (sc x) ∧ Y.rangeAt g 0 X)) (by kernel_rfl) (⟨HP5.out, HW5.out.rng⟩) (fun hHeld => ?_)
    generalize w4.drew = w5 at *
    refine wpAnyH_take (i := 0) (v := .int .i64 0) rfl (by kernel_rfl) (by kernel_rfl) (by kernel_rfl) (fun _ _ _ h => h) (Or.inl ⟨by rfl, fun w hS => by first | (go_simp; done) | (go_simp; with_reducible rfl)⟩) hHeld ?_
    try simp only [Act.put, List.getElem_toArray, List.getElem_cons_zero, List.setIfInBounds_toArray, List.set_cons_zero, List.set_cons_succ]
    refine wpAnyH_take (i := 1) (v := .bool true) rfl (by kernel_rfl) (by kernel_rfl) (by kernel_rfl) (fun _ _ _ h => h) (Or.inl ⟨by rfl, fun w hS => by first | (go_simp; done) | (go_simp; with_reducible rfl)⟩) hHeld ?_
    try simp only [Act.put, List.getElem_toArray, List.getElem_cons_zero, List.getElem_cons_succ, List.setIfInBounds_toArray, List.set_cons_zero, List.set_cons_succ]
    refine wpAnyH_take (i := 2) (v := .bool true) rfl (by kernel_rfl) (by kernel_rfl) (by kernel_rfl) (fun _ _ _ h => h) (Or.inl ⟨by rfl, fun w hS => by first | (go_simp; done) | (go_simp; with_reducible rfl)⟩) hHeld ?_
    try simp only [Act.put, List.getElem_toArray, List.getElem_cons_zero, List.getElem_cons_succ, List.setIfInBounds_toArray, List.set_cons_zero, List.set_cons_succ]
    refine wpAnyH_take (i := 3) (v := _) rfl (by kernel_rfl) (by kernel_rfl) (by kernel_rfl) (fun _ _ _ h => h) (yieldsIf_load_mid (by rfl) 32 (.tmp 3) rfl w3.heap.size 0 rfl (sc x) _ (fun w h => h.1) Tryz.underlying32 rfl (isz39s HX.out)) hHeld ?_
    try simp only [Act.put, List.getElem_toArray, List.getElem_cons_zero, List.getElem_cons_succ, List.setIfInBounds_toArray, List.set_cons_zero, List.set_cons_succ]
    refine wpAnyH_take (i := 4) (v := .pointer (some ⟨g, 0, none⟩)) rfl (by kernel_rfl) (by kernel_rfl) (by kernel_rfl) (fun _ _ _ h => h) (Or.inl ⟨by rfl, fun w hS => by first | (go_simp; done) | (go_simp; with_reducible rfl)⟩) hHeld ?_
    try simp only [Act.put, List.getElem_toArray, List.getElem_cons_zero, List.getElem_cons_succ, List.setIfInBounds_toArray, List.set_cons_zero, List.set_cons_succ]
    refine wpAnyH_take (i := 5) (v := .pointer (some ⟨g, 0, none⟩)) rfl (by kernel_rfl) (by kernel_rfl) (by kernel_rfl) (fun _ _ _ h => h) (Or.inl ⟨by rfl, fun w hS => by (have c := (hS.2 0); first | (go_simp; done) | (go_simp; with_reducible rfl))⟩) hHeld ?_
    try simp only [Act.put, List.getElem_toArray, List.getElem_cons_zero, List.getElem_cons_succ, List.setIfInBounds_toArray, List.set_cons_zero, List.set_cons_succ]
    refine wpAnyH_take (i := 6) (v := .pointer (some ⟨g, 0, none⟩)) rfl (by kernel_rfl) (by kernel_rfl) (by kernel_rfl) (fun _ _ _ h => h) (Or.inl ⟨by rfl, fun w hS => by first | (go_simp; done) | (go_simp; with_reducible rfl)⟩) hHeld ?_
    try simp only [Act.put, List.getElem_toArray, List.getElem_cons_zero, List.getElem_cons_succ, List.setIfInBounds_toArray, List.set_cons_zero, List.set_cons_succ]
    refine wpAnyH_take (i := 7) (v := .pointer (some ⟨g, 41, none⟩)) rfl (by kernel_rfl) (by kernel_rfl) (by kernel_rfl) (fun _ _ _ h => h) (Or.inl ⟨by rfl, fun w hS => by first | (go_simp; done) | (go_simp; with_reducible rfl)⟩) hHeld ?_
    try simp only [Act.put, List.getElem_toArray, List.getElem_cons_zero, List.getElem_cons_succ, List.setIfInBounds_toArray, List.set_cons_zero, List.set_cons_succ]
    refine wpAnyH_take (i := 8) (v := _) rfl (by kernel_rfl) (by kernel_rfl) (by kernel_rfl) (fun _ _ _ h => h) (yieldsIf_load_mid (by rfl) 32 (.tmp 23) rfl g 41 rfl (sc s) _ (fun w h => HFL.out w h.2) Tryz.underlying32 rfl (isz39s HS.out)) hHeld ?_
    try simp only [Act.put, List.getElem_toArray, List.getElem_cons_zero, List.getElem_cons_succ, List.setIfInBounds_toArray, List.set_cons_zero, List.set_cons_succ]
    refine wpAnyH_take (i := 9) (v := .bool true) rfl (by kernel_rfl) (by kernel_rfl) (by kernel_rfl) (fun _ _ _ h => h) (Or.inl ⟨by rfl, fun w hS => by (have heq := HEQ.out; first | (go_simp; done) | (go_simp; with_reducible rfl))⟩) hHeld ?_
    try simp only [Act.put, List.getElem_toArray, List.getElem_cons_zero, List.getElem_cons_succ, List.setIfInBounds_toArray, List.set_cons_zero, List.set_cons_succ]
    refine wpAnyH_take (i := 10) (v := .bool true) rfl (by kernel_rfl) (by kernel_rfl) (by kernel_rfl) (fun _ _ _ h => h) (Or.inl ⟨by rfl, fun w hS => by first | (go_simp; done) | (go_simp; with_reducible rfl)⟩) hHeld ?_
    try simp only [Act.put, List.getElem_toArray, List.getElem_cons_zero, List.getElem_cons_succ, List.setIfInBounds_toArray, List.set_cons_zero, List.set_cons_succ]
    refine wpAnyH_ready (rs := [11]) (by kernel_rfl) (by simp) ?_
    refine AllReadyH.cons rfl (fun K hK => ?_) AllReadyH.nil
    go_simp
    go_wp2_with ((go_at_call 60; refine (need_t rfl _).mono ?_; rintro e w' ⟨rfl, rfl⟩))
    refine hK.out _ _ ?_ (fun hHeld => ?_)
    · exact ⟨HP5.out, HW5.out.rng⟩
    clear hK K
    try simp only [Act.put, List.getElem_toArray, List.getElem_cons_zero, List.getElem_cons_succ, List.setIfInBounds_toArray, List.set_cons_zero, List.set_cons_succ]
    refine wpAnyH_done (by kernel_rfl) ?_ _
    have cb := HW5.out.b
    clear HEQ HFL
    go_wp2_with (first
      | (refine app5 (.tmp 32) (.tmp 33) rfl rfl M vb l b rfl HO5.out _ _ _ (by rw [HBL.out]; rfl) HG5.out (by rw [HBL.out]; omega) (by omega) ?_; intro v6 w6 h6 g6; obtain ⟨A6, c6, rfl, _, _⟩ := own_slice h6; have HO6 : Hid (Own5 w6 M (.slice A6 (l ++ b).length c6) (l ++ b)) := Lib.hid h6; generalize (l ++ b).length = n6 at *; have HW6 := Lib.hid (HW5.out.own HO5.out g6); have HF6 := Lib.hid (HF5.out.app HO5.out g6); have cb6 := HW6.out.b; have cf6 := HW6.out.froz; clear h6 g6 cb HW5 HO5 HF5)
      | fail)
    go_end0
    unfold WrP
    exact ⟨HF6.out.put 109 _, .inl ⟨HQ.out, rfl, .slice A6 n6 c6, HW6.out.put _, En.own_far HO6.out (fun g' hg' e => En.own_blk HO6.out HW6.out.blk (by decide) (by rw [hg', e])) _⟩⟩
  · subst h1
    have HQ := Lib.hid h3
    clear h3 HSM
    go_wp2_with fail
    have HF5 : Hid (Fr g M W w4.drew) := Lib.hid HF4.out.drew
    clear HW4 HO4 HF4 HG4 HP4 hsz4
    refine wp_region_held_drew (S := (fun _ => True)) (by kernel_rfl) (trivial) (fun hHeld => ?_)
    generalize w4.drew = w5 at *
    refine wpAnyH_take (i := 0) (v := .int .i64 60) rfl (by kernel_rfl) (by kernel_rfl) (by kernel_rfl) (fun _ _ _ h => h) (Or.inl ⟨by rfl, fun w hS => by first | (go_simp; done) | (go_simp; with_reducible rfl)⟩) hHeld ?_
    try simp only [Act.put, List.getElem_toArray, List.getElem_cons_zero, List.setIfInBounds_toArray, List.set_cons_zero, List.set_cons_succ]
    refine wpAnyH_take (i := 1) (v := .bool false) rfl (by kernel_rfl) (by kernel_rfl) (by kernel_rfl) (fun _ _ _ h => h) (Or.inl ⟨by rfl, fun w hS => by first | (go_simp; done) | (go_simp; with_reducible rfl)⟩) hHeld ?_
    try simp only [Act.put, List.getElem_toArray, List.getElem_cons_zero, List.getElem_cons_succ, List.setIfInBounds_toArray, List.set_cons_zero, List.set_cons_succ]
    refine wpAnyH_take (i := 2) (v := .bool false) rfl (by kernel_rfl) (by kernel_rfl) (by kernel_rfl) (fun _ _ _ h => h) (Or.inl ⟨by rfl, fun w hS => by first | (go_simp; done) | (go_simp; with_reducible rfl)⟩) hHeld ?_
    try simp only [Act.put, List.getElem_toArray, List.getElem_cons_zero, List.getElem_cons_succ, List.setIfInBounds_toArray, List.set_cons_zero, List.set_cons_succ]
    refine wpAnyH_take (i := 3) (v := undef) rfl (by kernel_rfl) (by kernel_rfl) (by kernel_rfl) (fun _ _ _ h => h) (Or.inr ⟨by rfl, rfl⟩) hHeld ?_
    try simp only [Act.put, List.getElem_toArray, List.getElem_cons_zero, List.getElem_cons_succ, List.setIfInBounds_toArray, List.set_cons_zero, List.set_cons_succ]
    refine wpAnyH_take (i := 4) (v := undef) rfl (by kernel_rfl) (by kernel_rfl) (by kernel_rfl) (fun _ _ _ h => h) (Or.inr ⟨by rfl, rfl⟩) hHeld ?_
    try simp only [Act.put, List.getElem_toArray, List.getElem_cons_zero, List.getElem_cons_succ, List.setIfInBounds_toArray, List.set_cons_zero, List.set_cons_succ]
    refine wpAnyH_take (i := 5) (v := undef) rfl (by kernel_rfl) (by kernel_rfl) (by kernel_rfl) (fun _ _ _ h => h) (Or.inr ⟨by rfl, rfl⟩) hHeld ?_
    try simp only [Act.put, List.getElem_toArray, List.getElem_cons_zero, List.getElem_cons_succ, List.setIfInBounds_toArray, List.set_cons_zero, List.set_cons_succ]
    refine wpAnyH_take (i := 6) (v := undef) rfl (by kernel_rfl) (by kernel_rfl) (by kernel_rfl) (fun _ _ _ h => h) (Or.inr ⟨by rfl, rfl⟩) hHeld ?_
    try simp only [Act.put, List.getElem_toArray, List.getElem_cons_zero, List.getElem_cons_succ, List.setIfInBounds_toArray, List.set_cons_zero, List.set_cons_succ]
    refine wpAnyH_take (i := 7) (v := undef) rfl (by kernel_rfl) (by kernel_rfl) (by kernel_rfl) (fun _ _ _ h => h) (Or.inr ⟨by rfl, rfl⟩) hHeld ?_
    try simp only [Act.put, List.getElem_toArray, List.getElem_cons_zero, List.getElem_cons_succ, List.setIfInBounds_toArray, List.set_cons_zero, List.set_cons_succ]
    refine wpAnyH_take (i := 8) (v := undef) rfl (by kernel_rfl) (by kernel_rfl) (by kernel_rfl) (fun _ _ _ h => h) (Or.inr ⟨by rfl, rfl⟩) hHeld ?_
    try simp only [Act.put, List.getElem_toArray, List.getElem_cons_zero, List.getElem_cons_succ, List.setIfInBounds_toArray, List.set_cons_zero, List.set_cons_succ]
    refine wpAnyH_take (i := 9) (v := undef) rfl (by kernel_rfl) (by kernel_rfl) (by kernel_rfl) (fun _ _ _ h => h) (Or.inr ⟨by rfl, rfl⟩) hHeld ?_
    try simp only [Act.put, List.getElem_toArray, List.getElem_cons_zero, List.getElem_cons_succ, List.setIfInBounds_toArray, List.set_cons_zero, List.set_cons_succ]
    refine wpAnyH_take (i := 10) (v := .bool false) rfl (by kernel_rfl) (by kernel_rfl) (by kernel_rfl) (fun _ _ _ h => h) (Or.inl ⟨by rfl, fun w hS => by first | (go_simp; done) | (go_simp; with_reducible rfl)⟩) hHeld ?_
    try simp only [Act.put, List.getElem_toArray, List.getElem_cons_zero, List.getElem_cons_succ, List.setIfInBounds_toArray, List.set_cons_zero, List.set_cons_succ]
    refine wpAnyH_ready (rs := [11]) (by kernel_rfl) (by simp) ?_
    refine AllReadyH.cons rfl (fun K hK => ?_) AllReadyH.nil
    go_simp
    go_wp2_with (go_at_call 60; refine (need_f rfl _).mono ?_; rintro e w' ⟨rfl, rfl⟩)
    refine ⟨rfl, ?_⟩
    unfold WrP
    exact ⟨HF5.out, .inr ⟨HQ.out, rfl⟩⟩
  · subst h1
    rw [h2] at HEQ
    have HQ := Lib.hid h3
    clear h2 h3 HSM
    go_wp2_with fail
    have HF5 : Hid (Fr g M W w4.drew) := Lib.hid HF4.out.drew
    have HW5 : Hid (WrS w4.drew g X vb) := Lib.hid ⟨HW4.out.blk, HW4.out.len⟩
    have HP5 : Hid (w4.drew.rangeAt w3.heap.size 0 (sc x)) := Lib.hid HP4.out
    clear HW4 HO4 HF4 HG4 HP4 hsz4
    refine wp_region_held_drew (S := (fun Y => Y.rangeAt w3.heap.size 0 (sc x) ∧ Y.rangeAt g 0 X)) (by kernel_rfl) (⟨HP5.out, HW5.out.rng⟩) (fun hHeld => ?_)
    generalize w4.drew = w5 at *
    refine wpAnyH_take (i := 0) (v := .int .i64 0) rfl (by kernel_rfl) (by kernel_rfl) (by kernel_rfl) (fun _ _ _ h => h) (Or.inl ⟨by rfl, fun w hS => by first | (go_simp; done) | (go_simp; with_reducible rfl)⟩) hHeld ?_
    try simp only [Act.put, List.getElem_toArray, List.getElem_cons_zero, List.setIfInBounds_toArray, List.set_cons_zero, List.set_cons_succ]
    refine wpAnyH_take (i := 1) (v := .bool true) rfl (by kernel_rfl) (by kernel_rfl) (by kernel_rfl) (fun _ _ _ h => h) (Or.inl ⟨by rfl, fun w hS => by first | (go_simp; done) | (go_simp; with_reducible rfl)⟩) hHeld ?_
    try simp only [Act.put, List.getElem_toArray, List.getElem_cons_zero, List.getElem_cons_succ, List.setIfInBounds_toArray, List.set_cons_zero, List.set_cons_succ]
    refine wpAnyH_take (i := 2) (v := .bool true) rfl (by kernel_rfl) (by kernel_rfl) (by kernel_rfl) (fun _ _ _ h => h) (Or.inl ⟨by rfl, fun w hS => by first | (go_simp; done) | (go_simp; with_reducible rfl)⟩) hHeld ?_
    try simp only [Act.put, List.getElem_toArray, List.getElem_cons_zero, List.getElem_cons_succ, List.setIfInBounds_toArray, List.set_cons_zero, List.set_cons_succ]
    refine wpAnyH_take (i := 3) (v := _) rfl (by kernel_rfl) (by kernel_rfl) (by kernel_rfl) (fun _ _ _ h => h) (yieldsIf_load_mid (by rfl) 32 (.tmp 3) rfl w3.heap.size 0 rfl (sc x) _ (fun w h => h.1) Tryz.underlying32 rfl (isz39s HX.out)) hHeld ?_
    try simp only [Act.put, List.getElem_toArray, List.getElem_cons_zero, List.getElem_cons_succ, List.setIfInBounds_toArray, List.set_cons_zero, List.set_cons_succ]
    refine wpAnyH_take (i := 4) (v := .pointer (some ⟨g, 0, none⟩)) rfl (by kernel_rfl) (by kernel_rfl) (by kernel_rfl) (fun _ _ _ h => h) (Or.inl ⟨by rfl, fun w hS => by first | (go_simp; done) | (go_simp; with_reducible rfl)⟩) hHeld ?_
    try simp only [Act.put, List.getElem_toArray, List.getElem_cons_zero, List.getElem_cons_succ, List.setIfInBounds_toArray, List.set_cons_zero, List.set_cons_succ]
    refine wpAnyH_take (i := 5) (v := .pointer (some ⟨g, 0, none⟩)) rfl (by kernel_rfl) (by kernel_rfl) (by kernel_rfl) (fun _ _ _ h => h) (Or.inl ⟨by rfl, fun w hS => by (have c := (hS.2 0); first | (go_simp; done) | (go_simp; with_reducible rfl))⟩) hHeld ?_
    try simp only [Act.put, List.getElem_toArray, List.getElem_cons_zero, List.getElem_cons_succ, List.setIfInBounds_toArray, List.set_cons_zero, List.set_cons_succ]
    refine wpAnyH_take (i := 6) (v := .pointer (some ⟨g, 0, none⟩)) rfl (by kernel_rfl) (by kernel_rfl) (by kernel_rfl) (fun _ _ _ h => h) (Or.inl ⟨by rfl, fun w hS => by first | (go_simp; done) | (go_simp; with_reducible rfl)⟩) hHeld ?_
    try simp only [Act.put, List.getElem_toArray, List.getElem_cons_zero, List.getElem_cons_succ, List.setIfInBounds_toArray, List.set_cons_zero, List.set_cons_succ]
    refine wpAnyH_take (i := 7) (v := .pointer (some ⟨g, 41, none⟩)) rfl (by kernel_rfl) (by kernel_rfl) (by kernel_rfl) (fun _ _ _ h => h) (Or.inl ⟨by rfl, fun w hS => by first | (go_simp; done) | (go_simp; with_reducible rfl)⟩) hHeld ?_
    try simp only [Act.put, List.getElem_toArray, List.getElem_cons_zero, List.getElem_cons_succ, List.setIfInBounds_toArray, List.set_cons_zero, List.set_cons_succ]
    refine wpAnyH_take (i := 8) (v := _) rfl (by kernel_rfl) (by kernel_rfl) (by kernel_rfl) (fun _ _ _ h => h) (yieldsIf_load_mid (by rfl) 32 (.tmp 23) rfl g 41 rfl (sc s) _ (fun w h => HFL.out w h.2) Tryz.underlying32 rfl (isz39s HS.out)) hHeld ?_
    try simp only [Act.put, List.getElem_toArray, List.getElem_cons_zero, List.getElem_cons_succ, List.setIfInBounds_toArray, List.set_cons_zero, List.set_cons_succ]
    refine wpAnyH_take (i := 9) (v := .bool false) rfl (by kernel_rfl) (by kernel_rfl) (by kernel_rfl) (fun _ _ _ h => h) (Or.inl ⟨by rfl, fun w hS => by (have heq := HEQ.out; first | (go_simp; done) | (go_simp; with_reducible rfl))⟩) hHeld ?_
    try simp only [Act.put, List.getElem_toArray, List.getElem_cons_zero, List.getElem_cons_succ, List.setIfInBounds_toArray, List.set_cons_zero, List.set_cons_succ]
    refine wpAnyH_take (i := 10) (v := .bool false) rfl (by kernel_rfl) (by kernel_rfl) (by kernel_rfl) (fun _ _ _ h => h) (Or.inl ⟨by rfl, fun w hS => by first | (go_simp; done) | (go_simp; with_reducible rfl)⟩) hHeld ?_
    try simp only [Act.put, List.getElem_toArray, List.getElem_cons_zero, List.getElem_cons_succ, List.setIfInBounds_toArray, List.set_cons_zero, List.set_cons_succ]
    refine wpAnyH_ready (rs := [11]) (by kernel_rfl) (by simp) ?_
    refine AllReadyH.cons rfl (fun K hK => ?_) AllReadyH.nil
    go_simp
    go_wp2_with (go_at_call 60; refine (need_f rfl _).mono ?_; rintro e w' ⟨rfl, rfl⟩)
    refine ⟨rfl, ?_⟩
    unfold WrP
    exact ⟨HF5.out, .inr ⟨HQ.out, rfl⟩⟩
end Rc
end Go.Proofs.YteapnkedpmcokaaGreatDoor
/- Chapter 15's example. Conditions: as stated at each. -/
namespace Go.Proofs.YteapnkedpmcokaaGreatDoor
set_option maxRecDepth 100000
namespace En
open Go.RowKit Go Go.Proofs.YteapnkedpmcokaaGreatDoor.Pa
attribute [local go_sem] Oper.semAt_some
def exE : Env := ([], [[97, 64, 98]], 0)
theorem exE_small : SmallE exE := ⟨by decide, fun k => by
  rcases Nat.eq_zero_or_pos k with h | h
  · subst h; decide
  · unfold exE
    simp only [List.getD]
    rw [List.getElem?_eq_none (by simp; omega)]
    decide, by decide, by decide, by decide⟩
theorem ex_put : putS [[97, 98], []] = [50, 58, 97, 98, 44, 48, 58, 44] := by decide +kernel
theorem ex_chk : checkE exE 0 = true := by decide +kernel
/-- two slices in a row that is written out. -/
theorem rws_two {w : World} {x y : Value} {a b : L} (hx : SlV w x a) (hy : SlV w y b) : Rws (w.alloc (.cells #[x, y] 25)) (w.heap.size + 1) (some ⟨w.heap.size, 0, none⟩) [a, b] := fun k r hk => by
  obtain ⟨A, c, rfl, h1, h2, h3⟩ := hx
  obtain ⟨A', c', rfl, h1', h2', h3'⟩ := hy
  have hb : Below w.heap.size w (w.alloc (.cells #[.slice A a.length c, .slice A' b.length c'] 25)) := (Below.refl _ w).alloc (Nat.le_refl _) _
  rcases k with _ | _ | k
  · obtain rfl : a = r := by simpa using hk
    exact ⟨_, A, c, rfl, by simp, by rw [add_0]; exact (cell_of_row _ w.heap.size 0 _ _ _ (heap_alloc_new w _)).trans rfl, h2, h3, (h1.below hb).more (by omega)⟩
  · obtain rfl : b = r := by simpa using hk
    exact ⟨_, A', c', rfl, by simp, by rw [tx_addn]; exact (cell_of_row _ w.heap.size 1 _ _ _ (heap_alloc_new w _)).trans rfl, h2', h3', (h1'.below hb).more (by omega)⟩
  · simp at hk
theorem outp_str {w : World} {t : L} {e : Ending} {w' : World} (h : OutP w t e w') {n : Nat} (hn : t.length = n) {s : ByteArray} (hs : str t = s) :
    ∃ A c, e = .returned (.slice A n c) ∧ (convert 25 9 (.slice A n c)).run Tryz.prog w' = .ok (.string s) w' ∧ Below w.heap.size w w' := by
  obtain ⟨v, rfl, ho, hb⟩ := h
  subst hn
  subst hs
  obtain ⟨A, c, rfl, _, _⟩ := own_slice ho
  exact ⟨A, c, rfl, conv_str ho.bts c, hb⟩
end En
end Go.Proofs.YteapnkedpmcokaaGreatDoor
