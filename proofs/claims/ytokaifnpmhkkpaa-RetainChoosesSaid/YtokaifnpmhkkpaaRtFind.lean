/- A class by its name: retain.Find, the document's. Conditions: as stated at each. -/
import Derived.Test.YtokaifnpmhkkpaaRtSmall
import Derived.Test.YtokaifnpmhkkpaaDkMem
import Derived.Laws.ResultCell
import Derived.Deep.RegionHeld
namespace Go.Proofs.Ytokaifnpmhkkpaa
set_option maxRecDepth 100000
namespace Rt
open Go.RowKit Go Go.Proofs.Ytokaifnpmhkkpaa.Pa
theorem Prs.take {w : World} {B : Nat} {A : Option Addr} {xs : List (Value × Value)} (h : Prs w B A xs) (k : Nat) : Prs w B A (xs.take k) := by
  rcases h with rfl | ⟨g, o, rfl, hg, hr⟩
  · exact .inl (by simp)
  · refine .inr ⟨g, o, rfl, hg, fun j v hj => hr j v ?_⟩
    have e : pc xs = pc (xs.take k) ++ pc (xs.drop k) := by
      unfold pc
      rw [← List.flatMap_append, List.take_append_drop]
    have hl := (List.getElem?_eq_some_iff.1 hj).1
    rw [e, List.getElem?_append_left hl, hj]
theorem cvC_length (l : List C) : (cvC l).length = l.length := by simp [cvC]
theorem cvR_length (l : List R) : (cvR l).length = l.length := by simp [cvR]
theorem cvC_take (l : List C) (k : Nat) : (cvC l).take k = cvC (l.take k) := by simp [cvC]
/-- the k-th class's cells, in every world behind. -/
theorem cls_of {w : World} {B : Nat} {A : Option Addr} {l : List C} (h : Prs w B A (cvC l)) : ∀ k, k < l.length → ∃ (g o : Nat), A = some ⟨g, o, none⟩ ∧ g < B ∧ ∀ X, Below B w X → X.cell? ⟨g, o + k * 2, none⟩ = some (.string (str (l.getD k c0).1)) ∧ X.cell? ⟨g, o + k * 2 + 1, none⟩ = some (.int .i64 (l.getD k c0).2) := fun _ hk => h.els (cvC_get hk)
theorem rls_of {w : World} {B : Nat} {A : Option Addr} {l : List R} (h : Prs w B A (cvR l)) : ∀ k, k < l.length → ∃ (g o : Nat), A = some ⟨g, o, none⟩ ∧ g < B ∧ ∀ X, Below B w X → X.cell? ⟨g, o + k * 2, none⟩ = some (.string (str (l.getD k r0).1)) ∧ X.cell? ⟨g, o + k * 2 + 1, none⟩ = some (.string (str (l.getD k r0).2)) := fun _ hk => h.els (cvR_get hk)
def OkC (l : List C) : Prop := ∀ c ∈ l, c.1.length ≤ 140737488355328 ∧ I64 c.2
theorem OkC.at_ {l : List C} (h : OkC l) (k : Nat) : (l.getD k c0).1.length ≤ 140737488355328 ∧ I64 (l.getD k c0).2 := by
  rcases Nat.lt_or_ge k l.length with hk | hk
  · exact h _ (by simp [List.getD, hk])
  · rw [show l.getD k c0 = c0 by simp [List.getD, List.getElem?_eq_none hk]]
    exact ⟨by simp [c0], by simp [c0, I64]⟩
/-- what Find answers. -/
def fc (l : List C) (nm : L) : C := (findS l nm).getD c0
theorem fc_hit {l : List C} {nm : L} {k : Nat} (h : ∀ j, j < k → (l.getD j c0).1 ≠ nm) (hk : k < l.length) (hq : (l.getD k c0).1 = nm) : fc l nm = l.getD k c0 ∧ (findS l nm).isSome = true := by
  have := find_at h hk hq
  exact ⟨by rw [fc, this]; rfl, by rw [this]; rfl⟩
theorem fc_miss {l : List C} {nm : L} (h : ∀ j, j < l.length → (l.getD j c0).1 ≠ nm) : fc l nm = c0 ∧ (findS l nm).isSome = false := by
  have := find_miss h
  exact ⟨by rw [fc, this]; rfl, by rw [this]; rfl⟩
theorem OkC.fc {l : List C} (h : OkC l) (nm : L) : I64 (fc l nm).2 := by
  cases hf : findS l nm with
  | none => rw [Rt.fc, hf]; simp [c0, I64]
  | some c => rw [Rt.fc, hf]; exact (h c (find_some hf).1).2
theorem run_loadC {w : World} {g : Nat} {s : ByteArray} {v : Int} (hB : BlkIs w g 34 #[.string s, .int .i64 v]) : (loadVar 34 ⟨g, 0, none⟩).run Try.prog w = .ok (.agg #[.string s, .int .i64 v]) w :=
  run_loadVar_row (P := Try.prog) w g 34 34 #[.string s, .int .i64 v] (0, 0) _ hB Try.underlying34 rfl (by kernel_rfl)
theorem res_find {w : World} {g : Nat} {s : ByteArray} {v : Int} (tmps : Array Value) (hB : BlkIs w g 34 #[.string s, .int .i64 v]) (h2 : tmps.getD 4 undef = .pointer (some ⟨g, 0, none⟩)) :
    (results Try.f13 tmps).run Try.prog w = .ok (.tuple #[.agg #[.string s, .int .i64 v], tmps.getD 5 undef]) w := by
  rw [results_cell_tmp rfl, h2]
  have hl := run_loadC hB
  simp only [asAddr, Result.andThen, Sem.run_pure]
  rw [hl]
theorem res_rfind {w : World} {g : Nat} {s : ByteArray} {v : Int} (tmps : Array Value) (hB : BlkIs w g 34 #[.string s, .int .i64 v]) (h2 : tmps.getD 4 undef = .pointer (some ⟨g, 0, none⟩)) :
    (results Try.f14 tmps).run Try.prog w = .ok (.tuple #[.agg #[.string s, .int .i64 v], tmps.getD 5 undef]) w := by
  rw [results_cell_tmp rfl, h2]
  have hl := run_loadC hB
  simp only [asAddr, Result.andThen, Sem.run_pure]
  rw [hl]
def FindP (w : World) (l : List C) (nm : L) (e : Ending) (w' : World) : Prop := e = .returned (.tuple #[.agg #[.string (str (fc l nm).1), .int .i64 (fc l nm).2], .bool (findS l nm).isSome]) ∧ Below w.heap.size w w'
theorem beq_str {a b : L} : ((str a).toList == (str b).toList) = (a == b) := by
  rw [Go.Lib.toList_data, Go.Lib.toList_data]; simp [str]
set_option maxHeartbeats 1600000 in
theorem rfind_any {w : World} {B : Nat} {A : Option Addr} {l : List C} (h : Prs w B A (cvC l)) (hB : B ≤ w.heap.size) (n c : Nat) (hn : l.length = n) (hn1 : n ≤ 1000) (nm : L) :
    Calls Try.prog 14 #[.slice A n c, .string (str nm)] w (FindP w l nm) := by
  have HEL := Lib.hid (cls_of h)
  have HN := Lib.hid hn
  have hb1 : Below w.heap.size w (w.alloc (.cells #[.string ⟨#[]⟩, .int .i64 0] 34)) := (Below.refl _ _).alloc (Nat.le_refl _) _
  have hq1 := BlkIs.new w 34 #[.string ⟨#[]⟩, .int .i64 0]
  have hz1 : (w.alloc (.cells #[.string ⟨#[]⟩, .int .i64 0] 34)).heap.size = w.heap.size + 1 := by simp
  clear h hn
  go_enter Try.func14, Try.ntmps14
  go_wp2_with fail
  generalize w.alloc (.cells #[.string ⟨#[]⟩, .int .i64 0] 34) = w1 at *
  go_loopw [7, 10] (fun _ i wr => ∃ k : Nat, k ≤ n ∧ i = .int .i64 k ∧ (∀ j, j < k → (l.getD j c0).1 ≠ nm) ∧ Below w.heap.size w wr ∧ BlkIs wr w.heap.size 34 #[.string ⟨#[]⟩, .int .i64 0]) (fun _ i _ => n - (intOf i).toNat)
  case atStart => exact ⟨0, Nat.zero_le _, rfl, fun j hj => absurd hj (Nat.not_lt_zero _), hb1, hq1⟩
  case round =>
    obtain ⟨k, hk, rfl, hno, hbel, hblk⟩ := hrel
    clear hb1 hq1 hz1
    by_cases hlt : k < n
    · obtain ⟨g, o, rfl, hg, hall⟩ := HEL.out k (by rw [HN.out]; exact hlt)
      obtain ⟨y0, y1⟩ := hall wr (hbel.mono hB)
      have hlw := hblk.lt
      have hb2 : Below w.heap.size w (wr.alloc (.cells #[.string (str (l.getD k c0).1), .int .i64 (l.getD k c0).2] 34)) := hbel.alloc (by omega) _
      have hq2 := hblk.alloc (.cells #[.string (str (l.getD k c0).1), .int .i64 (l.getD k c0).2] 34)
      have hq3 := BlkIs.new wr 34 #[.string (str (l.getD k c0).1), .int .i64 (l.getD k c0).2]
      by_cases hq : (l.getD k c0).1 = nm
      · have hm := fc_hit hno (by rw [HN.out]; exact hlt) hq
        have e0 : ((str (l.getD k c0).1).toList == (str nm).toList) = true := by rw [beq_str, hq, beq_self_eq_true]
        have HM : Hid (str (fc l nm).1 = str (l.getD k c0).1 ∧ (fc l nm).2 = (l.getD k c0).2 ∧ (findS l nm).isSome = true) := Lib.hid ⟨by rw [hm.1], by rw [hm.1], hm.2⟩
        clear hno hm hq HEL HN
        generalize str (l.getD k c0).1 = s0 at *
        generalize (l.getD k c0).2 = v0 at *
        have HQ := Lib.hid (((hblk.put 0 (.string s0)).put 1 (.int .i64 v0)).alloc (.cells #[.string s0, .int .i64 v0] 34))
        have HB3 := Lib.hid (((hbel.setCell (p := ⟨w.heap.size, 0, none⟩) (by show w.heap.size ≤ w.heap.size; omega) (.string s0)).setCell (p := ⟨w.heap.size, 1, none⟩) (by show w.heap.size ≤ w.heap.size; omega) (.int .i64 v0)).alloc (by simp; omega) (.cells #[.string s0, .int .i64 v0] 34))
        have x0 := hblk.cell 0
        have x1 := hblk.cell 1
        have f0 := hblk.froz 0
        have f1 := hblk.froz 1
        clear hb2 hq2 hq3 hblk hbel
        go_wp2_with fail
        refine bodyPost_ret (res_rfind _ HQ.out rfl) rfl ⟨?_, HB3.out⟩
        rw [HM.out.1, HM.out.2.1, HM.out.2.2]
        rfl
      · have e0 : ((str (l.getD k c0).1).toList == (str nm).toList) = false := by rw [beq_str, beq_eq_false_iff_ne.2 hq]
        have HNO : Hid (∀ j, j < k + 1 → (l.getD j c0).1 ≠ nm) := Lib.hid fun j hj => by
          rcases Nat.lt_or_ge j k with h | h
          · exact hno j h
          · obtain rfl : j = k := by omega
            exact hq
        have HQ := Lib.hid (And.intro hb2 hq2)
        clear hno hq HEL HN hb2 hq2 hq3
        generalize str (l.getD k c0).1 = s0 at *
        generalize (l.getD k c0).2 = v0 at *
        go_wp2_with fail
        go_roundw
        case rel => exact ⟨k + 1, by omega, by go_num, HNO.out, HQ.out.1, HQ.out.2⟩
        case measure => simp [intOf]; omega
    · have hkn : k = n := by omega
      subst hkn
      have hm := fc_miss (l := l) (nm := nm) (fun j hj => hno j (by rw [← HN.out]; exact hj))
      have HM := Lib.hid hm
      have HB := Lib.hid hbel
      have HQ := Lib.hid hblk
      have k0 := hblk.cell 0
      have k1 := hblk.cell 1
      have f0 := hblk.froz 0
      have f1 := hblk.froz 1
      have HQ2 := Lib.hid ((hblk.put 0 (.string ⟨#[]⟩)).put 1 (.int .i64 0))
      have HB3 := Lib.hid ((hbel.setCell (p := ⟨w.heap.size, 0, none⟩) (by show w.heap.size ≤ w.heap.size; omega) (.string ⟨#[]⟩)).setCell (p := ⟨w.heap.size, 1, none⟩) (by show w.heap.size ≤ w.heap.size; omega) (.int .i64 0))
      clear hm hno HEL HN hbel hblk
      go_wp2_with fail
      refine bodyPost_ret (res_rfind _ HQ2.out rfl) rfl ⟨?_, HB3.out⟩
      rw [HM.out.1, HM.out.2]
      rfl
set_option maxHeartbeats 1600000 in
theorem find_any {w : World} {B : Nat} {A : Option Addr} {l : List C} (h : Prs w B A (cvC l)) (hB : B ≤ w.heap.size) (n c : Nat) (hn : l.length = n) (hn1 : n ≤ 1000) (hok : OkC l) (nm : L) :
    Calls Try.prog 13 #[.slice A n c, .string (str nm)] w (FindP w l nm) := by
  have HEL := Lib.hid (cls_of h)
  have HN := Lib.hid hn
  have HOK := Lib.hid (fun k => (hok.at_ k).1)
  clear hok
  have hb1 : Below w.heap.size w (w.alloc (.cells #[.string ⟨#[]⟩, .int .i64 0] 34)) := (Below.refl _ _).alloc (Nat.le_refl _) _
  have hq1 := BlkIs.new w 34 #[.string ⟨#[]⟩, .int .i64 0]
  have hz1 : (w.alloc (.cells #[.string ⟨#[]⟩, .int .i64 0] 34)).heap.size = w.heap.size + 1 := by simp
  clear h hn
  go_enter Try.func13, Try.ntmps13
  go_wp2_with fail
  generalize w.alloc (.cells #[.string ⟨#[]⟩, .int .i64 0] 34) = w1 at *
  go_loopw [7, 10] (fun _ i wr => ∃ k : Nat, k ≤ n ∧ i = .int .i64 k ∧ (∀ j, j < k → (l.getD j c0).1 ≠ nm) ∧ Below w.heap.size w wr ∧ BlkIs wr w.heap.size 34 #[.string ⟨#[]⟩, .int .i64 0]) (fun _ i _ => n - (intOf i).toNat)
  case atStart => exact ⟨0, Nat.zero_le _, rfl, fun j hj => absurd hj (Nat.not_lt_zero _), hb1, hq1⟩
  case round =>
    obtain ⟨k, hk, rfl, hno, hbel, hblk⟩ := hrel
    clear hb1 hq1 hz1
    by_cases hlt : k < n
    · obtain ⟨g, o, rfl, hg, hall⟩ := HEL.out k (by rw [HN.out]; exact hlt)
      obtain ⟨y0, y1⟩ := hall wr (hbel.mono hB)
      have hlw := hblk.lt
      have hb2 : Below w.heap.size w (wr.alloc (.cells #[.string (str (l.getD k c0).1), .int .i64 (l.getD k c0).2] 34)) := hbel.alloc (by omega) _
      have hq2 := hblk.alloc (.cells #[.string (str (l.getD k c0).1), .int .i64 (l.getD k c0).2] 34)
      have hq3 := BlkIs.new wr 34 #[.string (str (l.getD k c0).1), .int .i64 (l.getD k c0).2]
      by_cases hq : (l.getD k c0).1 = nm
      · have hm := fc_hit hno (by rw [HN.out]; exact hlt) hq
        have e0 : ((str (l.getD k c0).1).toList == (str nm).toList) = true := by rw [beq_str, hq, beq_self_eq_true]
        have HM : Hid (str (fc l nm).1 = str (l.getD k c0).1 ∧ (fc l nm).2 = (l.getD k c0).2 ∧ (findS l nm).isSome = true) := Lib.hid ⟨by rw [hm.1], by rw [hm.1], hm.2⟩
        have HCL := Lib.hid (fun X => clone_s (l.getD k c0).1 X (HOK.out k))
        clear hno hm hq HEL HN HOK
        generalize str (l.getD k c0).1 = s0 at *
        generalize (l.getD k c0).2 = v0 at *
        have HQ2 := Lib.hid (And.intro hq2 (And.intro hq3 hb2))
        clear hb2 hq2 hq3 hblk hbel
        go_wp2_with fail
        have HW := Lib.hid (show wr.heap.size ≠ w.heap.size by omega)
        have hq2 := HQ2.out.1
        have hq3 := HQ2.out.2.1
        have hb2 := HQ2.out.2.2
        generalize wr.alloc (.cells #[.string s0, .int .i64 v0] 34) = w2 at *
        have hq4 : BlkIs w2.drew w.heap.size 34 #[.string ⟨#[]⟩, .int .i64 0] := hq2
        have hq5 : BlkIs w2.drew wr.heap.size 34 #[.string s0, .int .i64 v0] := hq3
        have hb4 : Below w.heap.size w w2.drew := hb2.drew
        clear HQ2 hq2 hq3 hb2
        generalize wr.heap.size = b8 at *
        refine wp_region_held_drew (S := (fun Y => BlkIs Y b8 34 #[.string s0, .int .i64 v0] ∧ Below w.heap.size w Y)) (by kernel_rfl) (⟨hq5, hb4⟩) (fun hHeld => ?_)
        generalize w2.drew = w4 at *
        refine wpAnyH_take (i := 0) (v := .pointer (some ⟨b8, 0, none⟩)) rfl (by kernel_rfl) (by kernel_rfl) (by kernel_rfl) (fun _ _ _ h => h) (Or.inl ⟨by rfl, fun w hS => by first | (go_simp; done) | (go_simp; with_reducible rfl)⟩) hHeld ?_
        try simp only [Act.put, List.getElem_toArray, List.getElem_cons_zero, List.setIfInBounds_toArray, List.set_cons_zero, List.set_cons_succ]
        refine wpAnyH_take (i := 1) (v := .string s0) rfl (by kernel_rfl) (by kernel_rfl) (by kernel_rfl) (fun _ _ _ h => h) (Or.inl ⟨by rfl, fun w hS => by (have x0 := (BlkIs.cell hS.1 0).trans (rfl : _ = some (Value.string s0)); first | (go_simp; done) | (go_simp; with_reducible rfl))⟩) hHeld ?_
        try simp only [Act.put, List.getElem_toArray, List.getElem_cons_zero, List.getElem_cons_succ, List.setIfInBounds_toArray, List.set_cons_zero, List.set_cons_succ]
        refine wpAnyH_take (i := 3) (v := .pointer (some ⟨b8, 1, none⟩)) rfl (by kernel_rfl) (by kernel_rfl) (by kernel_rfl) (fun _ _ _ h => h) (Or.inl ⟨by rfl, fun w hS => by first | (go_simp; done) | (go_simp; with_reducible rfl)⟩) hHeld ?_
        try simp only [Act.put, List.getElem_toArray, List.getElem_cons_zero, List.getElem_cons_succ, List.setIfInBounds_toArray, List.set_cons_zero, List.set_cons_succ]
        refine wpAnyH_take (i := 4) (v := .int .i64 v0) rfl (by kernel_rfl) (by kernel_rfl) (by kernel_rfl) (fun _ _ _ h => h) (Or.inl ⟨by rfl, fun w hS => by (have x0 := (BlkIs.cell hS.1 1).trans (rfl : _ = some (Value.int .i64 v0)); first | (go_simp; done) | (go_simp; with_reducible rfl))⟩) hHeld ?_
        try simp only [Act.put, List.getElem_toArray, List.getElem_cons_zero, List.getElem_cons_succ, List.setIfInBounds_toArray, List.set_cons_zero, List.set_cons_succ]
        refine wpAnyH_ready (rs := [2]) (by kernel_rfl) (by simp) ?_
        refine AllReadyH.cons rfl (fun K hK => ?_) AllReadyH.nil
        go_simp
        go_wp2_with ((first | (refine (HCL.out _).mono ?_; rintro e w5 ⟨rfl, hb5⟩) | fail))
        refine hK.out _ _ ?_ (fun hHeld => ?_)
        · exact ⟨(hb5.block _ hq5.lt).trans hq5, hb4.trans (hb5.mono (by have := hq4.lt; omega))⟩
        clear hK K
        try simp only [Act.put, List.getElem_toArray, List.getElem_cons_zero, List.getElem_cons_succ, List.setIfInBounds_toArray, List.set_cons_zero, List.set_cons_succ]
        have hq6 : BlkIs w5 b8 34 #[.string s0, .int .i64 v0] := (hb5.block _ hq5.lt).trans hq5
        have hq7 : BlkIs w5 w.heap.size 34 #[.string ⟨#[]⟩, .int .i64 0] := (hb5.block _ hq4.lt).trans hq4
        have hb7 : Below w.heap.size w w5 := hb4.trans (hb5.mono (by have := hq4.lt; omega))
        refine wpAnyH_take (i := 5) (v := .agg #[.string s0, .int .i64 v0]) rfl (by kernel_rfl) (by kernel_rfl) (by kernel_rfl) (fun _ _ _ h => h) (Or.inl ⟨by rfl, fun w hS => by first | (go_simp; done) | (go_simp; with_reducible rfl)⟩) hHeld ?_
        try simp only [Act.put, List.getElem_toArray, List.getElem_cons_zero, List.getElem_cons_succ, List.setIfInBounds_toArray, List.set_cons_zero, List.set_cons_succ]
        have x0 := (BlkIs.cell hq7 0).trans (rfl : _ = some (Value.string ⟨#[]⟩))
        have x1 := (BlkIs.cell hq7 1).trans (rfl : _ = some (Value.int .i64 0))
        have f0 := hq7.froz 0
        have f1 := hq7.froz 1
        have HQF := Lib.hid ((hq7.put 0 (.string s0)).put 1 (.int .i64 v0))
        have HBF := Lib.hid ((hb7.setCell (p := ⟨w.heap.size, 0, none⟩) (Nat.le_refl _) (.string s0)).setCell (p := ⟨w.heap.size, 1, none⟩) (Nat.le_refl _) (.int .i64 v0))
        have HQG := Lib.hid (And.intro ((hq6.far (x := ⟨w.heap.size, 0, none⟩) HW.out (.string s0)).far (x := ⟨w.heap.size, 1, none⟩) HW.out (.int .i64 v0)) HBF.out)
        refine wpAnyH_ready (rs := [6]) (by kernel_rfl) (by simp) ?_
        refine AllReadyH.cons rfl (fun K hK => ?_) AllReadyH.nil
        go_simp
        refine hK.out _ _ ?_ (fun hHeld => ?_)
        · exact HQG.out
        clear hK K
        try simp only [Act.put, List.getElem_toArray, List.getElem_cons_zero, List.getElem_cons_succ, List.setIfInBounds_toArray, List.set_cons_zero, List.set_cons_succ]
        refine wpAnyH_take (i := 7) (v := .bool true) rfl (by kernel_rfl) (by kernel_rfl) (by kernel_rfl) (fun _ _ _ h => h) (Or.inl ⟨by rfl, fun w hS => by first | (go_simp; done) | (go_simp; with_reducible rfl)⟩) hHeld ?_
        try simp only [Act.put, List.getElem_toArray, List.getElem_cons_zero, List.getElem_cons_succ, List.setIfInBounds_toArray, List.set_cons_zero, List.set_cons_succ]
        refine wpAnyH_done (by kernel_rfl) ?_ _
        go_wp2_with fail
        refine bodyPost_ret (res_find _ HQF.out rfl) rfl ⟨?_, HBF.out⟩
        rw [HM.out.1, HM.out.2.1, HM.out.2.2]
        rfl
      · have e0 : ((str (l.getD k c0).1).toList == (str nm).toList) = false := by rw [beq_str, beq_eq_false_iff_ne.2 hq]
        have HNO : Hid (∀ j, j < k + 1 → (l.getD j c0).1 ≠ nm) := Lib.hid fun j hj => by
          rcases Nat.lt_or_ge j k with h | h
          · exact hno j h
          · obtain rfl : j = k := by omega
            exact hq
        have HQ := Lib.hid (And.intro hb2 hq2)
        clear hno hq HEL HN hb2 hq2 hq3
        generalize str (l.getD k c0).1 = s0 at *
        generalize (l.getD k c0).2 = v0 at *
        go_wp2_with fail
        go_roundw
        case rel => exact ⟨k + 1, by omega, by go_num, HNO.out, HQ.out.1, HQ.out.2⟩
        case measure => simp [intOf]; omega
    · have hkn : k = n := by omega
      subst hkn
      have hm := fc_miss (l := l) (nm := nm) (fun j hj => hno j (by rw [← HN.out]; exact hj))
      have HM := Lib.hid hm
      have HB := Lib.hid hbel
      have HQ := Lib.hid hblk
      have k0 := hblk.cell 0
      have k1 := hblk.cell 1
      have f0 := hblk.froz 0
      have f1 := hblk.froz 1
      have HQ2 := Lib.hid ((hblk.put 0 (.string ⟨#[]⟩)).put 1 (.int .i64 0))
      have HB3 := Lib.hid ((hbel.setCell (p := ⟨w.heap.size, 0, none⟩) (by show w.heap.size ≤ w.heap.size; omega) (.string ⟨#[]⟩)).setCell (p := ⟨w.heap.size, 1, none⟩) (by show w.heap.size ≤ w.heap.size; omega) (.int .i64 0))
      clear hm hno HEL HN hbel hblk
      go_wp2_with fail
      refine bodyPost_ret (res_find _ HQ2.out rfl) rfl ⟨?_, HB3.out⟩
      rw [HM.out.1, HM.out.2]
      rfl
end Rt
end Go.Proofs.Ytokaifnpmhkkpaa
