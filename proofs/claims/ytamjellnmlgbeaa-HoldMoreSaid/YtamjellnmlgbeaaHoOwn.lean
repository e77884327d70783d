/- A copy of a hold. Conditions: as stated at each. -/
import Derived.Test.YtamjellnmlgbeaaHoSmall
import Derived.Laws.Rows
import Derived.Deep.RegionHeld
namespace Go.Proofs.Ytamjellnmlgbeaa
set_option maxRecDepth 100000
namespace Ho
open Go.RowKit Go Go.Proofs.Ytamjellnmlgbeaa.Pa Go.Proofs.Ytamjellnmlgbeaa.Rt
set_option maxHeartbeats 1600000 in
theorem own_any (r : R) (w0 : World) (h1 : r.1.length ≤ 140737488355328) (h2 : r.2.length ≤ 140737488355328) :
    Calls Try.prog 20 #[.agg #[.string (str r.1), .string (str r.2)]] w0 fun e w' => e = .returned (.agg #[.string (str r.1), .string (str r.2)]) ∧ Below w0.heap.size w0 w' := by
  have HCA := Lib.hid (fun X => called_any r X h1)
  have HCL := Lib.hid (fun X => clone_s r.2 X h2)
  clear h1 h2
  generalize str r.1 = s0 at *
  generalize str r.2 = s1 at *
  have hq1 := (BlkIs.new w0 24 #[.string s0, .string s1]).alloc (.cells #[.string ⟨#[]⟩, .string ⟨#[]⟩] 24)
  have hq2 := BlkIs.new (w0.alloc (.cells #[.string s0, .string s1] 24)) 24 #[.string ⟨#[]⟩, .string ⟨#[]⟩]
  simp only [World.size_alloc] at hq2
  have hb := (below_b w0 (.cells #[.string s0, .string s1] 24)).alloc (by simp) (.cells #[.string ⟨#[]⟩, .string ⟨#[]⟩] 24)
  go_enter Try.func20, Try.ntmps20
  go_wp2_with fail
  generalize (w0.alloc (.cells #[.string s0, .string s1] 24)).alloc (.cells #[.string ⟨#[]⟩, .string ⟨#[]⟩] 24) = w1 at *
  replace hq1 : BlkIs w1.drew w0.heap.size 24 #[.string s0, .string s1] := hq1
  replace hq2 : BlkIs w1.drew (w0.heap.size + 1) 24 #[.string ⟨#[]⟩, .string ⟨#[]⟩] := hq2
  replace hb := hb.drew
  refine wp_region_held_drew (S := (fun Y => BlkIs Y w0.heap.size 24 #[.string s0, .string s1] ∧ Below w0.heap.size w0 Y)) (by kernel_rfl) (⟨hq1, hb⟩) (fun hHeld => ?_)
  generalize w1.drew = w2 at *
  refine wpAnyH_take (i := 0) (v := .agg #[.string s0, .string s1]) rfl (by kernel_rfl) (by kernel_rfl) (by kernel_rfl) (fun _ _ _ h => h) (Or.inl ⟨by rfl, fun w hS => by (have x0 := (BlkIs.cell hS.1 0).trans (rfl : _ = some (Value.string s0)); have x1 := (BlkIs.cell hS.1 1).trans (rfl : _ = some (Value.string s1)); first | (go_simp; done) | (go_simp; with_reducible rfl))⟩) hHeld ?_
  try simp only [Act.put, List.getElem_toArray, List.getElem_cons_zero, List.setIfInBounds_toArray, List.set_cons_zero, List.set_cons_succ]
  refine wpAnyH_take (i := 2) (v := .pointer (some ⟨w0.heap.size, 1, none⟩)) rfl (by kernel_rfl) (by kernel_rfl) (by kernel_rfl) (fun _ _ _ h => h) (Or.inl ⟨by rfl, fun w hS => by first | (go_simp; done) | (go_simp; with_reducible rfl)⟩) hHeld ?_
  try simp only [Act.put, List.getElem_toArray, List.getElem_cons_zero, List.getElem_cons_succ, List.setIfInBounds_toArray, List.set_cons_zero, List.set_cons_succ]
  refine wpAnyH_take (i := 3) (v := .string s1) rfl (by kernel_rfl) (by kernel_rfl) (by kernel_rfl) (fun _ _ _ h => h) (Or.inl ⟨by rfl, fun w hS => by (have x1 := (BlkIs.cell hS.1 1).trans (rfl : _ = some (Value.string s1)); first | (go_simp; done) | (go_simp; with_reducible rfl))⟩) hHeld ?_
  try simp only [Act.put, List.getElem_toArray, List.getElem_cons_zero, List.getElem_cons_succ, List.setIfInBounds_toArray, List.set_cons_zero, List.set_cons_succ]
  refine wpAnyH_ready (rs := [1]) (by kernel_rfl) (by simp) ?_
  refine AllReadyH.cons rfl (fun K hK => ?_) AllReadyH.nil
  go_simp
  go_wp2_with ((first | (refine (HCA.out _).mono ?_; rintro e w3 ⟨rfl, hb3⟩) | fail))
  refine hK.out _ _ ?_ (fun hHeld => ?_)
  · exact ⟨(hb3.block _ hq1.lt).trans hq1, hb.trans (hb3.mono hb.size)⟩
  clear hK K
  try simp only [Act.put, List.getElem_toArray, List.getElem_cons_zero, List.getElem_cons_succ, List.setIfInBounds_toArray, List.set_cons_zero, List.set_cons_succ]
  have hq1 : BlkIs w3 _ _ _ := (hb3.block _ hq1.lt).trans hq1
  have hq2 : BlkIs w3 _ _ _ := (hb3.block _ hq2.lt).trans hq2
  have hb := hb.trans (hb3.mono hb.size)
  clear hb3
  refine wpAnyH_ready (rs := [4]) (by kernel_rfl) (by simp) ?_
  refine AllReadyH.cons rfl (fun K hK => ?_) AllReadyH.nil
  go_simp
  go_wp2_with ((first | (refine (HCL.out _).mono ?_; rintro e w4 ⟨rfl, hb4⟩) | fail))
  refine hK.out _ _ ?_ (fun hHeld => ?_)
  · exact ⟨(hb4.block _ hq1.lt).trans hq1, hb.trans (hb4.mono hb.size)⟩
  clear hK K
  try simp only [Act.put, List.getElem_toArray, List.getElem_cons_zero, List.getElem_cons_succ, List.setIfInBounds_toArray, List.set_cons_zero, List.set_cons_succ]
  have hq1 : BlkIs w4 _ _ _ := (hb4.block _ hq1.lt).trans hq1
  have hq2 : BlkIs w4 _ _ _ := (hb4.block _ hq2.lt).trans hq2
  have hb := hb.trans (hb4.mono hb.size)
  clear hb4
  refine wpAnyH_take (i := 5) (v := .agg #[.string s0, .string s1]) rfl (by kernel_rfl) (by kernel_rfl) (by kernel_rfl) (fun _ _ _ h => h) (Or.inl ⟨by rfl, fun w hS => by first | (go_simp; done) | (go_simp; with_reducible rfl)⟩) hHeld ?_
  try simp only [Act.put, List.getElem_toArray, List.getElem_cons_zero, List.getElem_cons_succ, List.setIfInBounds_toArray, List.set_cons_zero, List.set_cons_succ]
  have x0 := (BlkIs.cell hq2 0).trans (rfl : _ = some (Value.string ⟨#[]⟩))
  have x1 := (BlkIs.cell hq2 1).trans (rfl : _ = some (Value.string ⟨#[]⟩))
  have f0 := hq2.froz 0
  have f1 := hq2.froz 1
  have HQF := Lib.hid ((hq2.put 0 (.string s0)).put 1 (.string s1))
  have HBF := Lib.hid ((hb.setCell (p := ⟨w0.heap.size + 1, 0, none⟩) (Nat.le_succ _) (.string s0)).setCell (p := ⟨w0.heap.size + 1, 1, none⟩) (Nat.le_succ _) (.string s1))
  have HQG := Lib.hid (And.intro ((hq1.far (x := ⟨w0.heap.size + 1, 0, none⟩) (by show w0.heap.size ≠ w0.heap.size + 1; omega) (.string s0)).far (x := ⟨w0.heap.size + 1, 1, none⟩) (by show w0.heap.size ≠ w0.heap.size + 1; omega) (.string s1)) HBF.out)
  refine wpAnyH_ready (rs := [6]) (by kernel_rfl) (by simp) ?_
  refine AllReadyH.cons rfl (fun K hK => ?_) AllReadyH.nil
  go_simp
  refine hK.out _ _ ?_ (fun hHeld => ?_)
  · exact HQG.out
  clear hK K
  try simp only [Act.put, List.getElem_toArray, List.getElem_cons_zero, List.getElem_cons_succ, List.setIfInBounds_toArray, List.set_cons_zero, List.set_cons_succ]
  refine wpAnyH_done (by kernel_rfl) ?_ _
  go_wp2_with fail
  exact bodyPost_ret_by (results_cell_row rfl _ _ (w0.heap.size + 1) 24 #[.string s0, .string s1] (0, 0) _ rfl HQF.out Try.underlying24 rfl (by kernel_rfl)) rfl ⟨rfl, HBF.out⟩
end Ho
end Go.Proofs.Ytamjellnmlgbeaa
