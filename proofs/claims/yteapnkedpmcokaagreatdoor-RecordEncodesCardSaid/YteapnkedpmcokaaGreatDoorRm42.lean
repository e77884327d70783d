/- RcOf. Conditions: as stated at each. -/
import Derived.Test.YteapnkedpmcokaaGreatDoorRm41
/- record.of at a writer; write of one kind. Conditions: as stated at each. -/
namespace Go.Proofs.YteapnkedpmcokaaGreatDoor
set_option maxRecDepth 100000
namespace Rc
open Go.RowKit Go Go.Proofs.YteapnkedpmcokaaGreatDoor.Pa
attribute [local go_sem] Oper.semAt_some
/-- what of hands back. -/
abbrev ofV (nm : String) (f : Value) : Value := .func (.method nm) #[f] #[]
theorem of_1 (t : TypeId) (p : Value) (w : World) : Calls Tryz.prog 39 #[.int .i64 1, .iface t p] w fun e w' => e = .returned (ofV "scriptorium/record.message" (.iface t p)) ∧ w = w' := by
  go_enter Tryz.func39, Tryz.ntmps39
  go_wp2_with fail
  go_ret
  exact ⟨rfl, rfl⟩
theorem of_2 (t : TypeId) (p : Value) (w : World) : Calls Tryz.prog 39 #[.int .i64 2, .iface t p] w fun e w' => e = .returned (ofV "scriptorium/record.purged" (.iface t p)) ∧ w = w' := by
  go_enter Tryz.func39, Tryz.ntmps39
  go_wp2_with fail
  go_ret
  exact ⟨rfl, rfl⟩
theorem of_3 (t : TypeId) (p : Value) (w : World) : Calls Tryz.prog 39 #[.int .i64 3, .iface t p] w fun e w' => e = .returned (ofV "scriptorium/record.seal" (.iface t p)) ∧ w = w' := by
  go_enter Tryz.func39, Tryz.ntmps39
  go_wp2_with fail
  go_ret
  exact ⟨rfl, rfl⟩
theorem of_4 (t : TypeId) (p : Value) (w : World) : Calls Tryz.prog 39 #[.int .i64 4, .iface t p] w fun e w' => e = .returned (ofV "scriptorium/record.hold" (.iface t p)) ∧ w = w' := by
  go_enter Tryz.func39, Tryz.ntmps39
  go_wp2_with fail
  go_ret
  exact ⟨rfl, rfl⟩
theorem of_5 (t : TypeId) (p : Value) (w : World) : Calls Tryz.prog 39 #[.int .i64 5, .iface t p] w fun e w' => e = .returned (ofV "scriptorium/record.lift" (.iface t p)) ∧ w = w' := by
  go_enter Tryz.func39, Tryz.ntmps39
  go_wp2_with fail
  go_ret
  exact ⟨rfl, rfl⟩
theorem kind_no (k : Int) (h1 : (k == 1) = false) (h2 : (k == 2) = false) (h3 : (k == 3) = false) (h4 : (k == 4) = false) (h5 : (k == 5) = false) (t : TypeId) (p : Value) (w : World) : Calls Tryz.prog 39 #[.int .i64 k, .iface t p] w fun e w' => e = Fa.bad 160 ∧ w = w' := by
  go_enter Tryz.func39, Tryz.ntmps39
  go_wp2_with fail
  exact ⟨rfl, rfl, rfl⟩
set_option maxHeartbeats 3200000 in
theorem write_1 {W : World} {g M : Nat} {X : List Value} {ok : Bool} {er : Int} {out : L} (hW : WrS W g X (.slice none 0 0)) (h0 : X[0]? = some (.int .i64 1)) (hM : M ≤ W.heap.size)
    (hm : ∀ (w2 : World) (vb2 : Value), WrS w2 g X vb2 → Own5 w2 M vb2 [1] → Fr g M W w2 → Calls Tryz.prog 103 #[.pointer (some ⟨g, 0, none⟩)] w2 (WrP w2 g M X ok er ([1] ++ out))) :
    Calls Tryz.prog 23 #[.pointer (some ⟨g, 0, none⟩)] W (WrP W g M X ok er (1 :: out)) := by
  have HM := Lib.hid hm
  have HX0 : Hid (∀ w vb, WrS w g X vb → w.cell? ⟨g, 0, none⟩ = some (.int .i64 1)) := Lib.hid fun w vb h => h.rng 0 _ h0
  have ck := HX0.out _ _ hW
  have HW := Lib.hid hW
  clear hm hW h0
  go_enter Tryz.func23, Tryz.ntmps23
  go_wp2_with (first
    | (refine (of_1 _ _ _).mono ?_; rintro e w' ⟨rfl, rfl⟩)
    | fail)
  have HW1 : Hid (WrS W.drew g X (.slice none 0 0)) := Lib.hid ⟨HW.out.blk, HW.out.len⟩
  have HO1 : Hid (Own5 W.drew M (.slice none 0 0) []) := Lib.hid (Own5.nil _ _)
  have HF1 : Hid (Fr g M W W.drew) := Lib.hid (Fr.refl g M W).drew
  have hsz1 : M ≤ W.drew.heap.size := hM
  clear ck HW
  refine wp_region_key ((fun Y => WrS Y g X (.slice none 0 0))) 15 (by kernel_rfl) (HW1.out) (fun hHeld => ?_)
  generalize W.drew = w1 at *
  refine wpAnyK_take (i := 0) (v := .pointer (some ⟨g, 0, none⟩)) rfl (by kernel_rfl) (by kernel_rfl) (by kernel_rfl) (by kernel_rfl) (fun _ _ _ h => h) (Or.inl ⟨by rfl, fun w hS => by first | (go_simp; done) | (go_simp; with_reducible rfl)⟩) hHeld ?_
  try simp only [Act.put, List.getElem_toArray, List.getElem_cons_zero, List.setIfInBounds_toArray, List.set_cons_zero, List.set_cons_succ]
  refine wpAnyK_take (i := 1) (v := .pointer (some ⟨g, 0, none⟩)) rfl (by kernel_rfl) (by kernel_rfl) (by kernel_rfl) (by kernel_rfl) (fun _ _ _ h => h) (Or.inl ⟨by rfl, fun w hS => by first | (go_simp; done) | (go_simp; with_reducible rfl)⟩) hHeld ?_
  try simp only [Act.put, List.getElem_toArray, List.getElem_cons_zero, List.getElem_cons_succ, List.setIfInBounds_toArray, List.set_cons_zero, List.set_cons_succ]
  refine wpAnyK_take (i := 2) (v := .pointer (some ⟨g, 0, none⟩)) rfl (by kernel_rfl) (by kernel_rfl) (by kernel_rfl) (by kernel_rfl) (fun _ _ _ h => h) (Or.inl ⟨by rfl, fun w hS => by (have c := hS.b; first | (go_simp; done) | (go_simp; with_reducible rfl))⟩) hHeld ?_
  try simp only [Act.put, List.getElem_toArray, List.getElem_cons_zero, List.getElem_cons_succ, List.setIfInBounds_toArray, List.set_cons_zero, List.set_cons_succ]
  refine wpAnyK_take (i := 3) (v := .pointer (some ⟨g, 109, none⟩)) rfl (by kernel_rfl) (by kernel_rfl) (by kernel_rfl) (by kernel_rfl) (fun _ _ _ h => h) (Or.inl ⟨by rfl, fun w hS => by first | (go_simp; done) | (go_simp; with_reducible rfl)⟩) hHeld ?_
  try simp only [Act.put, List.getElem_toArray, List.getElem_cons_zero, List.getElem_cons_succ, List.setIfInBounds_toArray, List.set_cons_zero, List.set_cons_succ]
  refine wpAnyK_take (i := 4) (v := .slice none 0 0) rfl (by kernel_rfl) (by kernel_rfl) (by kernel_rfl) (by kernel_rfl) (fun _ _ _ h => h) (Or.inl ⟨by rfl, fun w hS => by (have c := hS.b; first | (go_simp; done) | (go_simp; with_reducible rfl))⟩) hHeld ?_
  try simp only [Act.put, List.getElem_toArray, List.getElem_cons_zero, List.getElem_cons_succ, List.setIfInBounds_toArray, List.set_cons_zero, List.set_cons_succ]
  refine wpAnyK_take (i := 5) (v := .pointer (some ⟨g, 0, none⟩)) rfl (by kernel_rfl) (by kernel_rfl) (by kernel_rfl) (by kernel_rfl) (fun _ _ _ h => h) (Or.inl ⟨by rfl, fun w hS => by first | (go_simp; done) | (go_simp; with_reducible rfl)⟩) hHeld ?_
  try simp only [Act.put, List.getElem_toArray, List.getElem_cons_zero, List.getElem_cons_succ, List.setIfInBounds_toArray, List.set_cons_zero, List.set_cons_succ]
  refine wpAnyK_take (i := 6) (v := .pointer (some ⟨g, 0, none⟩)) rfl (by kernel_rfl) (by kernel_rfl) (by kernel_rfl) (by kernel_rfl) (fun _ _ _ h => h) (Or.inl ⟨by rfl, fun w hS => by (have c := hS.b; first | (go_simp; done) | (go_simp; with_reducible rfl))⟩) hHeld ?_
  try simp only [Act.put, List.getElem_toArray, List.getElem_cons_zero, List.getElem_cons_succ, List.setIfInBounds_toArray, List.set_cons_zero, List.set_cons_succ]
  refine wpAnyK_take (i := 7) (v := .pointer (some ⟨g, 0, none⟩)) rfl (by kernel_rfl) (by kernel_rfl) (by kernel_rfl) (by kernel_rfl) (fun _ _ _ h => h) (Or.inl ⟨by rfl, fun w hS => by first | (go_simp; done) | (go_simp; with_reducible rfl)⟩) hHeld ?_
  try simp only [Act.put, List.getElem_toArray, List.getElem_cons_zero, List.getElem_cons_succ, List.setIfInBounds_toArray, List.set_cons_zero, List.set_cons_succ]
  refine wpAnyK_take (i := 8) (v := .pointer (some ⟨g, 0, none⟩)) rfl (by kernel_rfl) (by kernel_rfl) (by kernel_rfl) (by kernel_rfl) (fun _ _ _ h => h) (Or.inl ⟨by rfl, fun w hS => by first | (go_simp; done) | (go_simp; with_reducible rfl)⟩) hHeld ?_
  try simp only [Act.put, List.getElem_toArray, List.getElem_cons_zero, List.getElem_cons_succ, List.setIfInBounds_toArray, List.set_cons_zero, List.set_cons_succ]
  refine wpAnyK_take (i := 9) (v := .int .i64 1) rfl (by kernel_rfl) (by kernel_rfl) (by kernel_rfl) (by kernel_rfl) (fun _ _ _ h => h) (Or.inl ⟨by rfl, fun w hS => by (have c := HX0.out _ _ hS; first | (go_simp; done) | (go_simp; with_reducible rfl))⟩) hHeld ?_
  try simp only [Act.put, List.getElem_toArray, List.getElem_cons_zero, List.getElem_cons_succ, List.setIfInBounds_toArray, List.set_cons_zero, List.set_cons_succ]
  refine wpAnyK_take (i := 10) (v := .int .u8 1) rfl (by kernel_rfl) (by kernel_rfl) (by kernel_rfl) (by kernel_rfl) (fun _ _ _ h => h) (Or.inl ⟨by rfl, fun w hS => by (first | (go_simp; done) | (go_simp; with_reducible rfl) | (go_simp; rfl))⟩) hHeld ?_
  try simp only [Act.put, List.getElem_toArray, List.getElem_cons_zero, List.getElem_cons_succ, List.setIfInBounds_toArray, List.set_cons_zero, List.set_cons_succ]
  refine wpAnyK_ready (rs := [11]) (by kernel_rfl) (by simp) ?_
  refine AllReadyK.cons rfl (fun K hK => ?_) AllReadyK.nil
  go_simp
  refine hK.out _ _ ?_ (fun hHeld => ?_)
  · exact HW1.out.alloc _
  clear hK K
  try simp only [Act.put, List.getElem_toArray, List.getElem_cons_zero, List.getElem_cons_succ, List.setIfInBounds_toArray, List.set_cons_zero, List.set_cons_succ]
  have HW2 : Hid (WrS (w1.alloc (.cells #[.int .u8 1] 5)) g X (.slice none 0 0)) := Lib.hid (HW1.out.alloc _)
  have HO2 : Hid (Own5 (w1.alloc (.cells #[.int .u8 1] 5)) M (.slice none 0 0) []) := Lib.hid (Own5.nil _ _)
  have HB2 := Lib.hid (one_bts w1 1 1 rfl)
  refine wpAnyK_ready (rs := [12]) (by kernel_rfl) (by simp) ?_
  refine AllReadyK.cons rfl (fun K hK => ?_) AllReadyK.nil
  (refine En.step5 (.tmp 15) (.tmp 22) rfl rfl (N := M) (l := []) (m := [1]) rfl HO2.out (B := w1.heap.size + 1) (c := 1) rfl HB2.out (by simp) (by simp; omega) ?_; intro v6 w6 h6 g6; obtain ⟨A6, c6, rfl, _, _⟩ := own_slice h6)
  refine hK.out _ _ ?_ (fun hHeld => ?_)
  · exact HW2.out.own HO2.out g6
  clear hK K
  try simp only [Act.put, List.getElem_toArray, List.getElem_cons_zero, List.getElem_cons_succ, List.setIfInBounds_toArray, List.set_cons_zero, List.set_cons_succ]
  have HF6 : Hid (Fr g M W w6) := Lib.hid (Fr.app (HF1.out.alloc _) HO2.out g6)
  have HW6 : Hid (WrS w6 g X (.slice none 0 0)) := Lib.hid (HW2.out.own HO2.out g6)
  have HO6 : Hid (Own5 w6 M (.slice A6 1 c6) [1]) := Lib.hid h6
  clear h6 g6 HW2 HO2 HB2 HW1 HO1 HF1
  refine wpAnyK_take (i := 13) (v := .pointer (some ⟨g, 0, none⟩)) rfl (by kernel_rfl) (by kernel_rfl) (by kernel_rfl) (by kernel_rfl) (fun _ _ _ h => h) (Or.inl ⟨by rfl, fun w hS => by (have c := HW6.out.b; first | (go_simp; done) | (go_simp; with_reducible rfl))⟩) hHeld ?_
  try simp only [Act.put, List.getElem_toArray, List.getElem_cons_zero, List.getElem_cons_succ, List.setIfInBounds_toArray, List.set_cons_zero, List.set_cons_succ]
  refine wpAnyK_take (i := 14) (v := .pointer (some ⟨g, 109, none⟩)) rfl (by kernel_rfl) (by kernel_rfl) (by kernel_rfl) (by kernel_rfl) (fun _ _ _ h => h) (Or.inl ⟨by rfl, fun w hS => by first | (go_simp; done) | (go_simp; with_reducible rfl)⟩) hHeld ?_
  try simp only [Act.put, List.getElem_toArray, List.getElem_cons_zero, List.getElem_cons_succ, List.setIfInBounds_toArray, List.set_cons_zero, List.set_cons_succ]
  have cb := HW6.out.b
  have cf := HW6.out.froz
  refine wpAnyK_ready (rs := [15]) (by kernel_rfl) (by simp) ?_
  refine AllReadyK.late rfl (by kernel_rfl) (fun K hK => ?_) AllReadyK.nil
  go_simp
  refine hK.out _ _ ?_ (fun _ => ?_)
  · trivial
  clear hK K
  try simp only [Act.put, List.getElem_toArray, List.getElem_cons_zero, List.getElem_cons_succ, List.setIfInBounds_toArray, List.set_cons_zero, List.set_cons_succ]
  refine wpAnyK_done (by kernel_rfl) ?_ _
  have HFe : Hid (Fr g M W (w6.setCell ⟨g, 109, none⟩ (.slice A6 1 c6))) := Lib.hid (HF6.out.put 109 _)
  have HC := Lib.hid (HM.out _ (.slice A6 1 c6) (HW6.out.put _) (En.own_far HO6.out (fun g' hg' e => En.own_blk HO6.out HW6.out.blk (by decide) (by rw [hg', e])) _) HFe.out)
  clear cb cf HM HX0 HF6 HW6 HO6
  generalize w6.setCell ⟨g, 109, none⟩ (.slice A6 1 c6) = w7 at *
  have hmt : ∀ (w : World), (method 312 75 (.pointer (some ⟨g, 0, none⟩)) "scriptorium/record.message").run Tryz.prog w = .ok (103, .pointer (some ⟨g, 0, none⟩)) w := fun _ => by kernel_rfl
  go_wp2_with fail
  refine HC.out.mono ?_
  rintro e w8 ⟨hF8, ⟨rfl, rfl, vb8, h8, o8⟩ | ⟨rfl, rfl⟩⟩
  · have HF8 := Lib.hid (HFe.out.trans hF8)
    have H8 := Lib.hid h8
    have O8 := Lib.hid o8
    clear hF8 h8 o8 HC hmt
    go_wp2_with fail
    go_end0
    unfold WrP
    exact ⟨HF8.out, .inl ⟨rfl, rfl, vb8, H8.out, O8.out⟩⟩
  · have HF8 := Lib.hid (HFe.out.trans hF8)
    refine ⟨rfl, ?_⟩
    unfold WrP
    exact ⟨HF8.out, .inr ⟨rfl, rfl⟩⟩
set_option maxHeartbeats 3200000 in
theorem write_2 {W : World} {g M : Nat} {X : List Value} {ok : Bool} {er : Int} {out : L} (hW : WrS W g X (.slice none 0 0)) (h0 : X[0]? = some (.int .i64 2)) (hM : M ≤ W.heap.size)
    (hm : ∀ (w2 : World) (vb2 : Value), WrS w2 g X vb2 → Own5 w2 M vb2 [2] → Fr g M W w2 → Calls Tryz.prog 104 #[.pointer (some ⟨g, 0, none⟩)] w2 (WrP w2 g M X ok er ([2] ++ out))) :
    Calls Tryz.prog 23 #[.pointer (some ⟨g, 0, none⟩)] W (WrP W g M X ok er (2 :: out)) := by
  have HM := Lib.hid hm
  have HX0 : Hid (∀ w vb, WrS w g X vb → w.cell? ⟨g, 0, none⟩ = some (.int .i64 2)) := Lib.hid fun w vb h => h.rng 0 _ h0
  have ck := HX0.out _ _ hW
  have HW := Lib.hid hW
  clear hm hW h0
  go_enter Tryz.func23, Tryz.ntmps23
  go_wp2_with (first
    | (refine (of_2 _ _ _).mono ?_; rintro e w' ⟨rfl, rfl⟩)
    | fail)
  have HW1 : Hid (WrS W.drew g X (.slice none 0 0)) := Lib.hid ⟨HW.out.blk, HW.out.len⟩
  have HO1 : Hid (Own5 W.drew M (.slice none 0 0) []) := Lib.hid (Own5.nil _ _)
  have HF1 : Hid (Fr g M W W.drew) := Lib.hid (Fr.refl g M W).drew
  have hsz1 : M ≤ W.drew.heap.size := hM
  clear ck HW
  refine wp_region_key ((fun Y => WrS Y g X (.slice none 0 0))) 15 (by kernel_rfl) (HW1.out) (fun hHeld => ?_)
  generalize W.drew = w1 at *
  refine wpAnyK_take (i := 0) (v := .pointer (some ⟨g, 0, none⟩)) rfl (by kernel_rfl) (by kernel_rfl) (by kernel_rfl) (by kernel_rfl) (fun _ _ _ h => h) (Or.inl ⟨by rfl, fun w hS => by first | (go_simp; done) | (go_simp; with_reducible rfl)⟩) hHeld ?_
  try simp only [Act.put, List.getElem_toArray, List.getElem_cons_zero, List.setIfInBounds_toArray, List.set_cons_zero, List.set_cons_succ]
  refine wpAnyK_take (i := 1) (v := .pointer (some ⟨g, 0, none⟩)) rfl (by kernel_rfl) (by kernel_rfl) (by kernel_rfl) (by kernel_rfl) (fun _ _ _ h => h) (Or.inl ⟨by rfl, fun w hS => by first | (go_simp; done) | (go_simp; with_reducible rfl)⟩) hHeld ?_
  try simp only [Act.put, List.getElem_toArray, List.getElem_cons_zero, List.getElem_cons_succ, List.setIfInBounds_toArray, List.set_cons_zero, List.set_cons_succ]
  refine wpAnyK_take (i := 2) (v := .pointer (some ⟨g, 0, none⟩)) rfl (by kernel_rfl) (by kernel_rfl) (by kernel_rfl) (by kernel_rfl) (fun _ _ _ h => h) (Or.inl ⟨by rfl, fun w hS => by (have c := hS.b; first | (go_simp; done) | (go_simp; with_reducible rfl))⟩) hHeld ?_
  try simp only [Act.put, List.getElem_toArray, List.getElem_cons_zero, List.getElem_cons_succ, List.setIfInBounds_toArray, List.set_cons_zero, List.set_cons_succ]
  refine wpAnyK_take (i := 3) (v := .pointer (some ⟨g, 109, none⟩)) rfl (by kernel_rfl) (by kernel_rfl) (by kernel_rfl) (by kernel_rfl) (fun _ _ _ h => h) (Or.inl ⟨by rfl, fun w hS => by first | (go_simp; done) | (go_simp; with_reducible rfl)⟩) hHeld ?_
  try simp only [Act.put, List.getElem_toArray, List.getElem_cons_zero, List.getElem_cons_succ, List.setIfInBounds_toArray, List.set_cons_zero, List.set_cons_succ]
  refine wpAnyK_take (i := 4) (v := .slice none 0 0) rfl (by kernel_rfl) (by kernel_rfl) (by kernel_rfl) (by kernel_rfl) (fun _ _ _ h => h) (Or.inl ⟨by rfl, fun w hS => by (have c := hS.b; first | (go_simp; done) | (go_simp; with_reducible rfl))⟩) hHeld ?_
  try simp only [Act.put, List.getElem_toArray, List.getElem_cons_zero, List.getElem_cons_succ, List.setIfInBounds_toArray, List.set_cons_zero, List.set_cons_succ]
  refine wpAnyK_take (i := 5) (v := .pointer (some ⟨g, 0, none⟩)) rfl (by kernel_rfl) (by kernel_rfl) (by kernel_rfl) (by kernel_rfl) (fun _ _ _ h => h) (Or.inl ⟨by rfl, fun w hS => by first | (go_simp; done) | (go_simp; with_reducible rfl)⟩) hHeld ?_
  try simp only [Act.put, List.getElem_toArray, List.getElem_cons_zero, List.getElem_cons_succ, List.setIfInBounds_toArray, List.set_cons_zero, List.set_cons_succ]
  refine wpAnyK_take (i := 6) (v := .pointer (some ⟨g, 0, none⟩)) rfl (by kernel_rfl) (by kernel_rfl) (by kernel_rfl) (by kernel_rfl) (fun _ _ _ h => h) (Or.inl ⟨by rfl, fun w hS => by (have c := hS.b; first | (go_simp; done) | (go_simp; with_reducible rfl))⟩) hHeld ?_
  try simp only [Act.put, List.getElem_toArray, List.getElem_cons_zero, List.getElem_cons_succ, List.setIfInBounds_toArray, List.set_cons_zero, List.set_cons_succ]
  refine wpAnyK_take (i := 7) (v := .pointer (some ⟨g, 0, none⟩)) rfl (by kernel_rfl) (by kernel_rfl) (by kernel_rfl) (by kernel_rfl) (fun _ _ _ h => h) (Or.inl ⟨by rfl, fun w hS => by first | (go_simp; done) | (go_simp; with_reducible rfl)⟩) hHeld ?_
  try simp only [Act.put, List.getElem_toArray, List.getElem_cons_zero, List.getElem_cons_succ, List.setIfInBounds_toArray, List.set_cons_zero, List.set_cons_succ]
  refine wpAnyK_take (i := 8) (v := .pointer (some ⟨g, 0, none⟩)) rfl (by kernel_rfl) (by kernel_rfl) (by kernel_rfl) (by kernel_rfl) (fun _ _ _ h => h) (Or.inl ⟨by rfl, fun w hS => by first | (go_simp; done) | (go_simp; with_reducible rfl)⟩) hHeld ?_
  try simp only [Act.put, List.getElem_toArray, List.getElem_cons_zero, List.getElem_cons_succ, List.setIfInBounds_toArray, List.set_cons_zero, List.set_cons_succ]
  refine wpAnyK_take (i := 9) (v := .int .i64 2) rfl (by kernel_rfl) (by kernel_rfl) (by kernel_rfl) (by kernel_rfl) (fun _ _ _ h => h) (Or.inl ⟨by rfl, fun w hS => by (have c := HX0.out _ _ hS; first | (go_simp; done) | (go_simp; with_reducible rfl))⟩) hHeld ?_
  try simp only [Act.put, List.getElem_toArray, List.getElem_cons_zero, List.getElem_cons_succ, List.setIfInBounds_toArray, List.set_cons_zero, List.set_cons_succ]
  refine wpAnyK_take (i := 10) (v := .int .u8 2) rfl (by kernel_rfl) (by kernel_rfl) (by kernel_rfl) (by kernel_rfl) (fun _ _ _ h => h) (Or.inl ⟨by rfl, fun w hS => by (first | (go_simp; done) | (go_simp; with_reducible rfl) | (go_simp; rfl))⟩) hHeld ?_
  try simp only [Act.put, List.getElem_toArray, List.getElem_cons_zero, List.getElem_cons_succ, List.setIfInBounds_toArray, List.set_cons_zero, List.set_cons_succ]
  refine wpAnyK_ready (rs := [11]) (by kernel_rfl) (by simp) ?_
  refine AllReadyK.cons rfl (fun K hK => ?_) AllReadyK.nil
  go_simp
  refine hK.out _ _ ?_ (fun hHeld => ?_)
  · exact HW1.out.alloc _
  clear hK K
  try simp only [Act.put, List.getElem_toArray, List.getElem_cons_zero, List.getElem_cons_succ, List.setIfInBounds_toArray, List.set_cons_zero, List.set_cons_succ]
  have HW2 : Hid (WrS (w1.alloc (.cells #[.int .u8 2] 5)) g X (.slice none 0 0)) := Lib.hid (HW1.out.alloc _)
  have HO2 : Hid (Own5 (w1.alloc (.cells #[.int .u8 2] 5)) M (.slice none 0 0) []) := Lib.hid (Own5.nil _ _)
  have HB2 := Lib.hid (one_bts w1 2 2 rfl)
  refine wpAnyK_ready (rs := [12]) (by kernel_rfl) (by simp) ?_
  refine AllReadyK.cons rfl (fun K hK => ?_) AllReadyK.nil
  (refine En.step5 (.tmp 15) (.tmp 22) rfl rfl (N := M) (l := []) (m := [2]) rfl HO2.out (B := w1.heap.size + 1) (c := 1) rfl HB2.out (by simp) (by simp; omega) ?_; intro v6 w6 h6 g6; obtain ⟨A6, c6, rfl, _, _⟩ := own_slice h6)
  refine hK.out _ _ ?_ (fun hHeld => ?_)
  · exact HW2.out.own HO2.out g6
  clear hK K
  try simp only [Act.put, List.getElem_toArray, List.getElem_cons_zero, List.getElem_cons_succ, List.setIfInBounds_toArray, List.set_cons_zero, List.set_cons_succ]
  have HF6 : Hid (Fr g M W w6) := Lib.hid (Fr.app (HF1.out.alloc _) HO2.out g6)
  have HW6 : Hid (WrS w6 g X (.slice none 0 0)) := Lib.hid (HW2.out.own HO2.out g6)
  have HO6 : Hid (Own5 w6 M (.slice A6 1 c6) [2]) := Lib.hid h6
  clear h6 g6 HW2 HO2 HB2 HW1 HO1 HF1
  refine wpAnyK_take (i := 13) (v := .pointer (some ⟨g, 0, none⟩)) rfl (by kernel_rfl) (by kernel_rfl) (by kernel_rfl) (by kernel_rfl) (fun _ _ _ h => h) (Or.inl ⟨by rfl, fun w hS => by (have c := HW6.out.b; first | (go_simp; done) | (go_simp; with_reducible rfl))⟩) hHeld ?_
  try simp only [Act.put, List.getElem_toArray, List.getElem_cons_zero, List.getElem_cons_succ, List.setIfInBounds_toArray, List.set_cons_zero, List.set_cons_succ]
  refine wpAnyK_take (i := 14) (v := .pointer (some ⟨g, 109, none⟩)) rfl (by kernel_rfl) (by kernel_rfl) (by kernel_rfl) (by kernel_rfl) (fun _ _ _ h => h) (Or.inl ⟨by rfl, fun w hS => by first | (go_simp; done) | (go_simp; with_reducible rfl)⟩) hHeld ?_
  try simp only [Act.put, List.getElem_toArray, List.getElem_cons_zero, List.getElem_cons_succ, List.setIfInBounds_toArray, List.set_cons_zero, List.set_cons_succ]
  have cb := HW6.out.b
  have cf := HW6.out.froz
  refine wpAnyK_ready (rs := [15]) (by kernel_rfl) (by simp) ?_
  refine AllReadyK.late rfl (by kernel_rfl) (fun K hK => ?_) AllReadyK.nil
  go_simp
  refine hK.out _ _ ?_ (fun _ => ?_)
  · trivial
  clear hK K
  try simp only [Act.put, List.getElem_toArray, List.getElem_cons_zero, List.getElem_cons_succ, List.setIfInBounds_toArray, List.set_cons_zero, List.set_cons_succ]
  refine wpAnyK_done (by kernel_rfl) ?_ _
  have HFe : Hid (Fr g M W (w6.setCell ⟨g, 109, none⟩ (.slice A6 1 c6))) := Lib.hid (HF6.out.put 109 _)
  have HC := Lib.hid (HM.out _ (.slice A6 1 c6) (HW6.out.put _) (En.own_far HO6.out (fun g' hg' e => En.own_blk HO6.out HW6.out.blk (by decide) (by rw [hg', e])) _) HFe.out)
  clear cb cf HM HX0 HF6 HW6 HO6
  generalize w6.setCell ⟨g, 109, none⟩ (.slice A6 1 c6) = w7 at *
  have hmt : ∀ (w : World), (method 312 75 (.pointer (some ⟨g, 0, none⟩)) "scriptorium/record.purged").run Tryz.prog w = .ok (104, .pointer (some ⟨g, 0, none⟩)) w := fun _ => by kernel_rfl
  go_wp2_with fail
  refine HC.out.mono ?_
  rintro e w8 ⟨hF8, ⟨rfl, rfl, vb8, h8, o8⟩ | ⟨rfl, rfl⟩⟩
  · have HF8 := Lib.hid (HFe.out.trans hF8)
    have H8 := Lib.hid h8
    have O8 := Lib.hid o8
    clear hF8 h8 o8 HC hmt
    go_wp2_with fail
    go_end0
    unfold WrP
    exact ⟨HF8.out, .inl ⟨rfl, rfl, vb8, H8.out, O8.out⟩⟩
  · have HF8 := Lib.hid (HFe.out.trans hF8)
    refine ⟨rfl, ?_⟩
    unfold WrP
    exact ⟨HF8.out, .inr ⟨rfl, rfl⟩⟩
set_option maxHeartbeats 3200000 in
theorem write_3 {W : World} {g M : Nat} {X : List Value} {ok : Bool} {er : Int} {out : L} (hW : WrS W g X (.slice none 0 0)) (h0 : X[0]? = some (.int .i64 3)) (hM : M ≤ W.heap.size)
    (hm : ∀ (w2 : World) (vb2 : Value), WrS w2 g X vb2 → Own5 w2 M vb2 [3] → Fr g M W w2 → Calls Tryz.prog 105 #[.pointer (some ⟨g, 0, none⟩)] w2 (WrP w2 g M X ok er ([3] ++ out))) :
    Calls Tryz.prog 23 #[.pointer (some ⟨g, 0, none⟩)] W (WrP W g M X ok er (3 :: out)) := by
  have HM := Lib.hid hm
  have HX0 : Hid (∀ w vb, WrS w g X vb → w.cell? ⟨g, 0, none⟩ = some (.int .i64 3)) := Lib.hid fun w vb h => h.rng 0 _ h0
  have ck := HX0.out _ _ hW
  have HW := Lib.hid hW
  clear hm hW h0
  go_enter Tryz.func23, Tryz.ntmps23
  go_wp2_with (first
    | (refine (of_3 _ _ _).mono ?_; rintro e w' ⟨rfl, rfl⟩)
    | fail)
  have HW1 : Hid (WrS W.drew g X (.slice none 0 0)) := Lib.hid ⟨HW.out.blk, HW.out.len⟩
  have HO1 : Hid (Own5 W.drew M (.slice none 0 0) []) := Lib.hid (Own5.nil _ _)
  have HF1 : Hid (Fr g M W W.drew) := Lib.hid (Fr.refl g M W).drew
  have hsz1 : M ≤ W.drew.heap.size := hM
  clear ck HW
  refine wp_region_key ((fun Y => WrS Y g X (.slice none 0 0))) 15 (by kernel_rfl) (HW1.out) (fun hHeld => ?_)
  generalize W.drew = w1 at *
  refine wpAnyK_take (i := 0) (v := .pointer (some ⟨g, 0, none⟩)) rfl (by kernel_rfl) (by kernel_rfl) (by kernel_rfl) (by kernel_rfl) (fun _ _ _ h => h) (Or.inl ⟨by rfl, fun w hS => by first | (go_simp; done) | (go_simp; with_reducible rfl)⟩) hHeld ?_
  try simp only [Act.put, List.getElem_toArray, List.getElem_cons_zero, List.setIfInBounds_toArray, List.set_cons_zero, List.set_cons_succ]
  refine wpAnyK_take (i := 1) (v := .pointer (some ⟨g, 0, none⟩)) rfl (by kernel_rfl) (by kernel_rfl) (by kernel_rfl) (by kernel_rfl) (fun _ _ _ h => h) (Or.inl ⟨by rfl, fun w hS => by first | (go_simp; done) | (go_simp; with_reducible rfl)⟩) hHeld ?_
  try simp only [Act.put, List.getElem_toArray, List.getElem_cons_zero, List.getElem_cons_succ, List.setIfInBounds_toArray, List.set_cons_zero, List.set_cons_succ]
  refine wpAnyK_take (i := 2) (v := .pointer (some ⟨g, 0, none⟩)) rfl (by kernel_rfl) (by kernel_rfl) (by kernel_rfl) (by kernel_rfl) (fun _ _ _ h => h) (Or.inl ⟨by rfl, fun w hS => by (have c := hS.b; first | (go_simp; done) | (go_simp; with_reducible rfl))⟩) hHeld ?_
  try simp only [Act.put, List.getElem_toArray, List.getElem_cons_zero, List.getElem_cons_succ, List.setIfInBounds_toArray, List.set_cons_zero, List.set_cons_succ]
  refine wpAnyK_take (i := 3) (v := .pointer (some ⟨g, 109, none⟩)) rfl (by kernel_rfl) (by kernel_rfl) (by kernel_rfl) (by kernel_rfl) (fun _ _ _ h => h) (Or.inl ⟨by rfl, fun w hS => by first | (go_simp; done) | (go_simp; with_reducible rfl)⟩) hHeld ?_
  try simp only [Act.put, List.getElem_toArray, List.getElem_cons_zero, List.getElem_cons_succ, List.setIfInBounds_toArray, List.set_cons_zero, List.set_cons_succ]
  refine wpAnyK_take (i := 4) (v := .slice none 0 0) rfl (by kernel_rfl) (by kernel_rfl) (by kernel_rfl) (by kernel_rfl) (fun _ _ _ h => h) (Or.inl ⟨by rfl, fun w hS => by (have c := hS.b; first | (go_simp; done) | (go_simp; with_reducible rfl))⟩) hHeld ?_
  try simp only [Act.put, List.getElem_toArray, List.getElem_cons_zero, List.getElem_cons_succ, List.setIfInBounds_toArray, List.set_cons_zero, List.set_cons_succ]
  refine wpAnyK_take (i := 5) (v := .pointer (some ⟨g, 0, none⟩)) rfl (by kernel_rfl) (by kernel_rfl) (by kernel_rfl) (by kernel_rfl) (fun _ _ _ h => h) (Or.inl ⟨by rfl, fun w hS => by first | (go_simp; done) | (go_simp; with_reducible rfl)⟩) hHeld ?_
  try simp only [Act.put, List.getElem_toArray, List.getElem_cons_zero, List.getElem_cons_succ, List.setIfInBounds_toArray, List.set_cons_zero, List.set_cons_succ]
  refine wpAnyK_take (i := 6) (v := .pointer (some ⟨g, 0, none⟩)) rfl (by kernel_rfl) (by kernel_rfl) (by kernel_rfl) (by kernel_rfl) (fun _ _ _ h => h) (Or.inl ⟨by rfl, fun w hS => by (have c := hS.b; first | (go_simp; done) | (go_simp; with_reducible rfl))⟩) hHeld ?_
  try simp only [Act.put, List.getElem_toArray, List.getElem_cons_zero, List.getElem_cons_succ, List.setIfInBounds_toArray, List.set_cons_zero, List.set_cons_succ]
  refine wpAnyK_take (i := 7) (v := .pointer (some ⟨g, 0, none⟩)) rfl (by kernel_rfl) (by kernel_rfl) (by kernel_rfl) (by kernel_rfl) (fun _ _ _ h => h) (Or.inl ⟨by rfl, fun w hS => by first | (go_simp; done) | (go_simp; with_reducible rfl)⟩) hHeld ?_
  try simp only [Act.put, List.getElem_toArray, List.getElem_cons_zero, List.getElem_cons_succ, List.setIfInBounds_toArray, List.set_cons_zero, List.set_cons_succ]
  refine wpAnyK_take (i := 8) (v := .pointer (some ⟨g, 0, none⟩)) rfl (by kernel_rfl) (by kernel_rfl) (by kernel_rfl) (by kernel_rfl) (fun _ _ _ h => h) (Or.inl ⟨by rfl, fun w hS => by first | (go_simp; done) | (go_simp; with_reducible rfl)⟩) hHeld ?_
  try simp only [Act.put, List.getElem_toArray, List.getElem_cons_zero, List.getElem_cons_succ, List.setIfInBounds_toArray, List.set_cons_zero, List.set_cons_succ]
  refine wpAnyK_take (i := 9) (v := .int .i64 3) rfl (by kernel_rfl) (by kernel_rfl) (by kernel_rfl) (by kernel_rfl) (fun _ _ _ h => h) (Or.inl ⟨by rfl, fun w hS => by (have c := HX0.out _ _ hS; first | (go_simp; done) | (go_simp; with_reducible rfl))⟩) hHeld ?_
  try simp only [Act.put, List.getElem_toArray, List.getElem_cons_zero, List.getElem_cons_succ, List.setIfInBounds_toArray, List.set_cons_zero, List.set_cons_succ]
  refine wpAnyK_take (i := 10) (v := .int .u8 3) rfl (by kernel_rfl) (by kernel_rfl) (by kernel_rfl) (by kernel_rfl) (fun _ _ _ h => h) (Or.inl ⟨by rfl, fun w hS => by (first | (go_simp; done) | (go_simp; with_reducible rfl) | (go_simp; rfl))⟩) hHeld ?_
  try simp only [Act.put, List.getElem_toArray, List.getElem_cons_zero, List.getElem_cons_succ, List.setIfInBounds_toArray, List.set_cons_zero, List.set_cons_succ]
  refine wpAnyK_ready (rs := [11]) (by kernel_rfl) (by simp) ?_
  refine AllReadyK.cons rfl (fun K hK => ?_) AllReadyK.nil
  go_simp
  refine hK.out _ _ ?_ (fun hHeld => ?_)
  · exact HW1.out.alloc _
  clear hK K
  try simp only [Act.put, List.getElem_toArray, List.getElem_cons_zero, List.getElem_cons_succ, List.setIfInBounds_toArray, List.set_cons_zero, List.set_cons_succ]
  have HW2 : Hid (WrS (w1.alloc (.cells #[.int .u8 3] 5)) g X (.slice none 0 0)) := Lib.hid (HW1.out.alloc _)
  have HO2 : Hid (Own5 (w1.alloc (.cells #[.int .u8 3] 5)) M (.slice none 0 0) []) := Lib.hid (Own5.nil _ _)
  have HB2 := Lib.hid (one_bts w1 3 3 rfl)
  refine wpAnyK_ready (rs := [12]) (by kernel_rfl) (by simp) ?_
  refine AllReadyK.cons rfl (fun K hK => ?_) AllReadyK.nil
  (refine En.step5 (.tmp 15) (.tmp 22) rfl rfl (N := M) (l := []) (m := [3]) rfl HO2.out (B := w1.heap.size + 1) (c := 1) rfl HB2.out (by simp) (by simp; omega) ?_; intro v6 w6 h6 g6; obtain ⟨A6, c6, rfl, _, _⟩ := own_slice h6)
  refine hK.out _ _ ?_ (fun hHeld => ?_)
  · exact HW2.out.own HO2.out g6
  clear hK K
  try simp only [Act.put, List.getElem_toArray, List.getElem_cons_zero, List.getElem_cons_succ, List.setIfInBounds_toArray, List.set_cons_zero, List.set_cons_succ]
  have HF6 : Hid (Fr g M W w6) := Lib.hid (Fr.app (HF1.out.alloc _) HO2.out g6)
  have HW6 : Hid (WrS w6 g X (.slice none 0 0)) := Lib.hid (HW2.out.own HO2.out g6)
  have HO6 : Hid (Own5 w6 M (.slice A6 1 c6) [3]) := Lib.hid h6
  clear h6 g6 HW2 HO2 HB2 HW1 HO1 HF1
  refine wpAnyK_take (i := 13) (v := .pointer (some ⟨g, 0, none⟩)) rfl (by kernel_rfl) (by kernel_rfl) (by kernel_rfl) (by kernel_rfl) (fun _ _ _ h => h) (Or.inl ⟨by rfl, fun w hS => by (have c := HW6.out.b; first | (go_simp; done) | (go_simp; with_reducible rfl))⟩) hHeld ?_
  try simp only [Act.put, List.getElem_toArray, List.getElem_cons_zero, List.getElem_cons_succ, List.setIfInBounds_toArray, List.set_cons_zero, List.set_cons_succ]
  refine wpAnyK_take (i := 14) (v := .pointer (some ⟨g, 109, none⟩)) rfl (by kernel_rfl) (by kernel_rfl) (by kernel_rfl) (by kernel_rfl) (fun _ _ _ h => h) (Or.inl ⟨by rfl, fun w hS => by first | (go_simp; done) | (go_simp; with_reducible rfl)⟩) hHeld ?_
  try simp only [Act.put, List.getElem_toArray, List.getElem_cons_zero, List.getElem_cons_succ, List.setIfInBounds_toArray, List.set_cons_zero, List.set_cons_succ]
  have cb := HW6.out.b
  have cf := HW6.out.froz
  refine wpAnyK_ready (rs := [15]) (by kernel_rfl) (by simp) ?_
  refine AllReadyK.late rfl (by kernel_rfl) (fun K hK => ?_) AllReadyK.nil
  go_simp
  refine hK.out _ _ ?_ (fun _ => ?_)
  · trivial
  clear hK K
  try simp only [Act.put, List.getElem_toArray, List.getElem_cons_zero, List.getElem_cons_succ, List.setIfInBounds_toArray, List.set_cons_zero, List.set_cons_succ]
  refine wpAnyK_done (by kernel_rfl) ?_ _
  have HFe : Hid (Fr g M W (w6.setCell ⟨g, 109, none⟩ (.slice A6 1 c6))) := Lib.hid (HF6.out.put 109 _)
  have HC := Lib.hid (HM.out _ (.slice A6 1 c6) (HW6.out.put _) (En.own_far HO6.out (fun g' hg' e => En.own_blk HO6.out HW6.out.blk (by decide) (by rw [hg', e])) _) HFe.out)
  clear cb cf HM HX0 HF6 HW6 HO6
  generalize w6.setCell ⟨g, 109, none⟩ (.slice A6 1 c6) = w7 at *
  have hmt : ∀ (w : World), (method 312 75 (.pointer (some ⟨g, 0, none⟩)) "scriptorium/record.seal").run Tryz.prog w = .ok (105, .pointer (some ⟨g, 0, none⟩)) w := fun _ => by kernel_rfl
  go_wp2_with fail
  refine HC.out.mono ?_
  rintro e w8 ⟨hF8, ⟨rfl, rfl, vb8, h8, o8⟩ | ⟨rfl, rfl⟩⟩
  · have HF8 := Lib.hid (HFe.out.trans hF8)
    have H8 := Lib.hid h8
    have O8 := Lib.hid o8
    clear hF8 h8 o8 HC hmt
    go_wp2_with fail
    go_end0
    unfold WrP
    exact ⟨HF8.out, .inl ⟨rfl, rfl, vb8, H8.out, O8.out⟩⟩
  · have HF8 := Lib.hid (HFe.out.trans hF8)
    refine ⟨rfl, ?_⟩
    unfold WrP
    exact ⟨HF8.out, .inr ⟨rfl, rfl⟩⟩
set_option maxHeartbeats 3200000 in
theorem write_4 {W : World} {g M : Nat} {X : List Value} {ok : Bool} {er : Int} {out : L} (hW : WrS W g X (.slice none 0 0)) (h0 : X[0]? = some (.int .i64 4)) (hM : M ≤ W.heap.size)
    (hm : ∀ (w2 : World) (vb2 : Value), WrS w2 g X vb2 → Own5 w2 M vb2 [4] → Fr g M W w2 → Calls Tryz.prog 101 #[.pointer (some ⟨g, 0, none⟩)] w2 (WrP w2 g M X ok er ([4] ++ out))) :
    Calls Tryz.prog 23 #[.pointer (some ⟨g, 0, none⟩)] W (WrP W g M X ok er (4 :: out)) := by
  have HM := Lib.hid hm
  have HX0 : Hid (∀ w vb, WrS w g X vb → w.cell? ⟨g, 0, none⟩ = some (.int .i64 4)) := Lib.hid fun w vb h => h.rng 0 _ h0
  have ck := HX0.out _ _ hW
  have HW := Lib.hid hW
  clear hm hW h0
  go_enter Tryz.func23, Tryz.ntmps23
  go_wp2_with (first
    | (refine (of_4 _ _ _).mono ?_; rintro e w' ⟨rfl, rfl⟩)
    | fail)
  have HW1 : Hid (WrS W.drew g X (.slice none 0 0)) := Lib.hid ⟨HW.out.blk, HW.out.len⟩
  have HO1 : Hid (Own5 W.drew M (.slice none 0 0) []) := Lib.hid (Own5.nil _ _)
  have HF1 : Hid (Fr g M W W.drew) := Lib.hid (Fr.refl g M W).drew
  have hsz1 : M ≤ W.drew.heap.size := hM
  clear ck HW
  refine wp_region_key ((fun Y => WrS Y g X (.slice none 0 0))) 15 (by kernel_rfl) (HW1.out) (fun hHeld => ?_)
  generalize W.drew = w1 at *
  refine wpAnyK_take (i := 0) (v := .pointer (some ⟨g, 0, none⟩)) rfl (by kernel_rfl) (by kernel_rfl) (by kernel_rfl) (by kernel_rfl) (fun _ _ _ h => h) (Or.inl ⟨by rfl, fun w hS => by first | (go_simp; done) | (go_simp; with_reducible rfl)⟩) hHeld ?_
  try simp only [Act.put, List.getElem_toArray, List.getElem_cons_zero, List.setIfInBounds_toArray, List.set_cons_zero, List.set_cons_succ]
  refine wpAnyK_take (i := 1) (v := .pointer (some ⟨g, 0, none⟩)) rfl (by kernel_rfl) (by kernel_rfl) (by kernel_rfl) (by kernel_rfl) (fun _ _ _ h => h) (Or.inl ⟨by rfl, fun w hS => by first | (go_simp; done) | (go_simp; with_reducible rfl)⟩) hHeld ?_
  try simp only [Act.put, List.getElem_toArray, List.getElem_cons_zero, List.getElem_cons_succ, List.setIfInBounds_toArray, List.set_cons_zero, List.set_cons_succ]
  refine wpAnyK_take (i := 2) (v := .pointer (some ⟨g, 0, none⟩)) rfl (by kernel_rfl) (by kernel_rfl) (by kernel_rfl) (by kernel_rfl) (fun _ _ _ h => h) (Or.inl ⟨by rfl, fun w hS => by (have c := hS.b; first | (go_simp; done) | (go_simp; with_reducible rfl))⟩) hHeld ?_
  try simp only [Act.put, List.getElem_toArray, List.getElem_cons_zero, List.getElem_cons_succ, List.setIfInBounds_toArray, List.set_cons_zero, List.set_cons_succ]
  refine wpAnyK_take (i := 3) (v := .pointer (some ⟨g, 109, none⟩)) rfl (by kernel_rfl) (by kernel_rfl) (by kernel_rfl) (by kernel_rfl) (fun _ _ _ h => h) (Or.inl ⟨by rfl, fun w hS => by first | (go_simp; done) | (go_simp; with_reducible rfl)⟩) hHeld ?_
  try simp only [Act.put, List.getElem_toArray, List.getElem_cons_zero, List.getElem_cons_succ, List.setIfInBounds_toArray, List.set_cons_zero, List.set_cons_succ]
  refine wpAnyK_take (i := 4) (v := .slice none 0 0) rfl (by kernel_rfl) (by kernel_rfl) (by kernel_rfl) (by kernel_rfl) (fun _ _ _ h => h) (Or.inl ⟨by rfl, fun w hS => by (have c := hS.b; first | (go_simp; done) | (go_simp; with_reducible rfl))⟩) hHeld ?_
  try simp only [Act.put, List.getElem_toArray, List.getElem_cons_zero, List.getElem_cons_succ, List.setIfInBounds_toArray, List.set_cons_zero, List.set_cons_succ]
  refine wpAnyK_take (i := 5) (v := .pointer (some ⟨g, 0, none⟩)) rfl (by kernel_rfl) (by kernel_rfl) (by kernel_rfl) (by kernel_rfl) (fun _ _ _ h => h) (Or.inl ⟨by rfl, fun w hS => by first | (go_simp; done) | (go_simp; with_reducible rfl)⟩) hHeld ?_
  try simp only [Act.put, List.getElem_toArray, List.getElem_cons_zero, List.getElem_cons_succ, List.setIfInBounds_toArray, List.set_cons_zero, List.set_cons_succ]
  refine wpAnyK_take (i := 6) (v := .pointer (some ⟨g, 0, none⟩)) rfl (by kernel_rfl) (by kernel_rfl) (by kernel_rfl) (by kernel_rfl) (fun _ _ _ h => h) (Or.inl ⟨by rfl, fun w hS => by (have c := hS.b; first | (go_simp; done) | (go_simp; with_reducible rfl))⟩) hHeld ?_
  try simp only [Act.put, List.getElem_toArray, List.getElem_cons_zero, List.getElem_cons_succ, List.setIfInBounds_toArray, List.set_cons_zero, List.set_cons_succ]
  refine wpAnyK_take (i := 7) (v := .pointer (some ⟨g, 0, none⟩)) rfl (by kernel_rfl) (by kernel_rfl) (by kernel_rfl) (by kernel_rfl) (fun _ _ _ h => h) (Or.inl ⟨by rfl, fun w hS => by first | (go_simp; done) | (go_simp; with_reducible rfl)⟩) hHeld ?_
  try simp only [Act.put, List.getElem_toArray, List.getElem_cons_zero, List.getElem_cons_succ, List.setIfInBounds_toArray, List.set_cons_zero, List.set_cons_succ]
  refine wpAnyK_take (i := 8) (v := .pointer (some ⟨g, 0, none⟩)) rfl (by kernel_rfl) (by kernel_rfl) (by kernel_rfl) (by kernel_rfl) (fun _ _ _ h => h) (Or.inl ⟨by rfl, fun w hS => by first | (go_simp; done) | (go_simp; with_reducible rfl)⟩) hHeld ?_
  try simp only [Act.put, List.getElem_toArray, List.getElem_cons_zero, List.getElem_cons_succ, List.setIfInBounds_toArray, List.set_cons_zero, List.set_cons_succ]
  refine wpAnyK_take (i := 9) (v := .int .i64 4) rfl (by kernel_rfl) (by kernel_rfl) (by kernel_rfl) (by kernel_rfl) (fun _ _ _ h => h) (Or.inl ⟨by rfl, fun w hS => by (have c := HX0.out _ _ hS; first | (go_simp; done) | (go_simp; with_reducible rfl))⟩) hHeld ?_
  try simp only [Act.put, List.getElem_toArray, List.getElem_cons_zero, List.getElem_cons_succ, List.setIfInBounds_toArray, List.set_cons_zero, List.set_cons_succ]
  refine wpAnyK_take (i := 10) (v := .int .u8 4) rfl (by kernel_rfl) (by kernel_rfl) (by kernel_rfl) (by kernel_rfl) (fun _ _ _ h => h) (Or.inl ⟨by rfl, fun w hS => by (first | (go_simp; done) | (go_simp; with_reducible rfl) | (go_simp; rfl))⟩) hHeld ?_
  try simp only [Act.put, List.getElem_toArray, List.getElem_cons_zero, List.getElem_cons_succ, List.setIfInBounds_toArray, List.set_cons_zero, List.set_cons_succ]
  refine wpAnyK_ready (rs := [11]) (by kernel_rfl) (by simp) ?_
  refine AllReadyK.cons rfl (fun K hK => ?_) AllReadyK.nil
  go_simp
  refine hK.out _ _ ?_ (fun hHeld => ?_)
  · exact HW1.out.alloc _
  clear hK K
  try simp only [Act.put, List.getElem_toArray, List.getElem_cons_zero, List.getElem_cons_succ, List.setIfInBounds_toArray, List.set_cons_zero, List.set_cons_succ]
  have HW2 : Hid (WrS (w1.alloc (.cells #[.int .u8 4] 5)) g X (.slice none 0 0)) := Lib.hid (HW1.out.alloc _)
  have HO2 : Hid (Own5 (w1.alloc (.cells #[.int .u8 4] 5)) M (.slice none 0 0) []) := Lib.hid (Own5.nil _ _)
  have HB2 := Lib.hid (one_bts w1 4 4 rfl)
  refine wpAnyK_ready (rs := [12]) (by kernel_rfl) (by simp) ?_
  refine AllReadyK.cons rfl (fun K hK => ?_) AllReadyK.nil
  (refine En.step5 (.tmp 15) (.tmp 22) rfl rfl (N := M) (l := []) (m := [4]) rfl HO2.out (B := w1.heap.size + 1) (c := 1) rfl HB2.out (by simp) (by simp; omega) ?_; intro v6 w6 h6 g6; obtain ⟨A6, c6, rfl, _, _⟩ := own_slice h6)
  refine hK.out _ _ ?_ (fun hHeld => ?_)
  · exact HW2.out.own HO2.out g6
  clear hK K
  try simp only [Act.put, List.getElem_toArray, List.getElem_cons_zero, List.getElem_cons_succ, List.setIfInBounds_toArray, List.set_cons_zero, List.set_cons_succ]
  have HF6 : Hid (Fr g M W w6) := Lib.hid (Fr.app (HF1.out.alloc _) HO2.out g6)
  have HW6 : Hid (WrS w6 g X (.slice none 0 0)) := Lib.hid (HW2.out.own HO2.out g6)
  have HO6 : Hid (Own5 w6 M (.slice A6 1 c6) [4]) := Lib.hid h6
  clear h6 g6 HW2 HO2 HB2 HW1 HO1 HF1
  refine wpAnyK_take (i := 13) (v := .pointer (some ⟨g, 0, none⟩)) rfl (by kernel_rfl) (by kernel_rfl) (by kernel_rfl) (by kernel_rfl) (fun _ _ _ h => h) (Or.inl ⟨by rfl, fun w hS => by (have c := HW6.out.b; first | (go_simp; done) | (go_simp; with_reducible rfl))⟩) hHeld ?_
  try simp only [Act.put, List.getElem_toArray, List.getElem_cons_zero, List.getElem_cons_succ, List.setIfInBounds_toArray, List.set_cons_zero, List.set_cons_succ]
  refine wpAnyK_take (i := 14) (v := .pointer (some ⟨g, 109, none⟩)) rfl (by kernel_rfl) (by kernel_rfl) (by kernel_rfl) (by kernel_rfl) (fun _ _ _ h => h) (Or.inl ⟨by rfl, fun w hS => by first | (go_simp; done) | (go_simp; with_reducible rfl)⟩) hHeld ?_
  try simp only [Act.put, List.getElem_toArray, List.getElem_cons_zero, List.getElem_cons_succ, List.setIfInBounds_toArray, List.set_cons_zero, List.set_cons_succ]
  have cb := HW6.out.b
  have cf := HW6.out.froz
  refine wpAnyK_ready (rs := [15]) (by kernel_rfl) (by simp) ?_
  refine AllReadyK.late rfl (by kernel_rfl) (fun K hK => ?_) AllReadyK.nil
  go_simp
  refine hK.out _ _ ?_ (fun _ => ?_)
  · trivial
  clear hK K
  try simp only [Act.put, List.getElem_toArray, List.getElem_cons_zero, List.getElem_cons_succ, List.setIfInBounds_toArray, List.set_cons_zero, List.set_cons_succ]
  refine wpAnyK_done (by kernel_rfl) ?_ _
  have HFe : Hid (Fr g M W (w6.setCell ⟨g, 109, none⟩ (.slice A6 1 c6))) := Lib.hid (HF6.out.put 109 _)
  have HC := Lib.hid (HM.out _ (.slice A6 1 c6) (HW6.out.put _) (En.own_far HO6.out (fun g' hg' e => En.own_blk HO6.out HW6.out.blk (by decide) (by rw [hg', e])) _) HFe.out)
  clear cb cf HM HX0 HF6 HW6 HO6
  generalize w6.setCell ⟨g, 109, none⟩ (.slice A6 1 c6) = w7 at *
  have hmt : ∀ (w : World), (method 312 75 (.pointer (some ⟨g, 0, none⟩)) "scriptorium/record.hold").run Tryz.prog w = .ok (101, .pointer (some ⟨g, 0, none⟩)) w := fun _ => by kernel_rfl
  go_wp2_with fail
  refine HC.out.mono ?_
  rintro e w8 ⟨hF8, ⟨rfl, rfl, vb8, h8, o8⟩ | ⟨rfl, rfl⟩⟩
  · have HF8 := Lib.hid (HFe.out.trans hF8)
    have H8 := Lib.hid h8
    have O8 := Lib.hid o8
    clear hF8 h8 o8 HC hmt
    go_wp2_with fail
    go_end0
    unfold WrP
    exact ⟨HF8.out, .inl ⟨rfl, rfl, vb8, H8.out, O8.out⟩⟩
  · have HF8 := Lib.hid (HFe.out.trans hF8)
    refine ⟨rfl, ?_⟩
    unfold WrP
    exact ⟨HF8.out, .inr ⟨rfl, rfl⟩⟩
set_option maxHeartbeats 3200000 in
theorem write_5 {W : World} {g M : Nat} {X : List Value} {ok : Bool} {er : Int} {out : L} (hW : WrS W g X (.slice none 0 0)) (h0 : X[0]? = some (.int .i64 5)) (hM : M ≤ W.heap.size)
    (hm : ∀ (w2 : World) (vb2 : Value), WrS w2 g X vb2 → Own5 w2 M vb2 [5] → Fr g M W w2 → Calls Tryz.prog 102 #[.pointer (some ⟨g, 0, none⟩)] w2 (WrP w2 g M X ok er ([5] ++ out))) :
    Calls Tryz.prog 23 #[.pointer (some ⟨g, 0, none⟩)] W (WrP W g M X ok er (5 :: out)) := by
  have HM := Lib.hid hm
  have HX0 : Hid (∀ w vb, WrS w g X vb → w.cell? ⟨g, 0, none⟩ = some (.int .i64 5)) := Lib.hid fun w vb h => h.rng 0 _ h0
  have ck := HX0.out _ _ hW
  have HW := Lib.hid hW
  clear hm hW h0
  go_enter Tryz.func23, Tryz.ntmps23
  go_wp2_with (first
    | (refine (of_5 _ _ _).mono ?_; rintro e w' ⟨rfl, rfl⟩)
    | fail)
  have HW1 : Hid (WrS W.drew g X (.slice none 0 0)) := Lib.hid ⟨HW.out.blk, HW.out.len⟩
  have HO1 : Hid (Own5 W.drew M (.slice none 0 0) []) := Lib.hid (Own5.nil _ _)
  have HF1 : Hid (Fr g M W W.drew) := Lib.hid (Fr.refl g M W).drew
  have hsz1 : M ≤ W.drew.heap.size := hM
  clear ck HW
  refine wp_region_key ((fun Y => WrS Y g X (.slice none 0 0))) 15 (by kernel_rfl) (HW1.out) (fun hHeld => ?_)
  generalize W.drew = w1 at *
  refine wpAnyK_take (i := 0) (v := .pointer (some ⟨g, 0, none⟩)) rfl (by kernel_rfl) (by kernel_rfl) (by kernel_rfl) (by kernel_rfl) (fun _ _ _ h => h) (Or.inl ⟨by rfl, fun w hS => by first | (go_simp; done) | (go_simp; with_reducible rfl)⟩) hHeld ?_
  try simp only [Act.put, List.getElem_toArray, List.getElem_cons_zero, List.setIfInBounds_toArray, List.set_cons_zero, List.set_cons_succ]
  refine wpAnyK_take (i := 1) (v := .pointer (some ⟨g, 0, none⟩)) rfl (by kernel_rfl) (by kernel_rfl) (by kernel_rfl) (by kernel_rfl) (fun _ _ _ h => h) (Or.inl ⟨by rfl, fun w hS => by first | (go_simp; done) | (go_simp; with_reducible rfl)⟩) hHeld ?_
  try simp only [Act.put, List.getElem_toArray, List.getElem_cons_zero, List.getElem_cons_succ, List.setIfInBounds_toArray, List.set_cons_zero, List.set_cons_succ]
  refine wpAnyK_take (i := 2) (v := .pointer (some ⟨g, 0, none⟩)) rfl (by kernel_rfl) (by kernel_rfl) (by kernel_rfl) (by kernel_rfl) (fun _ _ _ h => h) (Or.inl ⟨by rfl, fun w hS => by (have c := hS.b; first | (go_simp; done) | (go_simp; with_reducible rfl))⟩) hHeld ?_
  try simp only [Act.put, List.getElem_toArray, List.getElem_cons_zero, List.getElem_cons_succ, List.setIfInBounds_toArray, List.set_cons_zero, List.set_cons_succ]
  refine wpAnyK_take (i := 3) (v := .pointer (some ⟨g, 109, none⟩)) rfl (by kernel_rfl) (by kernel_rfl) (by kernel_rfl) (by kernel_rfl) (fun _ _ _ h => h) (Or.inl ⟨by rfl, fun w hS => by first | (go_simp; done) | (go_simp; with_reducible rfl)⟩) hHeld ?_
  try simp only [Act.put, List.getElem_toArray, List.getElem_cons_zero, List.getElem_cons_succ, List.setIfInBounds_toArray, List.set_cons_zero, List.set_cons_succ]
  refine wpAnyK_take (i := 4) (v := .slice none 0 0) rfl (by kernel_rfl) (by kernel_rfl) (by kernel_rfl) (by kernel_rfl) (fun _ _ _ h => h) (Or.inl ⟨by rfl, fun w hS => by (have c := hS.b; first | (go_simp; done) | (go_simp; with_reducible rfl))⟩) hHeld ?_
  try simp only [Act.put, List.getElem_toArray, List.getElem_cons_zero, List.getElem_cons_succ, List.setIfInBounds_toArray, List.set_cons_zero, List.set_cons_succ]
  refine wpAnyK_take (i := 5) (v := .pointer (some ⟨g, 0, none⟩)) rfl (by kernel_rfl) (by kernel_rfl) (by kernel_rfl) (by kernel_rfl) (fun _ _ _ h => h) (Or.inl ⟨by rfl, fun w hS => by first | (go_simp; done) | (go_simp; with_reducible rfl)⟩) hHeld ?_
  try simp only [Act.put, List.getElem_toArray, List.getElem_cons_zero, List.getElem_cons_succ, List.setIfInBounds_toArray, List.set_cons_zero, List.set_cons_succ]
  refine wpAnyK_take (i := 6) (v := .pointer (some ⟨g, 0, none⟩)) rfl (by kernel_rfl) (by kernel_rfl) (by kernel_rfl) (by kernel_rfl) (fun _ _ _ h => h) (Or.inl ⟨by rfl, fun w hS => by (have c := hS.b; first | (go_simp; done) | (go_simp; with_reducible rfl))⟩) hHeld ?_
  try simp only [Act.put, List.getElem_toArray, List.getElem_cons_zero, List.getElem_cons_succ, List.setIfInBounds_toArray, List.set_cons_zero, List.set_cons_succ]
  refine wpAnyK_take (i := 7) (v := .pointer (some ⟨g, 0, none⟩)) rfl (by kernel_rfl) (by kernel_rfl) (by kernel_rfl) (by kernel_rfl) (fun _ _ _ h => h) (Or.inl ⟨by rfl, fun w hS => by first | (go_simp; done) | (go_simp; with_reducible rfl)⟩) hHeld ?_
  try simp only [Act.put, List.getElem_toArray, List.getElem_cons_zero, List.getElem_cons_succ, List.setIfInBounds_toArray, List.set_cons_zero, List.set_cons_succ]
  refine wpAnyK_take (i := 8) (v := .pointer (some ⟨g, 0, none⟩)) rfl (by kernel_rfl) (by kernel_rfl) (by kernel_rfl) (by kernel_rfl) (fun _ _ _ h => h) (Or.inl ⟨by rfl, fun w hS => by first | (go_simp; done) | (go_simp; with_reducible rfl)⟩) hHeld ?_
  try simp only [Act.put, List.getElem_toArray, List.getElem_cons_zero, List.getElem_cons_succ, List.setIfInBounds_toArray, List.set_cons_zero, List.set_cons_succ]
  refine wpAnyK_take (i := 9) (v := .int .i64 5) rfl (by kernel_rfl) (by kernel_rfl) (by kernel_rfl) (by kernel_rfl) (fun _ _ _ h => h) (Or.inl ⟨by rfl, fun w hS => by (have c := HX0.out _ _ hS; first | (go_simp; done) | (go_simp; with_reducible rfl))⟩) hHeld ?_
  try simp only [Act.put, List.getElem_toArray, List.getElem_cons_zero, List.getElem_cons_succ, List.setIfInBounds_toArray, List.set_cons_zero, List.set_cons_succ]
  refine wpAnyK_take (i := 10) (v := .int .u8 5) rfl (by kernel_rfl) (by kernel_rfl) (by kernel_rfl) (by kernel_rfl) (fun _ _ _ h => h) (Or.inl ⟨by rfl, fun w hS => by (first | (go_simp; done) | (go_simp; with_reducible rfl) | (go_simp; rfl))⟩) hHeld ?_
  try simp only [Act.put, List.getElem_toArray, List.getElem_cons_zero, List.getElem_cons_succ, List.setIfInBounds_toArray, List.set_cons_zero, List.set_cons_succ]
  refine wpAnyK_ready (rs := [11]) (by kernel_rfl) (by simp) ?_
  refine AllReadyK.cons rfl (fun K hK => ?_) AllReadyK.nil
  go_simp
  refine hK.out _ _ ?_ (fun hHeld => ?_)
  · exact HW1.out.alloc _
  clear hK K
  try simp only [Act.put, List.getElem_toArray, List.getElem_cons_zero, List.getElem_cons_succ, List.setIfInBounds_toArray, List.set_cons_zero, List.set_cons_succ]
  have HW2 : Hid (WrS (w1.alloc (.cells #[.int .u8 5] 5)) g X (.slice none 0 0)) := Lib.hid (HW1.out.alloc _)
  have HO2 : Hid (Own5 (w1.alloc (.cells #[.int .u8 5] 5)) M (.slice none 0 0) []) := Lib.hid (Own5.nil _ _)
  have HB2 := Lib.hid (one_bts w1 5 5 rfl)
  refine wpAnyK_ready (rs := [12]) (by kernel_rfl) (by simp) ?_
  refine AllReadyK.cons rfl (fun K hK => ?_) AllReadyK.nil
  (refine En.step5 (.tmp 15) (.tmp 22) rfl rfl (N := M) (l := []) (m := [5]) rfl HO2.out (B := w1.heap.size + 1) (c := 1) rfl HB2.out (by simp) (by simp; omega) ?_; intro v6 w6 h6 g6; obtain ⟨A6, c6, rfl, _, _⟩ := own_slice h6)
  refine hK.out _ _ ?_ (fun hHeld => ?_)
  · exact HW2.out.own HO2.out g6
  clear hK K
  try simp only [Act.put, List.getElem_toArray, List.getElem_cons_zero, List.getElem_cons_succ, List.setIfInBounds_toArray, List.set_cons_zero, List.set_cons_succ]
  have HF6 : Hid (Fr g M W w6) := Lib.hid (Fr.app (HF1.out.alloc _) HO2.out g6)
  have HW6 : Hid (WrS w6 g X (.slice none 0 0)) := Lib.hid (HW2.out.own HO2.out g6)
  have HO6 : Hid (Own5 w6 M (.slice A6 1 c6) [5]) := Lib.hid h6
  clear h6 g6 HW2 HO2 HB2 HW1 HO1 HF1
  refine wpAnyK_take (i := 13) (v := .pointer (some ⟨g, 0, none⟩)) rfl (by kernel_rfl) (by kernel_rfl) (by kernel_rfl) (by kernel_rfl) (fun _ _ _ h => h) (Or.inl ⟨by rfl, fun w hS => by (have c := HW6.out.b; first | (go_simp; done) | (go_simp; with_reducible rfl))⟩) hHeld ?_
  try simp only [Act.put, List.getElem_toArray, List.getElem_cons_zero, List.getElem_cons_succ, List.setIfInBounds_toArray, List.set_cons_zero, List.set_cons_succ]
  refine wpAnyK_take (i := 14) (v := .pointer (some ⟨g, 109, none⟩)) rfl (by kernel_rfl) (by kernel_rfl) (by kernel_rfl) (by kernel_rfl) (fun _ _ _ h => h) (Or.inl ⟨by rfl, fun w hS => by first | (go_simp; done) | (go_simp; with_reducible rfl)⟩) hHeld ?_
  try simp only [Act.put, List.getElem_toArray, List.getElem_cons_zero, List.getElem_cons_succ, List.setIfInBounds_toArray, List.set_cons_zero, List.set_cons_succ]
  have cb := HW6.out.b
  have cf := HW6.out.froz
  refine wpAnyK_ready (rs := [15]) (by kernel_rfl) (by simp) ?_
  refine AllReadyK.late rfl (by kernel_rfl) (fun K hK => ?_) AllReadyK.nil
  go_simp
  refine hK.out _ _ ?_ (fun _ => ?_)
  · trivial
  clear hK K
  try simp only [Act.put, List.getElem_toArray, List.getElem_cons_zero, List.getElem_cons_succ, List.setIfInBounds_toArray, List.set_cons_zero, List.set_cons_succ]
  refine wpAnyK_done (by kernel_rfl) ?_ _
  have HFe : Hid (Fr g M W (w6.setCell ⟨g, 109, none⟩ (.slice A6 1 c6))) := Lib.hid (HF6.out.put 109 _)
  have HC := Lib.hid (HM.out _ (.slice A6 1 c6) (HW6.out.put _) (En.own_far HO6.out (fun g' hg' e => En.own_blk HO6.out HW6.out.blk (by decide) (by rw [hg', e])) _) HFe.out)
  clear cb cf HM HX0 HF6 HW6 HO6
  generalize w6.setCell ⟨g, 109, none⟩ (.slice A6 1 c6) = w7 at *
  have hmt : ∀ (w : World), (method 312 75 (.pointer (some ⟨g, 0, none⟩)) "scriptorium/record.lift").run Tryz.prog w = .ok (102, .pointer (some ⟨g, 0, none⟩)) w := fun _ => by kernel_rfl
  go_wp2_with fail
  refine HC.out.mono ?_
  rintro e w8 ⟨hF8, ⟨rfl, rfl, vb8, h8, o8⟩ | ⟨rfl, rfl⟩⟩
  · have HF8 := Lib.hid (HFe.out.trans hF8)
    have H8 := Lib.hid h8
    have O8 := Lib.hid o8
    clear hF8 h8 o8 HC hmt
    go_wp2_with fail
    go_end0
    unfold WrP
    exact ⟨HF8.out, .inl ⟨rfl, rfl, vb8, H8.out, O8.out⟩⟩
  · have HF8 := Lib.hid (HFe.out.trans hF8)
    refine ⟨rfl, ?_⟩
    unfold WrP
    exact ⟨HF8.out, .inr ⟨rfl, rfl⟩⟩
end Rc
end Go.Proofs.YteapnkedpmcokaaGreatDoor
