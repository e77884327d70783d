/- RcWrA. Conditions: as stated at each. -/
import Derived.Test.YteapnkedpmcokaaGreatDoorRm26
import Derived.Test.YteapnkedpmcokaaGreatDoorRm30
import Derived.Test.YteapnkedpmcokaaGreatDoorRm32
/- record.need; the writer's number and message. Conditions: as stated at each. -/
namespace Go.Proofs.YteapnkedpmcokaaGreatDoor
set_option maxRecDepth 100000
namespace Rc
open Go.RowKit Go Go.Proofs.YteapnkedpmcokaaGreatDoor.Pa
attribute [local go_sem] Oper.semAt_some
theorem need_t {b : Bool} (h : b = true) (w : World) : Calls Tryz.prog 60 #[.bool b] w fun e w' => e = .returned (.tuple #[]) ∧ w = w' := by
  subst h
  go_enter Tryz.func60, Tryz.ntmps60
  go_wp2_with (first
    | (refine (Fa.nd_ok 160 _).mono ?_; rintro e w' ⟨rfl, rfl⟩)
    | fail)
  go_end0
  exact ⟨rfl, rfl⟩
theorem need_f {b : Bool} (h : b = false) (w : World) : Calls Tryz.prog 60 #[.bool b] w fun e w' => e = Fa.bad 160 ∧ w = w' := by
  subst h
  go_enter Tryz.func60, Tryz.ntmps60
  go_wp2_with (first
    | (refine (Fa.nd_bad 160 _).mono ?_; rintro e w' ⟨rfl, rfl⟩)
    | fail)
  exact ⟨rfl, rfl, rfl⟩
theorem nb4 (n : Int) : n / 4294967296 % 256 = ((nb n 4).toNat : Int) := by have := nb_int n 4; simpa using this
theorem nb5 (n : Int) : n / 1099511627776 % 256 = ((nb n 5).toNat : Int) := by have := nb_int n 5; simpa using this
theorem nb6 (n : Int) : n / 281474976710656 % 256 = ((nb n 6).toNat : Int) := by have := nb_int n 6; simpa using this
theorem nb7 (n : Int) : n / 72057594037927936 % 256 = ((nb n 7).toNat : Int) := by have := nb_int n 7; simpa using this
/-- one byte in a block of its own. -/
theorem one_bts (w : World) (x : Int) (c : UInt8) (h : x = (c.toNat : Int)) : Bts (w.alloc (.cells #[.int .u8 x] 5)) (w.heap.size + 1) (some ⟨w.heap.size, 0, none⟩) [c] := by
  subst h
  exact BlkIs.bts (t := 5) (l := [c]) (BlkIs.new w _ _) (Nat.lt_succ_self _)
theorem eight_take (n : Int) : ∀ k, k < 8 → (eightB n).take (k + 1) = (eightB n).take k ++ [nb n (7 - k)] := by
  intro k hk
  obtain rfl | rfl | rfl | rfl | rfl | rfl | rfl | rfl : k = 0 ∨ k = 1 ∨ k = 2 ∨ k = 3 ∨ k = 4 ∨ k = 5 ∨ k = 6 ∨ k = 7 := by omega
  all_goals rfl
set_option maxHeartbeats 3200000 in
theorem wnumber_any {W : World} {g M : Nat} {X : List Value} {vb : Value} {l : L} (n : Int) (hW : WrS W g X vb) (hO : Own5 W M vb l) (hM : M ≤ W.heap.size) (hl : l.length ≤ 1000) :
    Calls Tryz.prog 110 #[.pointer (some ⟨g, 0, none⟩), .int .i64 n] W fun e w' => e = .returned (.tuple #[]) ∧ Fr g M W w' ∧ ∃ vb', WrS w' g X vb' ∧ Own5 w' M vb' (l ++ eightB n) := by
  have HE8 : Hid ((eightB n).take 8 = eightB n) := Lib.hid rfl
  have HTK := Lib.hid (eight_take n)
  have HW0 := Lib.hid hW
  have HO0 := Lib.hid hO
  have HLE : Hid (∀ k, (l ++ (eightB n).take k).length ≤ 1008) := Lib.hid fun k => by
    have e : (eightB n).length = 8 := rfl
    rw [List.length_append, List.length_take, e]
    omega
  clear hW hO
  go_enter Tryz.func110, Tryz.ntmps110
  go_wp2_with fail
  go_loopw [5] (fun i wr => ∃ k : Nat, k ≤ 8 ∧ i = .int .i64 k ∧ Hid (Fr g M W wr) ∧ ∃ u, Hid (WrS wr g X u) ∧ Hid (Own5 wr M u (l ++ (eightB n).take k))) (fun i _ => 8 - (intOf i).toNat)
  case atStart => exact ⟨0, by omega, rfl, Lib.hid (Fr.refl _ _ _), vb, HW0, Lib.hid (by rw [List.take_zero, List.append_nil]; exact HO0.out)⟩
  case round =>
    obtain ⟨k, hk, rfl, HF, u, HW, HO⟩ := hrel
    have hszr := HF.out.size
    clear HW0 HO0
    by_cases hlt : k < 8
    · have HT := Lib.hid (HTK.out k hlt)
      have HL := Lib.hid (HLE.out k)
      obtain rfl | rfl | rfl | rfl | rfl | rfl | rfl | rfl : k = 0 ∨ k = 1 ∨ k = 2 ∨ k = 3 ∨ k = 4 ∨ k = 5 ∨ k = 6 ∨ k = 7 := by omega
      · generalize (eightB n).take 0 = lk at *
        go_wp2_with fail
        have HWd : Hid (WrS wr.drew g X u) := Lib.hid ⟨HW.out.blk, HW.out.len⟩
        have HOd : Hid (Own5 wr.drew M u (l ++ lk)) := Lib.hid HO.out
        have HFd : Hid (Fr g M W wr.drew) := Lib.hid HF.out.drew
        have hszd : W.heap.size ≤ wr.drew.heap.size := hszr
        clear HW HO HF hszr
        refine wp_region_key ((fun Y => WrS Y g X u)) 15 (by kernel_rfl) (HWd.out) (fun hHeld => ?_)
        generalize wr.drew = w1 at *
        refine wpAnyK_take (i := 0) (v := .pointer (some ⟨g, 0, none⟩)) rfl (by kernel_rfl) (by kernel_rfl) (by kernel_rfl) (by kernel_rfl) (fun _ _ _ h => h) (Or.inl ⟨by rfl, fun w hS => by first | (go_simp; done) | (go_simp; with_reducible rfl)⟩) hHeld ?_
        try simp only [Act.put, List.getElem_toArray, List.getElem_cons_zero, List.setIfInBounds_toArray, List.set_cons_zero, List.set_cons_succ]
        refine wpAnyK_take (i := 1) (v := .pointer (some ⟨g, 0, none⟩)) rfl (by kernel_rfl) (by kernel_rfl) (by kernel_rfl) (by kernel_rfl) (fun _ _ _ h => h) (Or.inl ⟨by rfl, fun w hS => by first | (go_simp; done) | (go_simp; with_reducible rfl)⟩) hHeld ?_
        try simp only [Act.put, List.getElem_toArray, List.getElem_cons_zero, List.getElem_cons_succ, List.setIfInBounds_toArray, List.set_cons_zero, List.set_cons_succ]
        refine wpAnyK_take (i := 2) (v := .pointer (some ⟨g, 0, none⟩)) rfl (by kernel_rfl) (by kernel_rfl) (by kernel_rfl) (by kernel_rfl) (fun _ _ _ h => h) (Or.inl ⟨by rfl, fun w hS => by (have c := hS.b; first | (go_simp; done) | (go_simp; with_reducible rfl))⟩) hHeld ?_
        try simp only [Act.put, List.getElem_toArray, List.getElem_cons_zero, List.getElem_cons_succ, List.setIfInBounds_toArray, List.set_cons_zero, List.set_cons_succ]
        refine wpAnyK_take (i := 3) (v := .pointer (some ⟨g, 109, none⟩)) rfl (by kernel_rfl) (by kernel_rfl) (by kernel_rfl) (by kernel_rfl) (fun _ _ _ h => h) (Or.inl ⟨by rfl, fun w hS => by first | (go_simp; done) | (go_simp; with_reducible rfl)⟩) hHeld ?_
        try simp only [Act.put, List.getElem_toArray, List.getElem_cons_zero, List.getElem_cons_succ, List.setIfInBounds_toArray, List.set_cons_zero, List.set_cons_succ]
        refine wpAnyK_take (i := 4) (v := u) rfl (by kernel_rfl) (by kernel_rfl) (by kernel_rfl) (by kernel_rfl) (fun _ _ _ h => h) (Or.inl ⟨by rfl, fun w hS => by (have c := hS.b; first | (go_simp; done) | (go_simp; with_reducible rfl))⟩) hHeld ?_
        try simp only [Act.put, List.getElem_toArray, List.getElem_cons_zero, List.getElem_cons_succ, List.setIfInBounds_toArray, List.set_cons_zero, List.set_cons_succ]
        refine wpAnyK_take (i := 5) (v := .int .i64 n) rfl (by kernel_rfl) (by kernel_rfl) (by kernel_rfl) (by kernel_rfl) (fun _ _ _ h => h) (Or.inl ⟨by rfl, fun w hS => by first | (go_simp; done) | (go_simp; with_reducible rfl)⟩) hHeld ?_
        try simp only [Act.put, List.getElem_toArray, List.getElem_cons_zero, List.getElem_cons_succ, List.setIfInBounds_toArray, List.set_cons_zero, List.set_cons_succ]
        refine wpAnyK_take (i := 6) (v := .int .i64 0) rfl (by kernel_rfl) (by kernel_rfl) (by kernel_rfl) (by kernel_rfl) (fun _ _ _ h => h) (Or.inl ⟨by rfl, fun w hS => by first | (go_simp; done) | (go_simp; with_reducible rfl)⟩) hHeld ?_
        try simp only [Act.put, List.getElem_toArray, List.getElem_cons_zero, List.getElem_cons_succ, List.setIfInBounds_toArray, List.set_cons_zero, List.set_cons_succ]
        refine wpAnyK_take (i := 7) (v := .int .i64 7) rfl (by kernel_rfl) (by kernel_rfl) (by kernel_rfl) (by kernel_rfl) (fun _ _ _ h => h) (Or.inl ⟨by rfl, fun w hS => by (first | (go_simp; done) | (go_simp; with_reducible rfl) | (go_simp; rfl))⟩) hHeld ?_
        try simp only [Act.put, List.getElem_toArray, List.getElem_cons_zero, List.getElem_cons_succ, List.setIfInBounds_toArray, List.set_cons_zero, List.set_cons_succ]
        refine wpAnyK_take (i := 8) (v := .int .i64 56) rfl (by kernel_rfl) (by kernel_rfl) (by kernel_rfl) (by kernel_rfl) (fun _ _ _ h => h) (Or.inl ⟨by rfl, fun w hS => by (first | (go_simp; done) | (go_simp; with_reducible rfl) | (go_simp; rfl))⟩) hHeld ?_
        try simp only [Act.put, List.getElem_toArray, List.getElem_cons_zero, List.getElem_cons_succ, List.setIfInBounds_toArray, List.set_cons_zero, List.set_cons_succ]
        refine wpAnyK_take (i := 9) (v := .int .i64 (n / 72057594037927936)) rfl (by kernel_rfl) (by kernel_rfl) (by kernel_rfl) (by kernel_rfl) (fun _ _ _ h => h) (Or.inl ⟨by rfl, fun w hS => by (first | (go_simp; done) | (go_simp; with_reducible rfl) | (go_simp; rfl))⟩) hHeld ?_
        try simp only [Act.put, List.getElem_toArray, List.getElem_cons_zero, List.getElem_cons_succ, List.setIfInBounds_toArray, List.set_cons_zero, List.set_cons_succ]
        refine wpAnyK_take (i := 10) (v := .int .u8 (n / 72057594037927936 % 256)) rfl (by kernel_rfl) (by kernel_rfl) (by kernel_rfl) (by kernel_rfl) (fun _ _ _ h => h) (Or.inl ⟨by rfl, fun w hS => by (first | (go_simp; done) | (go_simp; with_reducible rfl) | (go_simp; rfl))⟩) hHeld ?_
        try simp only [Act.put, List.getElem_toArray, List.getElem_cons_zero, List.getElem_cons_succ, List.setIfInBounds_toArray, List.set_cons_zero, List.set_cons_succ]
        refine wpAnyK_ready (rs := [11]) (by kernel_rfl) (by simp) ?_
        refine AllReadyK.cons rfl (fun K hK => ?_) AllReadyK.nil
        go_simp
        refine hK.out _ _ ?_ (fun hHeld => ?_)
        · exact HWd.out.alloc _
        clear hK K
        try simp only [Act.put, List.getElem_toArray, List.getElem_cons_zero, List.getElem_cons_succ, List.setIfInBounds_toArray, List.set_cons_zero, List.set_cons_succ]
        have HW2 : Hid (WrS (w1.alloc (.cells #[.int .u8 (n / 72057594037927936 % 256)] 5)) g X u) := Lib.hid (HWd.out.alloc _)
        have HO2 : Hid (Own5 (w1.alloc (.cells #[.int .u8 (n / 72057594037927936 % 256)] 5)) M u (l ++ lk)) := Lib.hid (own_kept HOd.out ((Below.refl _ w1).alloc (Nat.le_refl _) _) (Nat.le_refl _))
        have HB2 := Lib.hid (one_bts w1 (n / 72057594037927936 % 256) (nb n 7) (nb7 n))
        refine wpAnyK_ready (rs := [12]) (by kernel_rfl) (by simp) ?_
        refine AllReadyK.cons rfl (fun K hK => ?_) AllReadyK.nil
        (refine En.step5 (.tmp 12) (.tmp 19) rfl rfl (N := M) (l := l ++ lk) (m := [nb n 7]) rfl HO2.out (B := w1.heap.size + 1) (c := 1) rfl HB2.out (by have := HL.out; simp only [List.length_cons, List.length_nil]; omega) (by simp; omega) ?_; intro v6 w6 h6 g6; obtain ⟨A6, c6, rfl, _, _⟩ := own_slice h6)
        refine hK.out _ _ ?_ (fun hHeld => ?_)
        · exact HW2.out.own HO2.out g6
        clear hK K
        try simp only [Act.put, List.getElem_toArray, List.getElem_cons_zero, List.getElem_cons_succ, List.setIfInBounds_toArray, List.set_cons_zero, List.set_cons_succ]
        have HF6 : Hid (Fr g M W w6) := Lib.hid (Fr.app (HFd.out.alloc _) HO2.out g6)
        have HW6 : Hid (WrS w6 g X u) := Lib.hid (HW2.out.own HO2.out g6)
        have HO6 : Hid (Own5 w6 M (.slice A6 (l ++ lk ++ [nb n 7]).length c6) (l ++ lk ++ [nb n 7])) := Lib.hid h6
        clear h6 g6 HW2 HO2 HB2 HWd HOd HFd
        generalize (l ++ lk ++ [nb n 7]).length = n6 at *
        refine wpAnyK_take (i := 13) (v := .pointer (some ⟨g, 0, none⟩)) rfl (by kernel_rfl) (by kernel_rfl) (by kernel_rfl) (by kernel_rfl) (fun _ _ _ h => h) (Or.inl ⟨by rfl, fun w hS => by (have c := hS.b; first | (go_simp; done) | (go_simp; with_reducible rfl))⟩) hHeld ?_
        try simp only [Act.put, List.getElem_toArray, List.getElem_cons_zero, List.getElem_cons_succ, List.setIfInBounds_toArray, List.set_cons_zero, List.set_cons_succ]
        refine wpAnyK_take (i := 14) (v := .pointer (some ⟨g, 109, none⟩)) rfl (by kernel_rfl) (by kernel_rfl) (by kernel_rfl) (by kernel_rfl) (fun _ _ _ h => h) (Or.inl ⟨by rfl, fun w hS => by first | (go_simp; done) | (go_simp; with_reducible rfl)⟩) hHeld ?_
        try simp only [Act.put, List.getElem_toArray, List.getElem_cons_zero, List.getElem_cons_succ, List.setIfInBounds_toArray, List.set_cons_zero, List.set_cons_succ]
        have cb := HW6.out.b
        have cf := HW6.out.froz
        refine wpAnyK_ready (rs := [15]) (by kernel_rfl) (by simp) ?_
        refine AllReadyK.late rfl (by kernel_rfl) (fun K hK => ?_) AllReadyK.nil
        go_simp
        refine hK.out _ _ ?_ (fun _ => ?_)
        · trivial
        clear hK K
        try simp only [Act.put, List.getElem_toArray, List.getElem_cons_zero, List.getElem_cons_succ, List.setIfInBounds_toArray, List.set_cons_zero, List.set_cons_succ]
        refine wpAnyK_done (by kernel_rfl) ?_ _
        go_wp2_with fail
        go_roundw
        case rel => exact ⟨1, by omega, by go_num, Lib.hid (HF6.out.put 109 _), .slice A6 n6 c6, Lib.hid (HW6.out.put (.slice A6 n6 c6)), Lib.hid (by rw [HT.out, ← List.append_assoc]; exact En.own_far HO6.out (fun g' hg' e => En.own_blk HO6.out HW6.out.blk (by decide) (by rw [hg', e])) _)⟩
        case measure => simp [intOf]
      · generalize (eightB n).take 1 = lk at *
        go_wp2_with fail
        have HWd : Hid (WrS wr.drew g X u) := Lib.hid ⟨HW.out.blk, HW.out.len⟩
        have HOd : Hid (Own5 wr.drew M u (l ++ lk)) := Lib.hid HO.out
        have HFd : Hid (Fr g M W wr.drew) := Lib.hid HF.out.drew
        have hszd : W.heap.size ≤ wr.drew.heap.size := hszr
        clear HW HO HF hszr
        refine wp_region_key ((fun Y => WrS Y g X u)) 15 (by kernel_rfl) (HWd.out) (fun hHeld => ?_)
        generalize wr.drew = w1 at *
        refine wpAnyK_take (i := 0) (v := .pointer (some ⟨g, 0, none⟩)) rfl (by kernel_rfl) (by kernel_rfl) (by kernel_rfl) (by kernel_rfl) (fun _ _ _ h => h) (Or.inl ⟨by rfl, fun w hS => by first | (go_simp; done) | (go_simp; with_reducible rfl)⟩) hHeld ?_
        try simp only [Act.put, List.getElem_toArray, List.getElem_cons_zero, List.setIfInBounds_toArray, List.set_cons_zero, List.set_cons_succ]
        refine wpAnyK_take (i := 1) (v := .pointer (some ⟨g, 0, none⟩)) rfl (by kernel_rfl) (by kernel_rfl) (by kernel_rfl) (by kernel_rfl) (fun _ _ _ h => h) (Or.inl ⟨by rfl, fun w hS => by first | (go_simp; done) | (go_simp; with_reducible rfl)⟩) hHeld ?_
        try simp only [Act.put, List.getElem_toArray, List.getElem_cons_zero, List.getElem_cons_succ, List.setIfInBounds_toArray, List.set_cons_zero, List.set_cons_succ]
        refine wpAnyK_take (i := 2) (v := .pointer (some ⟨g, 0, none⟩)) rfl (by kernel_rfl) (by kernel_rfl) (by kernel_rfl) (by kernel_rfl) (fun _ _ _ h => h) (Or.inl ⟨by rfl, fun w hS => by (have c := hS.b; first | (go_simp; done) | (go_simp; with_reducible rfl))⟩) hHeld ?_
        try simp only [Act.put, List.getElem_toArray, List.getElem_cons_zero, List.getElem_cons_succ, List.setIfInBounds_toArray, List.set_cons_zero, List.set_cons_succ]
        refine wpAnyK_take (i := 3) (v := .pointer (some ⟨g, 109, none⟩)) rfl (by kernel_rfl) (by kernel_rfl) (by kernel_rfl) (by kernel_rfl) (fun _ _ _ h => h) (Or.inl ⟨by rfl, fun w hS => by first | (go_simp; done) | (go_simp; with_reducible rfl)⟩) hHeld ?_
        try simp only [Act.put, List.getElem_toArray, List.getElem_cons_zero, List.getElem_cons_succ, List.setIfInBounds_toArray, List.set_cons_zero, List.set_cons_succ]
        refine wpAnyK_take (i := 4) (v := u) rfl (by kernel_rfl) (by kernel_rfl) (by kernel_rfl) (by kernel_rfl) (fun _ _ _ h => h) (Or.inl ⟨by rfl, fun w hS => by (have c := hS.b; first | (go_simp; done) | (go_simp; with_reducible rfl))⟩) hHeld ?_
        try simp only [Act.put, List.getElem_toArray, List.getElem_cons_zero, List.getElem_cons_succ, List.setIfInBounds_toArray, List.set_cons_zero, List.set_cons_succ]
        refine wpAnyK_take (i := 5) (v := .int .i64 n) rfl (by kernel_rfl) (by kernel_rfl) (by kernel_rfl) (by kernel_rfl) (fun _ _ _ h => h) (Or.inl ⟨by rfl, fun w hS => by first | (go_simp; done) | (go_simp; with_reducible rfl)⟩) hHeld ?_
        try simp only [Act.put, List.getElem_toArray, List.getElem_cons_zero, List.getElem_cons_succ, List.setIfInBounds_toArray, List.set_cons_zero, List.set_cons_succ]
        refine wpAnyK_take (i := 6) (v := .int .i64 1) rfl (by kernel_rfl) (by kernel_rfl) (by kernel_rfl) (by kernel_rfl) (fun _ _ _ h => h) (Or.inl ⟨by rfl, fun w hS => by first | (go_simp; done) | (go_simp; with_reducible rfl)⟩) hHeld ?_
        try simp only [Act.put, List.getElem_toArray, List.getElem_cons_zero, List.getElem_cons_succ, List.setIfInBounds_toArray, List.set_cons_zero, List.set_cons_succ]
        refine wpAnyK_take (i := 7) (v := .int .i64 6) rfl (by kernel_rfl) (by kernel_rfl) (by kernel_rfl) (by kernel_rfl) (fun _ _ _ h => h) (Or.inl ⟨by rfl, fun w hS => by (first | (go_simp; done) | (go_simp; with_reducible rfl) | (go_simp; rfl))⟩) hHeld ?_
        try simp only [Act.put, List.getElem_toArray, List.getElem_cons_zero, List.getElem_cons_succ, List.setIfInBounds_toArray, List.set_cons_zero, List.set_cons_succ]
        refine wpAnyK_take (i := 8) (v := .int .i64 48) rfl (by kernel_rfl) (by kernel_rfl) (by kernel_rfl) (by kernel_rfl) (fun _ _ _ h => h) (Or.inl ⟨by rfl, fun w hS => by (first | (go_simp; done) | (go_simp; with_reducible rfl) | (go_simp; rfl))⟩) hHeld ?_
        try simp only [Act.put, List.getElem_toArray, List.getElem_cons_zero, List.getElem_cons_succ, List.setIfInBounds_toArray, List.set_cons_zero, List.set_cons_succ]
        refine wpAnyK_take (i := 9) (v := .int .i64 (n / 281474976710656)) rfl (by kernel_rfl) (by kernel_rfl) (by kernel_rfl) (by kernel_rfl) (fun _ _ _ h => h) (Or.inl ⟨by rfl, fun w hS => by (first | (go_simp; done) | (go_simp; with_reducible rfl) | (go_simp; rfl))⟩) hHeld ?_
        try simp only [Act.put, List.getElem_toArray, List.getElem_cons_zero, List.getElem_cons_succ, List.setIfInBounds_toArray, List.set_cons_zero, List.set_cons_succ]
        refine wpAnyK_take (i := 10) (v := .int .u8 (n / 281474976710656 % 256)) rfl (by kernel_rfl) (by kernel_rfl) (by kernel_rfl) (by kernel_rfl) (fun _ _ _ h => h) (Or.inl ⟨by rfl, fun w hS => by (first | (go_simp; done) | (go_simp; with_reducible rfl) | (go_simp; rfl))⟩) hHeld ?_
        try simp only [Act.put, List.getElem_toArray, List.getElem_cons_zero, List.getElem_cons_succ, List.setIfInBounds_toArray, List.set_cons_zero, List.set_cons_succ]
        refine wpAnyK_ready (rs := [11]) (by kernel_rfl) (by simp) ?_
        refine AllReadyK.cons rfl (fun K hK => ?_) AllReadyK.nil
        go_simp
        refine hK.out _ _ ?_ (fun hHeld => ?_)
        · exact HWd.out.alloc _
        clear hK K
        try simp only [Act.put, List.getElem_toArray, List.getElem_cons_zero, List.getElem_cons_succ, List.setIfInBounds_toArray, List.set_cons_zero, List.set_cons_succ]
        have HW2 : Hid (WrS (w1.alloc (.cells #[.int .u8 (n / 281474976710656 % 256)] 5)) g X u) := Lib.hid (HWd.out.alloc _)
        have HO2 : Hid (Own5 (w1.alloc (.cells #[.int .u8 (n / 281474976710656 % 256)] 5)) M u (l ++ lk)) := Lib.hid (own_kept HOd.out ((Below.refl _ w1).alloc (Nat.le_refl _) _) (Nat.le_refl _))
        have HB2 := Lib.hid (one_bts w1 (n / 281474976710656 % 256) (nb n 6) (nb6 n))
        refine wpAnyK_ready (rs := [12]) (by kernel_rfl) (by simp) ?_
        refine AllReadyK.cons rfl (fun K hK => ?_) AllReadyK.nil
        (refine En.step5 (.tmp 12) (.tmp 19) rfl rfl (N := M) (l := l ++ lk) (m := [nb n 6]) rfl HO2.out (B := w1.heap.size + 1) (c := 1) rfl HB2.out (by have := HL.out; simp only [List.length_cons, List.length_nil]; omega) (by simp; omega) ?_; intro v6 w6 h6 g6; obtain ⟨A6, c6, rfl, _, _⟩ := own_slice h6)
        refine hK.out _ _ ?_ (fun hHeld => ?_)
        · exact HW2.out.own HO2.out g6
        clear hK K
        try simp only [Act.put, List.getElem_toArray, List.getElem_cons_zero, List.getElem_cons_succ, List.setIfInBounds_toArray, List.set_cons_zero, List.set_cons_succ]
        have HF6 : Hid (Fr g M W w6) := Lib.hid (Fr.app (HFd.out.alloc _) HO2.out g6)
        have HW6 : Hid (WrS w6 g X u) := Lib.hid (HW2.out.own HO2.out g6)
        have HO6 : Hid (Own5 w6 M (.slice A6 (l ++ lk ++ [nb n 6]).length c6) (l ++ lk ++ [nb n 6])) := Lib.hid h6
        clear h6 g6 HW2 HO2 HB2 HWd HOd HFd
        generalize (l ++ lk ++ [nb n 6]).length = n6 at *
        refine wpAnyK_take (i := 13) (v := .pointer (some ⟨g, 0, none⟩)) rfl (by kernel_rfl) (by kernel_rfl) (by kernel_rfl) (by kernel_rfl) (fun _ _ _ h => h) (Or.inl ⟨by rfl, fun w hS => by (have c := hS.b; first | (go_simp; done) | (go_simp; with_reducible rfl))⟩) hHeld ?_
        try simp only [Act.put, List.getElem_toArray, List.getElem_cons_zero, List.getElem_cons_succ, List.setIfInBounds_toArray, List.set_cons_zero, List.set_cons_succ]
        refine wpAnyK_take (i := 14) (v := .pointer (some ⟨g, 109, none⟩)) rfl (by kernel_rfl) (by kernel_rfl) (by kernel_rfl) (by kernel_rfl) (fun _ _ _ h => h) (Or.inl ⟨by rfl, fun w hS => by first | (go_simp; done) | (go_simp; with_reducible rfl)⟩) hHeld ?_
        try simp only [Act.put, List.getElem_toArray, List.getElem_cons_zero, List.getElem_cons_succ, List.setIfInBounds_toArray, List.set_cons_zero, List.set_cons_succ]
        have cb := HW6.out.b
        have cf := HW6.out.froz
        refine wpAnyK_ready (rs := [15]) (by kernel_rfl) (by simp) ?_
        refine AllReadyK.late rfl (by kernel_rfl) (fun K hK => ?_) AllReadyK.nil
        go_simp
        refine hK.out _ _ ?_ (fun _ => ?_)
        · trivial
        clear hK K
        try simp only [Act.put, List.getElem_toArray, List.getElem_cons_zero, List.getElem_cons_succ, List.setIfInBounds_toArray, List.set_cons_zero, List.set_cons_succ]
        refine wpAnyK_done (by kernel_rfl) ?_ _
        go_wp2_with fail
        go_roundw
        case rel => exact ⟨2, by omega, by go_num, Lib.hid (HF6.out.put 109 _), .slice A6 n6 c6, Lib.hid (HW6.out.put (.slice A6 n6 c6)), Lib.hid (by rw [HT.out, ← List.append_assoc]; exact En.own_far HO6.out (fun g' hg' e => En.own_blk HO6.out HW6.out.blk (by decide) (by rw [hg', e])) _)⟩
        case measure => simp [intOf]
      · generalize (eightB n).take 2 = lk at *
        go_wp2_with fail
        have HWd : Hid (WrS wr.drew g X u) := Lib.hid ⟨HW.out.blk, HW.out.len⟩
        have HOd : Hid (Own5 wr.drew M u (l ++ lk)) := Lib.hid HO.out
        have HFd : Hid (Fr g M W wr.drew) := Lib.hid HF.out.drew
        have hszd : W.heap.size ≤ wr.drew.heap.size := hszr
        clear HW HO HF hszr
        refine wp_region_key ((fun Y => WrS Y g X u)) 15 (by kernel_rfl) (HWd.out) (fun hHeld => ?_)
        generalize wr.drew = w1 at *
        refine wpAnyK_take (i := 0) (v := .pointer (some ⟨g, 0, none⟩)) rfl (by kernel_rfl) (by kernel_rfl) (by kernel_rfl) (by kernel_rfl) (fun _ _ _ h => h) (Or.inl ⟨by rfl, fun w hS => by first | (go_simp; done) | (go_simp; with_reducible rfl)⟩) hHeld ?_
        try simp only [Act.put, List.getElem_toArray, List.getElem_cons_zero, List.setIfInBounds_toArray, List.set_cons_zero, List.set_cons_succ]
        refine wpAnyK_take (i := 1) (v := .pointer (some ⟨g, 0, none⟩)) rfl (by kernel_rfl) (by kernel_rfl) (by kernel_rfl) (by kernel_rfl) (fun _ _ _ h => h) (Or.inl ⟨by rfl, fun w hS => by first | (go_simp; done) | (go_simp; with_reducible rfl)⟩) hHeld ?_
        try simp only [Act.put, List.getElem_toArray, List.getElem_cons_zero, List.getElem_cons_succ, List.setIfInBounds_toArray, List.set_cons_zero, List.set_cons_succ]
        refine wpAnyK_take (i := 2) (v := .pointer (some ⟨g, 0, none⟩)) rfl (by kernel_rfl) (by kernel_rfl) (by kernel_rfl) (by kernel_rfl) (fun _ _ _ h => h) (Or.inl ⟨by rfl, fun w hS => by (have c := hS.b; first | (go_simp; done) | (go_simp; with_reducible rfl))⟩) hHeld ?_
        try simp only [Act.put, List.getElem_toArray, List.getElem_cons_zero, List.getElem_cons_succ, List.setIfInBounds_toArray, List.set_cons_zero, List.set_cons_succ]
        refine wpAnyK_take (i := 3) (v := .pointer (some ⟨g, 109, none⟩)) rfl (by kernel_rfl) (by kernel_rfl) (by kernel_rfl) (by kernel_rfl) (fun _ _ _ h => h) (Or.inl ⟨by rfl, fun w hS => by first | (go_simp; done) | (go_simp; with_reducible rfl)⟩) hHeld ?_
        try simp only [Act.put, List.getElem_toArray, List.getElem_cons_zero, List.getElem_cons_succ, List.setIfInBounds_toArray, List.set_cons_zero, List.set_cons_succ]
        refine wpAnyK_take (i := 4) (v := u) rfl (by kernel_rfl) (by kernel_rfl) (by kernel_rfl) (by kernel_rfl) (fun _ _ _ h => h) (Or.inl ⟨by rfl, fun w hS => by (have c := hS.b; first | (go_simp; done) | (go_simp; with_reducible rfl))⟩) hHeld ?_
        try simp only [Act.put, List.getElem_toArray, List.getElem_cons_zero, List.getElem_cons_succ, List.setIfInBounds_toArray, List.set_cons_zero, List.set_cons_succ]
        refine wpAnyK_take (i := 5) (v := .int .i64 n) rfl (by kernel_rfl) (by kernel_rfl) (by kernel_rfl) (by kernel_rfl) (fun _ _ _ h => h) (Or.inl ⟨by rfl, fun w hS => by first | (go_simp; done) | (go_simp; with_reducible rfl)⟩) hHeld ?_
        try simp only [Act.put, List.getElem_toArray, List.getElem_cons_zero, List.getElem_cons_succ, List.setIfInBounds_toArray, List.set_cons_zero, List.set_cons_succ]
        refine wpAnyK_take (i := 6) (v := .int .i64 2) rfl (by kernel_rfl) (by kernel_rfl) (by kernel_rfl) (by kernel_rfl) (fun _ _ _ h => h) (Or.inl ⟨by rfl, fun w hS => by first | (go_simp; done) | (go_simp; with_reducible rfl)⟩) hHeld ?_
        try simp only [Act.put, List.getElem_toArray, List.getElem_cons_zero, List.getElem_cons_succ, List.setIfInBounds_toArray, List.set_cons_zero, List.set_cons_succ]
        refine wpAnyK_take (i := 7) (v := .int .i64 5) rfl (by kernel_rfl) (by kernel_rfl) (by kernel_rfl) (by kernel_rfl) (fun _ _ _ h => h) (Or.inl ⟨by rfl, fun w hS => by (first | (go_simp; done) | (go_simp; with_reducible rfl) | (go_simp; rfl))⟩) hHeld ?_
        try simp only [Act.put, List.getElem_toArray, List.getElem_cons_zero, List.getElem_cons_succ, List.setIfInBounds_toArray, List.set_cons_zero, List.set_cons_succ]
        refine wpAnyK_take (i := 8) (v := .int .i64 40) rfl (by kernel_rfl) (by kernel_rfl) (by kernel_rfl) (by kernel_rfl) (fun _ _ _ h => h) (Or.inl ⟨by rfl, fun w hS => by (first | (go_simp; done) | (go_simp; with_reducible rfl) | (go_simp; rfl))⟩) hHeld ?_
        try simp only [Act.put, List.getElem_toArray, List.getElem_cons_zero, List.getElem_cons_succ, List.setIfInBounds_toArray, List.set_cons_zero, List.set_cons_succ]
        refine wpAnyK_take (i := 9) (v := .int .i64 (n / 1099511627776)) rfl (by kernel_rfl) (by kernel_rfl) (by kernel_rfl) (by kernel_rfl) (fun _ _ _ h => h) (Or.inl ⟨by rfl, fun w hS => by (first | (go_simp; done) | (go_simp; with_reducible rfl) | (go_simp; rfl))⟩) hHeld ?_
        try simp only [Act.put, List.getElem_toArray, List.getElem_cons_zero, List.getElem_cons_succ, List.setIfInBounds_toArray, List.set_cons_zero, List.set_cons_succ]
        refine wpAnyK_take (i := 10) (v := .int .u8 (n / 1099511627776 % 256)) rfl (by kernel_rfl) (by kernel_rfl) (by kernel_rfl) (by kernel_rfl) (fun _ _ _ h => h) (Or.inl ⟨by rfl, fun w hS => by (first | (go_simp; done) | (go_simp; with_reducible rfl) | (go_simp; rfl))⟩) hHeld ?_
        try simp only [Act.put, List.getElem_toArray, List.getElem_cons_zero, List.getElem_cons_succ, List.setIfInBounds_toArray, List.set_cons_zero, List.set_cons_succ]
        refine wpAnyK_ready (rs := [11]) (by kernel_rfl) (by simp) ?_
        refine AllReadyK.cons rfl (fun K hK => ?_) AllReadyK.nil
        go_simp
        refine hK.out _ _ ?_ (fun hHeld => ?_)
        · exact HWd.out.alloc _
        clear hK K
        try simp only [Act.put, List.getElem_toArray, List.getElem_cons_zero, List.getElem_cons_succ, List.setIfInBounds_toArray, List.set_cons_zero, List.set_cons_succ]
        have HW2 : Hid (WrS (w1.alloc (.cells #[.int .u8 (n / 1099511627776 % 256)] 5)) g X u) := Lib.hid (HWd.out.alloc _)
        have HO2 : Hid (Own5 (w1.alloc (.cells #[.int .u8 (n / 1099511627776 % 256)] 5)) M u (l ++ lk)) := Lib.hid (own_kept HOd.out ((Below.refl _ w1).alloc (Nat.le_refl _) _) (Nat.le_refl _))
        have HB2 := Lib.hid (one_bts w1 (n / 1099511627776 % 256) (nb n 5) (nb5 n))
        refine wpAnyK_ready (rs := [12]) (by kernel_rfl) (by simp) ?_
        refine AllReadyK.cons rfl (fun K hK => ?_) AllReadyK.nil
        (refine En.step5 (.tmp 12) (.tmp 19) rfl rfl (N := M) (l := l ++ lk) (m := [nb n 5]) rfl HO2.out (B := w1.heap.size + 1) (c := 1) rfl HB2.out (by have := HL.out; simp only [List.length_cons, List.length_nil]; omega) (by simp; omega) ?_; intro v6 w6 h6 g6; obtain ⟨A6, c6, rfl, _, _⟩ := own_slice h6)
        refine hK.out _ _ ?_ (fun hHeld => ?_)
        · exact HW2.out.own HO2.out g6
        clear hK K
        try simp only [Act.put, List.getElem_toArray, List.getElem_cons_zero, List.getElem_cons_succ, List.setIfInBounds_toArray, List.set_cons_zero, List.set_cons_succ]
        have HF6 : Hid (Fr g M W w6) := Lib.hid (Fr.app (HFd.out.alloc _) HO2.out g6)
        have HW6 : Hid (WrS w6 g X u) := Lib.hid (HW2.out.own HO2.out g6)
        have HO6 : Hid (Own5 w6 M (.slice A6 (l ++ lk ++ [nb n 5]).length c6) (l ++ lk ++ [nb n 5])) := Lib.hid h6
        clear h6 g6 HW2 HO2 HB2 HWd HOd HFd
        generalize (l ++ lk ++ [nb n 5]).length = n6 at *
        refine wpAnyK_take (i := 13) (v := .pointer (some ⟨g, 0, none⟩)) rfl (by kernel_rfl) (by kernel_rfl) (by kernel_rfl) (by kernel_rfl) (fun _ _ _ h => h) (Or.inl ⟨by rfl, fun w hS => by (have c := hS.b; first | (go_simp; done) | (go_simp; with_reducible rfl))⟩) hHeld ?_
        try simp only [Act.put, List.getElem_toArray, List.getElem_cons_zero, List.getElem_cons_succ, List.setIfInBounds_toArray, List.set_cons_zero, List.set_cons_succ]
        refine wpAnyK_take (i := 14) (v := .pointer (some ⟨g, 109, none⟩)) rfl (by kernel_rfl) (by kernel_rfl) (by kernel_rfl) (by kernel_rfl) (fun _ _ _ h => h) (Or.inl ⟨by rfl, fun w hS => by first | (go_simp; done) | (go_simp; with_reducible rfl)⟩) hHeld ?_
        try simp only [Act.put, List.getElem_toArray, List.getElem_cons_zero, List.getElem_cons_succ, List.setIfInBounds_toArray, List.set_cons_zero, List.set_cons_succ]
        have cb := HW6.out.b
        have cf := HW6.out.froz
        refine wpAnyK_ready (rs := [15]) (by kernel_rfl) (by simp) ?_
        refine AllReadyK.late rfl (by kernel_rfl) (fun K hK => ?_) AllReadyK.nil
        go_simp
        refine hK.out _ _ ?_ (fun _ => ?_)
        · trivial
        clear hK K
        try simp only [Act.put, List.getElem_toArray, List.getElem_cons_zero, List.getElem_cons_succ, List.setIfInBounds_toArray, List.set_cons_zero, List.set_cons_succ]
        refine wpAnyK_done (by kernel_rfl) ?_ _
        go_wp2_with fail
        go_roundw
        case rel => exact ⟨3, by omega, by go_num, Lib.hid (HF6.out.put 109 _), .slice A6 n6 c6, Lib.hid (HW6.out.put (.slice A6 n6 c6)), Lib.hid (by rw [HT.out, ← List.append_assoc]; exact En.own_far HO6.out (fun g' hg' e => En.own_blk HO6.out HW6.out.blk (by decide) (by rw [hg', e])) _)⟩
        case measure => simp [intOf]
      · generalize (eightB n).take 3 = lk at *
        go_wp2_with fail
        have HWd : Hid (WrS wr.drew g X u) := Lib.hid ⟨HW.out.blk, HW.out.len⟩
        have HOd : Hid (Own5 wr.drew M u (l ++ lk)) := Lib.hid HO.out
        have HFd : Hid (Fr g M W wr.drew) := Lib.hid HF.out.drew
        have hszd : W.heap.size ≤ wr.drew.heap.size := hszr
        clear HW HO HF hszr
        refine wp_region_key ((fun Y => WrS Y g X u)) 15 (by kernel_rfl) (HWd.out) (fun hHeld => ?_)
        generalize wr.drew = w1 at *
        refine wpAnyK_take (i := 0) (v := .pointer (some ⟨g, 0, none⟩)) rfl (by kernel_rfl) (by kernel_rfl) (by kernel_rfl) (by kernel_rfl) (fun _ _ _ h => h) (Or.inl ⟨by rfl, fun w hS => by first | (go_simp; done) | (go_simp; with_reducible rfl)⟩) hHeld ?_
        try simp only [Act.put, List.getElem_toArray, List.getElem_cons_zero, List.setIfInBounds_toArray, List.set_cons_zero, List.set_cons_succ]
        refine wpAnyK_take (i := 1) (v := .pointer (some ⟨g, 0, none⟩)) rfl (by kernel_rfl) (by kernel_rfl) (by kernel_rfl) (by kernel_rfl) (fun _ _ _ h => h) (Or.inl ⟨by rfl, fun w hS => by first | (go_simp; done) | (go_simp; with_reducible rfl)⟩) hHeld ?_
        try simp only [Act.put, List.getElem_toArray, List.getElem_cons_zero, List.getElem_cons_succ, List.setIfInBounds_toArray, List.set_cons_zero, List.set_cons_succ]
        refine wpAnyK_take (i := 2) (v := .pointer (some ⟨g, 0, none⟩)) rfl (by kernel_rfl) (by kernel_rfl) (by kernel_rfl) (by kernel_rfl) (fun _ _ _ h => h) (Or.inl ⟨by rfl, fun w hS => by (have c := hS.b; first | (go_simp; done) | (go_simp; with_reducible rfl))⟩) hHeld ?_
        try simp only [Act.put, List.getElem_toArray, List.getElem_cons_zero, List.getElem_cons_succ, List.setIfInBounds_toArray, List.set_cons_zero, List.set_cons_succ]
        refine wpAnyK_take (i := 3) (v := .pointer (some ⟨g, 109, none⟩)) rfl (by kernel_rfl) (by kernel_rfl) (by kernel_rfl) (by kernel_rfl) (fun _ _ _ h => h) (Or.inl ⟨by rfl, fun w hS => by first | (go_simp; done) | (go_simp; with_reducible rfl)⟩) hHeld ?_
        try simp only [Act.put, List.getElem_toArray, List.getElem_cons_zero, List.getElem_cons_succ, List.setIfInBounds_toArray, List.set_cons_zero, List.set_cons_succ]
        refine wpAnyK_take (i := 4) (v := u) rfl (by kernel_rfl) (by kernel_rfl) (by kernel_rfl) (by kernel_rfl) (fun _ _ _ h => h) (Or.inl ⟨by rfl, fun w hS => by (have c := hS.b; first | (go_simp; done) | (go_simp; with_reducible rfl))⟩) hHeld ?_
        try simp only [Act.put, List.getElem_toArray, List.getElem_cons_zero, List.getElem_cons_succ, List.setIfInBounds_toArray, List.set_cons_zero, List.set_cons_succ]
        refine wpAnyK_take (i := 5) (v := .int .i64 n) rfl (by kernel_rfl) (by kernel_rfl) (by kernel_rfl) (by kernel_rfl) (fun _ _ _ h => h) (Or.inl ⟨by rfl, fun w hS => by first | (go_simp; done) | (go_simp; with_reducible rfl)⟩) hHeld ?_
        try simp only [Act.put, List.getElem_toArray, List.getElem_cons_zero, List.getElem_cons_succ, List.setIfInBounds_toArray, List.set_cons_zero, List.set_cons_succ]
        refine wpAnyK_take (i := 6) (v := .int .i64 3) rfl (by kernel_rfl) (by kernel_rfl) (by kernel_rfl) (by kernel_rfl) (fun _ _ _ h => h) (Or.inl ⟨by rfl, fun w hS => by first | (go_simp; done) | (go_simp; with_reducible rfl)⟩) hHeld ?_
        try simp only [Act.put, List.getElem_toArray, List.getElem_cons_zero, List.getElem_cons_succ, List.setIfInBounds_toArray, List.set_cons_zero, List.set_cons_succ]
        refine wpAnyK_take (i := 7) (v := .int .i64 4) rfl (by kernel_rfl) (by kernel_rfl) (by kernel_rfl) (by kernel_rfl) (fun _ _ _ h => h) (Or.inl ⟨by rfl, fun w hS => by (first | (go_simp; done) | (go_simp; with_reducible rfl) | (go_simp; rfl))⟩) hHeld ?_
        try simp only [Act.put, List.getElem_toArray, List.getElem_cons_zero, List.getElem_cons_succ, List.setIfInBounds_toArray, List.set_cons_zero, List.set_cons_succ]
        refine wpAnyK_take (i := 8) (v := .int .i64 32) rfl (by kernel_rfl) (by kernel_rfl) (by kernel_rfl) (by kernel_rfl) (fun _ _ _ h => h) (Or.inl ⟨by rfl, fun w hS => by (first | (go_simp; done) | (go_simp; with_reducible rfl) | (go_simp; rfl))⟩) hHeld ?_
        try simp only [Act.put, List.getElem_toArray, List.getElem_cons_zero, List.getElem_cons_succ, List.setIfInBounds_toArray, List.set_cons_zero, List.set_cons_succ]
        refine wpAnyK_take (i := 9) (v := .int .i64 (n / 4294967296)) rfl (by kernel_rfl) (by kernel_rfl) (by kernel_rfl) (by kernel_rfl) (fun _ _ _ h => h) (Or.inl ⟨by rfl, fun w hS => by (first | (go_simp; done) | (go_simp; with_reducible rfl) | (go_simp; rfl))⟩) hHeld ?_
        try simp only [Act.put, List.getElem_toArray, List.getElem_cons_zero, List.getElem_cons_succ, List.setIfInBounds_toArray, List.set_cons_zero, List.set_cons_succ]
        refine wpAnyK_take (i := 10) (v := .int .u8 (n / 4294967296 % 256)) rfl (by kernel_rfl) (by kernel_rfl) (by kernel_rfl) (by kernel_rfl) (fun _ _ _ h => h) (Or.inl ⟨by rfl, fun w hS => by (first | (go_simp; done) | (go_simp; with_reducible rfl) | (go_simp; rfl))⟩) hHeld ?_
        try simp only [Act.put, List.getElem_toArray, List.getElem_cons_zero, List.getElem_cons_succ, List.setIfInBounds_toArray, List.set_cons_zero, List.set_cons_succ]
        refine wpAnyK_ready (rs := [11]) (by kernel_rfl) (by simp) ?_
        refine AllReadyK.cons rfl (fun K hK => ?_) AllReadyK.nil
        go_simp
        refine hK.out _ _ ?_ (fun hHeld => ?_)
        · exact HWd.out.alloc _
        clear hK K
        try simp only [Act.put, List.getElem_toArray, List.getElem_cons_zero, List.getElem_cons_succ, List.setIfInBounds_toArray, List.set_cons_zero, List.set_cons_succ]
        have HW2 : Hid (WrS (w1.alloc (.cells #[.int .u8 (n / 4294967296 % 256)] 5)) g X u) := Lib.hid (HWd.out.alloc _)
        have HO2 : Hid (Own5 (w1.alloc (.cells #[.int .u8 (n / 4294967296 % 256)] 5)) M u (l ++ lk)) := Lib.hid (own_kept HOd.out ((Below.refl _ w1).alloc (Nat.le_refl _) _) (Nat.le_refl _))
        have HB2 := Lib.hid (one_bts w1 (n / 4294967296 % 256) (nb n 4) (nb4 n))
        refine wpAnyK_ready (rs := [12]) (by kernel_rfl) (by simp) ?_
        refine AllReadyK.cons rfl (fun K hK => ?_) AllReadyK.nil
        (refine En.step5 (.tmp 12) (.tmp 19) rfl rfl (N := M) (l := l ++ lk) (m := [nb n 4]) rfl HO2.out (B := w1.heap.size + 1) (c := 1) rfl HB2.out (by have := HL.out; simp only [List.length_cons, List.length_nil]; omega) (by simp; omega) ?_; intro v6 w6 h6 g6; obtain ⟨A6, c6, rfl, _, _⟩ := own_slice h6)
        refine hK.out _ _ ?_ (fun hHeld => ?_)
        · exact HW2.out.own HO2.out g6
        clear hK K
        try simp only [Act.put, List.getElem_toArray, List.getElem_cons_zero, List.getElem_cons_succ, List.setIfInBounds_toArray, List.set_cons_zero, List.set_cons_succ]
        have HF6 : Hid (Fr g M W w6) := Lib.hid (Fr.app (HFd.out.alloc _) HO2.out g6)
        have HW6 : Hid (WrS w6 g X u) := Lib.hid (HW2.out.own HO2.out g6)
        have HO6 : Hid (Own5 w6 M (.slice A6 (l ++ lk ++ [nb n 4]).length c6) (l ++ lk ++ [nb n 4])) := Lib.hid h6
        clear h6 g6 HW2 HO2 HB2 HWd HOd HFd
        generalize (l ++ lk ++ [nb n 4]).length = n6 at *
        refine wpAnyK_take (i := 13) (v := .pointer (some ⟨g, 0, none⟩)) rfl (by kernel_rfl) (by kernel_rfl) (by kernel_rfl) (by kernel_rfl) (fun _ _ _ h => h) (Or.inl ⟨by rfl, fun w hS => by (have c := hS.b; first | (go_simp; done) | (go_simp; with_reducible rfl))⟩) hHeld ?_
        try simp only [Act.put, List.getElem_toArray, List.getElem_cons_zero, List.getElem_cons_succ, List.setIfInBounds_toArray, List.set_cons_zero, List.set_cons_succ]
        refine wpAnyK_take (i := 14) (v := .pointer (some ⟨g, 109, none⟩)) rfl (by kernel_rfl) (by kernel_rfl) (by kernel_rfl) (by kernel_rfl) (fun _ _ _ h => h) (Or.inl ⟨by rfl, fun w hS => by first | (go_simp; done) | (go_simp; with_reducible rfl)⟩) hHeld ?_
        try simp only [Act.put, List.getElem_toArray, List.getElem_cons_zero, List.getElem_cons_succ, List.setIfInBounds_toArray, List.set_cons_zero, List.set_cons_succ]
        have cb := HW6.out.b
        have cf := HW6.out.froz
        refine wpAnyK_ready (rs := [15]) (by kernel_rfl) (by simp) ?_
        refine AllReadyK.late rfl (by kernel_rfl) (fun K hK => ?_) AllReadyK.nil
        go_simp
        refine hK.out _ _ ?_ (fun _ => ?_)
        · trivial
        clear hK K
        try simp only [Act.put, List.getElem_toArray, List.getElem_cons_zero, List.getElem_cons_succ, List.setIfInBounds_toArray, List.set_cons_zero, List.set_cons_succ]
        refine wpAnyK_done (by kernel_rfl) ?_ _
        go_wp2_with fail
        go_roundw
        case rel => exact ⟨4, by omega, by go_num, Lib.hid (HF6.out.put 109 _), .slice A6 n6 c6, Lib.hid (HW6.out.put (.slice A6 n6 c6)), Lib.hid (by rw [HT.out, ← List.append_assoc]; exact En.own_far HO6.out (fun g' hg' e => En.own_blk HO6.out HW6.out.blk (by decide) (by rw [hg', e])) _)⟩
        case measure => simp [intOf]
      · generalize (eightB n).take 4 = lk at *
        go_wp2_with fail
        have HWd : Hid (WrS wr.drew g X u) := Lib.hid ⟨HW.out.blk, HW.out.len⟩
        have HOd : Hid (Own5 wr.drew M u (l ++ lk)) := Lib.hid HO.out
        have HFd : Hid (Fr g M W wr.drew) := Lib.hid HF.out.drew
        have hszd : W.heap.size ≤ wr.drew.heap.size := hszr
        clear HW HO HF hszr
        refine wp_region_key ((fun Y => WrS Y g X u)) 15 (by kernel_rfl) (HWd.out) (fun hHeld => ?_)
        generalize wr.drew = w1 at *
        refine wpAnyK_take (i := 0) (v := .pointer (some ⟨g, 0, none⟩)) rfl (by kernel_rfl) (by kernel_rfl) (by kernel_rfl) (by kernel_rfl) (fun _ _ _ h => h) (Or.inl ⟨by rfl, fun w hS => by first | (go_simp; done) | (go_simp; with_reducible rfl)⟩) hHeld ?_
        try simp only [Act.put, List.getElem_toArray, List.getElem_cons_zero, List.setIfInBounds_toArray, List.set_cons_zero, List.set_cons_succ]
        refine wpAnyK_take (i := 1) (v := .pointer (some ⟨g, 0, none⟩)) rfl (by kernel_rfl) (by kernel_rfl) (by kernel_rfl) (by kernel_rfl) (fun _ _ _ h => h) (Or.inl ⟨by rfl, fun w hS => by first | (go_simp; done) | (go_simp; with_reducible rfl)⟩) hHeld ?_
        try simp only [Act.put, List.getElem_toArray, List.getElem_cons_zero, List.getElem_cons_succ, List.setIfInBounds_toArray, List.set_cons_zero, List.set_cons_succ]
        refine wpAnyK_take (i := 2) (v := .pointer (some ⟨g, 0, none⟩)) rfl (by kernel_rfl) (by kernel_rfl) (by kernel_rfl) (by kernel_rfl) (fun _ _ _ h => h) (Or.inl ⟨by rfl, fun w hS => by (have c := hS.b; first | (go_simp; done) | (go_simp; with_reducible rfl))⟩) hHeld ?_
        try simp only [Act.put, List.getElem_toArray, List.getElem_cons_zero, List.getElem_cons_succ, List.setIfInBounds_toArray, List.set_cons_zero, List.set_cons_succ]
        refine wpAnyK_take (i := 3) (v := .pointer (some ⟨g, 109, none⟩)) rfl (by kernel_rfl) (by kernel_rfl) (by kernel_rfl) (by kernel_rfl) (fun _ _ _ h => h) (Or.inl ⟨by rfl, fun w hS => by first | (go_simp; done) | (go_simp; with_reducible rfl)⟩) hHeld ?_
        try simp only [Act.put, List.getElem_toArray, List.getElem_cons_zero, List.getElem_cons_succ, List.setIfInBounds_toArray, List.set_cons_zero, List.set_cons_succ]
        refine wpAnyK_take (i := 4) (v := u) rfl (by kernel_rfl) (by kernel_rfl) (by kernel_rfl) (by kernel_rfl) (fun _ _ _ h => h) (Or.inl ⟨by rfl, fun w hS => by (have c := hS.b; first | (go_simp; done) | (go_simp; with_reducible rfl))⟩) hHeld ?_
        try simp only [Act.put, List.getElem_toArray, List.getElem_cons_zero, List.getElem_cons_succ, List.setIfInBounds_toArray, List.set_cons_zero, List.set_cons_succ]
        refine wpAnyK_take (i := 5) (v := .int .i64 n) rfl (by kernel_rfl) (by kernel_rfl) (by kernel_rfl) (by kernel_rfl) (fun _ _ _ h => h) (Or.inl ⟨by rfl, fun w hS => by first | (go_simp; done) | (go_simp; with_reducible rfl)⟩) hHeld ?_
        try simp only [Act.put, List.getElem_toArray, List.getElem_cons_zero, List.getElem_cons_succ, List.setIfInBounds_toArray, List.set_cons_zero, List.set_cons_succ]
        refine wpAnyK_take (i := 6) (v := .int .i64 4) rfl (by kernel_rfl) (by kernel_rfl) (by kernel_rfl) (by kernel_rfl) (fun _ _ _ h => h) (Or.inl ⟨by rfl, fun w hS => by first | (go_simp; done) | (go_simp; with_reducible rfl)⟩) hHeld ?_
        try simp only [Act.put, List.getElem_toArray, List.getElem_cons_zero, List.getElem_cons_succ, List.setIfInBounds_toArray, List.set_cons_zero, List.set_cons_succ]
        refine wpAnyK_take (i := 7) (v := .int .i64 3) rfl (by kernel_rfl) (by kernel_rfl) (by kernel_rfl) (by kernel_rfl) (fun _ _ _ h => h) (Or.inl ⟨by rfl, fun w hS => by (first | (go_simp; done) | (go_simp; with_reducible rfl) | (go_simp; rfl))⟩) hHeld ?_
        try simp only [Act.put, List.getElem_toArray, List.getElem_cons_zero, List.getElem_cons_succ, List.setIfInBounds_toArray, List.set_cons_zero, List.set_cons_succ]
        refine wpAnyK_take (i := 8) (v := .int .i64 24) rfl (by kernel_rfl) (by kernel_rfl) (by kernel_rfl) (by kernel_rfl) (fun _ _ _ h => h) (Or.inl ⟨by rfl, fun w hS => by (first | (go_simp; done) | (go_simp; with_reducible rfl) | (go_simp; rfl))⟩) hHeld ?_
        try simp only [Act.put, List.getElem_toArray, List.getElem_cons_zero, List.getElem_cons_succ, List.setIfInBounds_toArray, List.set_cons_zero, List.set_cons_succ]
        refine wpAnyK_take (i := 9) (v := .int .i64 (n / 16777216)) rfl (by kernel_rfl) (by kernel_rfl) (by kernel_rfl) (by kernel_rfl) (fun _ _ _ h => h) (Or.inl ⟨by rfl, fun w hS => by (first | (go_simp; done) | (go_simp; with_reducible rfl) | (go_simp; rfl))⟩) hHeld ?_
        try simp only [Act.put, List.getElem_toArray, List.getElem_cons_zero, List.getElem_cons_succ, List.setIfInBounds_toArray, List.set_cons_zero, List.set_cons_succ]
        refine wpAnyK_take (i := 10) (v := .int .u8 (n / 16777216 % 256)) rfl (by kernel_rfl) (by kernel_rfl) (by kernel_rfl) (by kernel_rfl) (fun _ _ _ h => h) (Or.inl ⟨by rfl, fun w hS => by (first | (go_simp; done) | (go_simp; with_reducible rfl) | (go_simp; rfl))⟩) hHeld ?_
        try simp only [Act.put, List.getElem_toArray, List.getElem_cons_zero, List.getElem_cons_succ, List.setIfInBounds_toArray, List.set_cons_zero, List.set_cons_succ]
        refine wpAnyK_ready (rs := [11]) (by kernel_rfl) (by simp) ?_
        refine AllReadyK.cons rfl (fun K hK => ?_) AllReadyK.nil
        go_simp
        refine hK.out _ _ ?_ (fun hHeld => ?_)
        · exact HWd.out.alloc _
        clear hK K
        try simp only [Act.put, List.getElem_toArray, List.getElem_cons_zero, List.getElem_cons_succ, List.setIfInBounds_toArray, List.set_cons_zero, List.set_cons_succ]
        have HW2 : Hid (WrS (w1.alloc (.cells #[.int .u8 (n / 16777216 % 256)] 5)) g X u) := Lib.hid (HWd.out.alloc _)
        have HO2 : Hid (Own5 (w1.alloc (.cells #[.int .u8 (n / 16777216 % 256)] 5)) M u (l ++ lk)) := Lib.hid (own_kept HOd.out ((Below.refl _ w1).alloc (Nat.le_refl _) _) (Nat.le_refl _))
        have HB2 := Lib.hid (one_bts w1 (n / 16777216 % 256) (nb n 3) (nb3 n))
        refine wpAnyK_ready (rs := [12]) (by kernel_rfl) (by simp) ?_
        refine AllReadyK.cons rfl (fun K hK => ?_) AllReadyK.nil
        (refine En.step5 (.tmp 12) (.tmp 19) rfl rfl (N := M) (l := l ++ lk) (m := [nb n 3]) rfl HO2.out (B := w1.heap.size + 1) (c := 1) rfl HB2.out (by have := HL.out; simp only [List.length_cons, List.length_nil]; omega) (by simp; omega) ?_; intro v6 w6 h6 g6; obtain ⟨A6, c6, rfl, _, _⟩ := own_slice h6)
        refine hK.out _ _ ?_ (fun hHeld => ?_)
        · exact HW2.out.own HO2.out g6
        clear hK K
        try simp only [Act.put, List.getElem_toArray, List.getElem_cons_zero, List.getElem_cons_succ, List.setIfInBounds_toArray, List.set_cons_zero, List.set_cons_succ]
        have HF6 : Hid (Fr g M W w6) := Lib.hid (Fr.app (HFd.out.alloc _) HO2.out g6)
        have HW6 : Hid (WrS w6 g X u) := Lib.hid (HW2.out.own HO2.out g6)
        have HO6 : Hid (Own5 w6 M (.slice A6 (l ++ lk ++ [nb n 3]).length c6) (l ++ lk ++ [nb n 3])) := Lib.hid h6
        clear h6 g6 HW2 HO2 HB2 HWd HOd HFd
        generalize (l ++ lk ++ [nb n 3]).length = n6 at *
        refine wpAnyK_take (i := 13) (v := .pointer (some ⟨g, 0, none⟩)) rfl (by kernel_rfl) (by kernel_rfl) (by kernel_rfl) (by kernel_rfl) (fun _ _ _ h => h) (Or.inl ⟨by rfl, fun w hS => by (have c := hS.b; first | (go_simp; done) | (go_simp; with_reducible rfl))⟩) hHeld ?_
        try simp only [Act.put, List.getElem_toArray, List.getElem_cons_zero, List.getElem_cons_succ, List.setIfInBounds_toArray, List.set_cons_zero, List.set_cons_succ]
        refine wpAnyK_take (i := 14) (v := .pointer (some ⟨g, 109, none⟩)) rfl (by kernel_rfl) (by kernel_rfl) (by kernel_rfl) (by kernel_rfl) (fun _ _ _ h => h) (Or.inl ⟨by rfl, fun w hS => by first | (go_simp; done) | (go_simp; with_reducible rfl)⟩) hHeld ?_
        try simp only [Act.put, List.getElem_toArray, List.getElem_cons_zero, List.getElem_cons_succ, List.setIfInBounds_toArray, List.set_cons_zero, List.set_cons_succ]
        have cb := HW6.out.b
        have cf := HW6.out.froz
        refine wpAnyK_ready (rs := [15]) (by kernel_rfl) (by simp) ?_
        refine AllReadyK.late rfl (by kernel_rfl) (fun K hK => ?_) AllReadyK.nil
        go_simp
        refine hK.out _ _ ?_ (fun _ => ?_)
        · trivial
        clear hK K
        try simp only [Act.put, List.getElem_toArray, List.getElem_cons_zero, List.getElem_cons_succ, List.setIfInBounds_toArray, List.set_cons_zero, List.set_cons_succ]
        refine wpAnyK_done (by kernel_rfl) ?_ _
        go_wp2_with fail
        go_roundw
        case rel => exact ⟨5, by omega, by go_num, Lib.hid (HF6.out.put 109 _), .slice A6 n6 c6, Lib.hid (HW6.out.put (.slice A6 n6 c6)), Lib.hid (by rw [HT.out, ← List.append_assoc]; exact En.own_far HO6.out (fun g' hg' e => En.own_blk HO6.out HW6.out.blk (by decide) (by rw [hg', e])) _)⟩
        case measure => simp [intOf]
      · generalize (eightB n).take 5 = lk at *
        go_wp2_with fail
        have HWd : Hid (WrS wr.drew g X u) := Lib.hid ⟨HW.out.blk, HW.out.len⟩
        have HOd : Hid (Own5 wr.drew M u (l ++ lk)) := Lib.hid HO.out
        have HFd : Hid (Fr g M W wr.drew) := Lib.hid HF.out.drew
        have hszd : W.heap.size ≤ wr.drew.heap.size := hszr
        clear HW HO HF hszr
        refine wp_region_key ((fun Y => WrS Y g X u)) 15 (by kernel_rfl) (HWd.out) (fun hHeld => ?_)
        generalize wr.drew = w1 at *
        refine wpAnyK_take (i := 0) (v := .pointer (some ⟨g, 0, none⟩)) rfl (by kernel_rfl) (by kernel_rfl) (by kernel_rfl) (by kernel_rfl) (fun _ _ _ h => h) (Or.inl ⟨by rfl, fun w hS => by first | (go_simp; done) | (go_simp; with_reducible rfl)⟩) hHeld ?_
        try simp only [Act.put, List.getElem_toArray, List.getElem_cons_zero, List.setIfInBounds_toArray, List.set_cons_zero, List.set_cons_succ]
        refine wpAnyK_take (i := 1) (v := .pointer (some ⟨g, 0, none⟩)) rfl (by kernel_rfl) (by kernel_rfl) (by kernel_rfl) (by kernel_rfl) (fun _ _ _ h => h) (Or.inl ⟨by rfl, fun w hS => by first | (go_simp; done) | (go_simp; with_reducible rfl)⟩) hHeld ?_
        try simp only [Act.put, List.getElem_toArray, List.getElem_cons_zero, List.getElem_cons_succ, List.setIfInBounds_toArray, List.set_cons_zero, List.set_cons_succ]
        refine wpAnyK_take (i := 2) (v := .pointer (some ⟨g, 0, none⟩)) rfl (by kernel_rfl) (by kernel_rfl) (by kernel_rfl) (by kernel_rfl) (fun _ _ _ h => h) (Or.inl ⟨by rfl, fun w hS => by (have c := hS.b; first | (go_simp; done) | (go_simp; with_reducible rfl))⟩) hHeld ?_
        try simp only [Act.put, List.getElem_toArray, List.getElem_cons_zero, List.getElem_cons_succ, List.setIfInBounds_toArray, List.set_cons_zero, List.set_cons_succ]
        refine wpAnyK_take (i := 3) (v := .pointer (some ⟨g, 109, none⟩)) rfl (by kernel_rfl) (by kernel_rfl) (by kernel_rfl) (by kernel_rfl) (fun _ _ _ h => h) (Or.inl ⟨by rfl, fun w hS => by first | (go_simp; done) | (go_simp; with_reducible rfl)⟩) hHeld ?_
        try simp only [Act.put, List.getElem_toArray, List.getElem_cons_zero, List.getElem_cons_succ, List.setIfInBounds_toArray, List.set_cons_zero, List.set_cons_succ]
        refine wpAnyK_take (i := 4) (v := u) rfl (by kernel_rfl) (by kernel_rfl) (by kernel_rfl) (by kernel_rfl) (fun _ _ _ h => h) (Or.inl ⟨by rfl, fun w hS => by (have c := hS.b; first | (go_simp; done) | (go_simp; with_reducible rfl))⟩) hHeld ?_
        try simp only [Act.put, List.getElem_toArray, List.getElem_cons_zero, List.getElem_cons_succ, List.setIfInBounds_toArray, List.set_cons_zero, List.set_cons_succ]
        refine wpAnyK_take (i := 5) (v := .int .i64 n) rfl (by kernel_rfl) (by kernel_rfl) (by kernel_rfl) (by kernel_rfl) (fun _ _ _ h => h) (Or.inl ⟨by rfl, fun w hS => by first | (go_simp; done) | (go_simp; with_reducible rfl)⟩) hHeld ?_
        try simp only [Act.put, List.getElem_toArray, List.getElem_cons_zero, List.getElem_cons_succ, List.setIfInBounds_toArray, List.set_cons_zero, List.set_cons_succ]
        refine wpAnyK_take (i := 6) (v := .int .i64 5) rfl (by kernel_rfl) (by kernel_rfl) (by kernel_rfl) (by kernel_rfl) (fun _ _ _ h => h) (Or.inl ⟨by rfl, fun w hS => by first | (go_simp; done) | (go_simp; with_reducible rfl)⟩) hHeld ?_
        try simp only [Act.put, List.getElem_toArray, List.getElem_cons_zero, List.getElem_cons_succ, List.setIfInBounds_toArray, List.set_cons_zero, List.set_cons_succ]
        refine wpAnyK_take (i := 7) (v := .int .i64 2) rfl (by kernel_rfl) (by kernel_rfl) (by kernel_rfl) (by kernel_rfl) (fun _ _ _ h => h) (Or.inl ⟨by rfl, fun w hS => by (first | (go_simp; done) | (go_simp; with_reducible rfl) | (go_simp; rfl))⟩) hHeld ?_
        try simp only [Act.put, List.getElem_toArray, List.getElem_cons_zero, List.getElem_cons_succ, List.setIfInBounds_toArray, List.set_cons_zero, List.set_cons_succ]
        refine wpAnyK_take (i := 8) (v := .int .i64 16) rfl (by kernel_rfl) (by kernel_rfl) (by kernel_rfl) (by kernel_rfl) (fun _ _ _ h => h) (Or.inl ⟨by rfl, fun w hS => by (first | (go_simp; done) | (go_simp; with_reducible rfl) | (go_simp; rfl))⟩) hHeld ?_
        try simp only [Act.put, List.getElem_toArray, List.getElem_cons_zero, List.getElem_cons_succ, List.setIfInBounds_toArray, List.set_cons_zero, List.set_cons_succ]
        refine wpAnyK_take (i := 9) (v := .int .i64 (n / 65536)) rfl (by kernel_rfl) (by kernel_rfl) (by kernel_rfl) (by kernel_rfl) (fun _ _ _ h => h) (Or.inl ⟨by rfl, fun w hS => by (first | (go_simp; done) | (go_simp; with_reducible rfl) | (go_simp; rfl))⟩) hHeld ?_
        try simp only [Act.put, List.getElem_toArray, List.getElem_cons_zero, List.getElem_cons_succ, List.setIfInBounds_toArray, List.set_cons_zero, List.set_cons_succ]
        refine wpAnyK_take (i := 10) (v := .int .u8 (n / 65536 % 256)) rfl (by kernel_rfl) (by kernel_rfl) (by kernel_rfl) (by kernel_rfl) (fun _ _ _ h => h) (Or.inl ⟨by rfl, fun w hS => by (first | (go_simp; done) | (go_simp; with_reducible rfl) | (go_simp; rfl))⟩) hHeld ?_
        try simp only [Act.put, List.getElem_toArray, List.getElem_cons_zero, List.getElem_cons_succ, List.setIfInBounds_toArray, List.set_cons_zero, List.set_cons_succ]
        refine wpAnyK_ready (rs := [11]) (by kernel_rfl) (by simp) ?_
        refine AllReadyK.cons rfl (fun K hK => ?_) AllReadyK.nil
        go_simp
        refine hK.out _ _ ?_ (fun hHeld => ?_)
        · exact HWd.out.alloc _
        clear hK K
        try simp only [Act.put, List.getElem_toArray, List.getElem_cons_zero, List.getElem_cons_succ, List.setIfInBounds_toArray, List.set_cons_zero, List.set_cons_succ]
        have HW2 : Hid (WrS (w1.alloc (.cells #[.int .u8 (n / 65536 % 256)] 5)) g X u) := Lib.hid (HWd.out.alloc _)
        have HO2 : Hid (Own5 (w1.alloc (.cells #[.int .u8 (n / 65536 % 256)] 5)) M u (l ++ lk)) := Lib.hid (own_kept HOd.out ((Below.refl _ w1).alloc (Nat.le_refl _) _) (Nat.le_refl _))
        have HB2 := Lib.hid (one_bts w1 (n / 65536 % 256) (nb n 2) (nb2 n))
        refine wpAnyK_ready (rs := [12]) (by kernel_rfl) (by simp) ?_
        refine AllReadyK.cons rfl (fun K hK => ?_) AllReadyK.nil
        (refine En.step5 (.tmp 12) (.tmp 19) rfl rfl (N := M) (l := l ++ lk) (m := [nb n 2]) rfl HO2.out (B := w1.heap.size + 1) (c := 1) rfl HB2.out (by have := HL.out; simp only [List.length_cons, List.length_nil]; omega) (by simp; omega) ?_; intro v6 w6 h6 g6; obtain ⟨A6, c6, rfl, _, _⟩ := own_slice h6)
        refine hK.out _ _ ?_ (fun hHeld => ?_)
        · exact HW2.out.own HO2.out g6
        clear hK K
        try simp only [Act.put, List.getElem_toArray, List.getElem_cons_zero, List.getElem_cons_succ, List.setIfInBounds_toArray, List.set_cons_zero, List.set_cons_succ]
        have HF6 : Hid (Fr g M W w6) := Lib.hid (Fr.app (HFd.out.alloc _) HO2.out g6)
        have HW6 : Hid (WrS w6 g X u) := Lib.hid (HW2.out.own HO2.out g6)
        have HO6 : Hid (Own5 w6 M (.slice A6 (l ++ lk ++ [nb n 2]).length c6) (l ++ lk ++ [nb n 2])) := Lib.hid h6
        clear h6 g6 HW2 HO2 HB2 HWd HOd HFd
        generalize (l ++ lk ++ [nb n 2]).length = n6 at *
        refine wpAnyK_take (i := 13) (v := .pointer (some ⟨g, 0, none⟩)) rfl (by kernel_rfl) (by kernel_rfl) (by kernel_rfl) (by kernel_rfl) (fun _ _ _ h => h) (Or.inl ⟨by rfl, fun w hS => by (have c := hS.b; first | (go_simp; done) | (go_simp; with_reducible rfl))⟩) hHeld ?_
        try simp only [Act.put, List.getElem_toArray, List.getElem_cons_zero, List.getElem_cons_succ, List.setIfInBounds_toArray, List.set_cons_zero, List.set_cons_succ]
        refine wpAnyK_take (i := 14) (v := .pointer (some ⟨g, 109, none⟩)) rfl (by kernel_rfl) (by kernel_rfl) (by kernel_rfl) (by kernel_rfl) (fun _ _ _ h => h) (Or.inl ⟨by rfl, fun w hS => by first | (go_simp; done) | (go_simp; with_reducible rfl)⟩) hHeld ?_
        try simp only [Act.put, List.getElem_toArray, List.getElem_cons_zero, List.getElem_cons_succ, List.setIfInBounds_toArray, List.set_cons_zero, List.set_cons_succ]
        have cb := HW6.out.b
        have cf := HW6.out.froz
        refine wpAnyK_ready (rs := [15]) (by kernel_rfl) (by simp) ?_
        refine AllReadyK.late rfl (by kernel_rfl) (fun K hK => ?_) AllReadyK.nil
        go_simp
        refine hK.out _ _ ?_ (fun _ => ?_)
        · trivial
        clear hK K
        try simp only [Act.put, List.getElem_toArray, List.getElem_cons_zero, List.getElem_cons_succ, List.setIfInBounds_toArray, List.set_cons_zero, List.set_cons_succ]
        refine wpAnyK_done (by kernel_rfl) ?_ _
        go_wp2_with fail
        go_roundw
        case rel => exact ⟨6, by omega, by go_num, Lib.hid (HF6.out.put 109 _), .slice A6 n6 c6, Lib.hid (HW6.out.put (.slice A6 n6 c6)), Lib.hid (by rw [HT.out, ← List.append_assoc]; exact En.own_far HO6.out (fun g' hg' e => En.own_blk HO6.out HW6.out.blk (by decide) (by rw [hg', e])) _)⟩
        case measure => simp [intOf]
      · generalize (eightB n).take 6 = lk at *
        go_wp2_with fail
        have HWd : Hid (WrS wr.drew g X u) := Lib.hid ⟨HW.out.blk, HW.out.len⟩
        have HOd : Hid (Own5 wr.drew M u (l ++ lk)) := Lib.hid HO.out
        have HFd : Hid (Fr g M W wr.drew) := Lib.hid HF.out.drew
        have hszd : W.heap.size ≤ wr.drew.heap.size := hszr
        clear HW HO HF hszr
        refine wp_region_key ((fun Y => WrS Y g X u)) 15 (by kernel_rfl) (HWd.out) (fun hHeld => ?_)
        generalize wr.drew = w1 at *
        refine wpAnyK_take (i := 0) (v := .pointer (some ⟨g, 0, none⟩)) rfl (by kernel_rfl) (by kernel_rfl) (by kernel_rfl) (by kernel_rfl) (fun _ _ _ h => h) (Or.inl ⟨by rfl, fun w hS => by first | (go_simp; done) | (go_simp; with_reducible rfl)⟩) hHeld ?_
        try simp only [Act.put, List.getElem_toArray, List.getElem_cons_zero, List.setIfInBounds_toArray, List.set_cons_zero, List.set_cons_succ]
        refine wpAnyK_take (i := 1) (v := .pointer (some ⟨g, 0, none⟩)) rfl (by kernel_rfl) (by kernel_rfl) (by kernel_rfl) (by kernel_rfl) (fun _ _ _ h => h) (Or.inl ⟨by rfl, fun w hS => by first | (go_simp; done) | (go_simp; with_reducible rfl)⟩) hHeld ?_
        try simp only [Act.put, List.getElem_toArray, List.getElem_cons_zero, List.getElem_cons_succ, List.setIfInBounds_toArray, List.set_cons_zero, List.set_cons_succ]
        refine wpAnyK_take (i := 2) (v := .pointer (some ⟨g, 0, none⟩)) rfl (by kernel_rfl) (by kernel_rfl) (by kernel_rfl) (by kernel_rfl) (fun _ _ _ h => h) (Or.inl ⟨by rfl, fun w hS => by (have c := hS.b; first | (go_simp; done) | (go_simp; with_reducible rfl))⟩) hHeld ?_
        try simp only [Act.put, List.getElem_toArray, List.getElem_cons_zero, List.getElem_cons_succ, List.setIfInBounds_toArray, List.set_cons_zero, List.set_cons_succ]
        refine wpAnyK_take (i := 3) (v := .pointer (some ⟨g, 109, none⟩)) rfl (by kernel_rfl) (by kernel_rfl) (by kernel_rfl) (by kernel_rfl) (fun _ _ _ h => h) (Or.inl ⟨by rfl, fun w hS => by first | (go_simp; done) | (go_simp; with_reducible rfl)⟩) hHeld ?_
        try simp only [Act.put, List.getElem_toArray, List.getElem_cons_zero, List.getElem_cons_succ, List.setIfInBounds_toArray, List.set_cons_zero, List.set_cons_succ]
        refine wpAnyK_take (i := 4) (v := u) rfl (by kernel_rfl) (by kernel_rfl) (by kernel_rfl) (by kernel_rfl) (fun _ _ _ h => h) (Or.inl ⟨by rfl, fun w hS => by (have c := hS.b; first | (go_simp; done) | (go_simp; with_reducible rfl))⟩) hHeld ?_
        try simp only [Act.put, List.getElem_toArray, List.getElem_cons_zero, List.getElem_cons_succ, List.setIfInBounds_toArray, List.set_cons_zero, List.set_cons_succ]
        refine wpAnyK_take (i := 5) (v := .int .i64 n) rfl (by kernel_rfl) (by kernel_rfl) (by kernel_rfl) (by kernel_rfl) (fun _ _ _ h => h) (Or.inl ⟨by rfl, fun w hS => by first | (go_simp; done) | (go_simp; with_reducible rfl)⟩) hHeld ?_
        try simp only [Act.put, List.getElem_toArray, List.getElem_cons_zero, List.getElem_cons_succ, List.setIfInBounds_toArray, List.set_cons_zero, List.set_cons_succ]
        refine wpAnyK_take (i := 6) (v := .int .i64 6) rfl (by kernel_rfl) (by kernel_rfl) (by kernel_rfl) (by kernel_rfl) (fun _ _ _ h => h) (Or.inl ⟨by rfl, fun w hS => by first | (go_simp; done) | (go_simp; with_reducible rfl)⟩) hHeld ?_
        try simp only [Act.put, List.getElem_toArray, List.getElem_cons_zero, List.getElem_cons_succ, List.setIfInBounds_toArray, List.set_cons_zero, List.set_cons_succ]
        refine wpAnyK_take (i := 7) (v := .int .i64 1) rfl (by kernel_rfl) (by kernel_rfl) (by kernel_rfl) (by kernel_rfl) (fun _ _ _ h => h) (Or.inl ⟨by rfl, fun w hS => by (first | (go_simp; done) | (go_simp; with_reducible rfl) | (go_simp; rfl))⟩) hHeld ?_
        try simp only [Act.put, List.getElem_toArray, List.getElem_cons_zero, List.getElem_cons_succ, List.setIfInBounds_toArray, List.set_cons_zero, List.set_cons_succ]
        refine wpAnyK_take (i := 8) (v := .int .i64 8) rfl (by kernel_rfl) (by kernel_rfl) (by kernel_rfl) (by kernel_rfl) (fun _ _ _ h => h) (Or.inl ⟨by rfl, fun w hS => by (first | (go_simp; done) | (go_simp; with_reducible rfl) | (go_simp; rfl))⟩) hHeld ?_
        try simp only [Act.put, List.getElem_toArray, List.getElem_cons_zero, List.getElem_cons_succ, List.setIfInBounds_toArray, List.set_cons_zero, List.set_cons_succ]
        refine wpAnyK_take (i := 9) (v := .int .i64 (n / 256)) rfl (by kernel_rfl) (by kernel_rfl) (by kernel_rfl) (by kernel_rfl) (fun _ _ _ h => h) (Or.inl ⟨by rfl, fun w hS => by (first | (go_simp; done) | (go_simp; with_reducible rfl) | (go_simp; rfl))⟩) hHeld ?_
        try simp only [Act.put, List.getElem_toArray, List.getElem_cons_zero, List.getElem_cons_succ, List.setIfInBounds_toArray, List.set_cons_zero, List.set_cons_succ]
        refine wpAnyK_take (i := 10) (v := .int .u8 (n / 256 % 256)) rfl (by kernel_rfl) (by kernel_rfl) (by kernel_rfl) (by kernel_rfl) (fun _ _ _ h => h) (Or.inl ⟨by rfl, fun w hS => by (first | (go_simp; done) | (go_simp; with_reducible rfl) | (go_simp; rfl))⟩) hHeld ?_
        try simp only [Act.put, List.getElem_toArray, List.getElem_cons_zero, List.getElem_cons_succ, List.setIfInBounds_toArray, List.set_cons_zero, List.set_cons_succ]
        refine wpAnyK_ready (rs := [11]) (by kernel_rfl) (by simp) ?_
        refine AllReadyK.cons rfl (fun K hK => ?_) AllReadyK.nil
        go_simp
        refine hK.out _ _ ?_ (fun hHeld => ?_)
        · exact HWd.out.alloc _
        clear hK K
        try simp only [Act.put, List.getElem_toArray, List.getElem_cons_zero, List.getElem_cons_succ, List.setIfInBounds_toArray, List.set_cons_zero, List.set_cons_succ]
        have HW2 : Hid (WrS (w1.alloc (.cells #[.int .u8 (n / 256 % 256)] 5)) g X u) := Lib.hid (HWd.out.alloc _)
        have HO2 : Hid (Own5 (w1.alloc (.cells #[.int .u8 (n / 256 % 256)] 5)) M u (l ++ lk)) := Lib.hid (own_kept HOd.out ((Below.refl _ w1).alloc (Nat.le_refl _) _) (Nat.le_refl _))
        have HB2 := Lib.hid (one_bts w1 (n / 256 % 256) (nb n 1) (nb1 n))
        refine wpAnyK_ready (rs := [12]) (by kernel_rfl) (by simp) ?_
        refine AllReadyK.cons rfl (fun K hK => ?_) AllReadyK.nil
        (refine En.step5 (.tmp 12) (.tmp 19) rfl rfl (N := M) (l := l ++ lk) (m := [nb n 1]) rfl HO2.out (B := w1.heap.size + 1) (c := 1) rfl HB2.out (by have := HL.out; simp only [List.length_cons, List.length_nil]; omega) (by simp; omega) ?_; intro v6 w6 h6 g6; obtain ⟨A6, c6, rfl, _, _⟩ := own_slice h6)
        refine hK.out _ _ ?_ (fun hHeld => ?_)
        · exact HW2.out.own HO2.out g6
        clear hK K
        try simp only [Act.put, List.getElem_toArray, List.getElem_cons_zero, List.getElem_cons_succ, List.setIfInBounds_toArray, List.set_cons_zero, List.set_cons_succ]
        have HF6 : Hid (Fr g M W w6) := Lib.hid (Fr.app (HFd.out.alloc _) HO2.out g6)
        have HW6 : Hid (WrS w6 g X u) := Lib.hid (HW2.out.own HO2.out g6)
        have HO6 : Hid (Own5 w6 M (.slice A6 (l ++ lk ++ [nb n 1]).length c6) (l ++ lk ++ [nb n 1])) := Lib.hid h6
        clear h6 g6 HW2 HO2 HB2 HWd HOd HFd
        generalize (l ++ lk ++ [nb n 1]).length = n6 at *
        refine wpAnyK_take (i := 13) (v := .pointer (some ⟨g, 0, none⟩)) rfl (by kernel_rfl) (by kernel_rfl) (by kernel_rfl) (by kernel_rfl) (fun _ _ _ h => h) (Or.inl ⟨by rfl, fun w hS => by (have c := hS.b; first | (go_simp; done) | (go_simp; with_reducible rfl))⟩) hHeld ?_
        try simp only [Act.put, List.getElem_toArray, List.getElem_cons_zero, List.getElem_cons_succ, List.setIfInBounds_toArray, List.set_cons_zero, List.set_cons_succ]
        refine wpAnyK_take (i := 14) (v := .pointer (some ⟨g, 109, none⟩)) rfl (by kernel_rfl) (by kernel_rfl) (by kernel_rfl) (by kernel_rfl) (fun _ _ _ h => h) (Or.inl ⟨by rfl, fun w hS => by first | (go_simp; done) | (go_simp; with_reducible rfl)⟩) hHeld ?_
        try simp only [Act.put, List.getElem_toArray, List.getElem_cons_zero, List.getElem_cons_succ, List.setIfInBounds_toArray, List.set_cons_zero, List.set_cons_succ]
        have cb := HW6.out.b
        have cf := HW6.out.froz
        refine wpAnyK_ready (rs := [15]) (by kernel_rfl) (by simp) ?_
        refine AllReadyK.late rfl (by kernel_rfl) (fun K hK => ?_) AllReadyK.nil
        go_simp
        refine hK.out _ _ ?_ (fun _ => ?_)
        · trivial
        clear hK K
        try simp only [Act.put, List.getElem_toArray, List.getElem_cons_zero, List.getElem_cons_succ, List.setIfInBounds_toArray, List.set_cons_zero, List.set_cons_succ]
        refine wpAnyK_done (by kernel_rfl) ?_ _
        go_wp2_with fail
        go_roundw
        case rel => exact ⟨7, by omega, by go_num, Lib.hid (HF6.out.put 109 _), .slice A6 n6 c6, Lib.hid (HW6.out.put (.slice A6 n6 c6)), Lib.hid (by rw [HT.out, ← List.append_assoc]; exact En.own_far HO6.out (fun g' hg' e => En.own_blk HO6.out HW6.out.blk (by decide) (by rw [hg', e])) _)⟩
        case measure => simp [intOf]
      · generalize (eightB n).take 7 = lk at *
        go_wp2_with fail
        have HWd : Hid (WrS wr.drew g X u) := Lib.hid ⟨HW.out.blk, HW.out.len⟩
        have HOd : Hid (Own5 wr.drew M u (l ++ lk)) := Lib.hid HO.out
        have HFd : Hid (Fr g M W wr.drew) := Lib.hid HF.out.drew
        have hszd : W.heap.size ≤ wr.drew.heap.size := hszr
        clear HW HO HF hszr
        refine wp_region_key ((fun Y => WrS Y g X u)) 15 (by kernel_rfl) (HWd.out) (fun hHeld => ?_)
        generalize wr.drew = w1 at *
        refine wpAnyK_take (i := 0) (v := .pointer (some ⟨g, 0, none⟩)) rfl (by kernel_rfl) (by kernel_rfl) (by kernel_rfl) (by kernel_rfl) (fun _ _ _ h => h) (Or.inl ⟨by rfl, fun w hS => by first | (go_simp; done) | (go_simp; with_reducible rfl)⟩) hHeld ?_
        try simp only [Act.put, List.getElem_toArray, List.getElem_cons_zero, List.setIfInBounds_toArray, List.set_cons_zero, List.set_cons_succ]
        refine wpAnyK_take (i := 1) (v := .pointer (some ⟨g, 0, none⟩)) rfl (by kernel_rfl) (by kernel_rfl) (by kernel_rfl) (by kernel_rfl) (fun _ _ _ h => h) (Or.inl ⟨by rfl, fun w hS => by first | (go_simp; done) | (go_simp; with_reducible rfl)⟩) hHeld ?_
        try simp only [Act.put, List.getElem_toArray, List.getElem_cons_zero, List.getElem_cons_succ, List.setIfInBounds_toArray, List.set_cons_zero, List.set_cons_succ]
        refine wpAnyK_take (i := 2) (v := .pointer (some ⟨g, 0, none⟩)) rfl (by kernel_rfl) (by kernel_rfl) (by kernel_rfl) (by kernel_rfl) (fun _ _ _ h => h) (Or.inl ⟨by rfl, fun w hS => by (have c := hS.b; first | (go_simp; done) | (go_simp; with_reducible rfl))⟩) hHeld ?_
        try simp only [Act.put, List.getElem_toArray, List.getElem_cons_zero, List.getElem_cons_succ, List.setIfInBounds_toArray, List.set_cons_zero, List.set_cons_succ]
        refine wpAnyK_take (i := 3) (v := .pointer (some ⟨g, 109, none⟩)) rfl (by kernel_rfl) (by kernel_rfl) (by kernel_rfl) (by kernel_rfl) (fun _ _ _ h => h) (Or.inl ⟨by rfl, fun w hS => by first | (go_simp; done) | (go_simp; with_reducible rfl)⟩) hHeld ?_
        try simp only [Act.put, List.getElem_toArray, List.getElem_cons_zero, List.getElem_cons_succ, List.setIfInBounds_toArray, List.set_cons_zero, List.set_cons_succ]
        refine wpAnyK_take (i := 4) (v := u) rfl (by kernel_rfl) (by kernel_rfl) (by kernel_rfl) (by kernel_rfl) (fun _ _ _ h => h) (Or.inl ⟨by rfl, fun w hS => by (have c := hS.b; first | (go_simp; done) | (go_simp; with_reducible rfl))⟩) hHeld ?_
        try simp only [Act.put, List.getElem_toArray, List.getElem_cons_zero, List.getElem_cons_succ, List.setIfInBounds_toArray, List.set_cons_zero, List.set_cons_succ]
        refine wpAnyK_take (i := 5) (v := .int .i64 n) rfl (by kernel_rfl) (by kernel_rfl) (by kernel_rfl) (by kernel_rfl) (fun _ _ _ h => h) (Or.inl ⟨by rfl, fun w hS => by first | (go_simp; done) | (go_simp; with_reducible rfl)⟩) hHeld ?_
        try simp only [Act.put, List.getElem_toArray, List.getElem_cons_zero, List.getElem_cons_succ, List.setIfInBounds_toArray, List.set_cons_zero, List.set_cons_succ]
        refine wpAnyK_take (i := 6) (v := .int .i64 7) rfl (by kernel_rfl) (by kernel_rfl) (by kernel_rfl) (by kernel_rfl) (fun _ _ _ h => h) (Or.inl ⟨by rfl, fun w hS => by first | (go_simp; done) | (go_simp; with_reducible rfl)⟩) hHeld ?_
        try simp only [Act.put, List.getElem_toArray, List.getElem_cons_zero, List.getElem_cons_succ, List.setIfInBounds_toArray, List.set_cons_zero, List.set_cons_succ]
        refine wpAnyK_take (i := 7) (v := .int .i64 0) rfl (by kernel_rfl) (by kernel_rfl) (by kernel_rfl) (by kernel_rfl) (fun _ _ _ h => h) (Or.inl ⟨by rfl, fun w hS => by (first | (go_simp; done) | (go_simp; with_reducible rfl) | (go_simp; rfl))⟩) hHeld ?_
        try simp only [Act.put, List.getElem_toArray, List.getElem_cons_zero, List.getElem_cons_succ, List.setIfInBounds_toArray, List.set_cons_zero, List.set_cons_succ]
        refine wpAnyK_take (i := 8) (v := .int .i64 0) rfl (by kernel_rfl) (by kernel_rfl) (by kernel_rfl) (by kernel_rfl) (fun _ _ _ h => h) (Or.inl ⟨by rfl, fun w hS => by (first | (go_simp; done) | (go_simp; with_reducible rfl) | (go_simp; rfl))⟩) hHeld ?_
        try simp only [Act.put, List.getElem_toArray, List.getElem_cons_zero, List.getElem_cons_succ, List.setIfInBounds_toArray, List.set_cons_zero, List.set_cons_succ]
        refine wpAnyK_take (i := 9) (v := .int .i64 n) rfl (by kernel_rfl) (by kernel_rfl) (by kernel_rfl) (by kernel_rfl) (fun _ _ _ h => h) (Or.inl ⟨by rfl, fun w hS => by (first | (go_simp; done) | (go_simp; with_reducible rfl) | (go_simp; rfl))⟩) hHeld ?_
        try simp only [Act.put, List.getElem_toArray, List.getElem_cons_zero, List.getElem_cons_succ, List.setIfInBounds_toArray, List.set_cons_zero, List.set_cons_succ]
        refine wpAnyK_take (i := 10) (v := .int .u8 (n % 256)) rfl (by kernel_rfl) (by kernel_rfl) (by kernel_rfl) (by kernel_rfl) (fun _ _ _ h => h) (Or.inl ⟨by rfl, fun w hS => by (first | (go_simp; done) | (go_simp; with_reducible rfl) | (go_simp; rfl))⟩) hHeld ?_
        try simp only [Act.put, List.getElem_toArray, List.getElem_cons_zero, List.getElem_cons_succ, List.setIfInBounds_toArray, List.set_cons_zero, List.set_cons_succ]
        refine wpAnyK_ready (rs := [11]) (by kernel_rfl) (by simp) ?_
        refine AllReadyK.cons rfl (fun K hK => ?_) AllReadyK.nil
        go_simp
        refine hK.out _ _ ?_ (fun hHeld => ?_)
        · exact HWd.out.alloc _
        clear hK K
        try simp only [Act.put, List.getElem_toArray, List.getElem_cons_zero, List.getElem_cons_succ, List.setIfInBounds_toArray, List.set_cons_zero, List.set_cons_succ]
        have HW2 : Hid (WrS (w1.alloc (.cells #[.int .u8 (n % 256)] 5)) g X u) := Lib.hid (HWd.out.alloc _)
        have HO2 : Hid (Own5 (w1.alloc (.cells #[.int .u8 (n % 256)] 5)) M u (l ++ lk)) := Lib.hid (own_kept HOd.out ((Below.refl _ w1).alloc (Nat.le_refl _) _) (Nat.le_refl _))
        have HB2 := Lib.hid (one_bts w1 (n % 256) (nb n 0) (nb0 n))
        refine wpAnyK_ready (rs := [12]) (by kernel_rfl) (by simp) ?_
        refine AllReadyK.cons rfl (fun K hK => ?_) AllReadyK.nil
        (refine En.step5 (.tmp 12) (.tmp 19) rfl rfl (N := M) (l := l ++ lk) (m := [nb n 0]) rfl HO2.out (B := w1.heap.size + 1) (c := 1) rfl HB2.out (by have := HL.out; simp only [List.length_cons, List.length_nil]; omega) (by simp; omega) ?_; intro v6 w6 h6 g6; obtain ⟨A6, c6, rfl, _, _⟩ := own_slice h6)
        refine hK.out _ _ ?_ (fun hHeld => ?_)
        · exact HW2.out.own HO2.out g6
        clear hK K
        try simp only [Act.put, List.getElem_toArray, List.getElem_cons_zero, List.getElem_cons_succ, List.setIfInBounds_toArray, List.set_cons_zero, List.set_cons_succ]
        have HF6 : Hid (Fr g M W w6) := Lib.hid (Fr.app (HFd.out.alloc _) HO2.out g6)
        have HW6 : Hid (WrS w6 g X u) := Lib.hid (HW2.out.own HO2.out g6)
        have HO6 : Hid (Own5 w6 M (.slice A6 (l ++ lk ++ [nb n 0]).length c6) (l ++ lk ++ [nb n 0])) := Lib.hid h6
        clear h6 g6 HW2 HO2 HB2 HWd HOd HFd
        generalize (l ++ lk ++ [nb n 0]).length = n6 at *
        refine wpAnyK_take (i := 13) (v := .pointer (some ⟨g, 0, none⟩)) rfl (by kernel_rfl) (by kernel_rfl) (by kernel_rfl) (by kernel_rfl) (fun _ _ _ h => h) (Or.inl ⟨by rfl, fun w hS => by (have c := hS.b; first | (go_simp; done) | (go_simp; with_reducible rfl))⟩) hHeld ?_
        try simp only [Act.put, List.getElem_toArray, List.getElem_cons_zero, List.getElem_cons_succ, List.setIfInBounds_toArray, List.set_cons_zero, List.set_cons_succ]
        refine wpAnyK_take (i := 14) (v := .pointer (some ⟨g, 109, none⟩)) rfl (by kernel_rfl) (by kernel_rfl) (by kernel_rfl) (by kernel_rfl) (fun _ _ _ h => h) (Or.inl ⟨by rfl, fun w hS => by first | (go_simp; done) | (go_simp; with_reducible rfl)⟩) hHeld ?_
        try simp only [Act.put, List.getElem_toArray, List.getElem_cons_zero, List.getElem_cons_succ, List.setIfInBounds_toArray, List.set_cons_zero, List.set_cons_succ]
        have cb := HW6.out.b
        have cf := HW6.out.froz
        refine wpAnyK_ready (rs := [15]) (by kernel_rfl) (by simp) ?_
        refine AllReadyK.late rfl (by kernel_rfl) (fun K hK => ?_) AllReadyK.nil
        go_simp
        refine hK.out _ _ ?_ (fun _ => ?_)
        · trivial
        clear hK K
        try simp only [Act.put, List.getElem_toArray, List.getElem_cons_zero, List.getElem_cons_succ, List.setIfInBounds_toArray, List.set_cons_zero, List.set_cons_succ]
        refine wpAnyK_done (by kernel_rfl) ?_ _
        go_wp2_with fail
        go_roundw
        case rel => exact ⟨8, by omega, by go_num, Lib.hid (HF6.out.put 109 _), .slice A6 n6 c6, Lib.hid (HW6.out.put (.slice A6 n6 c6)), Lib.hid (by rw [HT.out, ← List.append_assoc]; exact En.own_far HO6.out (fun g' hg' e => En.own_blk HO6.out HW6.out.blk (by decide) (by rw [hg', e])) _)⟩
        case measure => simp [intOf]
    · obtain rfl : k = 8 := by omega
      go_wp2_with fail
      go_end0
      exact ⟨rfl, HF.out, u, HW.out, by rw [← HE8.out]; exact HO.out⟩
set_option maxHeartbeats 3200000 in
theorem wmessage_any {W : World} {g M B : Nat} {X : List Value} {vb : Value} {l : L} {r : R} (hW : WrS W g X vb) (hO : Own5 W M vb l) (hR : RecAt W B X r) (hB : B ≤ g) (hM : M ≤ W.heap.size) (hs : SmallR r) (hl : l.length ≤ 1000) (hG : En.GlT W) :
    Calls Tryz.prog 103 #[.pointer (some ⟨g, 0, none⟩)] W (WrP W g M X (En.okB r.msg) 150 (l ++ En.putS (En.fldS r.msg))) := by
  obtain ⟨v1, v2, rfl, hA, hk⟩ := hR
  have hY := (fields hW.rng hk).m
  have HE := Lib.hid (En.encode_any (hA.more (by have := hW.lt; omega : B ≤ W.heap.size)) hs.m hG)
  have hi : (Tryz.prog.info? 27).map (·.size) = some (mc r.msg v1 v2).length := isz_m
  have HLEN : Hid (En.okB r.msg = true → (En.putS (En.fldS r.msg)).length ≤ 600000) := Lib.hid fun h => En.enc_len h (by have := hs.m.v1; omega)
  have HI := Lib.hid hi
  have HY := Lib.hid hY
  have HW := Lib.hid hW
  have HO := Lib.hid hO
  unfold En.EncodeP at HE
  unfold WrP
  clear hY hi hA hk hs hG hW hO
  generalize rc r v1 v2 = X at *
  generalize mc r.msg v1 v2 = Y at *
  generalize hok : En.okB r.msg = ok at *
  generalize En.putS (En.fldS r.msg) = t at *
  clear hok
  have cb := HW.out.b
  have hgl := HW.out.lt
  go_enter Tryz.func103, Tryz.ntmps103
  go_wp2_with (first
    | (refine wpList_load_mid rfl 27 (.tmp 8) rfl g 1 rfl Y _ HY.out Tryz.underlying27 rfl HI.out ?_)
    | fail)
  refine HE.out.mono ?_
  rintro e w2 ⟨hb2, v, rfl, ⟨h1, ho⟩ | ⟨h1, rfl⟩⟩
  · have HW2 := Lib.hid (HW.out.below hb2 hgl)
    have HO2 := Lib.hid (own_kept HO.out hb2 (Nat.le_refl _))
    have HF2 : Hid (Fr g M W w2) := Lib.hid (fr_below hb2)
    have HB2 := Lib.hid ho
    have hsz := hb2.size
    have HTL := Lib.hid (HLEN.out h1)
    obtain ⟨A6, c6, rfl, _, _⟩ := own_slice ho
    have cb2 := HW2.out.b
    subst h1
    clear cb hb2 ho HE HW HO HY HLEN
    generalize htn : t.length = tn at *
    have HTN := Lib.hid htn
    clear htn
    go_wp2_with (first
      | (refine (Fa.mst_ok _).mono ?_; rintro e w' ⟨rfl, rfl⟩)
      | (refine app5 (.tmp 19) (.tmp 20) rfl rfl M vb l t rfl HO2.out _ _ _ (by rw [HTN.out]; rfl) HB2.out.bts (by rw [HTN.out]; have := HTL.out; omega) (by omega) ?_; intro v5 w5 h5 g5; obtain ⟨A5, c5, rfl, _, _⟩ := own_slice h5; have HO5 : Hid (Own5 w5 M (.slice A5 (l ++ t).length c5) (l ++ t)) := Lib.hid h5; generalize (l ++ t).length = n5 at *; have HW5 := Lib.hid (HW2.out.own HO2.out g5); have HF5 := Lib.hid (HF2.out.app HO2.out g5); have cb5 := HW5.out.b; have cf5 := HW5.out.froz; clear h5 g5 cb2 HW2 HO2 HF2)
      | fail)
    go_end0
    exact ⟨HF5.out.put 109 _, rfl, .slice A5 n5 c5, HW5.out.put _, En.own_far HO5.out (fun g' hg' e => En.own_blk HO5.out HW5.out.blk (by decide) (by rw [hg', e])) _⟩
  · have HF2 : Hid (Fr g M W w2) := Lib.hid (fr_below hb2)
    subst h1
    clear cb hb2 HE HW HO HY HLEN
    go_wp2_with (first
      | (refine (Fa.mst_bad 150 (by decide) _).mono ?_; rintro e w' ⟨rfl, rfl⟩)
      | fail)
    exact ⟨rfl, HF2.out, rfl⟩
end Rc
end Go.Proofs.YteapnkedpmcokaaGreatDoor
