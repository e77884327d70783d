/- What is made of each hold: of, with own, called, who. Conditions: as stated at each. -/
import Derived.Test.YtamjellnmlgbeaaHoOwn
namespace Go.Proofs.Ytamjellnmlgbeaa
set_option maxRecDepth 100000
namespace Ho
open Go.RowKit Go Go.Proofs.Ytamjellnmlgbeaa.Pa Go.Proofs.Ytamjellnmlgbeaa.Rt
theorem take_next {α : Type} {l : List α} {d : α} {k : Nat} (h : k < l.length) : l.take (k + 1) = l.take k ++ [l.getD k d] := by
  rw [List.take_succ_eq_append_getElem h, List.getD, List.getElem?_eq_getElem h]
  rfl
theorem map_next {α β : Type} {l : List α} {d : α} (f : α → β) {k : Nat} (h : k < l.length) : (l.take (k + 1)).map f = (l.take k).map f ++ [f (l.getD k d)] := by
  rw [take_next (d := d) h, List.map_append]
  rfl
def OutH (w : World) (t : List R) (e : Ending) (w' : World) : Prop := ∃ v, e = .returned v ∧ OwnH w' w.heap.size v t ∧ Below w.heap.size w w'
def OutT (w : World) (t : List L) (e : Ending) (w' : World) : Prop := ∃ v, e = .returned v ∧ OwnT w' w.heap.size v t ∧ Below w.heap.size w w'
set_option maxHeartbeats 1600000 in
theorem of_own {w : World} {B : Nat} {A : Option Addr} {l : List R} (h : Prs w B A (cvR l)) (hB : B ≤ w.heap.size) (n c : Nat) (hn : l.length = n) (hn1 : n ≤ 1000) (hok : OkH l) :
    Calls Try.prog 19 #[.slice A n c, .func (.func 20) #[] #[]] w (OutH w l) := by
  have HEL := Lib.hid (holds_of h)
  have HN := Lib.hid hn
  have HG := Lib.hid (fun k X => own_any (l.getD k r0) X (hok.at_ k).1 (hok.at_ k).2)
  clear h hn hok
  go_enter Try.func19, Try.ntmps19
  go_wp2_with fail
  go_loopw [5, 7, 10] (fun v _ i wr => ∃ k : Nat, k ≤ n ∧ i = .int .i64 k ∧ OwnH wr w.heap.size v (l.take k) ∧ Below w.heap.size w wr) (fun _ _ i _ => n - (intOf i).toNat)
  case atStart => exact ⟨0, Nat.zero_le _, rfl, OwnH.nil _ _, Below.refl _ _⟩
  case round =>
    obtain ⟨k, hk, rfl, hown, hbel⟩ := hrel
    by_cases hlt : k < n
    · obtain ⟨g, o, rfl, hg, hall⟩ := HEL.out k (by rw [HN.out]; exact hlt)
      obtain ⟨y0, y1⟩ := hall wr (hbel.mono hB)
      have HNX := Lib.hid (take_next (l := l) (d := r0) (k := k) (by rw [HN.out]; exact hlt))
      have HC := Lib.hid (HG.out k)
      have hln : (l.take k).length = k := by rw [List.length_take, HN.out]; omega
      have HLN := Lib.hid hln
      have HB := Lib.hid hbel
      have HOW := Lib.hid hown
      have hws := hbel.size
      clear hall hbel hown hln HG HEL
      
      generalize hs0 : str (l.getD k r0).1 = s0 at *
      generalize hs1 : str (l.getD k r0).2 = s1 at *
      have HS := Lib.hid (And.intro hs0 hs1)
      clear hs0 hs1
      go_wp2_with (first
        | (go_at_call 20; refine (HC.out _).mono ?_; rintro e w1 ⟨rfl, hb1⟩; have HB1 := Lib.hid ((below_b wr _).trans (hb1.mono (below_b wr _).size)); clear hb1; have hws1 := HB1.out.size)
        | (refine lappH (.tmp 14) (.tmp 18) rfl rfl (N := w.heap.size) (l := l.take k) (m := [l.getD k r0]) rfl (HOW.out.below (HB1.out.trans ((below_b w1 _).mono HB1.out.size))) (B := w1.heap.size + 1) (n := 1) (c := 1) rfl (by rw [← HS.out.1, ← HS.out.2]; exact prs_one w1 (l.getD k r0)) rfl (by rw [HLN.out]; omega) (by simp; omega) ?_; intro v2 w2 ho2 hg2; have HO2 := Lib.hid ho2; have HG2 := Lib.hid hg2; clear ho2 hg2)
        | fail)
      go_roundw
      case rel => exact ⟨k + 1, by omega, by go_num, by rw [HNX.out]; exact HO2.out, HB.out.trans ((HB1.out.trans ((below_b w1 _).mono HB1.out.size)).mono HB.out.size |>.grown HG2.out (by simp; omega) (fun j hj => (HOW.out.low j hj).1))⟩
      case measure => simp [intOf]; omega
    · have hkn : k = n := by omega
      rw [show (l.take k) = l by rw [hkn, ← HN.out, List.take_length]] at hown
      have HF := Lib.hid hown
      have HB := Lib.hid hbel
      clear hown hbel
      go_wp2_with fail
      go_ret
      exact ⟨_, rfl, HF.out, HB.out⟩
set_option maxHeartbeats 1600000 in
theorem of_called {w : World} {B : Nat} {A : Option Addr} {l : List R} (h : Prs w B A (cvR l)) (hB : B ≤ w.heap.size) (n c : Nat) (hn : l.length = n) (hn1 : n ≤ 1000) (hok : OkH l) :
    Calls Try.prog 23 #[.slice A n c, .func (.func 24) #[] #[]] w (OutT w (l.map Prod.fst)) := by
  have HEL := Lib.hid (holds_of h)
  have HN := Lib.hid hn
  have HG := Lib.hid (fun k X => called_any (l.getD k r0) X (hok.at_ k).1)
  clear h hn hok
  go_enter Try.func23, Try.ntmps23
  go_wp2_with fail
  go_loopw [5, 7, 10] (fun v _ i wr => ∃ k : Nat, k ≤ n ∧ i = .int .i64 k ∧ OwnT wr w.heap.size v ((l.take k).map Prod.fst) ∧ Below w.heap.size w wr) (fun _ _ i _ => n - (intOf i).toNat)
  case atStart => exact ⟨0, Nat.zero_le _, rfl, OwnT.nil _ _, Below.refl _ _⟩
  case round =>
    obtain ⟨k, hk, rfl, hown, hbel⟩ := hrel
    by_cases hlt : k < n
    · obtain ⟨g, o, rfl, hg, hall⟩ := HEL.out k (by rw [HN.out]; exact hlt)
      obtain ⟨y0, y1⟩ := hall wr (hbel.mono hB)
      have HNX := Lib.hid (map_next (l := l) (d := r0) Prod.fst (k := k) (by rw [HN.out]; exact hlt))
      have HC := Lib.hid (HG.out k)
      have hln : ((l.take k).map Prod.fst).length = k := by rw [List.length_map, List.length_take, HN.out]; omega
      have HLN := Lib.hid hln
      have HB := Lib.hid hbel
      have HOW := Lib.hid hown
      have hws := hbel.size
      clear hall hbel hown hln HG HEL
      have HT : Hid (∀ X : World, Tx (X.alloc (.cells #[.string (str (Prod.fst (l.getD k r0)))] 9)) (X.heap.size + 1) (some ⟨X.heap.size, 0, none⟩) [Prod.fst (l.getD k r0)]) := Lib.hid fun X => tx_lit X _ _ rfl _
      generalize str (Prod.fst (l.getD k r0)) = st at *
      generalize hs0 : str (l.getD k r0).1 = s0 at *
      generalize hs1 : str (l.getD k r0).2 = s1 at *
      have HS := Lib.hid (And.intro hs0 hs1)
      clear hs0 hs1
      go_wp2_with (first
        | (go_at_call 24; refine (HC.out _).mono ?_; rintro e w1 ⟨rfl, hb1⟩; have HB1 := Lib.hid ((below_b wr _).trans (hb1.mono (below_b wr _).size)); clear hb1; have hws1 := HB1.out.size)
        | (refine lappTx (.tmp 14) (.tmp 18) rfl rfl (N := w.heap.size) (ps := (l.take k).map Prod.fst) (qs := [Prod.fst (l.getD k r0)]) rfl (HOW.out.below (HB1.out.trans ((below_b w1 _).mono HB1.out.size))) (B := w1.heap.size + 1) (m := 1) (c := 1) rfl (HT.out w1) rfl (by rw [HLN.out]; omega) (by simp; omega) ?_; intro v2 w2 ho2 hg2; have HO2 := Lib.hid ho2; have HG2 := Lib.hid hg2; clear ho2 hg2)
        | fail)
      go_roundw
      case rel => exact ⟨k + 1, by omega, by go_num, by rw [HNX.out]; exact HO2.out, HB.out.trans ((HB1.out.trans ((below_b w1 _).mono HB1.out.size)).mono HB.out.size |>.grown HG2.out (by simp; omega) (fun j hj => (HOW.out.low j hj)))⟩
      case measure => simp [intOf]; omega
    · have hkn : k = n := by omega
      rw [show ((l.take k).map Prod.fst) = (l.map Prod.fst) by rw [hkn, ← HN.out, List.take_length]] at hown
      have HF := Lib.hid hown
      have HB := Lib.hid hbel
      clear hown hbel
      go_wp2_with fail
      go_ret
      exact ⟨_, rfl, HF.out, HB.out⟩
def wf (r : R) : L := foldS r.2
set_option maxHeartbeats 1600000 in
theorem of_who {w : World} {B : Nat} {A : Option Addr} {l : List R} (h : Prs w B A (cvR l)) (hB : B ≤ w.heap.size) (n c : Nat) (hn : l.length = n) (hn1 : n ≤ 1000) (hok : OkH l) :
    Calls Try.prog 23 #[.slice A n c, .func (.func 25) #[] #[]] w (OutT w (l.map wf)) := by
  have HEL := Lib.hid (holds_of h)
  have HN := Lib.hid hn
  have HG := Lib.hid (fun k X => who_any (l.getD k r0) X (hok.at_ k).2)
  clear h hn hok
  go_enter Try.func23, Try.ntmps23
  go_wp2_with fail
  go_loopw [5, 7, 10] (fun v _ i wr => ∃ k : Nat, k ≤ n ∧ i = .int .i64 k ∧ OwnT wr w.heap.size v ((l.take k).map wf) ∧ Below w.heap.size w wr) (fun _ _ i _ => n - (intOf i).toNat)
  case atStart => exact ⟨0, Nat.zero_le _, rfl, OwnT.nil _ _, Below.refl _ _⟩
  case round =>
    obtain ⟨k, hk, rfl, hown, hbel⟩ := hrel
    by_cases hlt : k < n
    · obtain ⟨g, o, rfl, hg, hall⟩ := HEL.out k (by rw [HN.out]; exact hlt)
      obtain ⟨y0, y1⟩ := hall wr (hbel.mono hB)
      have HNX := Lib.hid (map_next (l := l) (d := r0) wf (k := k) (by rw [HN.out]; exact hlt))
      have HC := Lib.hid (HG.out k)
      have hln : ((l.take k).map wf).length = k := by rw [List.length_map, List.length_take, HN.out]; omega
      have HLN := Lib.hid hln
      have HB := Lib.hid hbel
      have HOW := Lib.hid hown
      have hws := hbel.size
      clear hall hbel hown hln HG HEL
      have HT : Hid (∀ X : World, Tx (X.alloc (.cells #[.string (str (wf (l.getD k r0)))] 9)) (X.heap.size + 1) (some ⟨X.heap.size, 0, none⟩) [wf (l.getD k r0)]) := Lib.hid fun X => tx_lit X _ _ rfl _
      rw [show foldS (l.getD k r0).2 = wf (l.getD k r0) from rfl] at HC
      generalize str (wf (l.getD k r0)) = st at *
      generalize hs0 : str (l.getD k r0).1 = s0 at *
      generalize hs1 : str (l.getD k r0).2 = s1 at *
      have HS := Lib.hid (And.intro hs0 hs1)
      clear hs0 hs1
      go_wp2_with (first
        | (go_at_call 25; refine (HC.out _).mono ?_; rintro e w1 ⟨rfl, hb1⟩; have HB1 := Lib.hid ((below_b wr _).trans (hb1.mono (below_b wr _).size)); clear hb1; have hws1 := HB1.out.size)
        | (refine lappTx (.tmp 14) (.tmp 18) rfl rfl (N := w.heap.size) (ps := (l.take k).map wf) (qs := [wf (l.getD k r0)]) rfl (HOW.out.below (HB1.out.trans ((below_b w1 _).mono HB1.out.size))) (B := w1.heap.size + 1) (m := 1) (c := 1) rfl (HT.out w1) rfl (by rw [HLN.out]; omega) (by simp; omega) ?_; intro v2 w2 ho2 hg2; have HO2 := Lib.hid ho2; have HG2 := Lib.hid hg2; clear ho2 hg2)
        | fail)
      go_roundw
      case rel => exact ⟨k + 1, by omega, by go_num, by rw [HNX.out]; exact HO2.out, HB.out.trans ((HB1.out.trans ((below_b w1 _).mono HB1.out.size)).mono HB.out.size |>.grown HG2.out (by simp; omega) (fun j hj => (HOW.out.low j hj)))⟩
      case measure => simp [intOf]; omega
    · have hkn : k = n := by omega
      rw [show ((l.take k).map wf) = (l.map wf) by rw [hkn, ← HN.out, List.take_length]] at hown
      have HF := Lib.hid hown
      have HB := Lib.hid hbel
      clear hown hbel
      go_wp2_with fail
      go_ret
      exact ⟨_, rfl, HF.out, HB.out⟩
end Ho
end Go.Proofs.Ytamjellnmlgbeaa
