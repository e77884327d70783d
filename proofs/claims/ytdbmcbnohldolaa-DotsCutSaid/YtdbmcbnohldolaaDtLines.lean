/- The document's Lines. Conditions: as stated at each. -/
import Derived.Test.YtdbmcbnohldolaaDtRef
namespace Go.Proofs.Ytdbmcbnohldolaa
set_option maxRecDepth 100000
namespace Dt
open Go.RowKit Go Go.Proofs.Ytdbmcbnohldolaa.Hd
/-- between two rounds: i bytes are read, the line under way begins at a. -/
structure LnI (l : L) (a i : Nat) (done : List L) : Prop where
  le : a ≤ i
  pos : 1 ≤ i
  al : a ≤ l.length
  way : done ++ lines (l.drop a) = lines l
  lft : left (l.drop a) = left l
  no : ∀ k, a ≤ k → k + 1 < i → ¬ endAt l k
  cnt : done.length ≤ a
theorem LnI.init (l : L) : LnI l 0 1 [] := ⟨by omega, by omega, by omega, by simp, by simp, fun k h1 h2 => by omega, by simp⟩
theorem endAt_get {l : L} {k : Nat} (h : k + 1 < l.length) : endAt l k ↔ l.getD k 0 = 13 ∧ l.getD (k + 1) 0 = 10 := by
  unfold endAt
  rw [List.getElem?_eq_getElem h, List.getElem?_eq_getElem (by omega)]
  simp [List.getD, h, show k < l.length by omega]
theorem endAt_drop_iff {l : L} {a k : Nat} : endAt (l.drop a) k ↔ endAt l (a + k) := by
  unfold endAt
  rw [List.getElem?_drop, List.getElem?_drop, Nat.add_assoc]
theorem LnI.hit {l : L} {a i : Nat} {done : List L} (h : LnI l a i done) (hi : i < l.length) (h10 : l.getD i 0 = 10) (h13 : l.getD (i - 1) 0 = 13) (ha : a ≤ i - 1) : LnI l (i + 1) (i + 1) (done ++ [(l.drop a).take (i + 1 - a)]) ∧ ((l.drop a).take (i + 1 - a)).length = i + 1 - a := by
  have hp := h.pos
  obtain ⟨j, hj⟩ : ∃ j, i = a + j + 1 := ⟨i - 1 - a, by omega⟩
  have he : endAt l (a + j) := (endAt_get (by omega)).2 ⟨by rw [show a + j = i - 1 by omega]; exact h13, by rw [← hj]; exact h10⟩
  have hc := cut2_at (endAt_drop_iff.2 he) (fun k hk hk' => h.no (a + k) (by omega) (by omega) (endAt_drop_iff.1 hk'))
  have e1 : (l.drop a).take j ++ [13, 10] = (l.drop a).take (i + 1 - a) := by
    have h1 := (cut2_some hc).1
    have hlen : ((l.drop a).take j).length = j := by simp; omega
    conv => rhs; rw [h1]
    rw [show i + 1 - a = ((l.drop a).take j ++ [13, 10]).length by simp; omega, show (l.drop a).take j ++ 13 :: 10 :: (l.drop a).drop (j + 2) = ((l.drop a).take j ++ [13, 10]) ++ (l.drop a).drop (j + 2) by simp, List.take_left]
  have e2 : (l.drop a).drop (j + 2) = l.drop (i + 1) := by rw [List.drop_drop]; congr 1; omega
  have h2 := lines_some hc
  rw [e1, e2] at h2
  refine ⟨⟨by omega, by omega, by omega, ?_, h2.2.symm.trans h.lft, fun k h1 h2 => by omega, ?_⟩, by simp; omega⟩
  · rw [← h.way, h2.1]; simp
  · have := h.cnt; simp; omega
theorem LnI.miss {l : L} {a i : Nat} {done : List L} (h : LnI l a i done) (hi : i < l.length) (hn : ¬ (l.getD i 0 = 10 ∧ l.getD (i - 1) 0 = 13 ∧ a ≤ i - 1)) : LnI l a (i + 1) done := by
  have hp := h.pos
  refine ⟨by have := h.le; omega, by omega, h.al, h.way, h.lft, fun k h1 h2 he => ?_, h.cnt⟩
  rcases Nat.lt_or_ge (k + 1) i with h3 | h3
  · exact h.no k h1 h3 he
  · have hk : k = i - 1 := by omega
    subst hk
    have := (endAt_get (by omega)).1 he
    rw [show i - 1 + 1 = i by omega] at this
    exact hn ⟨this.2, this.1, h1⟩
theorem LnI.done {l : L} {a i : Nat} {done : List L} (h : LnI l a i done) (hi : l.length ≤ i) : done = lines l ∧ l.drop a = left l := by
  have hc : cut2 (l.drop a) = none := cut2_no fun j he => by
    have he := endAt_drop_iff.1 he
    have := endAt_lt he
    exact h.no (a + j) (by omega) (by omega) he
  have h1 := lines_none hc
  have h2 := h.way
  rw [h1.1, List.append_nil] at h2
  exact ⟨h2, h1.2.symm.trans h.lft⟩
def LinesP (w : World) (ls : List L) (e : Ending) (w' : World) : Prop := ∃ v y, e = .returned (.tuple #[v, y]) ∧ RowS w' w.heap.size w.heap.size v ls ∧ Below w.heap.size w w'
set_option maxHeartbeats 1600000 in
theorem rlines_any {w : World} {A : Option Addr} {l : L} (h : Bts w w.heap.size A l) (c : Nat) (hc : l.length ≤ c) (hm : c ≤ maxLen) (hl : l.length ≤ 1000000) :
    Calls Try.prog 21 #[.slice A l.length c] w (LinesP w (lines l)) := by
  have HB := Lib.hid h
  generalize hn : l.length = n at *
  have HN := Lib.hid hn
  clear hn h
  unfold maxLen at hm
  go_enter Try.func21, Try.ntmps21
  go_wp2_with fail
  go_loopw [4, 5, 6] (fun x y z wr => ∃ (a i : Nat) (done : List L), y = .int .i64 a ∧ z = .int .i64 i ∧ LnI l a i done ∧ RowS wr w.heap.size w.heap.size x done ∧ Below w.heap.size w wr) (fun _ _ z _ => n + 1 - (intOf z).toNat)
  case atStart => exact ⟨0, 1, [], rfl, rfl, LnI.init l, RowS.nil _ _ _, Below.refl _ _⟩
  case round =>
    obtain ⟨a, i, done, rfl, rfl, hst, hrow, hbel⟩ := hrel
    have HST := Lib.hid hst
    have HBE := Lib.hid hbel
    have HRW := Lib.hid hrow
    have h1 := hst.le
    have h2 := hst.pos
    have h3 := hst.al
    rw [HN.out] at h3
    have h4 := hst.cnt
    have hws := hbel.size
    obtain ⟨Ax, cx, rfl, hx1, hx2⟩ := hrow.slice
    clear hst hrow hbel
    by_cases hlt : i < n
    · obtain ⟨g, o, rfl, hg, hcell⟩ := bts_at_ HB.out (by rw [HN.out]; omega)
      have c0 := (HBE.out.cell (p := ⟨g, o + i, none⟩) hg).trans (hcell i (by rw [HN.out]; exact hlt))
      have c1 := (HBE.out.cell (p := ⟨g, o + (i - 1), none⟩) hg).trans (hcell (i - 1) (by rw [HN.out]; omega))
      have e0 : (((l.getD i 0).toNat : Int) == 10) = (l.getD i 0 == 10) := eq_byte (l.getD i 0) 10
      have e1 : (((l.getD (i - 1) 0).toNat : Int) == 13) = (l.getD (i - 1) 0 == 13) := eq_byte (l.getD (i - 1) 0) 13
      have HH := Lib.hid (fun p q r => HST.out.hit (by rw [HN.out]; exact hlt) p q r)
      have HM := Lib.hid (fun p => HST.out.miss (by rw [HN.out]; exact hlt) p)
      have z1 : (i : Int) - 1 = ((i - 1 : Nat) : Int) := by omega
      have z2 : ((i - 1 : Nat) : Int) < (n : Int) := by omega
      clear hcell
      generalize l.getD i 0 = x at *
      generalize l.getD (i - 1) 0 = y at *
      by_cases hx : x = 10
      · by_cases hy : y = 13
        · subst hx
          subst hy
          by_cases ha : a ≤ i - 1
          · obtain ⟨hst', hll⟩ := HH.out rfl rfl ha
            have z3 : (a : Int) ≤ ((i - 1 : Nat) : Int) := by omega
            have z4 : (i : Int) + 1 ≤ (n : Int) := by omega
            have z5 : (i : Int) + 1 ≤ (c : Int) := by omega
            have z6 : (a : Int) ≤ (i : Int) + 1 := by omega
            have hca : ¬ c = a := by omega
            have HLL := Lib.hid hll
            have HS' := Lib.hid hst'
            have HBT : Hid (Bts w w.heap.size (some ⟨g, o + a, none⟩) ((l.drop a).take (i + 1 - a))) := Lib.hid (by
              have := (HB.out.drop_eq a).take (i + 1 - a)
              rwa [add_at] at this)
            clear hst' hll HM HH
            generalize hX : (l.drop a).take (i + 1 - a) = X at *
            have zn : done.length ≤ 1000000 := by omega
            go_wp2_with (first
              | (refine lapp22 (.tmp 32) (.tmp 38) rfl rfl w.heap.size w.heap.size (.slice Ax done.length cx) done X (some ⟨g, o + a, none⟩) (c - a) rfl (HRW.out.kept ((Below.refl wr.heap.size wr).alloc (Nat.le_refl _) _) (Nat.le_refl _) hws) (HBT.out.below (HBE.out.alloc hws _)) (by rw [HLL.out]; omega) (by unfold maxLen; omega) wr.heap.size 1 rfl
                  (by rw [HLL.out]; exact (cell_of_row _ wr.heap.size 0 _ 22 (0, 0) (heap_alloc_new wr _)).trans rfl) (by omega) (by simp; omega) (Nat.le_refl _) ?_; intro v1 w1 hr1 hb1; have HR1 := Lib.hid hr1; have HB1 := Lib.hid ((HBE.out.alloc hws (.cells #[.slice (some ⟨g, o + a, none⟩) (i + 1 - a) (c - a)] 22)).trans hb1); clear hr1 hb1)
              | fail)
            go_roundw
            case rel => exact ⟨i + 1, i + 1, done ++ [X], by go_num, by go_num, HS'.out, HR1.out, HB1.out⟩
            case measure => simp [intOf]; omega
          · have z3 : ¬ (a : Int) ≤ ((i - 1 : Nat) : Int) := by omega
            have HS' := Lib.hid (HM.out fun e => ha e.2.2)
            clear HM HH
            go_wp2_with fail
            go_roundw
            case rel => exact ⟨a, i + 1, done, rfl, by go_num, HS'.out, HRW.out, HBE.out⟩
            case measure => simp [intOf]; omega
        · have hy' : (y == 13) = false := by simpa using hy
          rw [hy'] at e1
          subst hx
          have HS' := Lib.hid (HM.out fun e => hy e.2.1)
          clear HM HH hy hy'
          go_wp2_with fail
          go_roundw
          case rel => exact ⟨a, i + 1, done, rfl, by go_num, HS'.out, HRW.out, HBE.out⟩
          case measure => simp [intOf]; omega
      · have hx' : (x == 10) = false := by simpa using hx
        rw [hx'] at e0
        have HS' := Lib.hid (HM.out fun e => hx e.1)
        clear HM HH hx hx'
        go_wp2_with fail
        go_roundw
        case rel => exact ⟨a, i + 1, done, rfl, by go_num, HS'.out, HRW.out, HBE.out⟩
        case measure => simp [intOf]; omega
    · have HD := Lib.hid (HST.out.done (by rw [HN.out]; omega))
      have z1 : (a : Int) ≤ (n : Int) := by omega
      have z2 : (n : Int) ≤ (c : Int) := by omega
      go_wp2_with fail
      go_quiet (fail)
      go_wp2_with fail
      all_goals
        refine bodyPost_ret (results_tmp2 rfl _ _ _) rfl ?_
        refine ⟨_, _, rfl, ?_, HBE.out.trans (drewN_below _ _ _)⟩
        rw [← HD.out.1]
        exact HRW.out.kept (drewN_below wr wr.heap.size _) (Nat.le_refl _) hws
end Dt
end Go.Proofs.Ytdbmcbnohldolaa
