/- The document's each and from. Conditions: as stated at each. -/
import Derived.Test.YtamekflgidfnfaaGreatDoorMbMem
namespace Go.Proofs.YtamekflgidfnfaaGreatDoor
set_option maxRecDepth 100000
namespace Mb
open Go.RowKit Go
/-- between two rounds: i bytes are read, the line under way begins at a. -/
structure EcI (l : L) (a i : Nat) (done : List L) : Prop where
  le : a ≤ i
  il : i ≤ l.length
  way : done ++ lns (l.drop a) = lns l
  no : ∀ k, a ≤ k → k < i → l.getD k 0 ≠ 10
  cnt : done.length ≤ a
theorem EcI.init (l : L) : EcI l 0 0 [] := ⟨Nat.le_refl _, Nat.zero_le _, by simp, fun k h1 h2 => by omega, by simp⟩
theorem EcI.free {l : L} {a i : Nat} {done : List L} (h : EcI l a i done) : (10 : UInt8) ∉ (l.drop a).take (i - a) := fun hm => by
  obtain ⟨j, hj, e⟩ := List.getElem_of_mem hm
  have h1 := h.il
  rw [List.length_take, List.length_drop] at hj
  refine h.no (a + j) (by omega) (by omega) ?_
  rw [List.getElem_take, List.getElem_drop] at e
  simp [List.getD, show a + j < l.length by omega, e]
theorem EcI.hit {l : L} {a i : Nat} {done : List L} (h : EcI l a i done) (hi : i < l.length) (h10 : l.getD i 0 = 10) : EcI l (i + 1) (i + 1) (done ++ [(l.drop a).take (i + 1 - a)]) ∧ ((l.drop a).take (i + 1 - a)).length = i + 1 - a := by
  have hle := h.le
  have hf := h.free
  have e1 : (l.drop a) = (l.drop a).take (i - a) ++ 10 :: l.drop (i + 1) := by
    conv => lhs; rw [← List.take_append_drop (i - a) (l.drop a)]
    congr 1
    rw [List.drop_drop, show a + (i - a) = i by omega, List.drop_eq_getElem_cons hi]
    congr 1
    rw [← h10]
    simp [List.getD, hi]
  have e2 : (l.drop a).take (i + 1 - a) = (l.drop a).take (i - a) ++ [10] := by
    have hlen : ((l.drop a).take (i - a)).length = i - a := by simp; omega
    conv => lhs; rw [e1]
    rw [show i + 1 - a = ((l.drop a).take (i - a) ++ [10]).length by simp; omega, show (l.drop a).take (i - a) ++ 10 :: l.drop (i + 1) = ((l.drop a).take (i - a) ++ [10]) ++ l.drop (i + 1) by simp, List.take_left]
  refine ⟨⟨Nat.le_refl _, by omega, ?_, fun k h1 h2 => by omega, ?_⟩, by simp; omega⟩
  · rw [← h.way, e2]
    conv => rhs; rw [e1, lns_end hf]
    simp
  · have := h.cnt; simp; omega
theorem EcI.miss {l : L} {a i : Nat} {done : List L} (h : EcI l a i done) (hi : i < l.length) (hn : l.getD i 0 ≠ 10) : EcI l a (i + 1) done := by
  refine ⟨by have := h.le; omega, by omega, h.way, fun k h1 h2 => ?_, h.cnt⟩
  rcases Nat.lt_or_ge k i with h3 | h3
  · exact h.no k h1 h3
  · have hk : k = i := by omega
    subst hk
    exact hn
theorem EcI.last {l : L} {a : Nat} {done : List L} (h : EcI l a l.length done) (hi : a < l.length) : done ++ [l.drop a] = lns l := by
  have hf := h.free
  rw [List.take_of_length_le (by rw [List.length_drop]; exact Nat.le_refl _)] at hf
  rw [← h.way, lns_last hf (by
    intro e
    have := congrArg List.length e
    rw [List.length_drop] at this
    simp at this
    omega)]
theorem EcI.done {l : L} {a : Nat} {done : List L} (h : EcI l a l.length done) (hi : l.length ≤ a) : done = lns l := by
  have := h.way
  rw [List.drop_eq_nil_of_le hi, show lns [] = [] from rfl, List.append_nil] at this
  exact this
theorem eq_byte (x : UInt8) (n : Nat) (hn : n < 256 := by decide) : (((x.toNat : Int)) == (n : Int)) = (x == UInt8.ofNat n) := by
  rw [Bool.eq_iff_iff, beq_iff_eq, beq_iff_eq]
  constructor
  · intro h
    apply UInt8.toNat_inj.1
    rw [UInt8.toNat_ofNat']
    omega
  · intro h
    rw [h, UInt8.toNat_ofNat']
    omega
def EachP (w : World) (ls : List L) (e : Ending) (w' : World) : Prop := ∃ v, e = .returned v ∧ RowS w' w.heap.size w.heap.size v ls ∧ Below w.heap.size w w'
set_option maxHeartbeats 1600000 in
theorem reach_any {w : World} {A : Option Addr} {l : L} (h : Bts w w.heap.size A l) (c : Nat) (hc : l.length ≤ c) (hm : c ≤ maxLen) (hl : l.length ≤ 1000000) :
    Calls Tryz.prog 16 #[.slice A l.length c] w (EachP w (lns l)) := by
  have HB := Lib.hid h
  generalize hn : l.length = n at *
  have HN := Lib.hid hn
  clear hn h
  unfold maxLen at hm
  go_enter Tryz.func16, Tryz.ntmps16
  go_wp2_with fail
  go_loopw [3, 4, 9] (fun x y z wr => ∃ (a i : Nat) (done : List L), y = .int .i64 a ∧ z = .int .i64 i ∧ EcI l a i done ∧ RowS wr w.heap.size w.heap.size x done ∧ Below w.heap.size w wr) (fun _ _ z _ => n + 1 - (intOf z).toNat)
  case atStart => exact ⟨0, 0, [], rfl, rfl, EcI.init l, RowS.nil _ _ _, Below.refl _ _⟩
  case round =>
    obtain ⟨a, i, done, rfl, rfl, hst, hrow, hbel⟩ := hrel
    have HST := Lib.hid hst
    have HBE := Lib.hid hbel
    have HRW := Lib.hid hrow
    have h1 := hst.le
    have h3 := hst.il
    rw [HN.out] at h3
    have h4 := hst.cnt
    have hws := hbel.size
    obtain ⟨Ax, cx, rfl, hx1, hx2⟩ := hrow.slice
    clear hst hrow hbel
    by_cases hlt : i < n
    · obtain ⟨g, o, rfl, hg, hcell⟩ := bts_at_ HB.out (by rw [HN.out]; omega)
      have c0 := (HBE.out.cell (p := ⟨g, o + i, none⟩) hg).trans (hcell i (by rw [HN.out]; exact hlt))
      have e0 : (((l.getD i 0).toNat : Int) == 10) = (l.getD i 0 == 10) := eq_byte (l.getD i 0) 10
      have HH := Lib.hid (fun p => HST.out.hit (by rw [HN.out]; exact hlt) p)
      have HM := Lib.hid (fun p => HST.out.miss (by rw [HN.out]; exact hlt) p)
      have z1 : (i : Int) < (n : Int) := by omega
      clear hcell
      generalize l.getD i 0 = x at *
      by_cases hx : x = 10
      · subst hx
        obtain ⟨hst', hll⟩ := HH.out rfl
        have z4 : (i : Int) + 1 ≤ (n : Int) := by omega
        have z5 : (i : Int) + 1 ≤ (c : Int) := by omega
        have z6 : (a : Int) ≤ (i : Int) + 1 := by omega
        have hca : ¬ c = a := by omega
        have HLL := Lib.hid hll
        have HS' := Lib.hid hst'
        have HBT : Hid (Bts w w.heap.size (some ⟨g, o + a, none⟩) ((l.drop a).take (i + 1 - a))) := Lib.hid (by
          have := (HB.out.drop_eq a).take (i + 1 - a)
          rwa [add_at] at this)
        clear hst' hll HM HH
        generalize hX : (l.drop a).take (i + 1 - a) = X at *
        have zn : done.length ≤ 1000000 := by omega
        go_wp2_with (first
          | (refine lapp22 (.tmp 16) (.tmp 22) rfl rfl w.heap.size w.heap.size (.slice Ax done.length cx) done X (some ⟨g, o + a, none⟩) (c - a) rfl (HRW.out.kept ((Below.refl wr.heap.size wr).alloc (Nat.le_refl _) _) (Nat.le_refl _) hws) (HBT.out.below (HBE.out.alloc hws _)) (by rw [HLL.out]; omega) (by unfold maxLen; omega) wr.heap.size 1 rfl
              (by rw [HLL.out]; exact (cell_of_row _ wr.heap.size 0 _ 22 (0, 0) (heap_alloc_new wr _)).trans rfl) (by omega) (by simp; omega) (Nat.le_refl _) ?_; intro v1 w1 hr1 hb1; have HR1 := Lib.hid hr1; have HB1 := Lib.hid ((HBE.out.alloc hws (.cells #[.slice (some ⟨g, o + a, none⟩) (i + 1 - a) (c - a)] 22)).trans hb1); clear hr1 hb1)
          | fail)
        go_roundw
        case rel => exact ⟨i + 1, i + 1, done ++ [X], by go_num, by go_num, HS'.out, HR1.out, HB1.out⟩
        case measure => simp [intOf]; omega
      · have hx' : (x == 10) = false := by simpa using hx
        rw [hx'] at e0
        have HS' := Lib.hid (HM.out hx)
        clear HM HH hx hx'
        go_wp2_with fail
        go_roundw
        case rel => exact ⟨a, i + 1, done, rfl, by go_num, HS'.out, HRW.out, HBE.out⟩
        case measure => simp [intOf]; omega
    · obtain rfl : i = n := by omega
      have z1 : ¬ (i : Int) < (i : Int) := by omega
      by_cases ha : a < i
      · obtain ⟨g, o, rfl, hg, hcell⟩ := bts_at_ HB.out (by rw [HN.out]; omega)
        clear hcell
        have HE : Hid (done ++ [l.drop a] = lns l) := Lib.hid (EcI.last (by have := HST.out; rw [← HN.out] at this; exact this) (by rw [HN.out]; exact ha))
        have z2 : (a : Int) < (i : Int) := by omega
        have z3 : (a : Int) ≤ (i : Int) := by omega
        have z4 : (i : Int) ≤ (c : Int) := by omega
        have hca : ¬ c = a := by omega
        have HLL : Hid ((l.drop a).length = i - a) := Lib.hid (by rw [List.length_drop, HN.out])
        have HBT : Hid (Bts w w.heap.size (some ⟨g, o + a, none⟩) (l.drop a)) := Lib.hid (by
          have := HB.out.drop_eq a
          rwa [add_at] at this)
        generalize hX : l.drop a = X at *
        have zn : done.length ≤ 1000000 := by omega
        clear hX
        go_wp2_with (first
          | (refine lapp22 (.tmp 31) (.tmp 35) rfl rfl w.heap.size w.heap.size (.slice Ax done.length cx) done X (some ⟨g, o + a, none⟩) (c - a) rfl (HRW.out.kept ((Below.refl wr.heap.size wr).alloc (Nat.le_refl _) _) (Nat.le_refl _) hws) (HBT.out.below (HBE.out.alloc hws _)) (by rw [HLL.out]; omega) (by unfold maxLen; omega) wr.heap.size 1 rfl
              (by rw [HLL.out]; exact (cell_of_row _ wr.heap.size 0 _ 22 (0, 0) (heap_alloc_new wr _)).trans rfl) (by omega) (by simp; omega) (Nat.le_refl _) ?_; intro v1 w1 hr1 hb1; have HR1 := Lib.hid hr1; have HB1 := Lib.hid ((HBE.out.alloc hws (.cells #[.slice (some ⟨g, o + a, none⟩) (i - a) (c - a)] 22)).trans hb1); clear hr1 hb1)
          | fail)
        go_ret
        refine ⟨_, rfl, ?_, HB1.out⟩
        rw [← HE.out]
        exact HR1.out
      · have HE : Hid (done = lns l) := Lib.hid (EcI.done (by have := HST.out; rw [← HN.out] at this; exact this) (by rw [HN.out]; omega))
        have z2 : ¬ (a : Int) < (i : Int) := by omega
        go_wp2_with fail
        go_ret
        refine ⟨_, rfl, ?_, HBE.out⟩
        rw [← HE.out]
        exact HRW.out
theorem drop62 {l : L} {n : Nat} (h : ∀ k, k < n → l.getD k 0 = 62) (hn : n ≤ l.length) (he : n = l.length ∨ l.getD n 0 ≠ 62) : l.dropWhile (· == 62) = l.drop n := by
  induction n generalizing l with
  | zero =>
    cases l with
    | nil => rfl
    | cons x l =>
      rcases he with he | he
      · simp at he
      · have : (x == 62) = false := by simpa using he
        rw [List.dropWhile_cons, this]
        rfl
  | succ n ih =>
    cases l with
    | nil => simp at hn
    | cons x l =>
      have h0 := h 0 (by omega)
      have hx : x = 62 := by simpa using h0
      subst hx
      rw [List.dropWhile_cons]
      simp only [beq_self_eq_true, if_true, List.drop_succ_cons]
      exact ih (fun k hk => by have := h (k + 1) (by omega); simpa using this) (by simpa using hn) (by
        rcases he with he | he
        · left; simpa using he
        · right; simpa using he)
theorem mark_take (r : L) : mark r = (decide (5 ≤ r.length) && (r.take 5 == mkL)) := by
  rw [Bool.eq_iff_iff, mark_iff, Bool.and_eq_true, decide_eq_true_eq, beq_iff_eq]
  constructor
  · rintro ⟨t, rfl⟩
    exact ⟨by simp, rfl⟩
  · rintro ⟨_, h⟩
    refine ⟨r.drop 5, ?_⟩
    conv => lhs; rw [← List.take_append_drop 5 r, h]
    rfl
def FromP (w : World) (l : L) (e : Ending) (w' : World) : Prop := ∃ n : Nat, e = .returned (.tuple #[.int .i64 n, .bool (mkd l)]) ∧ n ≤ l.length ∧ (0 < n ↔ l.head? = some 62) ∧ ∃ q, w' = w.drewN q
set_option maxHeartbeats 1600000 in
theorem rfrom_any {w : World} {B : Nat} {A : Option Addr} {l : L} (h : Bts w B A l) (c : Nat) (hc : l.length ≤ c) (hm : c ≤ maxLen) (hl : l.length ≤ 1000000) :
    Calls Tryz.prog 18 #[.slice A l.length c] w (FromP w l) := by
  have HB := Lib.hid h
  generalize hn : l.length = n at *
  have HN := Lib.hid hn
  clear hn h
  unfold maxLen at hm
  go_enter Tryz.func18, Tryz.ntmps18
  go_wp2_with fail
  go_loopw [4] (fun x wr => ∃ i : Nat, x = .int .i64 i ∧ i ≤ n ∧ (∀ k, k < i → l.getD k 0 = 62) ∧ w = wr) (fun x _ => n + 1 - (intOf x).toNat)
  case atStart => exact ⟨0, rfl, Nat.zero_le _, fun k h => by omega, rfl⟩
  case round =>
    obtain ⟨i, rfl, hi, hal, rfl⟩ := hrel
    have HAL := Lib.hid hal
    clear hal
    by_cases hgo : i < n ∧ l.getD i 0 = 62
    · obtain ⟨hlt, h62⟩ := hgo
      obtain ⟨g, o, rfl, hg, hcell⟩ := bts_at_ HB.out (by rw [HN.out]; omega)
      have c0 := hcell i (by rw [HN.out]; exact hlt)
      rw [h62] at c0
      have z1 : (i : Int) < (n : Int) := by omega
      have HAL2 : Hid (∀ k, k < i + 1 → l.getD k 0 = 62) := Lib.hid fun k hk => by
        rcases Nat.lt_or_ge k i with h | h
        · exact HAL.out k h
        · obtain rfl : k = i := by omega
          exact h62
      clear hcell h62
      go_wp2_with fail
      go_roundw
      case rel => exact ⟨i + 1, by go_num, by omega, HAL2.out, trivial⟩
      case measure => simp [intOf]; omega
    · have hend : i = n ∨ l.getD i 0 ≠ 62 := by
        by_cases h1 : i < n
        · right; intro e; exact hgo ⟨h1, e⟩
        · left; omega
      have HD : Hid (l.dropWhile (· == 62) = l.drop i) := Lib.hid (drop62 HAL.out (by rw [HN.out]; exact hi) (by rw [HN.out]; exact hend))
      have HF : Hid ((0 < i ↔ l.head? = some 62)) := Lib.hid (by
        constructor
        · intro h0
          have := HAL.out 0 h0
          cases l with
          | nil => simp at this
          | cons x l => simpa using this
        · intro h0
          rcases Nat.eq_zero_or_pos i with h | h
          · exfalso
            subst h
            cases l with
            | nil => cases h0
            | cons x l =>
              rcases hend with he | he
              · have := HN.out
                rw [← he] at this
                simp at this
              · exact he (by simpa using h0)
          · exact h)
      have HMK : Hid (mkd l = (decide (i + 5 ≤ n) && ((l.drop i).take 5 == mkL))) := Lib.hid (by
        show mark (l.dropWhile (· == 62)) = _
        rw [HD.out, mark_take, List.length_drop, HN.out]
        congr 1
        rw [decide_eq_decide]
        omega)
      clear hgo
      by_cases hlt : i < n
      · obtain ⟨g, o, rfl, hg, hcell⟩ := bts_at_ HB.out (by rw [HN.out]; omega)
        have c0 := hcell i (by rw [HN.out]; exact hlt)
        have e0 : (((l.getD i 0).toNat : Int) == 62) = (l.getD i 0 == 62) := eq_byte (l.getD i 0) 62
        have h62 : (l.getD i 0 == 62) = false := by
          rcases hend with he | he
          · omega
          · simpa using he
        rw [h62] at e0
        have z1 : (i : Int) < (n : Int) := by omega
        clear hcell hend h62
        generalize l.getD i 0 = x at *
        by_cases h5 : i + 5 ≤ n
        · have z2 : (i : Int) + 5 ≤ (n : Int) := by omega
          have z3 : (i : Int) + 5 ≤ (c : Int) := by omega
          have hl5 : ((l.drop i).take 5).length = 5 := by rw [List.length_take, List.length_drop, HN.out]; omega
          have hst : ∀ q, (convert 22 9 (.slice (some ⟨g, o + i, none⟩) 5 (c - i))).run Tryz.prog (w.drewN q) = .ok (.string (str ((l.drop i).take 5))) (w.drewN q) := fun q => by
            have hb : Bts (w.drewN q) B (some ⟨g, o + i, none⟩) ((l.drop i).take 5) := by
              have := ((HB.out.drop_eq i).take 5).below (drewN_below w B q)
              rwa [add_at] at this
            have := conv_str hb (c - i)
            rwa [hl5] at this
          have hca : ¬ c = i := by omega
          have HMK2 : Hid (mkd l = ((l.drop i).take 5 == mkL)) := Lib.hid (by rw [HMK.out, decide_eq_true h5, Bool.true_and])
          have hse : ((str ((l.drop i).take 5)).toList == [70, 114, 111, 109, 32]) = ((l.drop i).take 5 == mkL) := by
            rw [Go.Lib.toList_data, show (str ((l.drop i).take 5)).data.toList = (l.drop i).take 5 by simp [str]]
            rfl
          clear HMK
          generalize (l.drop i).take 5 = X at *
          go_wp2_with fail
          go_quiet (fail)
          go_wp2_with fail
          all_goals
            refine bodyPost_ret (results_tmp2 rfl _ _ _) rfl ?_
            exact ⟨i, by rw [HMK2.out]; first | rfl | (rw [← hse]; rfl), by rw [HN.out]; exact hi, HF.out, _, rfl⟩
        · have z2 : decide ((i : Int) + 5 ≤ (n : Int)) = false := decide_eq_false (by omega)
          have z5 : IntKind.i64.wrap ((i : Int) + 5) = (i : Int) + 5 := IntWalk.i64_in _ (by omega)
          have HMK2 : Hid (mkd l = false) := Lib.hid (by rw [HMK.out, decide_eq_false h5, Bool.false_and])
          go_wp2_with fail
          go_quiet (fail)
          go_wp2_with fail
          all_goals
            refine bodyPost_ret (results_tmp2 rfl _ _ _) rfl ?_
            exact ⟨i, by rw [HMK2.out]; first | rfl | (rw [← hse]; rfl), by rw [HN.out]; exact hi, HF.out, _, rfl⟩
      · obtain rfl : i = n := by omega
        have z1 : ¬ (i : Int) < (i : Int) := by omega
        have z2 : decide ((i : Int) + 5 ≤ (i : Int)) = false := decide_eq_false (by omega)
        have z5 : IntKind.i64.wrap ((i : Int) + 5) = (i : Int) + 5 := IntWalk.i64_in _ (by omega)
        have HMK2 : Hid (mkd l = false) := Lib.hid (by rw [HMK.out, decide_eq_false (by omega), Bool.false_and])
        go_wp2_with fail
        go_quiet (fail)
        go_wp2_with fail
        all_goals
          refine bodyPost_ret (results_tmp2 rfl _ _ _) rfl ?_
          exact ⟨i, by rw [HMK2.out]; first | rfl | (rw [← hse]; rfl), by rw [HN.out]; exact hi, HF.out, _, rfl⟩
end Mb
end Go.Proofs.YtamekflgidfnfaaGreatDoor
