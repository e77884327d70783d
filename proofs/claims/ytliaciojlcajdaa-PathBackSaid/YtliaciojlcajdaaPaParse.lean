/- path.Parse, Show, Of; the document's. Conditions: as stated at each. -/
import Derived.Test.YtliaciojlcajdaaPaEach
import Derived.Test.YtliaciojlcajdaaPaRDom
namespace Go.Proofs.Ytliaciojlcajdaa
set_option maxRecDepth 100000
namespace Pa
open Go.RowKit Go
theorem cutp_any (a : List UInt8) (W : World) :
    Calls Try.prog 29 #[.string (str a), .string ⟨#[60]⟩] W fun e w' => e = .returned (.tuple #[.string (str (Go.Lib.trimPrefix a [60])), .bool (Go.Lib.hasPrefix a [60])]) ∧ w' = W := by
  have h := Try.strings_CutPrefix (str a) ⟨#[60]⟩ W
  rw [str_data] at h
  exact h
theorem parse_is (l : List UInt8) : parseS l = if has 62 l && Go.Lib.hasPrefix (ahead 62 l) [60] && (((ahead 62 l).drop 1).isEmpty || mailS ((ahead 62 l).drop 1)) then ((ahead 62 l).drop 1, behind 62 l, true) else ([], l, false) := by
  unfold parseS Go.Lib.hasPrefix
  have e : (((ahead 62 l).drop 1) == []) = ((ahead 62 l).drop 1).isEmpty := by cases (ahead 62 l).drop 1 <;> rfl
  rw [e]
theorem trim_yes {a : List UInt8} (h : Go.Lib.hasPrefix a [60] = true) : Go.Lib.trimPrefix a [60] = a.drop 1 := by
  unfold Go.Lib.trimPrefix; rw [if_pos h]; rfl
theorem str_nil : str [] = ⟨#[]⟩ := rfl
theorem str_isEmpty (l : List UInt8) : (str l).toList.isEmpty = l.isEmpty := by rw [Go.Lib.toList_data, str_data]
set_option maxHeartbeats 1600000 in
theorem parse_any (l : List UInt8) (W : World) (hl : l.length ≤ 1000000) :
    Calls Try.prog 13 #[.string (str l)] W fun e w' => e = .returned (.tuple #[.string (str (parseS l).1), .string (str (parseS l).2.1), .bool (parseS l).2.2]) ∧ Below W.heap.size W w' := by
  have HC := Lib.hid (fun W => cut_any 62 l W hl)
  have HP := Lib.hid (fun W => cutp_any (ahead 62 l) W)
  have HK := Lib.hid (fun W => clone_s l W hl)
  have hal := ahead_len 62 l
  have hbl : (behind 62 l).length ≤ 1000000 := by
    by_cases hm : (62 : UInt8) ∈ l
    · have := behind_len hm; omega
    · rw [(ahead_no hm).2]; simp
  have HKB := Lib.hid (fun W => clone_s (behind 62 l) W hbl)
  have HD : Hid (∀ n, Below W.heap.size W (W.drewN n)) := Lib.hid (fun n => ⟨rfl, rfl, rfl, Nat.le_refl _, fun _ _ => rfl⟩)
  rw [parse_is]
  by_cases h1 : has 62 l = true
  · by_cases h2 : Go.Lib.hasPrefix (ahead 62 l) [60] = true
    · rw [trim_yes h2] at HP
      rw [h1] at HC ⊢
      rw [h2] at HP ⊢
      have hx : ((ahead 62 l).drop 1).length ≤ 1000000 := by rw [List.length_drop]; omega
      have HM := Lib.hid (fun W => mailbox_any ((ahead 62 l).drop 1) (by omega) W)
      have HKX := Lib.hid (fun W => clone_s ((ahead 62 l).drop 1) W hx)
      have he := str_isEmpty ((ahead 62 l).drop 1)
      clear h1 h2 hal hbl hx
      generalize (ahead 62 l).drop 1 = x at *
      generalize behind 62 l = r at *
      generalize str (ahead 62 l) = sa at *
      by_cases hx0 : x.isEmpty = true
      · rw [hx0] at he ⊢
        clear hx0
        simp only [Bool.true_or, Bool.and_self, if_true]
        generalize str x = sx at *
        generalize str r = sr at *
        generalize str l = s at *
        go_enter Try.func13, Try.ntmps13
        go_wp2_with (first
          | (go_at_call 28; refine (HC.out _).mono ?_; rintro e w1 ⟨rfl, n, rfl⟩)
          | (go_at_call 29; refine (HP.out _).mono ?_; rintro e w2 ⟨rfl, rfl⟩)
          | (go_at_call 30; with_reducible refine (HKX.out _).mono ?_; rintro e w3 ⟨rfl, hb3⟩; clear HKX)
          | (go_at_call 30; with_reducible refine (HKB.out _).mono ?_; rintro e w4 ⟨rfl, hb4⟩)
          | fail)
        refine bodyPost_ret (results_tmp3 rfl _ _ _) rfl ?_
        exact ⟨rfl, ((HD.out _).trans hb3).trans (hb4.mono ((HD.out _).trans hb3).size)⟩
      · have hx1 : x.isEmpty = false := by simpa using hx0
        rw [hx1] at he ⊢
        clear hx0 hx1
        cases hm : mailS x with
        | true =>
          rw [hm] at HM
          simp only [Bool.or_true, Bool.and_self, if_true]
          generalize str x = sx at *
          generalize str r = sr at *
          generalize str l = s at *
          go_enter Try.func13, Try.ntmps13
          go_wp2_with (first
            | (go_at_call 28; refine (HC.out _).mono ?_; rintro e w1 ⟨rfl, n, rfl⟩)
            | (go_at_call 29; refine (HP.out _).mono ?_; rintro e w2 ⟨rfl, rfl⟩)
            | (go_at_call 9; refine (HM.out _).mono ?_; rintro e w5 ⟨rfl, hb5⟩)
            | (go_at_call 30; with_reducible refine (HKX.out _).mono ?_; rintro e w3 ⟨rfl, hb3⟩; clear HKX)
            | (go_at_call 30; with_reducible refine (HKB.out _).mono ?_; rintro e w4 ⟨rfl, hb4⟩)
            | fail)
          refine bodyPost_ret (results_tmp3 rfl _ _ _) rfl ?_
          have k5 := (HD.out _).trans hb5
          have k3 := k5.trans (hb3.mono k5.size)
          exact ⟨rfl, k3.trans (hb4.mono k3.size)⟩
        | false =>
          rw [hm] at HM
          simp only [Bool.or_false, Bool.and_false, Bool.false_eq_true, if_false]
          generalize str x = sx at *
          generalize str r = sr at *
          generalize str l = s at *
          go_enter Try.func13, Try.ntmps13
          go_wp2_with (first
            | (go_at_call 28; refine (HC.out _).mono ?_; rintro e w1 ⟨rfl, n, rfl⟩)
            | (go_at_call 29; refine (HP.out _).mono ?_; rintro e w2 ⟨rfl, rfl⟩)
            | (go_at_call 9; refine (HM.out _).mono ?_; rintro e w5 ⟨rfl, hb5⟩)
            | (go_at_call 30; refine (HK.out _).mono ?_; rintro e w4 ⟨rfl, hb4⟩)
            | fail)
          refine bodyPost_ret (results_tmp3 rfl _ _ _) rfl ?_
          have k5 := (HD.out _).trans hb5
          exact ⟨rfl, k5.trans (hb4.mono k5.size)⟩
    · have h2' : Go.Lib.hasPrefix (ahead 62 l) [60] = false := by simpa using h2
      rw [h1] at HC ⊢
      rw [h2'] at HP ⊢
      clear h1 h2 h2' hal hbl
      simp only [Bool.true_and, Bool.false_and, Bool.false_eq_true, if_false]
      generalize str (Go.Lib.trimPrefix (ahead 62 l) [60]) = st at *
      generalize str (ahead 62 l) = sa at *
      generalize str (behind 62 l) = sr at *
      generalize str l = s at *
      go_enter Try.func13, Try.ntmps13
      go_wp2_with (first
        | (go_at_call 28; refine (HC.out _).mono ?_; rintro e w1 ⟨rfl, n, rfl⟩)
        | (go_at_call 29; refine (HP.out _).mono ?_; rintro e w2 ⟨rfl, rfl⟩)
        | (go_at_call 30; refine (HK.out _).mono ?_; rintro e w4 ⟨rfl, hb4⟩)
        | fail)
      refine bodyPost_ret (results_tmp3 rfl _ _ _) rfl ?_
      exact ⟨rfl, (HD.out _).trans hb4⟩
  · have h1' : has 62 l = false := by simpa using h1
    rw [h1'] at HC ⊢
    clear h1 h1' hal hbl
    simp only [Bool.false_and, Bool.false_eq_true, if_false]
    generalize str (Go.Lib.trimPrefix (ahead 62 l) [60]) = st at *
    generalize Go.Lib.hasPrefix (ahead 62 l) [60] = bp at *
    generalize str (ahead 62 l) = sa at *
    generalize str (behind 62 l) = sr at *
    generalize str l = s at *
    go_enter Try.func13, Try.ntmps13
    go_wp2_with (first
      | (go_at_call 28; refine (HC.out _).mono ?_; rintro e w1 ⟨rfl, n, rfl⟩)
      | (go_at_call 29; refine (HP.out _).mono ?_; rintro e w2 ⟨rfl, rfl⟩)
      | (go_at_call 30; refine (HK.out _).mono ?_; rintro e w4 ⟨rfl, hb4⟩)
      | fail)
    refine bodyPost_ret (results_tmp3 rfl _ _ _) rfl ?_
    exact ⟨rfl, (HD.out _).trans hb4⟩
theorem show_any (l : List UInt8) (W : World) (hl : l.length ≤ 1000000) :
    Calls Try.prog 17 #[.string (str l)] W fun e w' => e = .returned (.string (str (60 :: (l ++ [62])))) ∧ W = w' := by
  have hsz := str_size l
  have e1 : ⟨#[60]⟩ ++ str l ++ ⟨#[62]⟩ = str (60 :: (l ++ [62])) := by
    rw [show (⟨#[60]⟩ : ByteArray) = str [60] from rfl, show (⟨#[62]⟩ : ByteArray) = str [62] from rfl, str_append, str_append]
    rfl
  have E1 := Lib.hid e1
  clear e1
  generalize str l = s at *
  go_enter Try.func17, Try.ntmps17
  go_wp2_with fail
  go_ret
  exact ⟨by rw [← E1.out]; rfl, rfl⟩
theorem of_any (l : List UInt8) (W : World) (hl : l.length ≤ 1000000) :
    Calls Try.prog 15 #[.string (str l)] W fun e w' => e = .returned (.tuple #[.string (str (loc l)), .string (str (dom l))]) ∧ Below W.heap.size W w' := by
  have HC := Lib.hid (fun W => pcut_any l W (by omega))
  obtain ⟨q1, q2⟩ := loc_len l
  have HK1 := Lib.hid (fun W => clone_s (loc l) W (by omega))
  have HK2 := Lib.hid (fun W => clone_s (dom l) W (by omega))
  have HD : Hid (∀ n, Below W.heap.size W (W.drewN n)) := Lib.hid (fun n => ⟨rfl, rfl, rfl, Nat.le_refl _, fun _ _ => rfl⟩)
  clear q1 q2
  generalize str (loc l) = s1 at *
  generalize str (dom l) = s2 at *
  generalize str l = s at *
  go_enter Try.func15, Try.ntmps15
  go_wp2_with (first
    | (go_at_call 20; refine (HC.out _).mono ?_; rintro e w1 ⟨rfl, n, rfl⟩)
    | (go_at_call 30; with_reducible refine (HK1.out _).mono ?_; rintro e w3 ⟨rfl, hb3⟩; clear HK1)
    | (go_at_call 30; with_reducible refine (HK2.out _).mono ?_; rintro e w4 ⟨rfl, hb4⟩)
    | fail)
  refine bodyPost_ret (results_tmp2 rfl _ _ _) rfl ?_
  exact ⟨rfl, ((HD.out _).trans hb3).trans (hb4.mono ((HD.out _).trans hb3).size)⟩
theorem rof_any (l : List UInt8) (W : World) (hl : l.length ≤ 1000000) :
    Calls Try.prog 16 #[.string (str l)] W fun e w' => e = .returned (.tuple #[.string (str (loc l)), .string (str (dom l))]) ∧ Below W.heap.size W w' := by
  have HI := Lib.hid (rlast_any l W (by omega))
  have hsz := str_size l
  rcases last_cases l with ⟨hn, h⟩ | ⟨a, b, hab, hn, h⟩
  · rw [h] at HI
    rw [(loc_no hn).1, (loc_no hn).2]
    clear hn h
    generalize str l = s at *
    go_enter Try.func16, Try.ntmps16
    go_wp2_with (first
      | (refine HI.out.mono ?_; rintro e w' ⟨rfl, rfl⟩)
      | fail)
    refine bodyPost_ret (results_tmp2 rfl _ _ _) rfl ?_
    exact ⟨rfl, Below.refl _ _⟩
  · have h1 : ¬ lastI l < 0 := by rw [h]; omega
    rw [h] at HI
    have e1 := (loc_at (a := a) hn).1
    have e2 := (loc_at (a := a) hn).2
    rw [← hab] at e1 e2
    have hlen : l.length = a.length + b.length + 1 := by rw [hab]; simp; omega
    have E1 : Hid ((str l).extract 0 a.length = str (loc l)) := Lib.hid (by rw [str_extract, e1, List.drop_zero, Nat.sub_zero, hab, List.take_left])
    have E2 : Hid ((str l).extract (a.length + 1) l.length = str (dom l)) := Lib.hid (by
      rw [str_extract, e2, List.take_of_length_le (by rw [List.length_drop]; omega), hab, show a ++ 64 :: b = (a ++ [64]) ++ b by simp, show a.length + 1 = (a ++ [64]).length by simp, List.drop_left])
    have hlen2 : a.length + 1 ≤ l.length := by omega
    clear hn h h1 e1 e2 hab hlen
    generalize str (loc l) = s1 at *
    generalize str (dom l) = s2 at *
    generalize str l = s at *
    go_enter Try.func16, Try.ntmps16
    go_wp2_with (first
      | (refine HI.out.mono ?_; rintro e w' ⟨rfl, rfl⟩)
      | fail)
    go_quiet (fail)
    go_wp2_with fail
    refine bodyPost_ret (results_tmp2 rfl _ _ _) rfl ?_
    refine ⟨?_, rfl, rfl, rfl, Nat.le_refl _, fun _ _ => rfl⟩
    show Ending.returned (.tuple #[.string (s.extract 0 a.length), .string (s.extract (a.length + 1) l.length)]) = _
    rw [E1.out, E2.out]
end Pa
end Go.Proofs.Ytliaciojlcajdaa
