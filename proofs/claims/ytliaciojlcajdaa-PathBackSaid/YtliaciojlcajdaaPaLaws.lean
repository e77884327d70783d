/- The walks of the five laws of layer 7. Conditions: as stated. -/
import Derived.Test.YtliaciojlcajdaaPaFold
namespace Go.Proofs.Ytliaciojlcajdaa
set_option maxRecDepth 100000
namespace Pa
open Go.RowKit Go
theorem str_of (s : ByteArray) : s = str s.data.toList := by
  apply ByteArray.ext; simp [str]
set_option maxHeartbeats 800000 in
theorem lmail_any (l : List UInt8) (W : World) :
    Calls Try.prog 3 #[.string (str l)] W fun e w' => e = .returned (.bool true) ∧ Below W.heap.size W w' := by
  have HA := Lib.hid (fun W => awake7 W)
  have hsz := str_size l
  by_cases h : l.length ≤ 400
  · have H1 := Lib.hid (fun W => mailbox_any l (by omega) W)
    have H2 := Lib.hid (fun W => rmailbox_any l W (by omega))
    have H3 := Lib.hid (fun W => domain_any l (by omega) W)
    have H4 := Lib.hid (fun W => rdomain_any l W (by omega))
    generalize str l = s at *
    generalize mailS l = b at *
    generalize domS l = d at *
    cases b <;> cases d
    all_goals
      go_enter Try.func3, Try.ntmps3
      go_wp2_with (first
        | (go_at_call 8; refine (HA.out _).mono ?_; rintro e w0 ⟨rfl, hb0⟩)
        | (go_at_call 9; refine (H1.out _).mono ?_; rintro e w1 ⟨rfl, hb1⟩)
        | (go_at_call 10; refine (H2.out _).mono ?_; rintro e w2 ⟨rfl, hb2⟩)
        | (go_at_call 11; refine (H3.out _).mono ?_; rintro e w3 ⟨rfl, hb3⟩)
        | (go_at_call 12; refine (H4.out _).mono ?_; rintro e w4 ⟨rfl, hb4⟩)
        | fail)
      go_ret
      have k1 := hb0.trans (hb1.mono hb0.size)
      have k2 := k1.trans (hb2.mono k1.size)
      have k3 := k2.trans (hb3.mono k2.size)
      exact ⟨rfl, k3.trans (hb4.mono k3.size)⟩
  · have h2 : 400 < l.length := by omega
    generalize str l = s at *
    go_enter Try.func3, Try.ntmps3
    go_wp2_with (first
      | (go_at_call 8; refine (HA.out _).mono ?_; rintro e w0 ⟨rfl, hb0⟩)
      | fail)
    go_ret
    exact ⟨rfl, hb0⟩
set_option maxHeartbeats 800000 in
theorem lparse_any (l : List UInt8) (W : World) :
    Calls Try.prog 4 #[.string (str l)] W fun e w' => e = .returned (.bool true) ∧ Below W.heap.size W w' := by
  have HA := Lib.hid (fun W => awake7 W)
  have hsz := str_size l
  by_cases h : l.length ≤ 400
  · have H1 := Lib.hid (fun W => parse_any l W (by omega))
    have H2 := Lib.hid (fun W => rparse_any l W (by omega))
    generalize str (parseS l).1 = p at *
    generalize str (parseS l).2.1 = q at *
    generalize (parseS l).2.2 = b at *
    generalize str l = s at *
    cases b
    all_goals
      go_enter Try.func4, Try.ntmps4
      go_wp2_with (first
        | (go_at_call 8; refine (HA.out _).mono ?_; rintro e w0 ⟨rfl, hb0⟩)
        | (go_at_call 13; refine (H1.out _).mono ?_; rintro e w1 ⟨rfl, hb1⟩)
        | (go_at_call 14; refine (H2.out _).mono ?_; rintro e w2 ⟨rfl, hb2⟩)
        | fail)
      go_ret
      have k1 := hb0.trans (hb1.mono hb0.size)
      exact ⟨by simp, k1.trans (hb2.mono k1.size)⟩
  · have h2 : 400 < l.length := by omega
    generalize str l = s at *
    go_enter Try.func4, Try.ntmps4
    go_wp2_with (first
      | (go_at_call 8; refine (HA.out _).mono ?_; rintro e w0 ⟨rfl, hb0⟩)
      | fail)
    go_ret
    exact ⟨rfl, hb0⟩
theorem show_is (l : List UInt8) : (⟨#[60]⟩ : ByteArray) ++ str l ++ ⟨#[62]⟩ = str (60 :: (l ++ [62])) := by
  rw [show (⟨#[60]⟩ : ByteArray) = str [60] from rfl, show (⟨#[62]⟩ : ByteArray) = str [62] from rfl, str_append, str_append]
  rfl
set_option maxHeartbeats 800000 in
theorem lparts_any (l : List UInt8) (W : World) :
    Calls Try.prog 5 #[.string (str l)] W fun e w' => e = .returned (.bool true) ∧ Below W.heap.size W w' := by
  have HA := Lib.hid (fun W => awake7 W)
  have hsz := str_size l
  by_cases h : l.length ≤ 400
  · have H1 := Lib.hid (fun W => of_any l W (by omega))
    have H2 := Lib.hid (fun W => rof_any l W (by omega))
    have H3 := Lib.hid (fun W => show_any l W (by omega))
    rw [← show_is] at H3
    generalize str (loc l) = p at *
    generalize str (dom l) = q at *
    generalize str l = s at *
    go_enter Try.func5, Try.ntmps5
    go_wp2_with (first
      | (go_at_call 8; refine (HA.out _).mono ?_; rintro e w0 ⟨rfl, hb0⟩)
      | (go_at_call 15; refine (H1.out _).mono ?_; rintro e w1 ⟨rfl, hb1⟩)
      | (go_at_call 16; refine (H2.out _).mono ?_; rintro e w2 ⟨rfl, hb2⟩)
      | (go_at_call 17; refine (H3.out _).mono ?_; rintro e w3 ⟨rfl, rfl⟩)
      | fail)
    go_ret
    have k1 := hb0.trans (hb1.mono hb0.size)
    exact ⟨by simp, k1.trans (hb2.mono k1.size)⟩
  · have h2 : 400 < l.length := by omega
    generalize str l = s at *
    go_enter Try.func5, Try.ntmps5
    go_wp2_with (first
      | (go_at_call 8; refine (HA.out _).mono ?_; rintro e w0 ⟨rfl, hb0⟩)
      | fail)
    go_ret
    exact ⟨rfl, hb0⟩
set_option maxHeartbeats 800000 in
theorem lfold_any (l : List UInt8) (W : World) :
    Calls Try.prog 6 #[.string (str l)] W fun e w' => e = .returned (.bool true) ∧ Below W.heap.size W w' := by
  have HA := Lib.hid (fun W => awake7 W)
  have hsz := str_size l
  by_cases h : l.length ≤ 400
  · have H1 := Lib.hid (fun W => fold_any l W (by omega))
    have H2 := Lib.hid (fun W => rfold_any l W (by omega))
    have H3 := Lib.hid (fun W => fold_any (foldS l) W (by rw [foldS_length]; omega))
    rw [foldS_fold] at H3
    have H4 := Lib.hid (fun W => mailbox_any (foldS l) (by rw [foldS_length]; omega) W)
    rw [mailS_fold] at H4
    have H5 := Lib.hid (fun W => mailbox_any l (by omega) W)
    generalize str (foldS l) = p at *
    generalize mailS l = b at *
    generalize str l = s at *
    cases b
    all_goals
      go_enter Try.func6, Try.ntmps6
      go_wp2_with (first
        | (go_at_call 8; refine (HA.out _).mono ?_; rintro e w0 ⟨rfl, hb0⟩)
        | (go_at_call 18; with_reducible refine (H1.out _).mono ?_; rintro e w1 ⟨rfl, hb1⟩; clear H1)
        | (go_at_call 19; refine (H2.out _).mono ?_; rintro e w2 ⟨rfl, hb2⟩)
        | (go_at_call 18; with_reducible refine (H3.out _).mono ?_; rintro e w3 ⟨rfl, hb3⟩)
        | (go_at_call 9; with_reducible refine (H4.out _).mono ?_; rintro e w4 ⟨rfl, hb4⟩; clear H4)
        | (go_at_call 9; with_reducible refine (H5.out _).mono ?_; rintro e w5 ⟨rfl, hb5⟩)
        | fail)
      go_ret
      have k1 := hb0.trans (hb1.mono hb0.size)
      have k2 := k1.trans (hb2.mono k1.size)
      have k3 := k2.trans (hb3.mono k2.size)
      have k4 := k3.trans (hb4.mono k3.size)
      exact ⟨by simp, k4.trans (hb5.mono k4.size)⟩
  · have h2 : 400 < l.length := by omega
    generalize str l = s at *
    go_enter Try.func6, Try.ntmps6
    go_wp2_with (first
      | (go_at_call 8; refine (HA.out _).mono ?_; rintro e w0 ⟨rfl, hb0⟩)
      | fail)
    go_ret
    exact ⟨rfl, hb0⟩
theorem lback_1 (l m : List UInt8) (W : World) (h : ¬ l.length ≤ 400) :
    Calls Try.prog 7 #[.string (str l), .string (str m)] W fun e w' => e = .returned (.bool true) ∧ Below W.heap.size W w' := by
  have HA := Lib.hid (fun W => awake7 W)
  have hsz := str_size l
  have h2 : 400 < l.length := by omega
  generalize str l = s at *
  generalize str m = t at *
  go_enter Try.func7, Try.ntmps7
  go_wp2_with (first
    | (go_at_call 8; refine (HA.out _).mono ?_; rintro e w0 ⟨rfl, hb0⟩)
    | fail)
  go_ret
  exact ⟨rfl, hb0⟩
theorem lback_2 (l m : List UInt8) (W : World) (h : l.length ≤ 400) (h' : ¬ m.length ≤ 400) :
    Calls Try.prog 7 #[.string (str l), .string (str m)] W fun e w' => e = .returned (.bool true) ∧ Below W.heap.size W w' := by
  have HA := Lib.hid (fun W => awake7 W)
  have hsz := str_size l
  have hszm := str_size m
  have h2 : 400 < m.length := by omega
  generalize str l = s at *
  generalize str m = t at *
  go_enter Try.func7, Try.ntmps7
  go_wp2_with (first
    | (go_at_call 8; refine (HA.out _).mono ?_; rintro e w0 ⟨rfl, hb0⟩)
    | fail)
  go_ret
  exact ⟨rfl, hb0⟩
set_option maxHeartbeats 800000 in
theorem lback_any (l m : List UInt8) (W : World) :
    Calls Try.prog 7 #[.string (str l), .string (str m)] W fun e w' => e = .returned (.bool true) ∧ Below W.heap.size W w' := by
  by_cases h : l.length ≤ 400
  · by_cases h' : m.length ≤ 400
    · have HA := Lib.hid (fun W => awake7 W)
      have hsz := str_size l
      have hszm := str_size m
      have hemp := str_isEmpty l
      have H1 := Lib.hid (fun W => mailbox_any l (by omega) W)
      have H2 := Lib.hid (fun W => show_any l W (by omega))
      have e : str (60 :: (l ++ [62])) ++ str m = str (60 :: (l ++ 62 :: m)) := by rw [str_append]; simp
      have hz : (str (60 :: (l ++ [62]))).size = l.length + 2 := by rw [str_size]; simp
      have hp : (l = [] ∨ mailS l = true) → ∀ W, Calls Try.prog 13 #[.string (str (60 :: (l ++ [62])) ++ str m)] W fun e w' => e = .returned (.tuple #[.string (str l), .string (str m), .bool true]) ∧ Below W.heap.size W w' := fun hc W => by
        have := parse_any (60 :: (l ++ 62 :: m)) W (by simp; omega)
        rw [parse_back hc] at this
        rw [e]
        exact this
      clear e
      by_cases hl0 : l = []
      · have H3 := Lib.hid (hp (.inl hl0))
        have he : (str l).toList.isEmpty = true := by rw [hemp, hl0]; rfl
        clear hp hl0 hemp
        generalize str (60 :: (l ++ [62])) = u at *
        generalize str l = s at *
        generalize str m = t at *
        go_enter Try.func7, Try.ntmps7
        go_wp2_with (first
          | (go_at_call 8; refine (HA.out _).mono ?_; rintro e w0 ⟨rfl, hb0⟩)
          | (go_at_call 17; refine (H2.out _).mono ?_; rintro e w2 ⟨rfl, rfl⟩)
          | (go_at_call 13; refine (H3.out _).mono ?_; rintro e w3 ⟨rfl, hb3⟩)
          | fail)
        go_ret
        exact ⟨by simp, hb0.trans (hb3.mono hb0.size)⟩
      · have he : (str l).toList.isEmpty = false := by rw [hemp]; simpa using hl0
        cases hm : mailS l with
        | false =>
          rw [hm] at H1
          clear hp hl0 hemp hm
          generalize str (60 :: (l ++ [62])) = u at *
          generalize str l = s at *
          generalize str m = t at *
          go_enter Try.func7, Try.ntmps7
          go_wp2_with (first
            | (go_at_call 8; refine (HA.out _).mono ?_; rintro e w0 ⟨rfl, hb0⟩)
            | (go_at_call 9; refine (H1.out _).mono ?_; rintro e w1 ⟨rfl, hb1⟩)
            | fail)
          go_ret
          exact ⟨rfl, hb0.trans (hb1.mono hb0.size)⟩
        | true =>
          rw [hm] at H1
          have H3 := Lib.hid (hp (.inr hm))
          clear hp hl0 hemp hm
          generalize str (60 :: (l ++ [62])) = u at *
          generalize str l = s at *
          generalize str m = t at *
          go_enter Try.func7, Try.ntmps7
          go_wp2_with (first
            | (go_at_call 8; refine (HA.out _).mono ?_; rintro e w0 ⟨rfl, hb0⟩)
            | (go_at_call 9; refine (H1.out _).mono ?_; rintro e w1 ⟨rfl, hb1⟩)
            | (go_at_call 17; refine (H2.out _).mono ?_; rintro e w2 ⟨rfl, rfl⟩)
            | (go_at_call 13; refine (H3.out _).mono ?_; rintro e w3 ⟨rfl, hb3⟩)
            | fail)
          go_ret
          have k1 := hb0.trans (hb1.mono hb0.size)
          exact ⟨by simp, k1.trans (hb3.mono k1.size)⟩
    · exact lback_2 l m W h h'
  · exact lback_1 l m W h
theorem lmail_s (s : ByteArray) (W : World) :
    Calls Try.prog 3 #[.string s] W fun e w' => e = .returned (.bool true) ∧ Below W.heap.size W w' := by
  rw [str_of s]; exact lmail_any _ W
theorem lparse_s (s : ByteArray) (W : World) :
    Calls Try.prog 4 #[.string s] W fun e w' => e = .returned (.bool true) ∧ Below W.heap.size W w' := by
  rw [str_of s]; exact lparse_any _ W
theorem lparts_s (s : ByteArray) (W : World) :
    Calls Try.prog 5 #[.string s] W fun e w' => e = .returned (.bool true) ∧ Below W.heap.size W w' := by
  rw [str_of s]; exact lparts_any _ W
theorem lfold_s (s : ByteArray) (W : World) :
    Calls Try.prog 6 #[.string s] W fun e w' => e = .returned (.bool true) ∧ Below W.heap.size W w' := by
  rw [str_of s]; exact lfold_any _ W
theorem lback_s (s t : ByteArray) (W : World) :
    Calls Try.prog 7 #[.string s, .string t] W fun e w' => e = .returned (.bool true) ∧ Below W.heap.size W w' := by
  rw [str_of s, str_of t]; exact lback_any _ _ W
end Pa
end Go.Proofs.Ytliaciojlcajdaa
