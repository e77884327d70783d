/- The laws on times: RetainUntil, RetainMore, RetainOver, RetainEver. Conditions: as stated at each. -/
import Derived.Test.YtokaifnpmhkkpaaRtAwake
namespace Go.Proofs.Ytokaifnpmhkkpaa
set_option maxRecDepth 100000
namespace Rt
open Go.RowKit Go Go.Proofs.Ytokaifnpmhkkpaa.Pa
theorem str_of (s : ByteArray) : s = str s.data.toList := by simp [str]
theorem i64_of {n : Int} (h : (Lit.int .i64 n).wf = true) : I64 n := by
  have h1 : (decide (IntKind.i64.min ≤ n) && decide (n ≤ IntKind.i64.max)) = true := h
  rw [Bool.and_eq_true, decide_eq_true_eq, decide_eq_true_eq] at h1
  have h2 : IntKind.i64.min = -9223372036854775808 := by decide
  have h3 : IntKind.i64.max = 9223372036854775807 := by decide
  unfold I64
  omega
set_option maxHeartbeats 800000 in
theorem luntil_any (a k : Int) (ha : I64 a) (hk : I64 k) (w : World) :
    Calls Try.prog 5 #[.int .i64 a, .int .i64 k] w fun e w' => e = .returned (.bool true) ∧ Below w.heap.size w w' := by
  have HA := Lib.hid awake_any
  have HU := Lib.hid (fun X => until_any a k ha hk X)
  have HR := Lib.hid (fun X => runtil_any a k ha hk X)
  generalize untilS a k = u at *
  clear ha hk
  go_enter Try.func5, Try.ntmps5
  go_wp2_with (first
    | (go_at_call 9; refine (HA.out _).mono ?_; rintro e w1 ⟨rfl, hb1⟩)
    | (go_at_call 17; refine (HU.out _).mono ?_; rintro e w2 ⟨rfl, rfl⟩)
    | (go_at_call 18; refine (HR.out _).mono ?_; rintro e w3 ⟨rfl, rfl⟩)
    | fail)
  go_ret
  exact ⟨by simp, hb1⟩
set_option maxHeartbeats 800000 in
theorem lmore_any (a k b m : Int) (ha : I64 a) (hk : I64 k) (hb : I64 b) (hm : I64 m) (w : World) :
    Calls Try.prog 8 #[.int .i64 a, .int .i64 k, .int .i64 b, .int .i64 m] w fun e w' => e = .returned (.bool true) ∧ Below w.heap.size w w' := by
  have HA := Lib.hid awake_any
  have HU := Lib.hid (fun X => until_any a k ha hk X)
  have HV := Lib.hid (fun X => until_any b m hb hm X)
  have hle : a ≤ untilS a k := (until_le a k ha.1 (by unfold topT; have := ha.2; omega) (by unfold topT; have := hk.2; omega)).1
  rcases Int.lt_or_le b a with h1 | h1
  · clear HU HV hle ha hk hb hm
    go_enter Try.func8, Try.ntmps8
    go_wp2_with (first
      | (go_at_call 9; refine (HA.out _).mono ?_; rintro e w1 ⟨rfl, hb1⟩)
      | fail)
    go_ret
    exact ⟨rfl, hb1⟩
  · rcases Int.lt_or_le m k with h2 | h2
    · clear HU HV hle ha hk hb hm
      go_enter Try.func8, Try.ntmps8
      go_wp2_with (first
        | (go_at_call 9; refine (HA.out _).mono ?_; rintro e w1 ⟨rfl, hb1⟩)
        | fail)
      go_ret
      exact ⟨rfl, hb1⟩
    · have hmo : untilS a k ≤ untilS b m := until_mono h1 h2
      generalize untilS a k = u at *
      generalize untilS b m = v at *
      have n1 : ¬ b < a := by omega
      have n2 : ¬ m < k := by omega
      clear ha hk hb hm
      go_enter Try.func8, Try.ntmps8
      go_wp2_with (first
        | (go_at_call 9; refine (HA.out _).mono ?_; rintro e w1 ⟨rfl, hb1⟩)
        | fail)
      refine (HU.out _).mono ?_
      rintro e w2 ⟨rfl, rfl⟩
      go_wp2_with fail
      refine (HV.out _).mono ?_
      rintro e w2 ⟨rfl, rfl⟩
      go_wp2_with fail
      refine (HU.out _).mono ?_
      rintro e w2 ⟨rfl, rfl⟩
      go_wp2_with fail
      go_ret
      exact ⟨rfl, hb1⟩
set_option maxHeartbeats 800000 in
theorem lover_any {w : World} {A : Option Addr} {l : List C} (h : Prs w w.heap.size A (cvC l)) (c : Nat) (hok : OkC l) (s : ByteArray) (a now : Int) (ha : I64 a) :
    Calls Try.prog 6 #[.slice A l.length c, .string s, .int .i64 a, .int .i64 now] w fun e w' => e = .returned (.bool true) ∧ Below w.heap.size w w' := by
  rw [str_of s]
  have HA := Lib.hid awake_any
  have HF := Lib.hid (fun X => few_any A none none l.length c 0 0 0 0 ⟨#[]⟩ 0 X)
  by_cases hl : l.length ≤ 101
  · have HO := Lib.hid (fun X (hX : Below w.heap.size w X) => over_any (h.below hX) hX.size l.length c rfl (by omega) hok s.data.toList a now ha)
    have HR := Lib.hid (fun X (hX : Below w.heap.size w X) => rover_any (h.below hX) hX.size l.length c rfl (by omega) hok s.data.toList a now ha)
    rw [decide_eq_true (show l.length ≤ 101 ∧ 0 ≤ 101 ∧ 0 ≤ 20 by omega)] at HF
    generalize overS l s.data.toList a now = r at *
    generalize str s.data.toList = t at *
    clear h hok ha hl
    generalize l.length = n at *
    go_enter Try.func6, Try.ntmps6
    go_wp2_with (first
      | (go_at_call 9; refine (HA.out _).mono ?_; rintro e w1 ⟨rfl, hb1⟩)
      | (go_at_call 10; refine (HF.out _).mono ?_; rintro e w2 ⟨rfl, hb2⟩; have hb12 := hb1.trans (hb2.mono hb1.size))
      | (go_at_call 19; refine (HO.out _ hb12).mono ?_; rintro e w3 ⟨rfl, hb3⟩; have hb13 := hb12.trans (hb3.mono hb12.size))
      | (go_at_call 20; refine (HR.out _ hb13).mono ?_; rintro e w4 ⟨rfl, hb4⟩)
      | fail)
    go_ret
    exact ⟨by simp, hb13.trans (hb4.mono hb13.size)⟩
  · rw [decide_eq_false (show ¬ (l.length ≤ 101 ∧ 0 ≤ 101 ∧ 0 ≤ 20) by omega)] at HF
    generalize str s.data.toList = t at *
    clear h hok ha hl
    generalize l.length = n at *
    go_enter Try.func6, Try.ntmps6
    go_wp2_with (first
      | (go_at_call 9; refine (HA.out _).mono ?_; rintro e w1 ⟨rfl, hb1⟩)
      | (go_at_call 10; refine (HF.out _).mono ?_; rintro e w2 ⟨rfl, hb2⟩; have hb12 := hb1.trans (hb2.mono hb1.size))
      | fail)
    go_ret
    exact ⟨rfl, hb12⟩
set_option maxHeartbeats 1600000 in
theorem lever_any {w : World} {A : Option Addr} {l : List C} (h : Prs w w.heap.size A (cvC l)) (c : Nat) (hok : OkC l) (s : ByteArray) (a now th : Int) (ha : I64 a) (hn : I64 now) :
    Calls Try.prog 7 #[.slice A l.length c, .string s, .int .i64 a, .int .i64 now, .int .i64 th] w fun e w' => e = .returned (.bool true) ∧ Below w.heap.size w w' := by
  rw [str_of s]
  have HA := Lib.hid awake_any
  have HF := Lib.hid (fun X => few_any A none none l.length c 0 0 0 0 ⟨#[]⟩ 0 X)
  by_cases hl : l.length ≤ 101
  · have HO := Lib.hid (fun t X (hX : Below w.heap.size w X) => over_any (h.below hX) hX.size l.length c rfl (by omega) hok s.data.toList a t ha)
    have HC := Lib.hid (fun X (hX : Below w.heap.size w X) => check_any (rs := []) (A2 := none) (h.below hX) (.inl rfl) hX.size l.length c 0 0 rfl rfl hok (fun r hr => by cases hr))
    rw [decide_eq_true (show l.length ≤ 101 ∧ 0 ≤ 101 ∧ 0 ≤ 20 by omega)] at HF
    unfold CheckP at HC
    have HL : Hid (overS l s.data.toList a now = true → now ≤ th → overS l s.data.toList a th = true) := Lib.hid fun h1 h2 => over_late h1 h2
    have HX : Hid (overS l s.data.toList a now = true → checkS l [] = true → a < now ∨ now = 9223372036854775807) := Lib.hid fun h1 h2 => by
      have hc : clsS [] l = true := by
        unfold checkS at h2
        rw [Bool.and_eq_true, Bool.and_eq_true] at h2
        exact h2.1.2
      rcases over_first hc h1 with h3 | h3 | h3
      · exact .inl h3
      · exact .inr h3
      · unfold topT at h3; have := hn.2; omega
    generalize overS l s.data.toList a = ov at *
    generalize checkS l [] = ck at *
    generalize str s.data.toList = t at *
    clear h hok ha hl hn
    generalize l.length = n at *
    cases ho : ov now with
    | false =>
      have HO1 := Lib.hid (HO.out now)
      rw [ho] at HO1
      clear HO ho HL HX
      go_enter Try.func7, Try.ntmps7
      go_wp2_with (first
        | (go_at_call 9; refine (HA.out _).mono ?_; rintro e w1 ⟨rfl, hb1⟩)
        | (go_at_call 10; refine (HF.out _).mono ?_; rintro e w2 ⟨rfl, hb2⟩; have hb12 := hb1.trans (hb2.mono hb1.size))
        | (go_at_call 19; refine (HO1.out _ hb12).mono ?_; rintro e w3 ⟨rfl, hb3⟩; have hb13 := hb12.trans (hb3.mono hb12.size))
        | fail)
      go_ret
      exact ⟨rfl, hb13⟩
    | true =>
      have HO1 := Lib.hid (HO.out now)
      rw [ho] at HO1
      cases ck with
      | false =>
        have h0 : errC false = 130 := rfl
        rw [h0] at HC
        clear HO ho HL HX
        go_enter Try.func7, Try.ntmps7
        go_wp2_with (first
          | (go_at_call 9; refine (HA.out _).mono ?_; rintro e w1 ⟨rfl, hb1⟩)
          | (go_at_call 10; refine (HF.out _).mono ?_; rintro e w2 ⟨rfl, hb2⟩; have hb12 := hb1.trans (hb2.mono hb1.size))
          | (go_at_call 19; refine (HO1.out _ hb12).mono ?_; rintro e w3 ⟨rfl, hb3⟩; have hb13 := hb12.trans (hb3.mono hb12.size))
          | (go_at_call 11; refine (HC.out _ hb13).mono ?_; rintro e w4 ⟨rfl, hb4⟩)
          | fail)
        go_ret
        exact ⟨rfl, hb13.trans (hb4.mono hb13.size)⟩
      | true =>
        have h0 : errC true = 0 := rfl
        rw [h0] at HC
        have HQ : Hid (a < now ∨ now = 9223372036854775807) := Lib.hid (HX.out ho rfl)
        have HT : Hid (now ≤ th → ov th = true) := Lib.hid (HL.out ho)
        have HO2 := Lib.hid (HO.out th)
        clear HO ho HL HX
        have hq := HQ.out
        rcases Int.lt_or_le th now with h1 | h1
        · rcases Int.lt_or_le a now with h2 | h2
          · clear hq HQ HT
            go_enter Try.func7, Try.ntmps7
            go_wp2_with (first
              | (go_at_call 9; refine (HA.out _).mono ?_; rintro e w1 ⟨rfl, hb1⟩)
              | (go_at_call 10; refine (HF.out _).mono ?_; rintro e w2 ⟨rfl, hb2⟩; have hb12 := hb1.trans (hb2.mono hb1.size))
              | fail)
            refine (HO1.out _ hb12).mono ?_
            rintro e w3 ⟨rfl, hb3⟩
            have hb13 := hb12.trans (hb3.mono hb12.size)
            go_wp2_with (first
              | (go_at_call 11; refine (HC.out _ hb13).mono ?_; rintro e w4 ⟨rfl, hb4⟩; have hb14 := hb13.trans (hb4.mono hb13.size))
              | fail)
            go_ret
            exact ⟨rfl, hb14⟩
          · obtain rfl : now = 9223372036854775807 := by omega
            have h3 : ¬ a < 9223372036854775807 := by omega
            clear hq HQ HT
            go_enter Try.func7, Try.ntmps7
            go_wp2_with (first
              | (go_at_call 9; refine (HA.out _).mono ?_; rintro e w1 ⟨rfl, hb1⟩)
              | (go_at_call 10; refine (HF.out _).mono ?_; rintro e w2 ⟨rfl, hb2⟩; have hb12 := hb1.trans (hb2.mono hb1.size))
              | fail)
            refine (HO1.out _ hb12).mono ?_
            rintro e w3 ⟨rfl, hb3⟩
            have hb13 := hb12.trans (hb3.mono hb12.size)
            go_wp2_with (first
              | (go_at_call 11; refine (HC.out _ hb13).mono ?_; rintro e w4 ⟨rfl, hb4⟩; have hb14 := hb13.trans (hb4.mono hb13.size))
              | fail)
            go_ret
            exact ⟨rfl, hb14⟩
        · have h4 : ¬ th < now := by omega
          have e1 := HT.out h1
          rw [e1] at HO2
          rcases Int.lt_or_le a now with h2 | h2
          · clear hq HQ HT e1
            go_enter Try.func7, Try.ntmps7
            go_wp2_with (first
              | (go_at_call 9; refine (HA.out _).mono ?_; rintro e w1 ⟨rfl, hb1⟩)
              | (go_at_call 10; refine (HF.out _).mono ?_; rintro e w2 ⟨rfl, hb2⟩; have hb12 := hb1.trans (hb2.mono hb1.size))
              | fail)
            refine (HO1.out _ hb12).mono ?_
            rintro e w3 ⟨rfl, hb3⟩
            have hb13 := hb12.trans (hb3.mono hb12.size)
            go_wp2_with (first
              | (go_at_call 11; refine (HC.out _ hb13).mono ?_; rintro e w4 ⟨rfl, hb4⟩; have hb14 := hb13.trans (hb4.mono hb13.size))
              | fail)
            refine (HO2.out _ hb14).mono ?_
            rintro e w5 ⟨rfl, hb5⟩
            go_wp2_with fail
            go_ret
            exact ⟨rfl, hb14.trans (hb5.mono hb14.size)⟩
          · obtain rfl : now = 9223372036854775807 := by omega
            have h3 : ¬ a < 9223372036854775807 := by omega
            clear hq HQ HT e1
            go_enter Try.func7, Try.ntmps7
            go_wp2_with (first
              | (go_at_call 9; refine (HA.out _).mono ?_; rintro e w1 ⟨rfl, hb1⟩)
              | (go_at_call 10; refine (HF.out _).mono ?_; rintro e w2 ⟨rfl, hb2⟩; have hb12 := hb1.trans (hb2.mono hb1.size))
              | fail)
            refine (HO1.out _ hb12).mono ?_
            rintro e w3 ⟨rfl, hb3⟩
            have hb13 := hb12.trans (hb3.mono hb12.size)
            go_wp2_with (first
              | (go_at_call 11; refine (HC.out _ hb13).mono ?_; rintro e w4 ⟨rfl, hb4⟩; have hb14 := hb13.trans (hb4.mono hb13.size))
              | fail)
            refine (HO2.out _ hb14).mono ?_
            rintro e w5 ⟨rfl, hb5⟩
            go_wp2_with fail
            go_ret
            exact ⟨rfl, hb14.trans (hb5.mono hb14.size)⟩
  · rw [decide_eq_false (show ¬ (l.length ≤ 101 ∧ 0 ≤ 101 ∧ 0 ≤ 20) by omega)] at HF
    generalize str s.data.toList = t at *
    clear h hok ha hl hn
    generalize l.length = n at *
    go_enter Try.func7, Try.ntmps7
    go_wp2_with (first
      | (go_at_call 9; refine (HA.out _).mono ?_; rintro e w1 ⟨rfl, hb1⟩)
      | (go_at_call 10; refine (HF.out _).mono ?_; rintro e w2 ⟨rfl, hb2⟩; have hb12 := hb1.trans (hb2.mono hb1.size))
      | fail)
    go_ret
    exact ⟨rfl, hb12⟩
end Rt
end Go.Proofs.Ytokaifnpmhkkpaa
