/- head.Name, same, folded, bound; the document's Name, blank, colon. Conditions: as stated at each. -/
import Derived.Test.YtliaciojlcajdaaDoorHdLower
import Derived.Test.YtliaciojlcajdaaDoorFaCall
namespace Go.Proofs.YtliaciojlcajdaaDoor
set_option maxRecDepth 100000
namespace Hd
open Go.RowKit Go Go.Proofs.YtliaciojlcajdaaDoor.Pa
theorem emp_t : (str []).toList.isEmpty = true := by rw [Go.Lib.toList_data, str_data]; rfl
theorem emp_f {l : List UInt8} (h : l ≠ []) : (str l).toList.isEmpty = false := by
  rw [Go.Lib.toList_data, str_data]; cases l with
  | nil => exact absurd rfl h
  | cons => rfl
theorem nil_f {l : List UInt8} (h : l ≠ []) : ((str l).toList = []) = False := by
  rw [Go.Lib.toList_data, str_data]; simp [h]
theorem nameB_iff (c : UInt8) : nameB c = decide (33 ≤ (c.toNat : Int) ∧ (c.toNat : Int) ≤ 126 ∧ (c.toNat : Int) ≠ 58) := by
  unfold nameB
  rw [Bool.eq_iff_iff, decide_eq_true_eq, decide_eq_true_eq]
  omega
theorem nameS_f {l : List UInt8} (h : l.all nameB = false) : false = nameS l := by unfold nameS; rw [h]; rfl
theorem nameS_t {l : List UInt8} (h : l.all nameB = true) (h1 : l ≠ []) (h2 : l.length ≤ 100) : true = nameS l := by
  unfold nameS
  have : 0 < l.length := List.length_pos_iff.2 h1
  rw [h, decide_eq_true ⟨by omega, h2⟩]
  rfl
theorem nameS_long {l : List UInt8} (h : 100 < l.length) : nameS l = false := by
  unfold nameS
  rw [decide_eq_false (by omega)]
  simp
theorem nameS_nil : nameS [] = false := by decide
set_option maxHeartbeats 800000 in
theorem name_any (l : List UInt8) (w : World) (hl : l.length ≤ 1000000) :
    Calls Tryd.prog 18 #[.string (str l)] w fun e w' => e = .returned (.bool (nameS l)) ∧ w = w' := by
  by_cases h0 : l = []
  · subst h0
    rw [nameS_nil]
    have he := emp_t
    go_enter Tryd.func18, Tryd.ntmps18
    go_wp2_with fail
    go_ret
    exact ⟨rfl, rfl⟩
  · have he := emp_f h0
    have hnn := nil_f h0
    have hsz := str_size l
    by_cases h1 : l.length ≤ 100
    · have HN := Lib.hid h0
      have hat := str_at l
      have HT := Lib.hid (fun h => nameS_t (l := l) h h0 h1)
      clear h0
      have h100 : ¬ (100 : Int) < l.length := by omega
      generalize str l = s at *
      have HAT := Lib.hid hat
      have HSZ := Lib.hid hsz
      have hs100 : ¬ (100 : Int) < s.size := by omega
      clear hat
      go_enter Tryd.func18, Tryd.ntmps18
      go_wp2_with fail
      go_loop [3, 13] (fun _ i => ∃ k : Nat, k ≤ s.size ∧ i = .int .i64 k ∧ allK nameB l k = true) (fun _ i => s.size - (intOf i).toNat)
      case atStart => exact ⟨0, Nat.zero_le _, rfl, rfl⟩
      case round =>
        obtain ⟨k, hk, rfl, ha⟩ := hrel
        have HA := Lib.hid ha
        clear ha
        by_cases hlt : k < s.size
        · have hc := HAT.out k hlt
          have HLT : Hid (k < l.length) := Lib.hid (by have := HSZ.out; omega)
          have HS := Lib.hid (allK_succ (f := nameB) HLT.out)
          have HF := Lib.hid (fun h => allK_false (f := nameB) HLT.out h)
          have hcl := (l.getD k 0).toNat_lt
          generalize l.getD k 0 = c at *
          have hn := nameB_iff c
          by_cases c1 : (33 : Int) ≤ c.toNat
          · by_cases c2 : (c.toNat : Int) ≤ 126
            · by_cases c3 : (c.toNat : Int) = 58
              · have c3' : ((c.toNat : Int) == 58) = true := by rw [c3]; rfl
                rw [decide_eq_false (by omega)] at hn
                have HF2 := Lib.hid (HF.out hn)
                clear hn c3 HS HF
                go_wp2_with fail
                go_ret
                exact ⟨ret_bool (nameS_f HF2.out), rfl⟩
              · have c3' : ((c.toNat : Int) == 58) = false := by rw [beq_eq_false_iff_ne]; exact c3
                rw [decide_eq_true ⟨c1, c2, c3⟩] at hn
                have HS2 := Lib.hid (HS.out.trans (by rw [HA.out, hn, Bool.and_self]))
                clear hn c3 HS HF
                go_wp2_with fail
                go_round
                case rel => exact ⟨k + 1, by omega, by go_num, HS2.out⟩
                case measure => simp [intOf]; omega
            · rw [decide_eq_false (by omega)] at hn
              have HF2 := Lib.hid (HF.out hn)
              clear hn HS HF
              go_wp2_with fail
              go_ret
              exact ⟨ret_bool (nameS_f HF2.out), rfl⟩
          · rw [decide_eq_false (by omega)] at hn
            have HF2 := Lib.hid (HF.out hn)
            clear hn HS HF
            go_wp2_with fail
            go_ret
            exact ⟨ret_bool (nameS_f HF2.out), rfl⟩
        · go_wp2_with fail
          go_ret
          have h1 := HA.out
          rw [allK_full (by have := HSZ.out; omega)] at h1
          exact ⟨ret_bool (HT.out h1), rfl⟩
    · have HL := Lib.hid (nameS_long (l := l) (by omega))
      have h100 : (100 : Int) < (str l).size := by omega
      generalize nameS l = b at *
      generalize str l = s at *
      go_enter Tryd.func18, Tryd.ntmps18
      go_wp2_with fail
      go_ret
      exact ⟨ret_bool HL.out.symm, rfl⟩
set_option maxHeartbeats 800000 in
theorem rname_any (l : List UInt8) (w : World) (hl : l.length ≤ 1000000) :
    Calls Tryd.prog 19 #[.string (str l)] w fun e w' => e = .returned (.bool (nameS l)) ∧ w = w' := by
  have hsz := str_size l
  have hat := str_at l
  generalize str l = s at *
  have HAT := Lib.hid hat
  have HSZ := Lib.hid hsz
  clear hat hsz
  have hs := HSZ.out ▸ hl
  go_enter Tryd.func19, Tryd.ntmps19
  go_wp2_with fail
  go_loop [3] (fun i => ∃ k : Nat, k ≤ s.size ∧ i = .int .i64 k ∧ allK nameB l k = true) (fun i => s.size - (intOf i).toNat)
  case atStart => exact ⟨0, Nat.zero_le _, rfl, rfl⟩
  case round =>
    obtain ⟨k, hk, rfl, ha⟩ := hrel
    have HA := Lib.hid ha
    clear ha
    by_cases hlt : k < s.size
    · have hc := HAT.out k hlt
      have HLT : Hid (k < l.length) := Lib.hid (by have := HSZ.out; omega)
      have HS := Lib.hid (allK_succ (f := nameB) HLT.out)
      have HF := Lib.hid (fun h => allK_false (f := nameB) HLT.out h)
      have hcl := (l.getD k 0).toNat_lt
      generalize l.getD k 0 = c at *
      have hn := nameB_iff c
      by_cases c1 : (33 : Int) ≤ c.toNat
      · by_cases c2 : (c.toNat : Int) ≤ 126
        · by_cases c3 : (c.toNat : Int) = 58
          · have c3' : ((c.toNat : Int) == 58) = true := by rw [c3]; rfl
            rw [decide_eq_false (by omega)] at hn
            have HF2 := Lib.hid (HF.out hn)
            clear hn c3 HS HF
            go_wp2_with fail
            go_ret
            exact ⟨ret_bool (nameS_f HF2.out), rfl⟩
          · have c3' : ((c.toNat : Int) == 58) = false := by rw [beq_eq_false_iff_ne]; exact c3
            rw [decide_eq_true ⟨c1, c2, c3⟩] at hn
            have HS2 := Lib.hid (HS.out.trans (by rw [HA.out, hn, Bool.and_self]))
            clear hn c3 HS HF
            go_wp2_with fail
            go_round
            case rel => exact ⟨k + 1, by omega, by go_num, HS2.out⟩
            case measure => simp [intOf]; omega
        · rw [decide_eq_false (by omega)] at hn
          have HF2 := Lib.hid (HF.out hn)
          clear hn HS HF
          go_wp2_with fail
          go_ret
          exact ⟨ret_bool (nameS_f HF2.out), rfl⟩
      · rw [decide_eq_false (by omega)] at hn
        have HF2 := Lib.hid (HF.out hn)
        clear hn HS HF
        go_wp2_with fail
        go_ret
        exact ⟨ret_bool (nameS_f HF2.out), rfl⟩
    · have h1 := HA.out
      rw [allK_full (by have := HSZ.out; omega)] at h1
      have HB : Hid (nameS l = decide (1 ≤ s.size ∧ s.size ≤ 100)) := Lib.hid (by unfold nameS; rw [h1, HSZ.out]; rfl)
      clear h1
      have HT2 : Hid (1 ≤ s.size → s.size ≤ 100 → true = nameS l) := Lib.hid (fun d1 d2 => by rw [HB.out, decide_eq_true ⟨d1, d2⟩])
      have HF3 : Hid (¬ (1 ≤ s.size ∧ s.size ≤ 100) → false = nameS l) := Lib.hid (fun d => by rw [HB.out, decide_eq_false d])
      by_cases d1 : (1 : Int) ≤ s.size
      · by_cases d2 : (s.size : Int) ≤ 100
        · have HQ := Lib.hid (HT2.out (by omega) (by omega))
          have d3 : ((1 : Int) ≤ s.size) = True := by simp [d1]
          go_wp2_with fail
          go_ret
          exact ⟨ret_bool HQ.out, rfl⟩
        · have HQ := Lib.hid (HF3.out (by omega))
          go_wp2_with fail
          go_ret
          exact ⟨ret_bool HQ.out, rfl⟩
      · have HQ := Lib.hid (HF3.out (by omega))
        go_wp2_with fail
        go_ret
        exact ⟨ret_bool HQ.out, rfl⟩
theorem blankB_iff (c : UInt8) : blankB c = (decide ((c.toNat : Int) = 32) || decide ((c.toNat : Int) = 9)) := by
  have e : ∀ k : UInt8, (c == k) = decide ((c.toNat : Int) = (k.toNat : Int)) := fun k => by
    rw [Bool.eq_iff_iff, beq_iff_eq, decide_eq_true_eq, ← UInt8.toNat_inj]; omega
  unfold blankB
  rw [e, e]
  rfl
theorem rblank_any (c : UInt8) (w : World) :
    Calls Tryd.prog 26 #[.int .u8 (c.toNat : Int)] w fun e w' => e = .returned (.bool (blankB c)) ∧ w = w' := by
  rw [blankB_iff c]
  generalize (c.toNat : Int) = n at *
  by_cases h1 : n = 32
  · have h1' : (n == 32) = true := by rw [h1]; rfl
    rw [decide_eq_true h1]
    clear h1
    go_enter Tryd.func26, Tryd.ntmps26
    go_wp2_with fail
    go_ret
    exact ⟨rfl, rfl⟩
  · have h1' : (n == 32) = false := by rw [beq_eq_false_iff_ne]; exact h1
    rw [decide_eq_false h1, Bool.false_or]
    by_cases h2 : n = 9
    · have h2' : (n == 9) = true := by rw [h2]; rfl
      rw [decide_eq_true h2]
      clear h1 h2
      go_enter Tryd.func26, Tryd.ntmps26
      go_wp2_with fail
      go_ret
      exact ⟨rfl, rfl⟩
    · have h2' : (n == 9) = false := by rw [beq_eq_false_iff_ne]; exact h2
      rw [decide_eq_false h2]
      clear h1 h2
      go_enter Tryd.func26, Tryd.ntmps26
      go_wp2_with fail
      go_ret
      exact ⟨rfl, rfl⟩
theorem bound_ok (n m : Int) (w : World) (hn : n ≤ 1000) (hm : m ≤ 100000) :
    Calls Tryd.prog 40 #[.int .i64 n, .int .i64 m] w fun e w' => e = .returned (.tuple #[]) ∧ w = w' := by
  go_enter Tryd.func40, Tryd.ntmps40
  go_wp2_with (first
    | (go_at_call 42; refine (Fa.nd_t (by first | rfl | (simp; done) | (simp; omega) | decide) _ _).mono ?_; rintro e w' ⟨rfl, rfl⟩)
    | fail)
  go_end0
  exact ⟨rfl, rfl⟩
/-- what a call is left with by panic(api.Errno(x)). -/
def bad (x : Int) : Ending := .panicked [{ v := .iface 25 (.int .i64 x), recovered := false }]
theorem bound_bad (n m : Int) (w : World) (hn : 1000 < n) :
    Calls Tryd.prog 40 #[.int .i64 n, .int .i64 m] w fun e w' => e = bad 2 ∧ w = w' := by
  have h1 : ¬ n ≤ 1000 := by omega
  go_enter Tryd.func40, Tryd.ntmps40
  go_wp2_with (first
    | (go_at_call 42; refine (Fa.nd_f (by first | rfl | (simp; done) | (simp; omega) | decide) _ _).mono ?_; rintro e w' ⟨rfl, rfl⟩)
    | fail)
  exact ⟨rfl, rfl, rfl⟩
theorem folded_nil (A : Option Addr) (c : Nat) (w : World) :
    Calls Tryd.prog 37 #[.slice A 0 c] w fun e w' => e = .returned (.bool false) ∧ w = w' := by
  go_enter Tryd.func37, Tryd.ntmps37
  go_wp2_with fail
  go_ret
  exact ⟨rfl, rfl⟩
theorem folded_any {w : World} {B : Nat} {A : Option Addr} {x : UInt8} {s : List UInt8} (h : Bts w B A (x :: s)) (c : Nat) (hl : (x :: s).length ≤ 1000000) (hc : (x :: s).length ≤ c) :
    Calls Tryd.prog 37 #[.slice A (x :: s).length c] w fun e w' => e = .returned (.bool (blankB x)) ∧ w = w' := by
  obtain ⟨ad, rfl, hlt, hcell⟩ := h.at_ (k := 0) (by simp)
  rw [show (x :: s).getD 0 0 = x from rfl, add_0] at hcell
  have HB := Lib.hid (blanks_any x w)
  have HI := Lib.hid (blank_idx x)
  have hn : 0 < (x :: s).length := by simp
  have HR : Hid (decide (0 ≤ Go.Lib.indexByte [32, 9] x) = blankB x) := Lib.hid (by
    rw [blank_idx]
    unfold blankB
    by_cases h1 : x = 32
    · subst h1; decide
    · by_cases h2 : x = 9
      · subst h2; decide
      · rw [if_neg h1, if_neg h2]
        have e1 : (x == 32) = false := by simpa using h1
        have e2 : (x == 9) = false := by simpa using h2
        rw [e1, e2]
        rfl)
  clear h
  generalize (x :: s).length = n at *
  generalize Go.Lib.indexByte [32, 9] x = i at *
  have hn' : (0 : Int) < n := by omega
  generalize blankB x = bb at *
  by_cases hi : 0 ≤ i
  · have hb : Hid (bb = true) := Lib.hid (by rw [← HR.out]; exact decide_eq_true hi)
    go_enter Tryd.func37, Tryd.ntmps37
    go_wp2_with (first
      | (refine HB.out.mono ?_; rintro e w' ⟨rfl, rfl⟩)
      | fail)
    go_ret
    first | exact ⟨ret_bool hb.out.symm, rfl⟩ | exact ⟨ret_bool HR.out, rfl⟩
  · have hb : Hid (bb = false) := Lib.hid (by rw [← HR.out]; exact decide_eq_false hi)
    go_enter Tryd.func37, Tryd.ntmps37
    go_wp2_with (first
      | (refine HB.out.mono ?_; rintro e w' ⟨rfl, rfl⟩)
      | fail)
    go_ret
    first | exact ⟨ret_bool hb.out.symm, rfl⟩ | exact ⟨ret_bool HR.out, rfl⟩
/-- no colon ahead of k. -/
theorem colon_step {l : List UInt8} {k : Nat} (h : k < l.length) : allK (· != 58) l (k + 1) = (allK (· != 58) l k && (l.getD k 0 != 58)) := allK_succ h
theorem ahead_k {l : List UInt8} {k : Nat} (h : k < l.length) (ha : allK (· != 58) l k = true) (hc : l.getD k 0 = 58) : has 58 l = true ∧ (Pa.ahead 58 l).length = k := by
  have hn : (58 : UInt8) ∉ l.take k := fun hm => by
    unfold allK at ha
    rw [List.all_eq_true] at ha
    have := ha _ hm
    simp at this
  have hd : l = l.take k ++ 58 :: l.drop (k + 1) := by
    have e : l[k] = 58 := by rw [← hc]; simp [List.getD, h]
    rw [← e, ← List.drop_eq_getElem_cons h, List.take_append_drop]
  have e := (Pa.ahead_at (b := l.drop (k + 1)) hn).1
  rw [← hd] at e
  refine ⟨Pa.has_t (by rw [hd]; simp), ?_⟩
  rw [e, List.length_take]
  omega
theorem ahead_full {l : List UInt8} (ha : allK (· != 58) l l.length = true) : has 58 l = false := by
  rw [allK_full (Nat.le_refl _), List.all_eq_true] at ha
  exact Pa.has_f fun hm => by have := ha _ hm; simp at this
set_option maxHeartbeats 800000 in
theorem colon_any (l : List UInt8) (w : World) (hl : l.length ≤ 1000000) :
    Calls Tryd.prog 27 #[.string (str l)] w fun e w' => e = .returned (.int .i64 (if has 58 l then ((Pa.ahead 58 l).length : Int) else -1)) ∧ w = w' := by
  have hsz := str_size l
  have hat := str_at l
  have HK := Lib.hid (fun k h1 h2 h3 => ahead_k (l := l) (k := k) h1 h2 h3)
  have HF := Lib.hid (ahead_full (l := l))
  have HS := Lib.hid (fun k h => colon_step (l := l) (k := k) h)
  have HV : Hid (∀ b n, has 58 l = b → (Pa.ahead 58 l).length = n → (if has 58 l then ((Pa.ahead 58 l).length : Int) else -1) = if b then (n : Int) else -1) := Lib.hid (fun b n h1 h2 => by rw [h1, h2])
  have HV2 : Hid (has 58 l = false → (if has 58 l then ((Pa.ahead 58 l).length : Int) else -1) = -1) := Lib.hid (fun h1 => by rw [h1]; rfl)
  generalize (if has 58 l then ((Pa.ahead 58 l).length : Int) else -1) = R at *
  generalize str l = s at *
  have HAT := Lib.hid hat
  have HSZ := Lib.hid hsz
  clear hat hsz
  have hs := HSZ.out ▸ hl
  go_enter Tryd.func27, Tryd.ntmps27
  go_wp2_with fail
  go_loop [3] (fun i => ∃ k : Nat, k ≤ s.size ∧ i = .int .i64 k ∧ allK (· != 58) l k = true) (fun i => s.size - (intOf i).toNat)
  case atStart => exact ⟨0, Nat.zero_le _, rfl, rfl⟩
  case round =>
    obtain ⟨k, hk, rfl, ha⟩ := hrel
    have HA := Lib.hid ha
    clear ha
    by_cases hlt : k < s.size
    · have hc := HAT.out k hlt
      have HLT : Hid (k < l.length) := Lib.hid (by have := HSZ.out; omega)
      by_cases h58 : l.getD k 0 = 58
      · have HR := Lib.hid (HK.out k HLT.out HA.out h58)
        have h' : (((l.getD k 0).toNat : Int) == 58) = true := by rw [h58]; rfl
        clear h58
        generalize l.getD k 0 = c at *
        go_wp2_with fail
        go_ret
        exact ⟨ret_int (by rw [HV.out true k HR.out.1 HR.out.2]; rfl), rfl⟩
      · have h' : (((l.getD k 0).toNat : Int) == 58) = false := by
          rw [beq_eq_false_iff_ne]; intro e; exact h58 (UInt8.toNat_inj.1 (show (l.getD k 0).toNat = 58 by omega))
        have HS2 : Hid (allK (· != 58) l (k + 1) = true) := Lib.hid (by rw [HS.out k HLT.out, HA.out, Bool.true_and, bne_iff_ne]; exact h58)
        clear h58
        generalize l.getD k 0 = c at *
        go_wp2_with fail
        go_round
        case rel => exact ⟨k + 1, by omega, by go_num, HS2.out⟩
        case measure => simp [intOf]; omega
    · have HE : Hid (has 58 l = false) := Lib.hid (HF.out (by have h1 := HA.out; have := HSZ.out; rw [show k = l.length by omega] at h1; exact h1))
      go_wp2_with fail
      go_ret
      exact ⟨ret_int (HV2.out HE.out).symm, rfl⟩
end Hd
end Go.Proofs.YtliaciojlcajdaaDoor
