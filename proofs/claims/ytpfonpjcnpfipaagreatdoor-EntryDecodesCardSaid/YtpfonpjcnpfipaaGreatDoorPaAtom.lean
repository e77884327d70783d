/- path.atom, path.label. Conditions: as stated at each. -/
import Derived.Test.YtpfonpjcnpfipaaGreatDoorPaSmall
namespace Go.Proofs.YtpfonpjcnpfipaaGreatDoor
set_option maxRecDepth 100000
namespace Pa
open Go.RowKit Go
theorem str_at (l : List UInt8) (k : Nat) (h : k < (str l).size) : (str l)[k] = l.getD k 0 := by
  have hk : k < l.length := by rw [str_size] at h; exact h
  simp [str, List.getD, hk]
  rfl
/-- the first k may all be. -/
def allK (f : UInt8 → Bool) (l : List UInt8) (k : Nat) : Bool := (l.take k).all f
theorem allK_zero (f : UInt8 → Bool) (l : List UInt8) : allK f l 0 = true := rfl
theorem allK_succ {f : UInt8 → Bool} {l : List UInt8} {k : Nat} (h : k < l.length) : allK f l (k + 1) = (allK f l k && f (l.getD k 0)) := by
  unfold allK
  rw [List.take_succ_eq_append_getElem h, List.all_append]
  simp [List.getD, h]
theorem allK_full {f : UInt8 → Bool} {l : List UInt8} {k : Nat} (h : l.length ≤ k) : allK f l k = l.all f := by
  unfold allK; rw [List.take_of_length_le h]
theorem allK_false {f : UInt8 → Bool} {l : List UInt8} {k : Nat} (hk : k < l.length) (h : f (l.getD k 0) = false) : l.all f = false := by
  rw [Bool.eq_false_iff]
  intro ha
  rw [List.all_eq_true] at ha
  have := ha (l.getD k 0) (by simp [List.getD, hk])
  rw [h] at this
  cases this
theorem atS_f {l : List UInt8} (h : l.all atB = false) : false = atS l := by unfold atS; rw [h]; rfl
theorem labS_f {l : List UInt8} (h : l.all labB = false) : false = labS l := by unfold labS; rw [h]; rfl
theorem str_empty (l : List UInt8) : (!(str l).toList.isEmpty) = (l != []) := by
  rw [Go.Lib.toList_data, str_data]; cases l <;> rfl
set_option maxHeartbeats 800000 in
theorem atom_any (l : List UInt8) (w : World) (hl : l.length ≤ 1000000) :
    Calls Tryz.prog 50 #[.string (str l)] w fun e w' => e = .returned (.bool (atS l)) ∧ w = w' := by
  have hsz := str_size l
  have hat := str_at l
  have HSZ := Lib.hid hsz
  have HE := Lib.hid (str_empty l)
  generalize str l = s at *
  have HAT := Lib.hid hat
  clear hat
  go_enter Tryz.func50, Tryz.ntmps50
  go_wp2_with fail
  go_loop [8] (fun i => ∃ k : Nat, k ≤ s.size ∧ i = .int .i64 k ∧ allK atB l k = true) (fun i => s.size - (intOf i).toNat)
  case atStart => exact ⟨0, Nat.zero_le _, rfl, rfl⟩
  case round =>
    obtain ⟨k, hk, rfl, ha⟩ := hrel
    have HA := Lib.hid ha
    clear ha
    by_cases hlt : k < s.size
    · have hc := HAT.out k hlt
      have HLT : Hid (k < l.length) := Lib.hid (by have := HSZ.out; omega)
      have HS := Lib.hid (allK_succ (f := atB) HLT.out)
      have HF := Lib.hid (fun h => allK_false (f := atB) HLT.out h)
      generalize l.getD k 0 = c at *
      have HT := Lib.hid (told_any c)
      cases hn : atB c
      · rw [hn] at HT HF
        go_wp2_with (first | (rw [hc]; refine (HT.out _).mono ?_; rintro e w' ⟨rfl, rfl⟩) | (refine (HT.out _).mono ?_; rintro e w' ⟨rfl, rfl⟩) | fail)
        go_ret
        exact ⟨ret_bool (atS_f (HF.out (by simp))), rfl⟩
      · rw [hn] at HT HS
        go_wp2_with (first | (rw [hc]; refine (HT.out _).mono ?_; rintro e w' ⟨rfl, rfl⟩) | (refine (HT.out _).mono ?_; rintro e w' ⟨rfl, rfl⟩) | fail)
        go_round
        case rel => exact ⟨k + 1, by omega, by go_num, by rw [HS.out, HA.out]; rfl⟩
        case measure => simp [intOf]; omega
    · go_wp2_with fail
      go_ret
      refine ⟨ret_bool ?_, rfl⟩
      have h1 := HA.out
      rw [allK_full (by have := HSZ.out; omega)] at h1
      rw [HE.out]
      unfold atS
      rw [h1]
      rfl
set_option maxHeartbeats 800000 in
theorem label_any (l : List UInt8) (w : World) (hl : l.length ≤ 1000000) :
    Calls Tryz.prog 67 #[.string (str l)] w fun e w' => e = .returned (.bool (labS l)) ∧ w = w' := by
  have hsz := str_size l
  have hat := str_at l
  have HSZ := Lib.hid hsz
  have HE := Lib.hid (str_empty l)
  generalize str l = s at *
  have HAT := Lib.hid hat
  clear hat
  go_enter Tryz.func67, Tryz.ntmps67
  go_wp2_with fail
  go_loop [8] (fun i => ∃ k : Nat, k ≤ s.size ∧ i = .int .i64 k ∧ allK labB l k = true) (fun i => s.size - (intOf i).toNat)
  case atStart => exact ⟨0, Nat.zero_le _, rfl, rfl⟩
  case round =>
    obtain ⟨k, hk, rfl, ha⟩ := hrel
    have HA := Lib.hid ha
    clear ha
    by_cases hlt : k < s.size
    · have hc := HAT.out k hlt
      have HLT : Hid (k < l.length) := Lib.hid (by have := HSZ.out; omega)
      have HS := Lib.hid (allK_succ (f := labB) HLT.out)
      have HF := Lib.hid (fun h => allK_false (f := labB) HLT.out h)
      generalize l.getD k 0 = c at *
      have HT := Lib.hid (told_any c)
      cases hn : labB c
      · rw [hn] at HT HF
        go_wp2_with (first | (rw [hc]; refine (HT.out _).mono ?_; rintro e w' ⟨rfl, rfl⟩) | (refine (HT.out _).mono ?_; rintro e w' ⟨rfl, rfl⟩) | fail)
        go_ret
        exact ⟨ret_bool (labS_f (HF.out (by simp))), rfl⟩
      · rw [hn] at HT HS
        go_wp2_with (first | (rw [hc]; refine (HT.out _).mono ?_; rintro e w' ⟨rfl, rfl⟩) | (refine (HT.out _).mono ?_; rintro e w' ⟨rfl, rfl⟩) | fail)
        go_round
        case rel => exact ⟨k + 1, by omega, by go_num, by rw [HS.out, HA.out]; rfl⟩
        case measure => simp [intOf]; omega
    · have h1 := HA.out
      rw [allK_full (by have := HSZ.out; omega)] at h1
      have HL1 := Lib.hid h1
      clear h1 HA hk
      by_cases h0 : s.size = 0
      · have HL0 : Hid (l = []) := Lib.hid (List.eq_nil_of_length_eq_zero (by have := HSZ.out; omega))
        have he : (!s.toList.isEmpty) = false := by rw [HE.out, HL0.out]; rfl
        have HEE := Lib.hid he
        go_wp2_with fail
        go_ret
        exact ⟨ret_bool (by rw [HL0.out]; rfl), rfl⟩
      · have h00 : 0 < s.size := by omega
        have he : (!s.toList.isEmpty) = true := by rw [HE.out, bne_iff_ne]; intro e; have := HSZ.out; rw [e, List.length_nil] at this; omega
        have HN : Hid ((l != []) = true) := Lib.hid (by rw [← HE.out]; exact he)
        have hg0 := HAT.out 0 h00
        have hlast : l.length - 1 < s.size := by omega
        have hg1 := HAT.out (l.length - 1) hlast
        have hw1 : IntKind.i64.wrap ((l.length : Int) - 1) = ((l.length - 1 : Nat) : Int) := by rw [IntWalk.i64_in _ (by omega)]; omega
        have HLS : Hid (labS l = (decide ((l.length : Int) ≤ 63) && (((l.getD 0 0).toNat : Int) != 45) && (((l.getD (l.length - 1) 0).toNat : Int) != 45))) := Lib.hid (by
          have e : ∀ c : UInt8, ((c.toNat : Int) != 45) = (c != 45) := fun c => by
            rw [Bool.eq_iff_iff, bne_iff_ne, bne_iff_ne, Ne, Ne, ← UInt8.toNat_inj]
            show ¬ (c.toNat : Int) = 45 ↔ ¬ c.toNat = 45
            omega
          have e2 : decide ((l.length : Int) ≤ 63) = decide (l.length ≤ 63) := by rw [Bool.eq_iff_iff, decide_eq_true_eq, decide_eq_true_eq]; omega
          unfold labS; rw [HL1.out, HN.out, e, e, e2]; simp)
        generalize l.getD 0 0 = c0 at *
        generalize l.getD (l.length - 1) 0 = c1 at *
        go_wp2_with fail
        all_goals (go_ret; refine ⟨ret_bool ?_, rfl⟩; rw [HLS.out])
        all_goals first
          | rfl
          | (simp [*]; done)
          | (simp [*]; omega)
end Pa
end Go.Proofs.YtpfonpjcnpfipaaGreatDoor
