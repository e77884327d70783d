/- (*disk.Disk).refuse at whatever state and names. Conditions: as stated at each. -/
import Derived.Test.YtidadjlhnlmfkaaGreatDoorDkSmall
import Derived.Test.YtidadjlhnlmfkaaGreatDoorDkNames
namespace Go.Proofs.YtidadjlhnlmfkaaGreatDoor
set_option maxRecDepth 100000
open Go.RowKit Go
theorem Strs.at_ {w : World} {A : Option Addr} {ss : List ByteArray} (h : Strs w A ss) {k : Nat} (hk : k < ss.length) : (ss.getD k ByteArray.empty).size ≤ maxLen ∧ ∃ ad, A = some ad ∧ w.cell? (ad.add k) = some (.string (ss.getD k ByteArray.empty)) := h k _ (by simp [List.getD, hk])
theorem names_next (ss : List ByteArray) (k : Nat) (h : k < ss.length) : (ss.take (k + 1)).all nameB = ((ss.take k).all nameB && nameB (ss.getD k ByteArray.empty)) := by
  rw [List.take_succ_eq_append_getElem h, List.getD, List.getElem?_eq_getElem h, List.all_append, List.all_cons, List.all_nil, Bool.and_true]; rfl
theorem names_bad (ss : List ByteArray) (k : Nat) (h : k < ss.length) (hs : nameB (ss.getD k ByteArray.empty) = false) : ss.all nameB = false := by
  rw [List.all_eq_false]
  exact ⟨ss.getD k ByteArray.empty, by rw [List.getD, List.getElem?_eq_getElem h]; exact List.getElem_mem h, by rw [hs]; simp⟩
/-- what refuse answers of names. -/
def refN (ss : List ByteArray) : Int := if ss.all nameB = true then 0 else 12
theorem refN_yes {ss : List ByteArray} (h : ss.all nameB = true) : refN ss = 0 := by unfold refN; rw [if_pos h]
theorem refN_no {ss : List ByteArray} (h : ss.all nameB = false) : refN ss = 12 := by unfold refN; rw [h]; rfl
theorem ret_i {a b : Int} (h : a = b) : Ending.returned (.int .i64 a) = .returned (.int .i64 b) := by rw [h]
set_option maxHeartbeats 400000 in
theorem refuse_down (W : World) (Dk M : Nat) (v : Value) (c0 : W.cell? ⟨Dk, 0, none⟩ = some (.map (some M))) (c4 : W.cell? ⟨Dk, 4, none⟩ = some (.bool true)) :
    Calls Tryz.prog 56 #[.pointer (some ⟨Dk, 0, none⟩), v] W fun e w' => e = .returned (.int .i64 10) ∧ W = w' := by
  go_enter Tryz.func56, Tryz.ntmps56
  go_wp2_with (go_at_call 20; refine (down_any _ Dk M true c0 c4).mono ?_; rintro e w' ⟨rfl, rfl⟩)
  go_ret
  exact ⟨rfl, rfl⟩
set_option maxHeartbeats 800000 in
theorem refuse_up (W : World) (Dk M c : Nat) (A : Option Addr) (ss : List ByteArray) (hs : Strs W A ss) (hl : ss.length ≤ maxLen) (c0 : W.cell? ⟨Dk, 0, none⟩ = some (.map (some M))) (c4 : W.cell? ⟨Dk, 4, none⟩ = some (.bool false)) :
    Calls Tryz.prog 56 #[.pointer (some ⟨Dk, 0, none⟩), .slice A ss.length c] W fun e w' => e = .returned (.int .i64 (refN ss)) ∧ W = w' := by
  unfold maxLen at hl
  go_enter Tryz.func56, Tryz.ntmps56
  go_wp2_with (go_at_call 20; refine (down_any _ Dk M false c0 c4).mono ?_; rintro e w' ⟨rfl, rfl⟩)
  go_loop [11] (fun i => ∃ k : Nat, k ≤ ss.length ∧ i = .int .i64 k ∧ (ss.take k).all nameB = true) (fun i => ss.length - (intOf i).toNat)
  case atStart => exact ⟨0, Nat.zero_le _, rfl, by simp⟩
  case round =>
    obtain ⟨k, hk, rfl, ha⟩ := hrel
    have HA := Lib.hid ha
    clear ha
    by_cases hlt : k < ss.length
    · obtain ⟨hsz, ad, rfl, hcell⟩ := hs.at_ hlt
      have HN := Lib.hid (names_next ss k hlt)
      have HF := Lib.hid (names_bad ss k hlt)
      generalize ss.getD k ByteArray.empty = s at *
      cases hb : nameB s
      · have HB := Lib.hid (HF.out hb)
        have hc : Calls Tryz.prog 21 #[.string s] W fun e w' => e = .returned (.bool false) ∧ W = w' := by
          have := diskName_any s W hsz
          rw [hb] at this
          exact this
        clear hb
        go_wp2_with (go_at_call 21; refine hc.mono ?_; rintro e w' ⟨rfl, rfl⟩)
        go_ret
        exact ⟨ret_i (refN_no HB.out).symm, rfl⟩
      · have HB := Lib.hid hb
        have hc : Calls Tryz.prog 21 #[.string s] W fun e w' => e = .returned (.bool true) ∧ W = w' := by
          have := diskName_any s W hsz
          rw [hb] at this
          exact this
        clear hb
        go_wp2_with (go_at_call 21; refine hc.mono ?_; rintro e w' ⟨rfl, rfl⟩)
        go_round
        case rel => exact ⟨k + 1, by omega, by go_num, by rw [HN.out, HA.out, HB.out]; rfl⟩
        case measure => simp [intOf]; omega
    · obtain rfl : k = ss.length := by omega
      have hall : ss.all nameB = true := by
        have := HA.out
        rwa [List.take_length] at this
      have HL := Lib.hid hall
      clear hall
      go_wp2_with fail
      go_ret
      exact ⟨ret_i (refN_yes HL.out).symm, rfl⟩
end Go.Proofs.YtidadjlhnlmfkaaGreatDoor
