/- The name rule of the disk and of the document's answer agree on every string: walks of the two functions and of the byte's test. Conditions: none. -/
import Derived.Test.YtidadjlhnlmfkaaGreatDoorProg
import Derived.WalkKit
import Derived.LoopTactic
import Derived.Outline
import Derived.Lib.Hide
namespace Go.Proofs.YtidadjlhnlmfkaaGreatDoor
set_option maxRecDepth 100000
open Go.RowKit Go
def nb (n : Int) : Bool := (97 ≤ n && n ≤ 122) || (48 ≤ n && n ≤ 57) || n == 45 || n == 46
theorem nb_t {n : Int} (h : (97 ≤ n ∧ n ≤ 122) ∨ (48 ≤ n ∧ n ≤ 57) ∨ n = 45 ∨ n = 46) : true = nb n := by
  unfold nb; simp; omega
theorem nb_f {n : Int} (h : ¬ ((97 ≤ n ∧ n ≤ 122) ∨ (48 ≤ n ∧ n ≤ 57) ∨ n = 45 ∨ n = 46)) : false = nb n := by
  symm; rw [Bool.eq_false_iff]; unfold nb; simp; omega
theorem ret_bool {a b : Bool} (h : a = b) : Ending.returned (.bool a) = .returned (.bool b) := by rw [h]
set_option maxHeartbeats 400000 in
theorem nameByte_any (n : Int) (w : World) (h0 : 0 ≤ n) (h1 : n ≤ 255) :
    Calls Tryz.prog 49 #[.int .u8 n] w fun e w' => e = .returned (.bool (nb n)) ∧ w = w' := by
  by_cases c1 : 97 ≤ n
  · by_cases c2 : n ≤ 122
    · go_enter Tryz.func49, Tryz.ntmps49
      go_wp2
      go_ret
      exact ⟨ret_bool (nb_t (by omega)), rfl⟩
    · have c3 : (n == 45) = false := by simp; omega
      have c4 : (n == 46) = false := by simp; omega
      have c7 : ¬ n ≤ 57 := by omega
      go_enter Tryz.func49, Tryz.ntmps49
      go_wp2
      go_ret
      exact ⟨ret_bool (nb_f (by omega)), rfl⟩
  · by_cases c5 : 48 ≤ n
    · by_cases c6 : n ≤ 57
      · go_enter Tryz.func49, Tryz.ntmps49
        go_wp2
        go_ret
        exact ⟨ret_bool (nb_t (by omega)), rfl⟩
      · have c3 : (n == 45) = false := by simp; omega
        have c4 : (n == 46) = false := by simp; omega
        go_enter Tryz.func49, Tryz.ntmps49
        go_wp2
        go_ret
        exact ⟨ret_bool (nb_f (by omega)), rfl⟩
    · by_cases c3 : n = 45
      · subst c3
        go_enter Tryz.func49, Tryz.ntmps49
        go_wp2
        go_ret
        exact ⟨rfl, rfl⟩
      · by_cases c4 : n = 46
        · subst c4
          go_enter Tryz.func49, Tryz.ntmps49
          go_wp2
          go_ret
          exact ⟨rfl, rfl⟩
        · have c3' : (n == 45) = false := by simp; omega
          have c4' : (n == 46) = false := by simp; omega
          have c3n := Lib.hid c3
          have c4n := Lib.hid c4
          clear c3 c4
          go_enter Tryz.func49, Tryz.ntmps49
          go_wp2
          go_ret
          exact ⟨ret_bool (nb_f (by have := c3n.out; have := c4n.out; omega)), rfl⟩
/-- all of the first k bytes may be. -/
def allNb (s : ByteArray) (k : Nat) : Bool := (s.data.toList.take k).all fun c => nb c.toNat
def nameB (s : ByteArray) : Bool := decide (1 ≤ s.size) && decide (s.size ≤ 64) && allNb s s.size
theorem take_snoc (s : ByteArray) (k : Nat) (h : k < s.size) : s.data.toList.take (k + 1) = s.data.toList.take k ++ [s[k]] := by
  rw [List.take_succ_eq_append_getElem (by simpa using h)]; rfl
theorem allNb_succ (s : ByteArray) (k : Nat) (h : k < s.size) : allNb s (k + 1) = (allNb s k && nb (s[k].toNat : Int)) := by
  unfold allNb; rw [take_snoc s k h]; simp
theorem allNb_full (s : ByteArray) (k : Nat) (h : s.size ≤ k) : allNb s k = allNb s s.size := by
  unfold allNb
  rw [List.take_of_length_le (by simpa using h), List.take_of_length_le (by simp)]
theorem allNb_false (s : ByteArray) (k : Nat) (hk : k < s.size) (h : nb (s[k].toNat : Int) = false) : allNb s s.size = false := by
  rw [Bool.eq_false_iff]
  intro ha
  unfold allNb at ha
  rw [List.all_eq_true] at ha
  have := ha s[k] (by rw [List.take_of_length_le (by simp)]; exact Array.getElem_mem_toList (xs := s.data) (i := k) hk)
  rw [h] at this
  cases this
theorem nameB_t (s : ByteArray) (k : Nat) (h1 : 1 ≤ s.size) (h2 : s.size ≤ 64) (hk : s.size ≤ k) (ha : allNb s k = true) : true = nameB s := by
  rw [allNb_full s k hk] at ha
  unfold nameB; rw [ha, decide_eq_true h1, decide_eq_true h2]; rfl
theorem nameB_short (s : ByteArray) (h : ¬ 1 ≤ s.size) : false = nameB s := by
  unfold nameB; rw [decide_eq_false h]; rfl
theorem nameB_long (s : ByteArray) (h : ¬ s.size ≤ 64) : false = nameB s := by
  unfold nameB; rw [decide_eq_false h]; simp
theorem nameB_bad (s : ByteArray) (h : allNb s s.size = false) : false = nameB s := by
  unfold nameB; rw [h]; simp
set_option maxHeartbeats 400000 in
theorem diskName_any (s : ByteArray) (w : World) (hs : s.size ≤ maxLen) :
    Calls Tryz.prog 21 #[.string s] w fun e w' => e = .returned (.bool (nameB s)) ∧ w = w' := by
  unfold maxLen at hs
  by_cases h1 : s.size < 1
  · have hb : false = nameB s := by unfold nameB; simp; omega
    have HB := Lib.hid hb
    clear hb
    have h2 : ¬ 64 < s.size := by omega
    go_enter Tryz.func21, Tryz.ntmps21
    go_wp2_with fail
    go_ret
    exact ⟨ret_bool HB.out, rfl⟩
  · by_cases h2 : 64 < s.size
    · have hb : false = nameB s := by unfold nameB; simp; omega
      have HB := Lib.hid hb
      clear hb
      go_enter Tryz.func21, Tryz.ntmps21
      go_wp2_with fail
      go_ret
      exact ⟨ret_bool HB.out, rfl⟩
    · have hb : nameB s = allNb s s.size := by unfold nameB; simp; omega
      have HB := Lib.hid hb
      clear hb
      go_enter Tryz.func21, Tryz.ntmps21
      go_wp2_with fail
      go_loop [14] (fun i => ∃ k : Nat, k ≤ s.size ∧ i = .int .i64 k ∧ allNb s k = true) (fun i => s.size - (intOf i).toNat)
      case atStart => exact ⟨0, Nat.zero_le _, rfl, rfl⟩
      case round =>
        obtain ⟨k, hk, rfl, ha⟩ := hrel
        have HA := Lib.hid ha
        clear ha
        by_cases hlt : k < s.size
        · have hn2 := s[k].toNat_lt
          cases hn : nb (s[k].toNat : Int)
          · have HF := Lib.hid (allNb_false s k hlt hn)
            go_wp2_with (go_at_call 49; refine (nameByte_any _ _ (by omega) (by omega)).mono ?_; rintro e w' ⟨rfl, rfl⟩)
            go_ret
            exact ⟨ret_bool (by rw [HB.out, HF.out]), rfl⟩
          · have HS := Lib.hid (allNb_succ s k hlt)
            go_wp2_with (go_at_call 49; refine (nameByte_any _ _ (by omega) (by omega)).mono ?_; rintro e w' ⟨rfl, rfl⟩)
            go_round
            case rel => exact ⟨k + 1, by omega, by go_num, by rw [HS.out, HA.out, hn]; rfl⟩
            case measure => simp [intOf]; omega
        · go_wp2_with fail
          go_ret
          exact ⟨ret_bool (by rw [HB.out, ← allNb_full s k (by omega), HA.out]), rfl⟩
end Go.Proofs.YtidadjlhnlmfkaaGreatDoor
