/- The document's 'in'. Conditions: as stated at each. -/
import Derived.Test.YtamekflgidfnfaaGreatDoorMiSplit
import Derived.Test.YtamekflgidfnfaaGreatDoorPaRDom
namespace Go.Proofs.YtamekflgidfnfaaGreatDoor
set_option maxRecDepth 100000
namespace Mi
open Go.RowKit Go Go.Proofs.YtamekflgidfnfaaGreatDoor.Pa
set_option maxHeartbeats 1600000 in
theorem rin_any (b s : L) (w : World) (hb : b.length ≤ 1000000) (hs : s.length ≤ 1000000) (h0 : 0 < s.length) :
    Calls Tryz.prog 56 #[.string (str b), .string (str s)] w fun e w' => w = w' ∧ ∃ i, e = .returned (.int .i64 i) ∧ IdxP s b i := by
  have hsz := str_size b
  have hss := str_size s
  have HEX : Hid (∀ k, (((str b).extract k (k + s.length)).toList == (str s).toList) = s.isPrefixOf (b.drop k)) := Lib.hid fun k => by
    rw [str_extract, Nat.add_sub_cancel_left, Go.Lib.toList_data, Go.Lib.toList_data, pre_take, str_data, str_data]
  have HSH : Hid (∀ k, b.length < k + s.length → s.isPrefixOf (b.drop k) = false) := Lib.hid fun k h => pre_short (by rw [List.length_drop]; omega)
  generalize str b = sb at *
  generalize str s = ss at *
  unfold IdxP
  generalize b.length = m at *
  generalize s.length = n at *
  go_enter Tryz.func56, Tryz.ntmps56
  go_wp2_with fail
  go_loopw [5] (fun i wr => w = wr ∧ ∃ k : Nat, i = .int .i64 k ∧ k ≤ m + 1 ∧ Hid (∀ j, j < k → s.isPrefixOf (b.drop j) = false)) (fun i _ => m + 2 - (intOf i).toNat)
  case atStart => exact ⟨rfl, 0, rfl, by omega, Lib.hid fun j hj => absurd hj (Nat.not_lt_zero _)⟩
  case round =>
    obtain ⟨rfl, k, rfl, hk, HJ⟩ := hrel
    by_cases hlt : k + n ≤ m
    · obtain ⟨q, hq⟩ : ∃ q : Nat, q = k + n := ⟨_, rfl⟩
      have hqc : (k : Int) + (n : Int) = (q : Int) := by omega
      have hqm : (q : Int) ≤ (m : Int) := by omega
      have hqs : q ≤ sb.size := by omega
      have hkq : k ≤ q := by omega
      have heq := HEX.out k
      rw [← hq] at heq
      cases hp : s.isPrefixOf (b.drop k) with
      | true =>
        rw [hp] at heq
        have HP := Lib.hid hp
        have HQ := Lib.hid hq
        clear hp hq
        go_wp2_with fail
        go_ret
        exact ⟨rfl, _, rfl, .inl ⟨k, rfl, hlt, HP.out, HJ.out⟩⟩
      | false =>
        rw [hp] at heq
        have HP := Lib.hid hp
        have HQ := Lib.hid hq
        clear hp hq
        go_wp2_with fail
        go_roundw
        case rel =>
          refine ⟨by first | rfl | trivial, k + 1, by go_num, by omega, Lib.hid fun j hj => ?_⟩
          rcases Nat.lt_or_ge j k with h | h
          · exact HJ.out j h
          · obtain rfl : j = k := by omega
            exact HP.out
        case measure => simp [intOf]; omega
    · obtain ⟨q, hq⟩ : ∃ q : Nat, q = k + n := ⟨_, rfl⟩
      have hqc : (k : Int) + (n : Int) = (q : Int) := by omega
      have hqm : ¬ (q : Int) ≤ (m : Int) := by omega
      have HQ := Lib.hid hq
      clear hq
      go_wp2_with fail
      go_ret
      exact ⟨rfl, _, rfl, .inr ⟨rfl, fun j => by
        rcases Nat.lt_or_ge j k with h | h
        · exact HJ.out j h
        · exact HSH.out j (by omega)⟩⟩
end Mi
end Go.Proofs.YtamekflgidfnfaaGreatDoor
