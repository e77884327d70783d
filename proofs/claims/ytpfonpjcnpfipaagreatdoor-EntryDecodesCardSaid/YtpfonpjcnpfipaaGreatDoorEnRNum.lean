/- The document's Number, with what it answers beside false. Conditions: as stated at each. -/
import Derived.Test.YtpfonpjcnpfipaaGreatDoorMbRaw
import Derived.Test.YtpfonpjcnpfipaaGreatDoorEnLib
import Derived.Test.YtpfonpjcnpfipaaGreatDoorPaRDom
import Derived.Deep.QuietTactic
namespace Go.Proofs.YtpfonpjcnpfipaaGreatDoor
set_option maxRecDepth 100000
namespace En
open Go.RowKit Go Go.Proofs.YtpfonpjcnpfipaaGreatDoor.Pa Go.Proofs.YtpfonpjcnpfipaaGreatDoor.Mb
def NumB (w : World) (ds : L) (e : Ending) (w' : World) : Prop := Below w.heap.size w w' ∧ ((∃ n : Nat, numS ds = some n ∧ e = .returned (.tuple #[.int .i64 (n : Int), .bool true])) ∨ (numS ds = none ∧ ∃ v : Int, e = .returned (.tuple #[.int .i64 v, .bool false]) ∧ -9223372036854775808 ≤ v ∧ v < 9223372036854775808))
set_option maxHeartbeats 1600000 in
theorem rnumber_b (ds : L) (w : World) (hl : ds.length ≤ 1000000) :
    Calls Tryz.prog 14 #[.string (str ds)] w (NumB w ds) := by
  have hsz := str_size ds
  have HAT := Lib.hid (str_at ds)
  have HEM := Lib.hid (En.str_empty ds)
  have HE1 : Hid (((str ds).toList == [48]) = (ds == [48])) := Lib.hid (by rw [Go.Lib.toList_data]; rfl)
  have HDA := Lib.hid (digs_all (ds := ds))
  generalize hs : str ds = s at *
  have HS := Lib.hid hs
  clear hs
  go_enter Tryz.func14, Tryz.ntmps14
  go_wp2_with fail
  go_loopw [4, 5] (fun x i wr => ∃ k : Nat, i = .int .i64 k ∧ k ≤ ds.length ∧ x = .int .i64 (valL (ds.take k) : Int) ∧ (∀ j, j < k → digB (ds.getD j 0)) ∧ valL (ds.take k) < 9223372036854775808 ∧ Below w.heap.size w wr) (fun _ i _ => ds.length + 1 - (intOf i).toNat)
  case atStart => exact ⟨0, rfl, Nat.zero_le _, rfl, fun j hj => absurd hj (Nat.not_lt_zero _), by simp [valL, valF], Below.refl _ _⟩
  case round =>
    obtain ⟨k, rfl, hk, rfl, hdg, hv, hbel⟩ := hrel
    have HB := Lib.hid hbel
    have HDG := Lib.hid hdg
    clear hbel hdg
    by_cases hlt : k < ds.length
    · have hks : k < s.size := by omega
      have hc := HAT.out k hks
      have hnext := val_next hlt
      by_cases hd : digB (ds.getD k 0)
      · have hdd : 48 ≤ (ds.getD k 0).toNat ∧ (ds.getD k 0).toNat ≤ 57 := hd
        have HD := Lib.hid hd
        clear hd
        generalize hcc : ds.getD k 0 = c at *
        have HCC := Lib.hid hcc
        clear hcc
        generalize valL (ds.take k) = n at *
        generalize hv2 : valL (ds.take (k + 1)) = n2 at *
        have HV2 := Lib.hid hv2
        clear hv2
        have z0 : ¬ (c.toNat : Int) - 48 < 0 := by omega
        have z1 : ¬ (9 : Int) < (c.toNat : Int) - 48 := by omega
        have hw0 : IntKind.i64.wrap ((c.toNat : Int) - 48) = (c.toNat : Int) - 48 := IntWalk.i64_in _ (by omega)
        have hw1 : IntKind.i64.wrap (9223372036854775807 - ((c.toNat : Int) - 48)) = 9223372036854775807 - ((c.toNat : Int) - 48) := IntWalk.i64_in _ (by omega)
        by_cases hbig : n2 < 9223372036854775808
        · go_wp2_with fail
          go_roundw
          case rel =>
            refine ⟨k + 1, by go_num, by omega, ?_, ?_, by rw [HV2.out]; exact hbig, HB.out⟩
            · rw [HV2.out]
              go_num
            · intro j hj
              rcases Nat.lt_or_ge j k with h3 | h3
              · exact HDG.out j h3
              · have hjk : j = k := by omega
                subst hjk
                rw [HCC.out]
                exact HD.out
          case measure => simp [intOf]; omega
        · have hbn : numS ds = none := num_big (k := k + 1) (by rw [HV2.out]; omega)
          go_wp2_with fail
          refine bodyPost_ret (results_tmp2 rfl _ _ _) rfl ?_
          exact ⟨HB.out, .inr ⟨hbn, _, rfl, by omega, by omega⟩⟩
      · have hbn : numS ds = none := num_no_dig hlt hd
        have hd2 : (ds.getD k 0).toNat < 48 ∨ 57 < (ds.getD k 0).toNat := by
          unfold digB at hd
          omega
        clear hd hnext
        have hct := (ds.getD k 0).toNat_lt
        generalize ds.getD k 0 = c at *
        generalize valL (ds.take k) = n at *
        have hw0 : IntKind.i64.wrap ((c.toNat : Int) - 48) = (c.toNat : Int) - 48 := IntWalk.i64_in _ (by omega)
        rcases hd2 with hd2 | hd2
        · have z0 : (c.toNat : Int) - 48 < 0 := by omega
          go_wp2_with fail
          refine bodyPost_ret (results_tmp2 rfl _ _ _) rfl ?_
          exact ⟨HB.out, .inr ⟨hbn, _, rfl, by omega, by omega⟩⟩
        · have z0 : ¬ (c.toNat : Int) - 48 < 0 := by omega
          have z1 : (9 : Int) < (c.toNat : Int) - 48 := by omega
          go_wp2_with fail
          refine bodyPost_ret (results_tmp2 rfl _ _ _) rfl ?_
          exact ⟨HB.out, .inr ⟨hbn, _, rfl, by omega, by omega⟩⟩
    · obtain rfl : k = ds.length := by omega
      rw [List.take_length] at *
      have HDD := Lib.hid (HDA.out HDG.out)
      generalize hv0 : valL ds = n at *
      have HV0 := Lib.hid hv0
      clear hv0 HDG
      by_cases hnil : ds = []
      · have hsn : s.size = 0 := by rw [hsz, hnil]; rfl
        have hbn : numS ds = none := by rw [hnil]; exact num_nil
        have HE0 : (s.toList == []) = true := by rw [HEM.out, hnil]; rfl
        have HE9 : (s.toList == [48]) = false := by rw [HE1.out, hnil]; rfl
        go_wp2_with fail
        refine bodyPost_ret (results_tmp2 rfl _ _ _) rfl ?_
        exact ⟨HB.out, .inr ⟨hbn, _, rfl, by omega, by omega⟩⟩
      · have hsp : 0 < s.size := by rw [hsz]; exact List.length_pos_iff.2 hnil
        have HE0 : (s.toList == []) = false := by rw [HEM.out]; simpa using hnil
        have hc0 := HAT.out 0 hsp
        have hh : ds.head? = some (ds.getD 0 0) := by
          cases ds with
          | nil => exact absurd rfl hnil
          | cons x t => rfl
        have HH := Lib.hid hh
        clear hh
        generalize ds.getD 0 0 = c at *
        have hct := c.toNat_lt
        by_cases h48 : c = 48
        · subst h48
          by_cases h1 : ds = [48]
          · have HE9 : (s.toList == [48]) = true := by rw [HE1.out, h1]; rfl
            have hsm : numS ds = some n := by rw [← HV0.out]; exact num_all HDD.out hnil (.inr h1) (by rw [HV0.out]; exact hv)
            go_wp2_with fail
            refine bodyPost_ret (results_tmp2 rfl _ _ _) rfl ?_
            exact ⟨HB.out, .inl ⟨_, hsm, rfl⟩⟩
          · have HE9 : (s.toList == [48]) = false := by rw [HE1.out]; simpa using h1
            have hbn : numS ds = none := num_zero HH.out h1
            go_wp2_with fail
            refine bodyPost_ret (results_tmp2 rfl _ _ _) rfl ?_
            exact ⟨HB.out, .inr ⟨hbn, _, rfl, by omega, by omega⟩⟩
        · have h48' : ¬ (c.toNat : Int) = 48 := by
            intro e
            exact h48 (UInt8.toNat_inj.1 (by show c.toNat = 48; omega))
          have hsm : numS ds = some n := by
            rw [← HV0.out]
            exact num_all HDD.out hnil (.inl (by rw [HH.out]; intro e; injection e with e; exact h48 e)) (by rw [HV0.out]; exact hv)
          go_wp2_with fail
          refine bodyPost_ret (results_tmp2 rfl _ _ _) rfl ?_
          exact ⟨HB.out, .inl ⟨_, hsm, rfl⟩⟩
end En
end Go.Proofs.YtpfonpjcnpfipaaGreatDoor
