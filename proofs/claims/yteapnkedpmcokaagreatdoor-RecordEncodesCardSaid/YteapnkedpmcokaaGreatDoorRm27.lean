/- EnSmall. Conditions: as stated at each. -/
import Derived.Test.YteapnkedpmcokaaGreatDoorRm22
import Derived.Test.YteapnkedpmcokaaGreatDoorRm18
/- The document's Small; what is encoded, how long. Conditions: as stated at each. -/
namespace Go.Proofs.YteapnkedpmcokaaGreatDoor
set_option maxRecDepth 100000
namespace En
open Go.RowKit Go Go.Proofs.YteapnkedpmcokaaGreatDoor.Pa
def azB (c : UInt8) : Bool := decide (97 ≤ c.toNat ∧ c.toNat ≤ 122)
theorem small_is (n : Nat) (s : L) : Rt.smallS n s = (s.all azB && decide (1 ≤ s.length ∧ s.length ≤ n)) := rfl
set_option maxHeartbeats 800000 in
theorem rsmall_any (l : L) (n : Nat) (hl : l.length ≤ 140737488355328) (w : World) :
    Calls Tryz.prog 41 #[.string (str l), .int .i64 n] w fun e w' => e = .returned (.bool (Rt.smallS n l)) ∧ w = w' := by
  have hsz := str_size l
  have HSZ := Lib.hid hsz
  have HAT := Lib.hid (str_at l)
  have HIS := Lib.hid (small_is n l)
  generalize Rt.smallS n l = r at *
  generalize str l = s at *
  go_enter Tryz.func41, Tryz.ntmps41
  go_wp2_with fail
  go_loop [5] (fun i => ∃ k : Nat, k ≤ s.size ∧ i = .int .i64 k ∧ allK azB l k = true) (fun i => s.size - (intOf i).toNat)
  case atStart => exact ⟨0, Nat.zero_le _, rfl, rfl⟩
  case round =>
    obtain ⟨k, hk, rfl, ha⟩ := hrel
    have HA := Lib.hid ha
    clear ha
    by_cases hlt : k < s.size
    · have hc := HAT.out k hlt
      have HLT : Hid (k < l.length) := Lib.hid (by have := HSZ.out; omega)
      have HS := Lib.hid (allK_succ (f := azB) HLT.out)
      have HF := Lib.hid (fun h => allK_false (f := azB) HLT.out h)
      generalize l.getD k 0 = c at *
      have HZ : Hid (azB c = decide (97 ≤ (c.toNat : Int) ∧ (c.toNat : Int) ≤ 122)) := Lib.hid (by unfold azB; rw [Bool.eq_iff_iff, decide_eq_true_eq, decide_eq_true_eq]; omega)
      rcases Decidable.em ((c.toNat : Int) < 97) with h1 | h1
      · go_wp2_with fail
        go_ret
        refine ⟨ret_bool ?_, rfl⟩
        rw [HIS.out, HF.out (by rw [HZ.out, decide_eq_false (by omega)])]; rfl
      · rcases Decidable.em (122 < (c.toNat : Int)) with h2 | h2
        · go_wp2_with fail
          go_ret
          refine ⟨ret_bool ?_, rfl⟩
          rw [HIS.out, HF.out (by rw [HZ.out, decide_eq_false (by omega)])]; rfl
        · go_wp2_with fail
          go_round
          case rel => exact ⟨k + 1, by omega, by go_num, by rw [HS.out, HA.out, HZ.out, decide_eq_true (by omega)]; rfl⟩
          case measure => simp [intOf]; omega
    · have HR : Hid (r = decide (1 ≤ (s.size : Int) ∧ (s.size : Int) ≤ n)) := Lib.hid (by
        have h1 := HA.out
        rw [allK_full (by have := HSZ.out; omega)] at h1
        rw [HIS.out, h1, Bool.true_and, Bool.eq_iff_iff, decide_eq_true_eq, decide_eq_true_eq]
        have := HSZ.out
        omega)
      go_wp2_with fail
      all_goals
        go_ret
        refine ⟨ret_bool ?_, rfl⟩
        rw [HR.out, Bool.eq_iff_iff]
        simp only [decide_eq_true_eq]
        first | omega | (simp; omega)
theorem put_len (K : Nat) : ∀ (l : List L), (∀ p ∈ l, p.length ≤ K) → K ≤ 1000000 → (putS l).length ≤ l.length * (K + 32)
  | [], _, _ => by simp [putS]
  | p :: l, h, hK => by
    have ih := put_len K l (fun q hq => h q (List.mem_cons_of_mem _ hq)) hK
    have hp := h p (List.mem_cons_self ..)
    have hd := dec_len (n := p.length) (by omega)
    rw [put_cons, List.length_append, List.length_cons, Nat.succ_mul]
    simp only [partS, List.length_append, List.length_cons, List.length_nil]
    omega
def fiveS (m : M) : List L := [dec m.id.toNat, m.cls, m.fr, dec m.at_.toNat, dec m.tos.length]
theorem fld_is (m : M) : fldS m = fiveS m ++ m.tos ++ [m.body] := by simp [fldS, fiveS]
theorem enc_len {m : M} (h : okB m = true) (ht : m.at_ ≤ 9223372036854775807) : (putS (fldS m)).length ≤ 600000 := by
  obtain ⟨h1, h2, h3, h4, h5, h6, h7⟩ := ok_parts h
  rw [fld_is, put_app, put_one, List.length_append]
  have hc : m.cls.length ≤ 20 := by
    unfold Rt.smallS at h7
    rw [Bool.and_eq_true, decide_eq_true_eq] at h7
    omega
  have ha := put_len 400 (fiveS m ++ m.tos) (fun p hp => by
    unfold fiveS at hp
    simp only [List.mem_cons, List.mem_append, List.not_mem_nil, or_false] at hp
    rcases hp with (rfl | rfl | rfl | rfl | rfl) | hp
    · have := dec_len (n := m.id.toNat) (by omega); omega
    · omega
    · rcases h1 with h1 | h1
      · rw [h1]; simp
      · have := mail_len h1; omega
    · have := dec_len (n := m.at_.toNat) (by omega); omega
    · have := dec_len (n := m.tos.length) (by omega); omega
    · have := mail_len (h4 p hp); omega) (by omega)
  have hl : (fiveS m ++ m.tos).length ≤ 105 := by simp [fiveS]; omega
  have hb := dec_len (n := m.body.length) (by omega)
  have hm := Nat.mul_le_mul_right (400 + 32) hl
  simp only [partS, List.length_append, List.length_cons, List.length_nil] at *
  omega
end En
end Go.Proofs.YteapnkedpmcokaaGreatDoor
