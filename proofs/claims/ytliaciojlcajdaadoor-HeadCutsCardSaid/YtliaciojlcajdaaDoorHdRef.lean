/- The document's plain, line. Conditions: as stated at each. -/
import Derived.Test.YtliaciojlcajdaaDoorHdLine
namespace Go.Proofs.YtliaciojlcajdaaDoor
set_option maxRecDepth 100000
namespace Hd
open Go.RowKit Go Go.Proofs.YtliaciojlcajdaaDoor.Pa
def noEnd (c : UInt8) : Bool := c != 13 && c != 10
def plainS (l : List UInt8) : Bool := l.all noEnd && (l == trimB l)
theorem noEnd_iff (c : UInt8) : noEnd c = (!(decide ((c.toNat : Int) = 13)) && !(decide ((c.toNat : Int) = 10))) := by
  have e : ∀ k : UInt8, (c != k) = !(decide ((c.toNat : Int) = (k.toNat : Int))) := fun k => by
    rw [Bool.eq_iff_iff, bne_iff_ne, Bool.not_eq_true', decide_eq_false_iff_not, Ne, ← UInt8.toNat_inj]; omega
  unfold noEnd
  rw [e, e]
  rfl
theorem plainS_f {l : List UInt8} (h : l.all noEnd = false) : false = plainS l := by unfold plainS; rw [h]; rfl
theorem plainS_t {l : List UInt8} (h : l.all noEnd = true) : (l == trimB l) = plainS l := by unfold plainS; rw [h]; rfl
theorem str_beq (a b : List UInt8) : ((str a).toList == (str b).toList) = (a == b) := by rw [Go.Lib.toList_data, Go.Lib.toList_data, str_data, str_data]
set_option maxHeartbeats 800000 in
theorem rplain_any (l : List UInt8) (w : World) (hl : l.length ≤ 1000000) :
    Calls Tryd.prog 31 #[.string (str l)] w fun e w' => e = .returned (.bool (plainS l)) ∧ w = w' := by
  have hsz := str_size l
  have hat := str_at l
  have HTR := Lib.hid (fun w => rtrim_any l w hl)
  have HEQ := Lib.hid (str_beq l (trimB l))
  generalize str (trimB l) = t at *
  generalize str l = s at *
  have HAT := Lib.hid hat
  have HSZ := Lib.hid hsz
  clear hat hsz
  have hs := HSZ.out ▸ hl
  go_enter Tryd.func31, Tryd.ntmps31
  go_wp2_with fail
  go_loop [3] (fun i => ∃ k : Nat, k ≤ s.size ∧ i = .int .i64 k ∧ allK noEnd l k = true) (fun i => s.size - (intOf i).toNat)
  case atStart => exact ⟨0, Nat.zero_le _, rfl, rfl⟩
  case round =>
    obtain ⟨k, hk, rfl, ha⟩ := hrel
    have HA := Lib.hid ha
    clear ha
    by_cases hlt : k < s.size
    · have hc := HAT.out k hlt
      have HLT : Hid (k < l.length) := Lib.hid (by have := HSZ.out; omega)
      have HS := Lib.hid (allK_succ (f := noEnd) HLT.out)
      have HF := Lib.hid (fun h => allK_false (f := noEnd) HLT.out h)
      generalize l.getD k 0 = c at *
      have hn := noEnd_iff c
      by_cases c1 : (c.toNat : Int) = 13
      · have c1' : ((c.toNat : Int) == 13) = true := by rw [c1]; rfl
        rw [decide_eq_true c1] at hn
        have HF2 := Lib.hid (HF.out hn)
        clear hn c1 HS HF
        go_wp2_with fail
        go_ret
        exact ⟨ret_bool (plainS_f HF2.out), rfl⟩
      · have c1' : ((c.toNat : Int) == 13) = false := by rw [beq_eq_false_iff_ne]; exact c1
        rw [decide_eq_false c1] at hn
        by_cases c2 : (c.toNat : Int) = 10
        · have c2' : ((c.toNat : Int) == 10) = true := by rw [c2]; rfl
          rw [decide_eq_true c2] at hn
          have HF2 := Lib.hid (HF.out hn)
          clear hn c1 c2 HS HF
          go_wp2_with fail
          go_ret
          exact ⟨ret_bool (plainS_f HF2.out), rfl⟩
        · have c2' : ((c.toNat : Int) == 10) = false := by rw [beq_eq_false_iff_ne]; exact c2
          rw [decide_eq_false c2] at hn
          have HS2 := Lib.hid (HS.out.trans (by rw [HA.out, hn, Bool.and_self]; try rfl))
          clear hn c1 c2 HS HF
          go_wp2_with fail
          go_round
          case rel => exact ⟨k + 1, by omega, by go_num, HS2.out⟩
          case measure => simp [intOf]; omega
    · have h1 := HA.out
      rw [allK_full (by have := HSZ.out; omega)] at h1
      have HP := Lib.hid (plainS_t h1)
      clear h1
      go_wp2_with (first
        | (refine (HTR.out _).mono ?_; rintro e w' ⟨rfl, rfl⟩)
        | fail)
      go_ret
      exact ⟨ret_bool (by rw [HEQ.out]; exact HP.out), rfl⟩
/-- what line answers. -/
def lineV (l : List UInt8) : Value := match cut2 l with
  | some (s, _) => .tuple #[.string (str s), .bool true]
  | none => .tuple #[.string ⟨#[]⟩, .bool false]
theorem lineV_at {l : List UInt8} {k : Nat} (h : endAt l k) (h' : ∀ j, j < k → ¬ endAt l j) : lineV l = .tuple #[.string (str (l.take k)), .bool true] := by
  unfold lineV; rw [cut2_at h h']
theorem lineV_no {l : List UInt8} {k : Nat} (h : l.length ≤ k + 1) (h' : ∀ j, j < k → ¬ endAt l j) : lineV l = .tuple #[.string ⟨#[]⟩, .bool false] := by
  unfold lineV
  rw [cut2_no fun j hj => by have := endAt_lt hj; exact h' j (by omega) hj]
theorem endAt_iff {l : List UInt8} {k : Nat} (h : k + 1 < l.length) : endAt l k ↔ l.getD k 0 = 13 ∧ l.getD (k + 1) 0 = 10 := by
  unfold endAt
  rw [List.getElem?_eq_getElem (by omega), List.getElem?_eq_getElem h]
  simp [List.getD, h, show k < l.length by omega]
theorem byte_eq (c : UInt8) (n : Nat) (hn : n < 256) : ((c.toNat : Int) == (n : Int)) = (c == UInt8.ofNat n) := by
  rw [Bool.eq_iff_iff, beq_iff_eq, beq_iff_eq, ← UInt8.toNat_inj]
  simp
  omega
set_option maxHeartbeats 1600000 in
theorem rline_any {w : World} {B : Nat} {A : Option Addr} {l : List UInt8} (h : Bts w B A l) (c : Nat) (hl : l.length ≤ 1000000) (hc : l.length ≤ c) :
    Calls Tryd.prog 25 #[.slice A l.length c] w fun e w' => e = .returned (lineV l) ∧ w = w' := by
  have HAT := Lib.hid (fun k (hk : k < l.length) => h.at_ hk)
  have HCV : Hid (∀ k, k ≤ l.length → (convert 22 9 (.slice A k c)).run Tryd.prog w = .ok (.string (str (l.take k))) w) := Lib.hid fun k hk => by
    have := run_str Tryd.prog Tryd.underlying22 Tryd.underlying5 Tryd.underlying9 c (h.take k)
    rwa [List.length_take, Nat.min_eq_left hk] at this
  have HLA := Lib.hid (fun k h1 h2 => lineV_at (l := l) (k := k) h1 h2)
  have HLN := Lib.hid (fun k h1 h2 => lineV_no (l := l) (k := k) h1 h2)
  have HEI := Lib.hid (fun k h => endAt_iff (l := l) (k := k) h)
  clear h
  generalize hV : lineV l = V at *
  clear hV
  generalize hn : l.length = n at *
  clear hn
  go_enter Tryd.func25, Tryd.ntmps25
  go_wp2_with fail
  go_loop [4] (fun i => ∃ k : Nat, k ≤ n ∧ i = .int .i64 ((k : Int) + 1) ∧ Hid (∀ j, j < k → ¬ endAt l j)) (fun i => n + 1 - (intOf i).toNat)
  case atStart => exact ⟨0, Nat.zero_le _, rfl, Lib.hid (fun j hj => by omega)⟩
  case round =>
    obtain ⟨k, hk, rfl, HA⟩ := hrel
    by_cases hlt : k + 1 < n
    · obtain ⟨ad, rfl, had, hc0⟩ := HAT.out k (by omega)
      obtain ⟨ad', e', had', hc1⟩ := HAT.out (k + 1) hlt
      injection e' with e'
      subst e'
      rw [show ad.add (k + 1) = ⟨ad.block, ad.off + (k + 1), none⟩ by simp [Addr.add]] at hc1
      have HE := Lib.hid (HEI.out k hlt)
      have hlt' : (k : Int) + 1 < n := by omega
      have hcv := HCV.out k (by omega)
      have ht1 : ((k : Int) + 1).toNat = k + 1 := by omega
      have x1 := byte_eq (l.getD k 0) 13 (by decide)
      have x2 := byte_eq (l.getD (k + 1) 0) 10 (by decide)
      by_cases c1 : l.getD k 0 = 13
      · by_cases c2 : l.getD (k + 1) 0 = 10
        · have HR := Lib.hid (HLA.out k (HE.out.2 ⟨c1, c2⟩) HA.out)
          have c1' : (((l.getD k 0).toNat : Int) == 13) = true := by rw [c1]; rfl
          have c2' : (((l.getD (k + 1) 0).toNat : Int) == 10) = true := by rw [c2]; rfl
          clear c1 c2 x1 x2
          generalize l.getD k 0 = b0 at *
          generalize l.getD (k + 1) 0 = b1 at *
          generalize str (l.take k) = sk at *
          go_wp2_with fail
          refine bodyPost_ret (results_tmp2 rfl _ _ _) rfl ?_
          exact ⟨by rw [HR.out]; rfl, rfl⟩
        · have HS : Hid (∀ j, j < k + 1 → ¬ endAt l j) := Lib.hid fun j hj => by
            rcases Nat.lt_or_ge j k with h | h
            · exact HA.out j h
            · obtain rfl : j = k := by omega
              intro he
              exact c2 (HE.out.1 he).2
          have c1' : (((l.getD k 0).toNat : Int) == 13) = true := by rw [c1]; rfl
          have c2' : (((l.getD (k + 1) 0).toNat : Int) == 10) = false := by rw [show (10 : Int) = ((10 : Nat) : Int) from rfl, x2, beq_eq_false_iff_ne]; exact c2
          clear c1 c2 x1 x2
          generalize l.getD k 0 = b0 at *
          generalize l.getD (k + 1) 0 = b1 at *
          go_wp2_with fail
          go_round
          case rel => exact ⟨k + 1, by omega, by go_num, HS⟩
          case measure => simp [intOf]; omega
      · have HS : Hid (∀ j, j < k + 1 → ¬ endAt l j) := Lib.hid fun j hj => by
          rcases Nat.lt_or_ge j k with h | h
          · exact HA.out j h
          · obtain rfl : j = k := by omega
            intro he
            exact c1 (HE.out.1 he).1
        have c1' : (((l.getD k 0).toNat : Int) == 13) = false := by rw [show (13 : Int) = ((13 : Nat) : Int) from rfl, x1, beq_eq_false_iff_ne]; exact c1
        clear c1 x1 x2
        generalize l.getD k 0 = b0 at *
        generalize l.getD (k + 1) 0 = b1 at *
        go_wp2_with fail
        go_round
        case rel => exact ⟨k + 1, by omega, by go_num, HS⟩
        case measure => simp [intOf]; omega
    · have HR := Lib.hid (HLN.out k (by omega) HA.out)
      have hlt' : ¬ (k : Int) + 1 < n := by omega
      go_wp2_with fail
      refine bodyPost_ret (results_tmp2 rfl _ _ _) rfl ?_
      exact ⟨by rw [HR.out]; rfl, rfl⟩
end Hd
end Go.Proofs.YtliaciojlcajdaaDoor
