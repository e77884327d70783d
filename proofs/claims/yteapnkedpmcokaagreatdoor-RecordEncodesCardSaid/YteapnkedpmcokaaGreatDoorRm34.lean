/- SeNum. Conditions: as stated at each. -/
import Derived.Test.YteapnkedpmcokaaGreatDoorRm26
import Derived.Test.YteapnkedpmcokaaGreatDoorRm04
/- Contracts of number: the program's, the document's. Conditions: as stated at each. -/
namespace Go.Proofs.YteapnkedpmcokaaGreatDoor
set_option maxRecDepth 100000
open Go.RowKit Go
theorem i64_or_nat (a b : Nat) (ha : a < 9223372036854775808) (hb : b < 9223372036854775808) : bits .or .i64 (a : Int) (b : Int) = ((a ||| b : Nat) : Int) := by
  have hx : a ||| b < 2 ^ 63 := Nat.or_lt_two_pow (by omega) (by omega)
  show IntKind.i64.wrap ((BitVec.ofInt 64 (a : Int) ||| BitVec.ofInt 64 (b : Int)).toNat : Int) = _
  rw [BitVec.toNat_or, ofInt_u64 a (by omega), ofInt_u64 b (by omega)]
  exact IntWalk.i64_in _ (by omega)
/-- the first k bytes, the highest ahead. -/
def numP (l : List UInt8) : Nat → Nat
  | 0 => 0
  | k + 1 => numP l k * 256 + (l.getD k 0).toNat
theorem numP_lt (l : List UInt8) : ∀ k, numP l k < 256 ^ k
  | 0 => by simp [numP]
  | k + 1 => by
    have h := numP_lt l k
    have hc := (l.getD k 0).toNat_lt
    rw [numP, Nat.pow_succ]
    omega
theorem numP_4 (l : List UInt8) : numP l 4 = numS l := by simp [numP, numS]
theorem or_byte (p q : Nat) (hp : p < 16777216) (hq : q < 256) : bits .or .i64 ((p : Int) * 256) (q : Int) = ((p * 256 + q : Nat) : Int) := by
  rw [show (p : Int) * 256 = ((p * 256 : Nat) : Int) by simp, i64_or_nat _ _ (by omega) (by omega), nat_join 8 _ _ (by omega) (by omega)]
set_option maxHeartbeats 800000 in
theorem number_any (A : Option Addr) (B n c : Nat) (l : List UInt8) (w : World) (h : Bts w B A l) (hn : l.length = n) (h4 : 4 ≤ n) :
    Calls Tryz.prog 118 #[.slice A n c] w fun e w' => e = .returned (.int .i64 (numS l : Nat)) ∧ w = w' := by
  have HE := Lib.hid (numP_4 l)
  have HN := Lib.hid hn
  obtain ⟨⟨g, o, sp⟩, rfl, _, hc0⟩ := h.at_ (k := 0) (by omega)
  have hsp : sp = none := World.cell?_spot (a := ⟨g, o, sp⟩) (v := .int .u8 ((l.getD 0 0).toNat : Int)) (by simpa [Addr.add] using hc0)
  subst hsp
  clear hn hc0
  go_enter Tryz.func118, Tryz.ntmps118
  go_wp2_with fail
  go_loop [3, 5] (fun y i => ∃ k p : Nat, k ≤ 4 ∧ i = .int .i64 k ∧ y = .int .i64 p ∧ Hid (p = numP l k)) (fun _ i => 4 - (intOf i).toNat)
  case atStart => exact ⟨0, 0, by omega, rfl, rfl, Lib.hid rfl⟩
  case round =>
    obtain ⟨k, p, hk, rfl, rfl, hp⟩ := hrel
    by_cases hlt : k < 4
    · obtain ⟨ad, e1, _, hc⟩ := h.at_ (k := k) (by rw [HN.out]; omega)
      injection e1 with e1
      subst e1
      rw [add_at] at hc
      have hpl := numP_lt l k
      rw [← hp.out] at hpl
      have hp24 : p < 16777216 := Nat.lt_of_lt_of_le hpl (by
        have := Nat.pow_le_pow_right (n := 256) (by omega) (show k ≤ 3 by omega)
        simpa using this)
      have HNX : Hid (numP l (k + 1) = p * 256 + (l.getD k 0).toNat) := Lib.hid (by rw [numP, hp.out])
      have hq := (l.getD k 0).toNat_lt
      generalize (l.getD k 0).toNat = q at *
      have hor := or_byte p q hp24 hq
      have hwr : IntKind.i64.wrap ((p : Int) * 256) = (p : Int) * 256 := IntWalk.i64_in _ (by omega)
      have hkn : (k : Int) < (n : Int) := by omega
      have hkn' : k < n := by omega
      clear hpl
      go_wp2_with fail
      go_round
      case rel => exact ⟨k + 1, p * 256 + q, by omega, by go_num, by simp, Lib.hid HNX.out.symm⟩
      case measure => simp [intOf]; omega
    · obtain rfl : k = 4 := by omega
      go_wp2_with fail
      go_ret
      exact ⟨by rw [← HE.out, ← hp.out]; rfl, rfl⟩
theorem four_or64 {q0 q1 q2 q3 : Nat} (h0 : q0 < 256) (h1 : q1 < 256) (h2 : q2 < 256) (h3 : q3 < 256) :
    bits .or .i64 (bits .or .i64 (bits .or .i64 ((q0 : Int) * 16777216) ((q1 : Int) * 65536)) ((q2 : Int) * 256)) (q3 : Int) = ((((q0 * 256 + q1) * 256 + q2) * 256 + q3 : Nat) : Int) := by
  have e0 : (q0 : Int) * 16777216 = ((q0 * 16777216 : Nat) : Int) := by simp
  have e1 : (q1 : Int) * 65536 = ((q1 * 65536 : Nat) : Int) := by simp
  have e2 : (q2 : Int) * 256 = ((q2 * 256 : Nat) : Int) := by simp
  rw [e0, e1, e2, i64_or_nat _ _ (by omega) (by omega), nat_join 24 _ _ (by omega) (by omega), i64_or_nat _ _ (by omega) (by omega), nat_join 16 _ _ (by omega) (by omega), i64_or_nat _ _ (by omega) (by omega), nat_join 8 _ _ (by omega) (by omega)]
  congr 1
  omega
theorem ret_i {a b : Int} (h : a = b) : Ending.returned (.int .i64 a) = .returned (.int .i64 b) := by rw [h]
set_option maxHeartbeats 800000 in
theorem rnumber_any (A : Option Addr) (B n c : Nat) (l : List UInt8) (w : World) (h : Bts w B A l) (hn : l.length = n) (h4 : 4 ≤ n) :
    Calls Tryz.prog 44 #[.slice A n c] w fun e w' => e = .returned (.int .i64 (numS l : Nat)) ∧ ∃ k, w' = w.drewN k := by
  obtain ⟨ad, rfl, _, c0⟩ := h.at_ (show 0 < l.length by omega)
  obtain ⟨_, e1, _, c1⟩ := h.at_ (show 1 < l.length by omega)
  injection e1 with e1
  subst e1
  obtain ⟨_, e1, _, c2⟩ := h.at_ (show 2 < l.length by omega)
  injection e1 with e1
  subst e1
  obtain ⟨_, e1, _, c3⟩ := h.at_ (show 3 < l.length by omega)
  injection e1 with e1
  subst e1
  have b0 : 0 < n := by omega
  have b1 : (1 : Int) < (n : Int) := by omega
  have b2 : (2 : Int) < (n : Int) := by omega
  have b3 : (3 : Int) < (n : Int) := by omega
  rw [add_0] at c0
  rw [show ad.add 1 = ⟨ad.block, ad.off + 1, none⟩ from rfl] at c1
  rw [show ad.add 2 = ⟨ad.block, ad.off + 2, none⟩ from rfl] at c2
  rw [show ad.add 3 = ⟨ad.block, ad.off + 3, none⟩ from rfl] at c3
  have HV : Hid (numS l = (((l.getD 0 0).toNat * 256 + (l.getD 1 0).toNat) * 256 + (l.getD 2 0).toNat) * 256 + (l.getD 3 0).toNat) := Lib.hid rfl
  have t0 := (l.getD 0 0).toNat_lt
  have t1 := (l.getD 1 0).toNat_lt
  have t2 := (l.getD 2 0).toNat_lt
  have t3 := (l.getD 3 0).toNat_lt
  generalize (l.getD 0 0).toNat = q0 at *
  generalize (l.getD 1 0).toNat = q1 at *
  generalize (l.getD 2 0).toNat = q2 at *
  generalize (l.getD 3 0).toNat = q3 at *
  clear h hn
  go_enter Tryz.func44, Tryz.ntmps44
  go_wp2_with fail
  go_quiet (fail)
  go_wp2_with fail
  go_ret
  refine ⟨ret_i ?_, nq, rfl⟩
  rw [HV.out]
  exact four_or64 t0 t1 t2 t3
end Go.Proofs.YteapnkedpmcokaaGreatDoor
