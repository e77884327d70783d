/- Contracts of the words' small functions: turning, and the two programs of it. Conditions: as stated at each. -/
import Derived.Test.YtlbmieeimnjncaaDoorDgMath
import Derived.Test.YtlbmieeimnjncaaDoorFlMem
import Derived.IntWalk
import Derived.Deep.RegionWith
namespace Go.Proofs.YtlbmieeimnjncaaDoor
set_option maxRecDepth 100000
open Go.RowKit Go
theorem rot_or (n x : Nat) (hx : x < 4294967296) : bits .or .u32 ((x * 2 ^ (32 - n) % 4294967296 : Nat) : Int) ((x / 2 ^ n : Nat) : Int) = ((rotr n x : Nat) : Int) := by
  rw [u32_or_nat _ _ (Nat.mod_lt _ (by decide)) (Nat.lt_of_le_of_lt (Nat.div_le_self _ _) hx), Nat.or_comm]
  rfl
theorem rot_or' (n x : Nat) (hx : x < 4294967296) : bits .or .u32 ((x / 2 ^ n : Nat) : Int) ((x * 2 ^ (32 - n) % 4294967296 : Nat) : Int) = ((rotr n x : Nat) : Int) := by
  rw [u32_or_nat _ _ (Nat.lt_of_le_of_lt (Nat.div_le_self _ _) hx) (Nat.mod_lt _ (by decide))]
  rfl
set_option maxHeartbeats 400000 in
theorem rright_any (x n : Nat) (w : World) (hx : x < 4294967296) (h1 : 1 ≤ n) (h2 : n ≤ 31) :
    Calls Tryd.prog 31 #[.int .u32 x, .int .i64 n] w fun e w' => e = .returned (.int .u32 (rotr n x : Nat)) ∧ w = w' := by
  have HR := Lib.hid (rot_or' n x hx)
  go_enter Tryd.func31, Tryd.ntmps31
  go_wp2_with fail
  go_ret
  exact ⟨ret_u (by rw [← HR.out]; simp), rfl⟩
theorem mask_neg (n : Nat) (h1 : 1 ≤ n) (h2 : n ≤ 31) : bits .and .u64 (IntKind.u64.wrap (-(n : Int))) 31 = ((32 - n : Nat) : Int) := by
  rw [IntKind.wrap_u64, show (-(n : Int)) % 18446744073709551616 = ((18446744073709551616 - n : Nat) : Int) from by omega, show (31 : Int) = ((31 : Nat) : Int) from rfl,
    u64_and_nat _ _ (by omega) (by omega), show (31 : Nat) = 2 ^ 5 - 1 from rfl, Nat.and_two_pow_sub_one_eq_mod]
  omega
set_option maxHeartbeats 400000 in
theorem rotl_any (x n : Nat) (w : World) (hx : x < 4294967296) (h1 : 1 ≤ n) (h2 : n ≤ 31) :
    Calls Tryd.prog 40 #[.int .u32 x, .int .i64 (-(n : Int))] w fun e w' => e = .returned (.int .u32 (rotr n x : Nat)) ∧ w = w' := by
  have HR := Lib.hid (rot_or n x hx)
  have hm := mask_neg n h1 h2
  obtain ⟨m, h⟩ : ∃ m, m = 32 - n := ⟨_, rfl⟩
  rw [← h] at hm
  have h3 : 1 ≤ m := by omega
  have h4 : m ≤ 31 := by omega
  have HN : Hid (n = 32 - m) := Lib.hid (by omega)
  have HM := Lib.hid h
  clear h
  go_enter Tryd.func40, Tryd.ntmps40
  go_wp2_with fail
  go_ret
  exact ⟨ret_u (by rw [← HR.out, ← HM.out, HN.out]; simp), rfl⟩
set_option maxHeartbeats 400000 in
theorem right_any (x n : Nat) (w : World) (hx : x < 4294967296) (h1 : 1 ≤ n) (h2 : n ≤ 31) :
    Calls Tryd.prog 39 #[.int .u32 x, .int .i64 n] w fun e w' => e = .returned (.int .u32 (rotr n x : Nat)) ∧ w = w' := by
  go_enter Tryd.func39, Tryd.ntmps39
  go_wp2_with (go_at_call 40; refine (rotl_any _ _ _ hx h1 h2).mono ?_; rintro e w' ⟨rfl, rfl⟩)
  go_ret
  exact ⟨rfl, rfl⟩
set_option maxHeartbeats 400000 in
theorem turned_any (x i j k : Nat) (w : World) (hx : x < 4294967296) (h1 : 1 ≤ i) (h2 : i ≤ 31) (h3 : 1 ≤ j) (h4 : j ≤ 31) (h5 : 1 ≤ k) (h6 : k ≤ 31) :
    Calls Tryd.prog 37 #[.int .u32 x, .int .i64 i, .int .i64 j, .int .i64 k] w fun e w' => e = .returned (.int .u32 (rot3 i j k x : Nat)) ∧ w = w' := by
  have HX := Lib.hid (show bits .xor .u32 (bits .xor .u32 (rotr i x : Nat) (rotr j x : Nat)) (rotr k x : Nat) = ((rot3 i j k x : Nat) : Int) by
    rw [u32_xor_nat _ _ (rotr_lt _ hx) (rotr_lt _ hx), u32_xor_nat _ _ (xor_lt' (rotr_lt _ hx) (rotr_lt _ hx)) (rotr_lt _ hx)]; rfl)
  go_enter Tryd.func37, Tryd.ntmps37
  go_wp2_with (go_at_call 39; refine (right_any _ _ _ hx (by omega) (by omega)).mono ?_; rintro e w' ⟨rfl, rfl⟩)
  go_ret
  exact ⟨ret_u HX.out, rfl⟩
theorem quiet_q {P : Program} {f : FuncId} {args : Array Value} {v : Value} (h : ∀ w, Calls P f args w fun e w' => e = .returned v ∧ w = w') (w : World) (n : Nat) :
    Calls P f args (w.drewN n) fun e w'' => e = .returned v ∧ ∃ m, w'' = w.drewN m := (h _).mono fun _ _ ⟨he, hm⟩ => ⟨he, n, hm.symm⟩
theorem quiet_d {P : Program} {f : FuncId} {args : Array Value} {v : Value} (h : ∀ w, Calls P f args w fun e w' => e = .returned v ∧ ∃ m, w' = w.drewN m) (w : World) (n : Nat) :
    Calls P f args (w.drewN n) fun e w'' => e = .returned v ∧ ∃ m, w'' = w.drewN m := (h _).mono fun _ _ ⟨he, m, hm⟩ => ⟨he, n + m, by rw [hm, World.drewN_drewN]⟩
set_option maxHeartbeats 400000 in
theorem shifted_any (x i j k : Nat) (w : World) (hx : x < 4294967296) (h1 : 1 ≤ i) (h2 : i ≤ 31) (h3 : 1 ≤ j) (h4 : j ≤ 31) (h5 : 1 ≤ k) (h6 : k ≤ 31) :
    Calls Tryd.prog 38 #[.int .u32 x, .int .i64 i, .int .i64 j, .int .i64 k] w fun e w' => e = .returned (.int .u32 (sh3 i j k x : Nat)) ∧ ∃ n, w' = w.drewN n := by
  have HX := Lib.hid (show bits .xor .u32 (bits .xor .u32 (rotr i x : Nat) (rotr j x : Nat)) ((x / 2 ^ k : Nat) : Int) = ((sh3 i j k x : Nat) : Int) by
    rw [u32_xor_nat _ _ (rotr_lt _ hx) (rotr_lt _ hx), u32_xor_nat _ _ (xor_lt' (rotr_lt _ hx) (rotr_lt _ hx)) (Nat.lt_of_le_of_lt (Nat.div_le_self _ _) hx)]; rfl)
  go_enter Tryd.func38, Tryd.ntmps38
  go_wp2_with fail
  go_quiet ((go_at_call 39; exact quiet_q (fun w => right_any _ _ w hx (by omega) (by omega)) _ _))
  go_wp2_with fail
  go_ret
  exact ⟨ret_u (by rw [← HX.out]; simp), nq, rfl⟩
end Go.Proofs.YtlbmieeimnjncaaDoor
