/- DgSmall DgSpread DgMixed. Conditions: as stated at each. -/
import Derived.Test.YteapnkedpmcokaaGreatDoorRm06
import Derived.Test.YteapnkedpmcokaaGreatDoorRm02
import Derived.IntWalk
import Derived.Deep.RegionWith
import Derived.Test.YteapnkedpmcokaaGreatDoorRm08
/- Contracts of the words' small functions: turning, and the two programs of it. Conditions: as stated at each. -/
namespace Go.Proofs.YteapnkedpmcokaaGreatDoor
set_option maxRecDepth 100000
open Go.RowKit Go
theorem rot_or (n x : Nat) (hx : x < 4294967296) : bits .or .u32 ((x * 2 ^ (32 - n) % 4294967296 : Nat) : Int) ((x / 2 ^ n : Nat) : Int) = ((rotr n x : Nat) : Int) := by
  rw [u32_or_nat _ _ (Nat.mod_lt _ (by decide)) (Nat.lt_of_le_of_lt (Nat.div_le_self _ _) hx), Nat.or_comm]
  rfl
theorem rot_or' (n x : Nat) (hx : x < 4294967296) : bits .or .u32 ((x / 2 ^ n : Nat) : Int) ((x * 2 ^ (32 - n) % 4294967296 : Nat) : Int) = ((rotr n x : Nat) : Int) := by
  rw [u32_or_nat _ _ (Nat.lt_of_le_of_lt (Nat.div_le_self _ _) hx) (Nat.mod_lt _ (by decide))]
  rfl
set_option maxHeartbeats 400000 in
theorem rright_any (x n : Nat) (w : World) (hx : x < 4294967296) (h1 : 1 ≤ n) (h2 : n ≤ 31) :
    Calls Tryz.prog 64 #[.int .u32 x, .int .i64 n] w fun e w' => e = .returned (.int .u32 (rotr n x : Nat)) ∧ w = w' := by
  have HR := Lib.hid (rot_or' n x hx)
  go_enter Tryz.func64, Tryz.ntmps64
  go_wp2_with fail
  go_ret
  exact ⟨ret_u (by rw [← HR.out]; simp), rfl⟩
theorem mask_neg (n : Nat) (h1 : 1 ≤ n) (h2 : n ≤ 31) : bits .and .u64 (IntKind.u64.wrap (-(n : Int))) 31 = ((32 - n : Nat) : Int) := by
  rw [IntKind.wrap_u64, show (-(n : Int)) % 18446744073709551616 = ((18446744073709551616 - n : Nat) : Int) from by omega, show (31 : Int) = ((31 : Nat) : Int) from rfl,
    u64_and_nat _ _ (by omega) (by omega), show (31 : Nat) = 2 ^ 5 - 1 from rfl, Nat.and_two_pow_sub_one_eq_mod]
  omega
set_option maxHeartbeats 400000 in
theorem rotl_any (x n : Nat) (w : World) (hx : x < 4294967296) (h1 : 1 ≤ n) (h2 : n ≤ 31) :
    Calls Tryz.prog 85 #[.int .u32 x, .int .i64 (-(n : Int))] w fun e w' => e = .returned (.int .u32 (rotr n x : Nat)) ∧ w = w' := by
  have HR := Lib.hid (rot_or n x hx)
  have hm := mask_neg n h1 h2
  obtain ⟨m, h⟩ : ∃ m, m = 32 - n := ⟨_, rfl⟩
  rw [← h] at hm
  have h3 : 1 ≤ m := by omega
  have h4 : m ≤ 31 := by omega
  have HN : Hid (n = 32 - m) := Lib.hid (by omega)
  have HM := Lib.hid h
  clear h
  go_enter Tryz.func85, Tryz.ntmps85
  go_wp2_with fail
  go_ret
  exact ⟨ret_u (by rw [← HR.out, ← HM.out, HN.out]; simp), rfl⟩
set_option maxHeartbeats 400000 in
theorem right_any (x n : Nat) (w : World) (hx : x < 4294967296) (h1 : 1 ≤ n) (h2 : n ≤ 31) :
    Calls Tryz.prog 82 #[.int .u32 x, .int .i64 n] w fun e w' => e = .returned (.int .u32 (rotr n x : Nat)) ∧ w = w' := by
  go_enter Tryz.func82, Tryz.ntmps82
  go_wp2_with (go_at_call 85; refine (rotl_any _ _ _ hx h1 h2).mono ?_; rintro e w' ⟨rfl, rfl⟩)
  go_ret
  exact ⟨rfl, rfl⟩
set_option maxHeartbeats 400000 in
theorem turned_any (x i j k : Nat) (w : World) (hx : x < 4294967296) (h1 : 1 ≤ i) (h2 : i ≤ 31) (h3 : 1 ≤ j) (h4 : j ≤ 31) (h5 : 1 ≤ k) (h6 : k ≤ 31) :
    Calls Tryz.prog 75 #[.int .u32 x, .int .i64 i, .int .i64 j, .int .i64 k] w fun e w' => e = .returned (.int .u32 (rot3 i j k x : Nat)) ∧ w = w' := by
  have HX := Lib.hid (show bits .xor .u32 (bits .xor .u32 (rotr i x : Nat) (rotr j x : Nat)) (rotr k x : Nat) = ((rot3 i j k x : Nat) : Int) by
    rw [u32_xor_nat _ _ (rotr_lt _ hx) (rotr_lt _ hx), u32_xor_nat _ _ (xor_lt' (rotr_lt _ hx) (rotr_lt _ hx)) (rotr_lt _ hx)]; rfl)
  go_enter Tryz.func75, Tryz.ntmps75
  go_wp2_with (go_at_call 82; refine (right_any _ _ _ hx (by omega) (by omega)).mono ?_; rintro e w' ⟨rfl, rfl⟩)
  go_ret
  exact ⟨ret_u HX.out, rfl⟩
theorem quiet_q {P : Program} {f : FuncId} {args : Array Value} {v : Value} (h : ∀ w, Calls P f args w fun e w' => e = .returned v ∧ w = w') (w : World) (n : Nat) :
    Calls P f args (w.drewN n) fun e w'' => e = .returned v ∧ ∃ m, w'' = w.drewN m := (h _).mono fun _ _ ⟨he, hm⟩ => ⟨he, n, hm.symm⟩
theorem quiet_d {P : Program} {f : FuncId} {args : Array Value} {v : Value} (h : ∀ w, Calls P f args w fun e w' => e = .returned v ∧ ∃ m, w' = w.drewN m) (w : World) (n : Nat) :
    Calls P f args (w.drewN n) fun e w'' => e = .returned v ∧ ∃ m, w'' = w.drewN m := (h _).mono fun _ _ ⟨he, m, hm⟩ => ⟨he, n + m, by rw [hm, World.drewN_drewN]⟩
set_option maxHeartbeats 400000 in
theorem shifted_any (x i j k : Nat) (w : World) (hx : x < 4294967296) (h1 : 1 ≤ i) (h2 : i ≤ 31) (h3 : 1 ≤ j) (h4 : j ≤ 31) (h5 : 1 ≤ k) (h6 : k ≤ 31) :
    Calls Tryz.prog 81 #[.int .u32 x, .int .i64 i, .int .i64 j, .int .i64 k] w fun e w' => e = .returned (.int .u32 (sh3 i j k x : Nat)) ∧ ∃ n, w' = w.drewN n := by
  have HX := Lib.hid (show bits .xor .u32 (bits .xor .u32 (rotr i x : Nat) (rotr j x : Nat)) ((x / 2 ^ k : Nat) : Int) = ((sh3 i j k x : Nat) : Int) by
    rw [u32_xor_nat _ _ (rotr_lt _ hx) (rotr_lt _ hx), u32_xor_nat _ _ (xor_lt' (rotr_lt _ hx) (rotr_lt _ hx)) (Nat.lt_of_le_of_lt (Nat.div_le_self _ _) hx)]; rfl)
  go_enter Tryz.func81, Tryz.ntmps81
  go_wp2_with fail
  go_quiet ((go_at_call 82; exact quiet_q (fun w => right_any _ _ w hx (by omega) (by omega)) _ _))
  go_wp2_with fail
  go_ret
  exact ⟨ret_u (by rw [← HX.out]; simp), nq, rfl⟩
end Go.Proofs.YteapnkedpmcokaaGreatDoor
/- Contract of the words of a block. Conditions: as stated at each. -/
namespace Go.Proofs.YteapnkedpmcokaaGreatDoor
set_option maxRecDepth 100000
open Go.RowKit Go
structure SpW (blk : List UInt8) (N : Nat) (W wr : World) (l : List Nat) : Prop where
  b : BlkIs wr N 104 (bv blk).toArray
  r : ∃ z, BlkIs wr (N + 1) 119 z ∧ z.size = 64
  w : BlkIs wr (N + 1 + 1) 119 (wv (wz l 64)).toArray
  below : Below N W wr
theorem SpW.alk {blk : List UInt8} {N : Nat} {W wr w1 : World} {l : List Nat} (h : SpW blk N W wr l) (k : Alk wr w1) : SpW blk N W w1 l :=
  ⟨k.blk h.b, let ⟨z, hz, hs⟩ := h.r; ⟨z, k.blk hz, hs⟩, k.blk h.w, h.below.trans ⟨k.2.1, k.2.2.1, k.2.2.2, by rw [k.1]; exact Nat.le_refl _, fun i _ => by rw [k.1]⟩⟩
theorem SpW.put {blk : List UInt8} {N : Nat} {W wr : World} {l : List Nat} (h : SpW blk N W wr l) (hl : l.length < 64) (x : Nat) (i : Nat) (hi : i = l.length) : SpW blk N W (wr.setCell ⟨N + 1 + 1, i, none⟩ (.int .u32 (x : Int))) (l ++ [x]) := by
  subst hi
  refine ⟨h.b.far (by show N ≠ N + 1 + 1; omega) _, ?_, ?_, h.below.setCell (by show N ≤ N + 1 + 1; omega) _⟩
  · obtain ⟨z, hz, hs⟩ := h.r
    exact ⟨z, hz.far (by show N + 1 ≠ N + 1 + 1; omega) _, hs⟩
  · rw [← wz_set l 64 x hl]
    exact h.w.put _ _
theorem be4_or (blk : List UInt8) (q : Nat) {b0 b1 b2 b3 : Nat} (h0 : (blk.getD q 0).toNat = b0) (h1 : (blk.getD (q + 1) 0).toNat = b1) (h2 : (blk.getD (q + 2) 0).toNat = b2) (h3 : (blk.getD (q + 3) 0).toNat = b3) :
    bits .or .u32 (bits .or .u32 (bits .or .u32 ((b0 : Int) * 16777216) ((b1 : Int) * 65536)) ((b2 : Int) * 256)) (b3 : Int) = ((be4 blk q : Nat) : Int) := by
  have t0 := (blk.getD q 0).toNat_lt
  have t1 := (blk.getD (q + 1) 0).toNat_lt
  have t2 := (blk.getD (q + 2) 0).toNat_lt
  have t3 := (blk.getD (q + 3) 0).toNat_lt
  unfold be4
  rw [h0, h1, h2, h3] at *
  have e1 : (b0 : Int) * 16777216 = ((b0 * 16777216 : Nat) : Int) := by simp
  have e2 : (b1 : Int) * 65536 = ((b1 * 65536 : Nat) : Int) := by simp
  have e3 : (b2 : Int) * 256 = ((b2 * 256 : Nat) : Int) := by simp
  rw [e1, e2, e3, u32_or_nat _ _ (by omega) (by omega), nat_join 24 _ _ (by simp) (by omega), u32_or_nat _ _ (by omega) (by omega), nat_join 16 _ _ (by omega) (by omega), u32_or_nat _ _ (by omega) (by omega), nat_join 8 _ _ (by omega) (by omega)]
theorem wl_next (blk : List UInt8) (k : Nat) : wl blk k ++ [nextW blk (wl blk k)] = wl blk (k + 1) := rfl
theorem nextW_low (blk : List UInt8) (k q : Nat) (hk : k < 16) (hq : q = 4 * k) : nextW blk (wl blk k) = be4 blk q := by unfold nextW; rw [wl_length, if_pos hk, hq]
theorem shifted_1 (x : Nat) (w : World) (hx : x < 4294967296) :
    Calls Tryz.prog 81 #[.int .u32 x, .int .i64 17, .int .i64 19, .int .i64 10] w fun e w' => e = .returned (.int .u32 (sh3 17 19 10 x : Nat)) ∧ Alk w w' :=
  (shifted_any x 17 19 10 w hx (by decide) (by decide) (by decide) (by decide) (by decide) (by decide)).mono fun _ _ ⟨he, n, hw⟩ => ⟨he, hw ▸ Alk.drewN w n⟩
theorem shifted_0 (x : Nat) (w : World) (hx : x < 4294967296) :
    Calls Tryz.prog 81 #[.int .u32 x, .int .i64 7, .int .i64 18, .int .i64 3] w fun e w' => e = .returned (.int .u32 (sh3 7 18 3 x : Nat)) ∧ Alk w w' :=
  (shifted_any x 7 18 3 w hx (by decide) (by decide) (by decide) (by decide) (by decide) (by decide)).mono fun _ _ ⟨he, n, hw⟩ => ⟨he, hw ▸ Alk.drewN w n⟩
set_option maxRecDepth 100000 in
set_option maxHeartbeats 400000 in
theorem spread_any (blk : List UInt8) (w : World) (hb : blk.length = 64) :
    Calls Tryz.prog 74 #[.agg (bv blk).toArray] w fun e w' => e = .returned (.agg (wv (wl blk 64)).toArray) ∧ Below w.heap.size w w' := by
  have HB := Lib.hid hb
  clear hb
  go_enter Tryz.func74, Tryz.ntmps74
  go_wp2_with fail
  go_loopw [6] (fun i wr => ∃ k : Nat, k ≤ 16 ∧ i = .int .i64 k ∧ SpW blk w.heap.size w wr (wl blk k)) (fun i _ => 16 - (intOf i).toNat)
  case atStart =>
    exact ⟨0, by omega, rfl, ⟨((BlkIs.new _ _ _).alloc _).alloc _, ⟨_, BlkIs.alloc (BlkIs.new_at (w.alloc _) _ _ _ (by simp)) _, rfl⟩, BlkIs.new_at ((w.alloc _).alloc _) _ _ _ (by simp), (((Below.refl _ _).alloc (Nat.le_refl _) _).alloc (by simp) _).alloc (by simp; omega) _⟩⟩
  case round =>
    obtain ⟨k, hk, rfl, hS⟩ := hrel
    by_cases hlt : k < 16
    · obtain ⟨q, hq⟩ : ∃ q, q = 4 * k := ⟨_, rfl⟩
      have q1 : q + 3 < 64 := by omega
      have HB64 := HB.out
      have g0 := bv_get blk q (by omega)
      have g1 := bv_get blk (q + 1) (by omega)
      have g2 := bv_get blk (q + 2) (by omega)
      have g3 := bv_get blk (q + 3) (by omega)
      have t0 := (blk.getD q 0).toNat_lt
      have t1 := (blk.getD (q + 1) 0).toNat_lt
      have t2 := (blk.getD (q + 2) 0).toNat_lt
      have t3 := (blk.getD (q + 3) 0).toNat_lt
      obtain ⟨b0, hb0⟩ : ∃ b, (blk.getD q 0).toNat = b := ⟨_, rfl⟩
      obtain ⟨b1, hb1⟩ : ∃ b, (blk.getD (q + 1) 0).toNat = b := ⟨_, rfl⟩
      obtain ⟨b2, hb2⟩ : ∃ b, (blk.getD (q + 2) 0).toNat = b := ⟨_, rfl⟩
      obtain ⟨b3, hb3⟩ : ∃ b, (blk.getD (q + 3) 0).toNat = b := ⟨_, rfl⟩
      have HV : Hid (bits .or .u32 (bits .or .u32 (bits .or .u32 ((b0 : Int) * 16777216) ((b1 : Int) * 65536)) ((b2 : Int) * 256)) (b3 : Int) = ((nextW blk (wl blk k) : Nat) : Int)) := by
        refine Lib.hid ?_
        rw [nextW_low blk k q hlt hq]
        exact be4_or blk q hb0 hb1 hb2 hb3
      have HL : Hid (k = (wl blk k).length) := Lib.hid (wl_length blk k).symm
      have HG := wv_get (wz (wl blk k) 64) k (by rw [wz_length _ _ (by rw [wl_length]; omega)]; omega)
      rw [hb0] at g0 t0
      rw [hb1] at g1 t1
      rw [hb2] at g2 t2
      rw [hb3] at g3 t3
      have e0 : IntKind.i64.wrap (4 * (k : Int)) = (q : Int) := by rw [IntWalk.i64_in _ (by omega)]; omega
      have e1 : IntKind.i64.wrap ((q : Int) + 1) = (q : Int) + 1 := IntWalk.i64_in _ (by omega)
      have e2 : IntKind.i64.wrap ((q : Int) + 2) = (q : Int) + 2 := IntWalk.i64_in _ (by omega)
      have e3 : IntKind.i64.wrap ((q : Int) + 3) = (q : Int) + 3 := IntWalk.i64_in _ (by omega)
      have n1 : ((q : Int) + 1).toNat = q + 1 := by omega
      have n2 : ((q : Int) + 2).toNat = q + 2 := by omega
      have n3 : ((q : Int) + 3).toNat = q + 3 := by omega
      have p1 : 0 ≤ (q : Int) + 1 := by omega
      have p2 : 0 ≤ (q : Int) + 2 := by omega
      have p3 : 0 ≤ (q : Int) + 3 := by omega
      have l0 : (q : Int) < 64 := by omega
      have l1 : (q : Int) + 1 < 64 := by omega
      have l2 : (q : Int) + 2 < 64 := by omega
      have l3 : (q : Int) + 3 < 64 := by omega
      have k64 : (k : Int) < 64 := by omega
      clear hb0 hb1 hb2 hb3 hq HB64
      go_wp2_with fail
      refine still_tail 31 (by kernel_rfl) (by kernel_rfl) (fun W1 hk1 => ?_)
      have hS1 := hS.alk hk1
      clear hS hk1
      have c0 := hS1.b.get g0
      have c1 := hS1.b.get g1
      have c2 := hS1.b.get g2
      have c3 := hS1.b.get g3
      have cw := hS1.w.get HG
      have fw := hS1.w.froz k
      clear g0 g1 g2 g3 HG
      simp only [List.take_succ_cons, List.take_zero, List.drop_succ_cons, List.drop_zero]
      repeat still_step
      refine wpStill_nil ?_
      clear c0 c1 c2 c3
      go_wp2_with fail
      go_roundw
      case rel => exact ⟨k + 1, by omega, by go_num, by rw [HV.out]; exact hS1.put (by rw [wl_length]; omega) _ k HL.out⟩
      case measure => simp [intOf]; omega
    · have HK : Hid (k = 16) := Lib.hid (by omega)
      go_wp2_with fail
      go_loopw [5] (fun i wr => ∃ k : Nat, 16 ≤ k ∧ k ≤ 64 ∧ i = .int .i64 k ∧ SpW blk w.heap.size w wr (wl blk k)) (fun i _ => 64 - (intOf i).toNat)
      case atStart => exact ⟨16, by omega, by omega, rfl, by rw [← HK.out]; exact hS⟩
      case round =>
        clear hS
        obtain ⟨k, hk16, hk64, rfl, hS⟩ := hrel
        by_cases hlt : k < 64
        · have HL : Hid (k = (wl blk k).length) := Lib.hid (wl_length blk k).symm
          have hz := wz_length (wl blk k) 64 (by rw [wl_length]; omega)
          have HG := wv_get (wz (wl blk k) 64) k (by rw [hz]; omega)
          obtain ⟨a2, ha2⟩ : ∃ a, a + 2 = k := ⟨k - 2, by omega⟩
          obtain ⟨a7, ha7⟩ : ∃ a, a + 7 = k := ⟨k - 7, by omega⟩
          obtain ⟨a15, ha15⟩ : ∃ a, a + 15 = k := ⟨k - 15, by omega⟩
          obtain ⟨a16, ha16⟩ : ∃ a, a + 16 = k := ⟨k - 16, by omega⟩
          have g2 := wv_get (wz (wl blk k) 64) a2 (by rw [hz]; omega)
          have g7 := wv_get (wz (wl blk k) 64) a7 (by rw [hz]; omega)
          have g15 := wv_get (wz (wl blk k) 64) a15 (by rw [hz]; omega)
          have g16 := wv_get (wz (wl blk k) 64) a16 (by rw [hz]; omega)
          rw [wz_get _ _ _ (by rw [wl_length]; omega)] at g2 g7 g15 g16
          have t2 := wl_getD_lt blk k a2
          have t7 := wl_getD_lt blk k a7
          have t15 := wl_getD_lt blk k a15
          have t16 := wl_getD_lt blk k a16
          have HV : Hid (nextW blk (wl blk k) = add32 (add32 (add32 (sh3 17 19 10 ((wl blk k).getD a2 0)) ((wl blk k).getD a7 0)) (sh3 7 18 3 ((wl blk k).getD a15 0))) ((wl blk k).getD a16 0)) := by
            refine Lib.hid ?_
            unfold nextW
            rw [wl_length, if_neg (by omega), show k - 2 = a2 from by omega, show k - 7 = a7 from by omega, show k - 15 = a15 from by omega, show k - 16 = a16 from by omega]
          generalize (wl blk k).getD a2 0 = x2 at *
          generalize (wl blk k).getD a7 0 = x7 at *
          generalize (wl blk k).getD a15 0 = x15 at *
          generalize (wl blk k).getD a16 0 = x16 at *
          generalize (wz (wl blk k) 64).getD k 0 = x0 at *
          have s2 := sh3_lt 17 19 10 t2
          have s15 := sh3_lt 7 18 3 t15
          have e2 : IntKind.i64.wrap ((k : Int) - 2) = (a2 : Int) := by rw [IntWalk.i64_in _ (by omega)]; omega
          have e7 : IntKind.i64.wrap ((k : Int) - 7) = (a7 : Int) := by rw [IntWalk.i64_in _ (by omega)]; omega
          have e15 : IntKind.i64.wrap ((k : Int) - 15) = (a15 : Int) := by rw [IntWalk.i64_in _ (by omega)]; omega
          have e16 : IntKind.i64.wrap ((k : Int) - 16) = (a16 : Int) := by rw [IntWalk.i64_in _ (by omega)]; omega
          have l2 : (a2 : Int) < 64 := by omega
          have l7 : (a7 : Int) < 64 := by omega
          have l15 : (a15 : Int) < 64 := by omega
          have l16 : (a16 : Int) < 64 := by omega
          have k64 : (k : Int) < 64 := by omega
          have SIX := Lib.hid fun (w' : World) (h : SpW blk w.heap.size w w' (wl blk k)) => (⟨h.w.get g2, h.w.get g7, h.w.get g15, h.w.get g16⟩ : w'.cell? ⟨w.heap.size + 1 + 1, a2, none⟩ = some (.int .u32 (x2 : Int)) ∧ w'.cell? ⟨w.heap.size + 1 + 1, a7, none⟩ = some (.int .u32 (x7 : Int)) ∧ w'.cell? ⟨w.heap.size + 1 + 1, a15, none⟩ = some (.int .u32 (x15 : Int)) ∧ w'.cell? ⟨w.heap.size + 1 + 1, a16, none⟩ = some (.int .u32 (x16 : Int)))
          have PUT := Lib.hid fun (wr' : World) (v : Value) (h : SpW blk w.heap.size w wr' (wl blk k)) => (⟨(cell_far _ _ _ _ _ (by omega)).trans (h.w.get g2), (cell_far _ _ _ _ _ (by omega)).trans (h.w.get g7), (cell_far _ _ _ _ _ (by omega)).trans (h.w.get g15), (cell_far _ _ _ _ _ (by omega)).trans (h.w.get g16)⟩ : (wr'.setCell ⟨w.heap.size + 1 + 1, k, none⟩ v).cell? ⟨w.heap.size + 1 + 1, a2, none⟩ = some (.int .u32 (x2 : Int)) ∧ (wr'.setCell ⟨w.heap.size + 1 + 1, k, none⟩ v).cell? ⟨w.heap.size + 1 + 1, a7, none⟩ = some (.int .u32 (x7 : Int)) ∧ (wr'.setCell ⟨w.heap.size + 1 + 1, k, none⟩ v).cell? ⟨w.heap.size + 1 + 1, a15, none⟩ = some (.int .u32 (x15 : Int)) ∧ (wr'.setCell ⟨w.heap.size + 1 + 1, k, none⟩ v).cell? ⟨w.heap.size + 1 + 1, a16, none⟩ = some (.int .u32 (x16 : Int)))
          have CW := Lib.hid fun (wr' : World) (h : SpW blk w.heap.size w wr' (wl blk k)) => h.w.get HG
          have HZ := Lib.hid hz
          have HW : Hid ((((((sh3 17 19 10 x2 : Nat) : Int) + (x7 : Int)) % 4294967296 + ((sh3 7 18 3 x15 : Nat) : Int)) % 4294967296 + (x16 : Int)) % 4294967296 = ((nextW blk (wl blk k) : Nat) : Int)) := by
            refine Lib.hid ?_
            rw [HV.out]
            unfold add32
            omega
          clear g2 g7 g15 g16 HG ha2 ha7 ha15 ha16 hz
          go_wp2_with fail
          have hSd := hS.alk (⟨rfl, rfl, rfl, rfl⟩ : Alk wr wr.drew)
          have cw0 := CW.out _ hSd
          have fw0 := hSd.w.froz k
          go_region_held3 (fun w' => w'.cell? ⟨w.heap.size + 1 + 1, a2, none⟩ = some (.int .u32 (x2 : Int)) ∧ w'.cell? ⟨w.heap.size + 1 + 1, a7, none⟩ = some (.int .u32 (x7 : Int)) ∧ w'.cell? ⟨w.heap.size + 1 + 1, a15, none⟩ = some (.int .u32 (x15 : Int)) ∧ w'.cell? ⟨w.heap.size + 1 + 1, a16, none⟩ = some (.int .u32 (x16 : Int)))
            (first
              | exact SIX.out _ (by assumption)
              | exact PUT.out _ _ (by assumption)
              | go_keep)
            (first
              | (go_at_call 81; (with_reducible refine (shifted_1 x2 _ t2).mono ?_); rintro e w1 ⟨rfl, hk1⟩; have hS1 := SpW.alk (by assumption) hk1; have cw1 := CW.out _ hS1; have fw1 := BlkIs.froz (SpW.w hS1) k)
              | (go_at_call 81; (with_reducible refine (shifted_0 x15 _ t15).mono ?_); rintro e w2 ⟨rfl, hk2⟩; have hS2 := SpW.alk (by assumption) hk2; have cw2 := CW.out _ hS2; have fw2 := BlkIs.froz (SpW.w hS2) k))
          clear cw0 fw0
          go_wp2_with fail
          go_roundw
          case rel => exact ⟨k + 1, by omega, by omega, by go_num, by rw [HW.out]; exact SpW.put (by assumption) (by rw [wl_length]; omega) _ k HL.out⟩
          case measure => simp [intOf]; omega
        · obtain rfl : k = 64 := by omega
          have h64 := wz_all (wl blk 64) 64 (wl_length blk 64)
          have hw := hS.w
          rw [h64] at hw
          obtain ⟨z, hr, hz⟩ := hS.r
          have HZ := Lib.hid hz
          have HN : Hid ((wv (wl blk 64)).toArray.size = 64) := Lib.hid (by simp [wv_length, wl_length])
          have hi : (Tryz.prog.info? 119).map (·.size) = some 64 := by kernel_rfl
          have HI : Hid ((Tryz.prog.info? 119).map (·.size) = some (wv (wl blk 64)).toArray.size) := Lib.hid (by rw [HN.out]; exact hi)
          clear h64 hz hi
          generalize hX : (wv (wl blk 64)).toArray = X at *
          have HX : Hid (X.all (·.oneCell') = true) := Lib.hid (by rw [← hX]; exact wv_all _)
          have HE := Lib.hid hX
          clear hX
          go_wp2_with (first
            | (with_reducible refine load_blk (.tmp 3) 119 (w.heap.size + 1 + 1) 119 X hw rfl rfl rfl _ Tryz.underlying119 rfl HI.out ?_)
            | (with_reducible refine store_blk (.tmp 2) (.tmp 68) 119 (w.heap.size + 1) 119 z X hr rfl rfl rfl rfl HI.out (by rw [HZ.out, HN.out]) HX.out ?_; intro w9 hr9 ht9))
          refine ret_blk rfl (w.heap.size + 1) 119 X hr9 _ rfl Tryz.underlying119 rfl HI.out rfl ⟨by rw [HE.out], ?_⟩
          have h9 : Below w.heap.size wr w9 := ht9.below hS.below.size (fun i hi h => by omega)
          exact Below.trans hS.below h9
end Go.Proofs.YteapnkedpmcokaaGreatDoor
/- Contract of the words behind a block. Conditions: as stated at each. -/
namespace Go.Proofs.YteapnkedpmcokaaGreatDoor
set_option maxRecDepth 100000
open Go.RowKit Go
/-- the two tables of the package. -/
structure Glob (w : World) : Prop where
  first : w.rangeAt 0 0 (wv init8.l)
  added : w.rangeAt 1 0 (wv kk)
  size : 2 ≤ w.heap.size
theorem rangeAt_below {w w' : World} {N b o : Nat} {cs : List Value} (h : w.rangeAt b o cs) (hb : Below N w w') (hN : b < N) : w'.rangeAt b o cs := fun j v hj => (hb.cell (p := ⟨b, o + j, none⟩) hN).trans (h j v hj)
theorem Glob.below {w w' : World} {N : Nat} (h : Glob w) (hb : Below N w w') (hN : 2 ≤ N) : Glob w' :=
  ⟨rangeAt_below h.first hb (by omega), rangeAt_below h.added hb (by omega), Nat.le_trans h.size hb.size⟩
theorem Glob.alk {w w' : World} (h : Glob w) (k : Alk w w') : Glob w' := h.below (k.below w.heap.size) h.size
theorem Glob.alloc {w : World} (h : Glob w) (o : Obj) : Glob (w.alloc o) := h.below ((Below.refl w.heap.size w).alloc (Nat.le_refl _) o) h.size
theorem Glob.get {w : World} (h : Glob w) {k : Nat} (hk : k < 64) : w.cell? ⟨1, k, none⟩ = some (.int .u32 ((kk.getD k 0 : Nat) : Int)) := by
  have := h.added k _ (wv_get kk k (by simpa [kk] using hk))
  rwa [Nat.zero_add] at this
theorem isz5 : (Tryz.prog.info? 5).map (·.size) = some 1 := by kernel_rfl
theorem isz37 : (Tryz.prog.info? 92).map (·.size) = some 1 := by kernel_rfl
theorem isz41 : (Tryz.prog.info? 103).map (·.size) = some 8 := by kernel_rfl
theorem isz42 : (Tryz.prog.info? 104).map (·.size) = some 64 := by kernel_rfl
theorem isz24 : (Tryz.prog.info? 28).map (·.size) = some 32 := by kernel_rfl
theorem isz44 : (Tryz.prog.info? 106).map (·.size) = some 73 := by kernel_rfl
theorem run_index {P : Program} {t e : TypeId} {n : Nat} (ht : P.underlying t = some (.array n e)) {ik : IntKind} (hu : P.underlying e = some (.int ik)) (he : (P.info? e).map (·.size) = some 1) (cs : Array Value) (k : Nat) (v : Value) (hk : k < n) (hv : cs[k]? = some v) (w : World) :
    (Instr.index t (.agg cs) (.int .i64 k)).run P w = .ok v w := by
  cases hq : P.info? e with
  | none => simp [hq] at he
  | some i =>
    have hs : i.size = 1 := by simpa [hq] using he
    simp [Instr.index, asIntOf, Sem.run_bind, run_underlying ht, hk, sizeOf, typeInfo, hq, hs, part, isAgg, run_underlying hu, hv]
theorem ch_val {e f g : Nat} (he : e < 4294967296) (hf : f < 4294967296) (hg : g < 4294967296) :
    bits .or .u32 (bits .and .u32 (e : Int) (f : Int)) (bits .and .u32 (bits .xor .u32 (if IntKind.u32.signed = true then -1 else IntKind.u32.max) (e : Int)) (g : Int)) = ((chf e f g : Nat) : Int) := by
  rw [show (if IntKind.u32.signed = true then (-1 : Int) else IntKind.u32.max) = ((4294967295 : Nat) : Int) from rfl, u32_xor_nat _ _ (by decide) he, u32_and_nat _ _ he hf, u32_and_nat _ _ (xor_lt' (by decide) he) hg,
    u32_or_nat _ _ (and_lt _ he) (and_lt _ (xor_lt' (by decide) he))]
  rfl
theorem maj_val {a b c : Nat} (ha : a < 4294967296) (hb : b < 4294967296) (hc : c < 4294967296) :
    bits .or .u32 (bits .or .u32 (bits .and .u32 (a : Int) (b : Int)) (bits .and .u32 (a : Int) (c : Int))) (bits .and .u32 (b : Int) (c : Int)) = ((maj a b c : Nat) : Int) := by
  rw [u32_and_nat _ _ ha hb, u32_and_nat _ _ ha hc, u32_and_nat _ _ hb hc, u32_or_nat _ _ (and_lt _ ha) (and_lt _ ha), u32_or_nat _ _ (or_lt (and_lt _ ha) (and_lt _ ha)) (and_lt _ hb)]
  rfl
theorem rnd_a (r : S8) (c x : Nat) : Value.int .u32 ((((r.h : Int) + (rot3 6 11 25 r.e : Nat) + (chf r.e r.f r.g : Nat) + (c : Nat) + (x : Nat) + (rot3 2 13 22 r.a : Nat)) % 4294967296 + (maj r.a r.b r.c : Nat)) % 4294967296) = .int .u32 ((rnd r c x).a : Nat) := by
  congr 1
  show _ = ((add32 (add32 (tee r c x) (rot3 2 13 22 r.a)) (maj r.a r.b r.c) : Nat) : Int)
  unfold tee add32
  omega
theorem rnd_e (r : S8) (c x : Nat) : Value.int .u32 (((r.d : Int) + ((r.h : Int) + (rot3 6 11 25 r.e : Nat) + (chf r.e r.f r.g : Nat) + (c : Nat) + (x : Nat))) % 4294967296) = .int .u32 ((rnd r c x).e : Nat) := by
  congr 1
  show _ = ((add32 r.d (tee r c x) : Nat) : Int)
  unfold tee add32
  omega
def out8 (s r : S8) : Array Value := #[.int .u32 (((s.a : Int) + (r.a : Int)) % 4294967296), .int .u32 (((s.b : Int) + (r.b : Int)) % 4294967296), .int .u32 (((s.c : Int) + (r.c : Int)) % 4294967296), .int .u32 (((s.d : Int) + (r.d : Int)) % 4294967296), .int .u32 (((s.e : Int) + (r.e : Int)) % 4294967296), .int .u32 (((s.f : Int) + (r.f : Int)) % 4294967296), .int .u32 (((s.g : Int) + (r.g : Int)) % 4294967296), .int .u32 (((s.h : Int) + (r.h : Int)) % 4294967296)]
theorem out8_eq (s r : S8) : out8 s r = (wv (sum8 s r).l).toArray := by
  have h : ∀ a b : Nat, ((a : Int) + (b : Int)) % 4294967296 = ((add32 a b : Nat) : Int) := fun a b => by unfold add32; omega
  simp [out8, wv, S8.l, sum8, h]
structure MxW (s : S8) (blk : List UInt8) (N : Nat) (W wr : World) : Prop where
  b0 : BlkIs wr N 103 (wv s.l).toArray
  b1 : BlkIs wr (N + 1) 104 (bv blk).toArray
  r : ∃ z, BlkIs wr (N + 1 + 1) 103 z ∧ z.size = 8
  glob : Glob wr
  below : Below N W wr
theorem MxW.alk {s : S8} {blk : List UInt8} {N : Nat} {W wr w1 : World} (h : MxW s blk N W wr) (k : Alk wr w1) : MxW s blk N W w1 :=
  ⟨k.blk h.b0, k.blk h.b1, let ⟨z, hz, hs⟩ := h.r; ⟨z, k.blk hz, hs⟩, h.glob.alk k, h.below.trans (k.below _)⟩
theorem MxW.more {s : S8} {blk : List UInt8} {N : Nat} {W wr w1 : World} (h : MxW s blk N W wr) (k : Below wr.heap.size wr w1) : MxW s blk N W w1 := by
  refine ⟨(k.block _ h.b0.lt).trans h.b0, (k.block _ h.b1.lt).trans h.b1, ?_, h.glob.below k h.glob.size, h.below.trans (k.mono (Nat.le_of_lt h.b0.lt))⟩
  obtain ⟨z, hz, hs⟩ := h.r
  exact ⟨z, (k.block _ hz.lt).trans hz, hs⟩
set_option maxRecDepth 100000 in
set_option maxHeartbeats 800000 in
theorem mixed_any (s : S8) (blk : List UInt8) (w : World) (hs : s.ok) (hb : blk.length = 64) (hg : Glob w) :
    Calls Tryz.prog 68 #[.agg (wv s.l).toArray, .agg (bv blk).toArray] w fun e w' => e = .returned (.agg (wv (mix s blk).l).toArray) ∧ Below w.heap.size w w' := by
  have HB := Lib.hid hb
  have HO := Lib.hid hs
  clear hb hs
  have h2 := hg.size
  go_enter Tryz.func68, Tryz.ntmps68
  go_wp2_with fail
  obtain ⟨W, hW⟩ : ∃ W, W = ((w.alloc (Obj.cells (wv s.l).toArray 103)).alloc (Obj.cells (bv blk).toArray 104)).alloc (Obj.cells #[Value.int IntKind.u32 0, Value.int IntKind.u32 0, Value.int IntKind.u32 0, Value.int IntKind.u32 0, Value.int IntKind.u32 0, Value.int IntKind.u32 0, Value.int IntKind.u32 0, Value.int IntKind.u32 0] 103) := ⟨_, rfl⟩
  have hM : MxW s blk w.heap.size w W := by
    subst hW
    exact ⟨((BlkIs.new _ _ _).alloc _).alloc _, (BlkIs.new_at (w.alloc _) _ _ _ (by simp)).alloc _, ⟨_, BlkIs.new_at ((w.alloc _).alloc _) _ _ _ (by simp), rfl⟩, ((hg.alloc _).alloc _).alloc _, (((Below.refl _ _).alloc (Nat.le_refl _) _).alloc (by simp) _).alloc (by simp; omega) _⟩
  rw [← hW]
  clear hW hg h2
  have c0 := hM.b0.get (i := 0) rfl
  have c1 := hM.b0.get (i := 1) rfl
  have c2 := hM.b0.get (i := 2) rfl
  have c3 := hM.b0.get (i := 3) rfl
  have c4 := hM.b0.get (i := 4) rfl
  have c5 := hM.b0.get (i := 5) rfl
  have c6 := hM.b0.get (i := 6) rfl
  have c7 := hM.b0.get (i := 7) rfl
  obtain ⟨X, hX⟩ : ∃ X, X = (wv (wl blk 64)).toArray := ⟨_, rfl⟩
  have hsp := fun w => spread_any blk w HB.out
  rw [← hX] at hsp
  have HX : Hid (∀ k, k < 64 → X[k]? = some (.int .u32 (((wl blk 64).getD k 0 : Nat) : Int))) := Lib.hid (fun k hk => by
    rw [hX]
    have := wv_get (wl blk 64) k (by rw [wl_length]; exact hk)
    simpa using this)
  have HI : Hid ((Tryz.prog.info? 104).map (·.size) = some (bv blk).toArray.size) := Lib.hid (by rw [isz42]; simp [bv_length, HB.out])
  clear hX
  go_quiet (fail)
  have hM1 := hM.alk (Alk.drewN W nq)
  generalize W.drewN nq = W1 at *
  clear c0 c1 c2 c3 c4 c5 c6 c7 hM
  go_wp2_with (first
    | (with_reducible refine load_blk (.tmp 3) 104 (w.heap.size + 1) 104 _ hM1.b1 rfl rfl rfl _ Tryz.underlying104 rfl HI.out ?_)
    | (go_at_call 74; refine (hsp _).mono ?_; rintro e w2 ⟨rfl, hb2⟩; have hM2 := hM1.more hb2))
  clear hM1 hb2 hsp
  have HM2 := Lib.hid hM2
  clear hM2
  go_loopw [5, 6, 7, 8, 9, 10, 11, 12, 34] (fun a b c d e f g h i wr => ∃ k : Nat, k ≤ 64 ∧ i = .int .i64 k ∧ a = .int .u32 ((rnds blk s k).a : Nat) ∧ b = .int .u32 ((rnds blk s k).b : Nat) ∧ c = .int .u32 ((rnds blk s k).c : Nat) ∧ d = .int .u32 ((rnds blk s k).d : Nat) ∧ e = .int .u32 ((rnds blk s k).e : Nat) ∧ f = .int .u32 ((rnds blk s k).f : Nat) ∧ g = .int .u32 ((rnds blk s k).g : Nat) ∧ h = .int .u32 ((rnds blk s k).h : Nat) ∧ MxW s blk w.heap.size w wr) (fun _ _ _ _ _ _ _ _ i _ => 64 - (intOf i).toNat)
  case atStart => exact ⟨0, by omega, rfl, rfl, rfl, rfl, rfl, rfl, rfl, rfl, rfl, HM2.out⟩
  case round =>
    obtain ⟨k, hk, rfl, rfl, rfl, rfl, rfl, rfl, rfl, rfl, rfl, hM⟩ := hrel
    have HR := Lib.hid (rnds_ok blk HO.out k)
    have HS : Hid (rnds blk s (k + 1) = rnd (rnds blk s k) (kk.getD k 0) ((wl blk 64).getD k 0)) := Lib.hid rfl
    by_cases hlt : k < 64
    · have hidx := fun w => run_index (P := Tryz.prog) Tryz.underlying119 Tryz.underlying92 isz37 X k _ hlt (HX.out k hlt) w
      have hkc := hM.glob.get hlt
      have k64 : (k : Int) < 64 := by omega
      generalize rnds blk s k = r at *
      generalize (wl blk 64).getD k 0 = x at *
      generalize kk.getD k 0 = c at *
      have he4 := HR.out.2.2.2.2.1
      have ha0 := HR.out.1
      go_wp2_with fail
      go_quiet ((go_at_call 75; exact quiet_q (fun w => turned_any _ 6 11 25 w he4 (by omega) (by omega) (by omega) (by omega) (by omega) (by omega)) _ _))
      have hM3 := hM.alk (Alk.drewN wr nq)
      generalize wr.drewN nq = w3 at *
      clear hM hkc hidx
      go_wp2_with (go_at_call 75; refine (turned_any _ 2 13 22 _ ha0 (by omega) (by omega) (by omega) (by omega) (by omega) (by omega)).mono ?_; rintro e w' ⟨rfl, rfl⟩)
      go_roundw
      case rel =>
        refine ⟨k + 1, by omega, by go_num, ?_, by rw [HS.out]; rfl, by rw [HS.out]; rfl, by rw [HS.out]; rfl, ?_, by rw [HS.out]; rfl, by rw [HS.out]; rfl, by rw [HS.out]; rfl, hM3⟩
        · rw [HS.out, ch_val HR.out.2.2.2.2.1 HR.out.2.2.2.2.2.1 HR.out.2.2.2.2.2.2.1, maj_val HR.out.1 HR.out.2.1 HR.out.2.2.1]
          exact rnd_a r c x
        · rw [HS.out, ch_val HR.out.2.2.2.2.1 HR.out.2.2.2.2.2.1 HR.out.2.2.2.2.2.2.1]
          exact rnd_e r c x
      case measure => simp [intOf]; omega
    · obtain rfl : k = 64 := by omega
      have c0 := hM.b0.get (i := 0) rfl
      have c1 := hM.b0.get (i := 1) rfl
      have c2 := hM.b0.get (i := 2) rfl
      have c3 := hM.b0.get (i := 3) rfl
      have c4 := hM.b0.get (i := 4) rfl
      have c5 := hM.b0.get (i := 5) rfl
      have c6 := hM.b0.get (i := 6) rfl
      have c7 := hM.b0.get (i := 7) rfl
      have HE : Hid (mix s blk = sum8 s (rnds blk s 64)) := Lib.hid rfl
      clear HS
      generalize rnds blk s 64 = r at *
      obtain ⟨z, hr, hz⟩ := hM.r
      have HI8 : Hid ((Tryz.prog.info? 103).map (·.size) = some (out8 s r).size) := Lib.hid isz41
      have HZ : Hid (z.size = (out8 s r).size) := Lib.hid hz
      clear hz
      go_wp2_with (refine store_blk (.tmp 4) (.tmp 115) 103 (w.heap.size + 1 + 1) 103 z (out8 s r) hr rfl rfl rfl rfl HI8.out HZ.out (by rw [out8_eq]; exact wv_all _) ?_; intro w9 hr9 ht9)
      refine ret_blk rfl (w.heap.size + 1 + 1) 103 (out8 s r) hr9 _ rfl Tryz.underlying103 rfl HI8.out rfl ⟨by rw [HE.out, out8_eq], ?_⟩
      have h9 : Below w.heap.size wr w9 := ht9.below (Nat.le_of_lt hM.b0.lt) (fun i hi h => by omega)
      exact Below.trans hM.below h9
end Go.Proofs.YteapnkedpmcokaaGreatDoor
