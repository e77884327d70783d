/- Contract of the words of a block. Conditions: as stated at each. -/
import Derived.Test.YtlbmieeimnjncaaDoorDgSmall
import Derived.Test.YtlbmieeimnjncaaDoorDgMem
namespace Go.Proofs.YtlbmieeimnjncaaDoor
set_option maxRecDepth 100000
open Go.RowKit Go
structure SpW (blk : List UInt8) (N : Nat) (W wr : World) (l : List Nat) : Prop where
  b : BlkIs wr N 63 (bv blk).toArray
  r : ∃ z, BlkIs wr (N + 1) 76 z ∧ z.size = 64
  w : BlkIs wr (N + 1 + 1) 76 (wv (wz l 64)).toArray
  below : Below N W wr
theorem SpW.alk {blk : List UInt8} {N : Nat} {W wr w1 : World} {l : List Nat} (h : SpW blk N W wr l) (k : Alk wr w1) : SpW blk N W w1 l :=
  ⟨k.blk h.b, let ⟨z, hz, hs⟩ := h.r; ⟨z, k.blk hz, hs⟩, k.blk h.w, h.below.trans ⟨k.2.1, k.2.2.1, k.2.2.2, by rw [k.1]; exact Nat.le_refl _, fun i _ => by rw [k.1]⟩⟩
theorem SpW.put {blk : List UInt8} {N : Nat} {W wr : World} {l : List Nat} (h : SpW blk N W wr l) (hl : l.length < 64) (x : Nat) (i : Nat) (hi : i = l.length) : SpW blk N W (wr.setCell ⟨N + 1 + 1, i, none⟩ (.int .u32 (x : Int))) (l ++ [x]) := by
  subst hi
  refine ⟨h.b.far (by show N ≠ N + 1 + 1; omega) _, ?_, ?_, h.below.setCell (by show N ≤ N + 1 + 1; omega) _⟩
  · obtain ⟨z, hz, hs⟩ := h.r
    exact ⟨z, hz.far (by show N + 1 ≠ N + 1 + 1; omega) _, hs⟩
  · rw [← wz_set l 64 x hl]
    exact h.w.put _ _
theorem be4_or (blk : List UInt8) (q : Nat) {b0 b1 b2 b3 : Nat} (h0 : (blk.getD q 0).toNat = b0) (h1 : (blk.getD (q + 1) 0).toNat = b1) (h2 : (blk.getD (q + 2) 0).toNat = b2) (h3 : (blk.getD (q + 3) 0).toNat = b3) :
    bits .or .u32 (bits .or .u32 (bits .or .u32 ((b0 : Int) * 16777216) ((b1 : Int) * 65536)) ((b2 : Int) * 256)) (b3 : Int) = ((be4 blk q : Nat) : Int) := by
  have t0 := (blk.getD q 0).toNat_lt
  have t1 := (blk.getD (q + 1) 0).toNat_lt
  have t2 := (blk.getD (q + 2) 0).toNat_lt
  have t3 := (blk.getD (q + 3) 0).toNat_lt
  unfold be4
  rw [h0, h1, h2, h3] at *
  have e1 : (b0 : Int) * 16777216 = ((b0 * 16777216 : Nat) : Int) := by simp
  have e2 : (b1 : Int) * 65536 = ((b1 * 65536 : Nat) : Int) := by simp
  have e3 : (b2 : Int) * 256 = ((b2 * 256 : Nat) : Int) := by simp
  rw [e1, e2, e3, u32_or_nat _ _ (by omega) (by omega), nat_join 24 _ _ (by simp) (by omega), u32_or_nat _ _ (by omega) (by omega), nat_join 16 _ _ (by omega) (by omega), u32_or_nat _ _ (by omega) (by omega), nat_join 8 _ _ (by omega) (by omega)]
theorem wl_next (blk : List UInt8) (k : Nat) : wl blk k ++ [nextW blk (wl blk k)] = wl blk (k + 1) := rfl
theorem nextW_low (blk : List UInt8) (k q : Nat) (hk : k < 16) (hq : q = 4 * k) : nextW blk (wl blk k) = be4 blk q := by unfold nextW; rw [wl_length, if_pos hk, hq]
theorem shifted_1 (x : Nat) (w : World) (hx : x < 4294967296) :
    Calls Tryd.prog 38 #[.int .u32 x, .int .i64 17, .int .i64 19, .int .i64 10] w fun e w' => e = .returned (.int .u32 (sh3 17 19 10 x : Nat)) ∧ Alk w w' :=
  (shifted_any x 17 19 10 w hx (by decide) (by decide) (by decide) (by decide) (by decide) (by decide)).mono fun _ _ ⟨he, n, hw⟩ => ⟨he, hw ▸ Alk.drewN w n⟩
theorem shifted_0 (x : Nat) (w : World) (hx : x < 4294967296) :
    Calls Tryd.prog 38 #[.int .u32 x, .int .i64 7, .int .i64 18, .int .i64 3] w fun e w' => e = .returned (.int .u32 (sh3 7 18 3 x : Nat)) ∧ Alk w w' :=
  (shifted_any x 7 18 3 w hx (by decide) (by decide) (by decide) (by decide) (by decide) (by decide)).mono fun _ _ ⟨he, n, hw⟩ => ⟨he, hw ▸ Alk.drewN w n⟩
set_option maxRecDepth 100000 in
set_option maxHeartbeats 400000 in
theorem spread_any (blk : List UInt8) (w : World) (hb : blk.length = 64) :
    Calls Tryd.prog 36 #[.agg (bv blk).toArray] w fun e w' => e = .returned (.agg (wv (wl blk 64)).toArray) ∧ Below w.heap.size w w' := by
  have HB := Lib.hid hb
  clear hb
  go_enter Tryd.func36, Tryd.ntmps36
  go_wp2_with fail
  go_loopw [6] (fun i wr => ∃ k : Nat, k ≤ 16 ∧ i = .int .i64 k ∧ SpW blk w.heap.size w wr (wl blk k)) (fun i _ => 16 - (intOf i).toNat)
  case atStart =>
    exact ⟨0, by omega, rfl, ⟨((BlkIs.new _ _ _).alloc _).alloc _, ⟨_, BlkIs.alloc (BlkIs.new_at (w.alloc _) _ _ _ (by simp)) _, rfl⟩, BlkIs.new_at ((w.alloc _).alloc _) _ _ _ (by simp), (((Below.refl _ _).alloc (Nat.le_refl _) _).alloc (by simp) _).alloc (by simp; omega) _⟩⟩
  case round =>
    obtain ⟨k, hk, rfl, hS⟩ := hrel
    by_cases hlt : k < 16
    · obtain ⟨q, hq⟩ : ∃ q, q = 4 * k := ⟨_, rfl⟩
      have q1 : q + 3 < 64 := by omega
      have HB64 := HB.out
      have g0 := bv_get blk q (by omega)
      have g1 := bv_get blk (q + 1) (by omega)
      have g2 := bv_get blk (q + 2) (by omega)
      have g3 := bv_get blk (q + 3) (by omega)
      have t0 := (blk.getD q 0).toNat_lt
      have t1 := (blk.getD (q + 1) 0).toNat_lt
      have t2 := (blk.getD (q + 2) 0).toNat_lt
      have t3 := (blk.getD (q + 3) 0).toNat_lt
      obtain ⟨b0, hb0⟩ : ∃ b, (blk.getD q 0).toNat = b := ⟨_, rfl⟩
      obtain ⟨b1, hb1⟩ : ∃ b, (blk.getD (q + 1) 0).toNat = b := ⟨_, rfl⟩
      obtain ⟨b2, hb2⟩ : ∃ b, (blk.getD (q + 2) 0).toNat = b := ⟨_, rfl⟩
      obtain ⟨b3, hb3⟩ : ∃ b, (blk.getD (q + 3) 0).toNat = b := ⟨_, rfl⟩
      have HV : Hid (bits .or .u32 (bits .or .u32 (bits .or .u32 ((b0 : Int) * 16777216) ((b1 : Int) * 65536)) ((b2 : Int) * 256)) (b3 : Int) = ((nextW blk (wl blk k) : Nat) : Int)) := by
        refine Lib.hid ?_
        rw [nextW_low blk k q hlt hq]
        exact be4_or blk q hb0 hb1 hb2 hb3
      have HL : Hid (k = (wl blk k).length) := Lib.hid (wl_length blk k).symm
      have HG := wv_get (wz (wl blk k) 64) k (by rw [wz_length _ _ (by rw [wl_length]; omega)]; omega)
      rw [hb0] at g0 t0
      rw [hb1] at g1 t1
      rw [hb2] at g2 t2
      rw [hb3] at g3 t3
      have e0 : IntKind.i64.wrap (4 * (k : Int)) = (q : Int) := by rw [IntWalk.i64_in _ (by omega)]; omega
      have e1 : IntKind.i64.wrap ((q : Int) + 1) = (q : Int) + 1 := IntWalk.i64_in _ (by omega)
      have e2 : IntKind.i64.wrap ((q : Int) + 2) = (q : Int) + 2 := IntWalk.i64_in _ (by omega)
      have e3 : IntKind.i64.wrap ((q : Int) + 3) = (q : Int) + 3 := IntWalk.i64_in _ (by omega)
      have n1 : ((q : Int) + 1).toNat = q + 1 := by omega
      have n2 : ((q : Int) + 2).toNat = q + 2 := by omega
      have n3 : ((q : Int) + 3).toNat = q + 3 := by omega
      have p1 : 0 ≤ (q : Int) + 1 := by omega
      have p2 : 0 ≤ (q : Int) + 2 := by omega
      have p3 : 0 ≤ (q : Int) + 3 := by omega
      have l0 : (q : Int) < 64 := by omega
      have l1 : (q : Int) + 1 < 64 := by omega
      have l2 : (q : Int) + 2 < 64 := by omega
      have l3 : (q : Int) + 3 < 64 := by omega
      have k64 : (k : Int) < 64 := by omega
      clear hb0 hb1 hb2 hb3 hq HB64
      go_wp2_with fail
      refine still_tail 31 (by kernel_rfl) (by kernel_rfl) (fun W1 hk1 => ?_)
      have hS1 := hS.alk hk1
      clear hS hk1
      have c0 := hS1.b.get g0
      have c1 := hS1.b.get g1
      have c2 := hS1.b.get g2
      have c3 := hS1.b.get g3
      have cw := hS1.w.get HG
      have fw := hS1.w.froz k
      clear g0 g1 g2 g3 HG
      simp only [List.take_succ_cons, List.take_zero, List.drop_succ_cons, List.drop_zero]
      repeat still_step
      refine wpStill_nil ?_
      clear c0 c1 c2 c3
      go_wp2_with fail
      go_roundw
      case rel => exact ⟨k + 1, by omega, by go_num, by rw [HV.out]; exact hS1.put (by rw [wl_length]; omega) _ k HL.out⟩
      case measure => simp [intOf]; omega
    · have HK : Hid (k = 16) := Lib.hid (by omega)
      go_wp2_with fail
      go_loopw [5] (fun i wr => ∃ k : Nat, 16 ≤ k ∧ k ≤ 64 ∧ i = .int .i64 k ∧ SpW blk w.heap.size w wr (wl blk k)) (fun i _ => 64 - (intOf i).toNat)
      case atStart => exact ⟨16, by omega, by omega, rfl, by rw [← HK.out]; exact hS⟩
      case round =>
        clear hS
        obtain ⟨k, hk16, hk64, rfl, hS⟩ := hrel
        by_cases hlt : k < 64
        · have HL : Hid (k = (wl blk k).length) := Lib.hid (wl_length blk k).symm
          have hz := wz_length (wl blk k) 64 (by rw [wl_length]; omega)
          have HG := wv_get (wz (wl blk k) 64) k (by rw [hz]; omega)
          obtain ⟨a2, ha2⟩ : ∃ a, a + 2 = k := ⟨k - 2, by omega⟩
          obtain ⟨a7, ha7⟩ : ∃ a, a + 7 = k := ⟨k - 7, by omega⟩
          obtain ⟨a15, ha15⟩ : ∃ a, a + 15 = k := ⟨k - 15, by omega⟩
          obtain ⟨a16, ha16⟩ : ∃ a, a + 16 = k := ⟨k - 16, by omega⟩
          have g2 := wv_get (wz (wl blk k) 64) a2 (by rw [hz]; omega)
          have g7 := wv_get (wz (wl blk k) 64) a7 (by rw [hz]; omega)
          have g15 := wv_get (wz (wl blk k) 64) a15 (by rw [hz]; omega)
          have g16 := wv_get (wz (wl blk k) 64) a16 (by rw [hz]; omega)
          rw [wz_get _ _ _ (by rw [wl_length]; omega)] at g2 g7 g15 g16
          have t2 := wl_getD_lt blk k a2
          have t7 := wl_getD_lt blk k a7
          have t15 := wl_getD_lt blk k a15
          have t16 := wl_getD_lt blk k a16
          have HV : Hid (nextW blk (wl blk k) = add32 (add32 (add32 (sh3 17 19 10 ((wl blk k).getD a2 0)) ((wl blk k).getD a7 0)) (sh3 7 18 3 ((wl blk k).getD a15 0))) ((wl blk k).getD a16 0)) := by
            refine Lib.hid ?_
            unfold nextW
            rw [wl_length, if_neg (by omega), show k - 2 = a2 from by omega, show k - 7 = a7 from by omega, show k - 15 = a15 from by omega, show k - 16 = a16 from by omega]
          generalize (wl blk k).getD a2 0 = x2 at *
          generalize (wl blk k).getD a7 0 = x7 at *
          generalize (wl blk k).getD a15 0 = x15 at *
          generalize (wl blk k).getD a16 0 = x16 at *
          generalize (wz (wl blk k) 64).getD k 0 = x0 at *
          have s2 := sh3_lt 17 19 10 t2
          have s15 := sh3_lt 7 18 3 t15
          have e2 : IntKind.i64.wrap ((k : Int) - 2) = (a2 : Int) := by rw [IntWalk.i64_in _ (by omega)]; omega
          have e7 : IntKind.i64.wrap ((k : Int) - 7) = (a7 : Int) := by rw [IntWalk.i64_in _ (by omega)]; omega
          have e15 : IntKind.i64.wrap ((k : Int) - 15) = (a15 : Int) := by rw [IntWalk.i64_in _ (by omega)]; omega
          have e16 : IntKind.i64.wrap ((k : Int) - 16) = (a16 : Int) := by rw [IntWalk.i64_in _ (by omega)]; omega
          have l2 : (a2 : Int) < 64 := by omega
          have l7 : (a7 : Int) < 64 := by omega
          have l15 : (a15 : Int) < 64 := by omega
          have l16 : (a16 : Int) < 64 := by omega
          have k64 : (k : Int) < 64 := by omega
          have SIX := Lib.hid fun (w' : World) (h : SpW blk w.heap.size w w' (wl blk k)) => (⟨h.w.get g2, h.w.get g7, h.w.get g15, h.w.get g16⟩ : w'.cell? ⟨w.heap.size + 1 + 1, a2, none⟩ = some (.int .u32 (x2 : Int)) ∧ w'.cell? ⟨w.heap.size + 1 + 1, a7, none⟩ = some (.int .u32 (x7 : Int)) ∧ w'.cell? ⟨w.heap.size + 1 + 1, a15, none⟩ = some (.int .u32 (x15 : Int)) ∧ w'.cell? ⟨w.heap.size + 1 + 1, a16, none⟩ = some (.int .u32 (x16 : Int)))
          have PUT := Lib.hid fun (wr' : World) (v : Value) (h : SpW blk w.heap.size w wr' (wl blk k)) => (⟨(cell_far _ _ _ _ _ (by omega)).trans (h.w.get g2), (cell_far _ _ _ _ _ (by omega)).trans (h.w.get g7), (cell_far _ _ _ _ _ (by omega)).trans (h.w.get g15), (cell_far _ _ _ _ _ (by omega)).trans (h.w.get g16)⟩ : (wr'.setCell ⟨w.heap.size + 1 + 1, k, none⟩ v).cell? ⟨w.heap.size + 1 + 1, a2, none⟩ = some (.int .u32 (x2 : Int)) ∧ (wr'.setCell ⟨w.heap.size + 1 + 1, k, none⟩ v).cell? ⟨w.heap.size + 1 + 1, a7, none⟩ = some (.int .u32 (x7 : Int)) ∧ (wr'.setCell ⟨w.heap.size + 1 + 1, k, none⟩ v).cell? ⟨w.heap.size + 1 + 1, a15, none⟩ = some (.int .u32 (x15 : Int)) ∧ (wr'.setCell ⟨w.heap.size + 1 + 1, k, none⟩ v).cell? ⟨w.heap.size + 1 + 1, a16, none⟩ = some (.int .u32 (x16 : Int)))
          have CW := Lib.hid fun (wr' : World) (h : SpW blk w.heap.size w wr' (wl blk k)) => h.w.get HG
          have HZ := Lib.hid hz
          have HW : Hid ((((((sh3 17 19 10 x2 : Nat) : Int) + (x7 : Int)) % 4294967296 + ((sh3 7 18 3 x15 : Nat) : Int)) % 4294967296 + (x16 : Int)) % 4294967296 = ((nextW blk (wl blk k) : Nat) : Int)) := by
            refine Lib.hid ?_
            rw [HV.out]
            unfold add32
            omega
          clear g2 g7 g15 g16 HG ha2 ha7 ha15 ha16 hz
          go_wp2_with fail
          have hSd := hS.alk (⟨rfl, rfl, rfl, rfl⟩ : Alk wr wr.drew)
          have cw0 := CW.out _ hSd
          have fw0 := hSd.w.froz k
          go_region_held3 (fun w' => w'.cell? ⟨w.heap.size + 1 + 1, a2, none⟩ = some (.int .u32 (x2 : Int)) ∧ w'.cell? ⟨w.heap.size + 1 + 1, a7, none⟩ = some (.int .u32 (x7 : Int)) ∧ w'.cell? ⟨w.heap.size + 1 + 1, a15, none⟩ = some (.int .u32 (x15 : Int)) ∧ w'.cell? ⟨w.heap.size + 1 + 1, a16, none⟩ = some (.int .u32 (x16 : Int)))
            (first
              | exact SIX.out _ (by assumption)
              | exact PUT.out _ _ (by assumption)
              | go_keep)
            (first
              | (go_at_call 38; (with_reducible refine (shifted_1 x2 _ t2).mono ?_); rintro e w1 ⟨rfl, hk1⟩; have hS1 := SpW.alk (by assumption) hk1; have cw1 := CW.out _ hS1; have fw1 := BlkIs.froz (SpW.w hS1) k)
              | (go_at_call 38; (with_reducible refine (shifted_0 x15 _ t15).mono ?_); rintro e w2 ⟨rfl, hk2⟩; have hS2 := SpW.alk (by assumption) hk2; have cw2 := CW.out _ hS2; have fw2 := BlkIs.froz (SpW.w hS2) k))
          clear cw0 fw0
          go_wp2_with fail
          go_roundw
          case rel => exact ⟨k + 1, by omega, by omega, by go_num, by rw [HW.out]; exact SpW.put (by assumption) (by rw [wl_length]; omega) _ k HL.out⟩
          case measure => simp [intOf]; omega
        · obtain rfl : k = 64 := by omega
          have h64 := wz_all (wl blk 64) 64 (wl_length blk 64)
          have hw := hS.w
          rw [h64] at hw
          obtain ⟨z, hr, hz⟩ := hS.r
          have HZ := Lib.hid hz
          have HN : Hid ((wv (wl blk 64)).toArray.size = 64) := Lib.hid (by simp [wv_length, wl_length])
          have hi : (Tryd.prog.info? 76).map (·.size) = some 64 := by kernel_rfl
          have HI : Hid ((Tryd.prog.info? 76).map (·.size) = some (wv (wl blk 64)).toArray.size) := Lib.hid (by rw [HN.out]; exact hi)
          clear h64 hz hi
          generalize hX : (wv (wl blk 64)).toArray = X at *
          have HX : Hid (X.all (·.oneCell') = true) := Lib.hid (by rw [← hX]; exact wv_all _)
          have HE := Lib.hid hX
          clear hX
          go_wp2_with (first
            | (with_reducible refine load_blk (.tmp 3) 76 (w.heap.size + 1 + 1) 76 X hw rfl rfl rfl _ Tryd.underlying76 rfl HI.out ?_)
            | (with_reducible refine store_blk (.tmp 2) (.tmp 68) 76 (w.heap.size + 1) 76 z X hr rfl rfl rfl rfl HI.out (by rw [HZ.out, HN.out]) HX.out ?_; intro w9 hr9 ht9))
          refine ret_blk rfl (w.heap.size + 1) 76 X hr9 _ rfl Tryd.underlying76 rfl HI.out rfl ⟨by rw [HE.out], ?_⟩
          have h9 : Below w.heap.size wr w9 := ht9.below hS.below.size (fun i hi h => by omega)
          exact Below.trans hS.below h9
end Go.Proofs.YtlbmieeimnjncaaDoor
