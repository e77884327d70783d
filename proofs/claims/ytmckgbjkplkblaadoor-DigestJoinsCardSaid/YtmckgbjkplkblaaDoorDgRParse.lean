/- The contract of the document's Parse. Conditions: as stated at each. -/
import Derived.Test.YtmckgbjkplkblaaDoorDgRShow
namespace Go.Proofs.YtmckgbjkplkblaaDoor
open Go.RowKit Go
theorem digit_q (c : UInt8) (w : World) (n : Nat) : Calls Tryd.prog 20 #[.int .u8 (c.toNat : Int)] (w.drewN n) fun e w'' => e = .returned (.int .u32 (hexv c : Nat)) ∧ ∃ m, w'' = w.drewN m := quiet_q (fun w => digit_any c w) w n
theorem dgs_two (l : List UInt8) (j : Nat) (h : 2 * j + 1 < l.length) : dgs l (2 * (j + 1)) = (dgs l (2 * j) && (decide (hexv (l.getD (2 * j) 0) < 16) && decide (hexv (l.getD (2 * j + 1) 0) < 16))) := by
  rw [show 2 * (j + 1) = 2 * j + 1 + 1 from by omega, dgs_next l (2 * j + 1) h, dgs_next l (2 * j) (by omega), Bool.and_assoc]
theorem uh_two (l : List UInt8) (j : Nat) (hj : j < 32) (h1 : hexv (l.getD (2 * j) 0) < 16) (h2 : hexv (l.getD (2 * j + 1) 0) < 16) :
    (bv (uh l (2 * j))).toArray.setIfInBounds j (.int .u8 ((16 * hexv (l.getD (2 * j) 0) + hexv (l.getD (2 * j + 1) 0) : Nat) : Int)) = (bv (uh l (2 * (j + 1)))).toArray :=
  uh_set l (2 * j) (2 * (j + 1)) j hj (fun i _ hi => by
    rw [show 2 * (j + 1) = 2 * j + 1 + 1 from by omega, (ub_far l j i hi).2, (ub_far l j i hi).1]) _ (by
    rw [show 2 * (j + 1) = 2 * j + 1 + 1 from by omega]
    exact ub_odd l j h1 h2)
theorem val_two (v1 v2 : Nat) : (16 * (v1 : Int) + (v2 : Int)) = ((16 * v1 + v2 : Nat) : Int) := by omega
set_option maxRecDepth 100000 in
set_option maxHeartbeats 1600000 in
theorem rparse_any (s : ByteArray) (l : List UInt8) (w : World) (hs : s.data.toList = l) :
    Calls Tryd.prog 12 #[.string s] w fun e w' => e = .returned (.tuple #[.agg (bv (sumOf l)).toArray, .bool (okText l)]) ∧ Below w.heap.size w w' := by
  have hsz : s.size = l.length := by rw [← hs]; rfl
  have HSZ := Lib.hid hsz
  have HSS := Lib.hid hs
  have hbz := build_zero
  have hZ : (bv (List.replicate 32 0)).toArray.size = 32 := by rfl
  have hZa := bv_all (List.replicate 32 0)
  generalize hZ0 : (bv (List.replicate 32 0)).toArray = Z at *
  have HZ0 := Lib.hid hZ0
  have HZ := Lib.hid hZ
  have HZA := Lib.hid hZa
  have HIZ : Hid ((Tryd.prog.info? 24).map (·.size) = some Z.size) := Lib.hid (by rw [hZ]; exact isz24)
  clear hZ hZa hZ0 hs
  by_cases h64 : l.length = 64
  · have hszn : s.size = 64 := by omega
    have hszi : (s.size : Int) = 64 := by omega
    clear hsz
    go_enter Tryd.func12, Tryd.ntmps12
    go_wp2_with (first
      | (with_reducible refine build_nil 24 _ hbz rfl rfl ?_)
      | fail)
    have HH : Hid (bv (uh l 0) = bv (List.replicate 32 0)) := Lib.hid (by rw [uh_zero])
    have HB1 := Lib.hid (BlkIs.new_at (w.alloc (.cells (bv (List.replicate 32 0)).toArray 24)) 24 (bv (List.replicate 32 0)).toArray (w.heap.size + 1) (by simp))
    have HB0 := Lib.hid ((BlkIs.new w 24 (bv (List.replicate 32 0)).toArray).alloc (.cells (bv (List.replicate 32 0)).toArray 24))
    have HW := Lib.hid (((Below.refl w.heap.size w).alloc (Nat.le_refl _) (.cells (bv (List.replicate 32 0)).toArray 24)).alloc (by simp) (.cells (bv (List.replicate 32 0)).toArray 24))
    go_loopw [12] (fun i wr => ∃ k : Nat, k ≤ 32 ∧ i = .int .i64 k ∧ dgs l (2 * k) = true ∧ BlkIs wr (w.heap.size + 1) 24 (bv (uh l (2 * k))).toArray ∧ (∃ z, BlkIs wr w.heap.size 24 z ∧ z.size = 32) ∧ Below w.heap.size w wr) (fun i _ => 32 - (intOf i).toNat)
    case atStart => exact ⟨0, by omega, rfl, rfl, by rw [Nat.mul_zero, HH.out]; exact HB1.out, ⟨_, HB0.out, rfl⟩, HW.out⟩
    case round =>
      clear HB0 HB1 HW HH
      obtain ⟨k, hk, rfl, hd, hb, hr, hbel⟩ := hrel
      obtain ⟨z0, hr0, hz0⟩ := hr
      have HZ9 : Hid (z0.size = Z.size) := Lib.hid (by rw [hz0, HZ.out])
      clear hz0
      by_cases hlt : k < 32
      · obtain ⟨q, hq⟩ : ∃ q, q = 2 * k := ⟨_, rfl⟩
        have hat1 := fun w => run_at s l HSS.out q (by omega) w
        have hat2 := fun w => run_at s l HSS.out (q + 1) (by omega) w
        have HNX := Lib.hid (dgs_two l k (by omega))
        have HP := Lib.hid (uh_two l k hlt)
        rw [← hq] at HNX HP hd hb
        have k32 : (k : Int) < 32 := by omega
        have eq1 : IntKind.i64.wrap (2 * (k : Int)) = (q : Int) := by rw [IntWalk.i64_in _ (by omega)]; omega
        have eq2 : IntKind.i64.wrap ((q : Int) + 1) = (q : Int) + 1 := IntWalk.i64_in _ (by omega)
        rw [Int.natCast_add, Int.natCast_one] at hat2
        have HD := Lib.hid hd
        have hc1 := (l.getD q 0).toNat_lt
        have hc2 := (l.getD (q + 1) 0).toNat_lt
        have v1le := hexv_le (l.getD q 0)
        have v2le := hexv_le (l.getD (q + 1) 0)
        have HQ := Lib.hid hq
        clear hd hq
        have HG := Lib.hid (bv_get (uh l q) k (by rw [uh_length]; exact hlt))
        generalize (l.getD q 0) = c1 at *
        generalize (l.getD (q + 1) 0) = c2 at *
        have hcj := hb.get HG.out
        have hfj := hb.froz k
        generalize ((uh l q).getD k 0).toNat = old at *
        go_wp2_with fail
        go_quiet ((go_at_call 20; exact digit_q _ _ _))
        generalize hexv c1 = v1 at *
        generalize hexv c2 = v2 at *
        have hb1 := (Alk.drewN wr nq).blk hb
        have hr1 := (Alk.drewN wr nq).blk hr0
        have hbel1 : Below w.heap.size w (wr.drewN nq) := below_drewN hbel nq
        generalize wr.drewN nq = w1 at *
        have hcj := hb1.get HG.out
        have hfj := hb1.froz k
        by_cases h1 : v1 < 16
        · by_cases h2 : v2 < 16
          · have HX := HP.out h1 h2
            have HN := HNX.out
            have hb2 := hb1.put k (.int .u8 ((16 * v1 + v2 : Nat) : Int))
            rw [HX] at hb2
            rw [HD.out, decide_eq_true h1, decide_eq_true h2] at HN
            have HB2 := Lib.hid hb2
            have HNN := Lib.hid HN
            have hr2 := Lib.hid (hr1.far (x := ⟨w.heap.size + 1, k, none⟩) (by show w.heap.size ≠ w.heap.size + 1; omega) (.int .u8 ((16 * v1 + v2 : Nat) : Int)))
            have hbel2 : Hid (Below w.heap.size w (w1.setCell ⟨w.heap.size + 1, k, none⟩ (.int .u8 ((16 * v1 + v2 : Nat) : Int)))) := Lib.hid (hbel1.setCell (by show w.heap.size ≤ w.heap.size + 1; omega) _)
            have f1 : ¬ (15 : Int) < v1 := by omega
            have f2 : ¬ (15 : Int) < v2 := by omega
            clear HX HN hb2
            go_wp2_with fail
            exact ⟨⟨k + 1, by omega, by go_num, HNN.out, by rw [val_two]; exact HB2.out, ⟨z0, by rw [val_two]; exact hr2.out, by rw [HZ9.out, HZ.out]⟩, by rw [val_two]; exact hbel2.out⟩, by simp [intOf]; omega⟩
          · have HBAD : Hid ((decide (v1 < 16) && decide (v2 < 16)) = false) := Lib.hid (by rw [decide_eq_false h2, Bool.and_false])
            have f1 : ¬ (15 : Int) < v1 := by omega
            have f2 : (15 : Int) < v2 := by omega
            have HOK : Hid (okText l = false) := Lib.hid (by
              unfold okText
              rw [dgs_less l (2 * (k + 1)) 64 (by rw [HNX.out, HBAD.out, Bool.and_false]) (by omega), Bool.and_false])
            go_wp2_with (first
              | (with_reducible refine build_nil 24 _ hbz rfl rfl ?_)
              | (refine store_bl (.tmp 2) (.tmp 32) 24 w.heap.size 24 z0 Z hr1 rfl rfl rfl rfl rfl HIZ.out HZ9.out HZA.out ?_; intro w4 hb4 ht4)
              | fail)
            have h9 : Below w.heap.size w1 w4 := ht4.below hbel1.size (fun i hi h => by omega)
            refine ret_blk2 rfl w.heap.size 24 Z (.bool false) hb4 _ rfl rfl Tryd.underlying24 rfl HIZ.out rfl ⟨by rw [HOK.out, okText_no l HOK.out, HZ0.out], hbel1.trans h9⟩
        · have HBAD : Hid ((decide (v1 < 16) && decide (v2 < 16)) = false) := Lib.hid (by rw [decide_eq_false h1, Bool.false_and])
          have f1 : (15 : Int) < v1 := by omega
          have HOK : Hid (okText l = false) := Lib.hid (by
            unfold okText
            rw [dgs_less l (2 * (k + 1)) 64 (by rw [HNX.out, HBAD.out, Bool.and_false]) (by omega), Bool.and_false])
          go_wp2_with (first
            | (with_reducible refine build_nil 24 _ hbz rfl rfl ?_)
            | (refine store_bl (.tmp 2) (.tmp 32) 24 w.heap.size 24 z0 Z hr1 rfl rfl rfl rfl rfl HIZ.out HZ9.out HZA.out ?_; intro w4 hb4 ht4)
            | fail)
          have h9 : Below w.heap.size w1 w4 := ht4.below hbel1.size (fun i hi h => by omega)
          refine ret_blk2 rfl w.heap.size 24 Z (.bool false) hb4 _ rfl rfl Tryd.underlying24 rfl HIZ.out rfl ⟨by rw [HOK.out, okText_no l HOK.out, HZ0.out], hbel1.trans h9⟩
      · obtain rfl : k = 32 := by omega
        have HOK : Hid (okText l = true) := Lib.hid (by unfold okText; rw [show (64 : Nat) = 2 * 32 from rfl, hd, show (2 * 32 : Nat) = 64 from rfl, decide_eq_true h64]; rfl)
        have HIU : Hid ((Tryd.prog.info? 24).map (·.size) = some (bv (uh l (2 * 32))).toArray.size) := Lib.hid (by rw [isz24, List.size_toArray, bv_length, uh_length])
        have HZU : Hid (z0.size = (bv (uh l (2 * 32))).toArray.size) := Lib.hid (by rw [HZ9.out, HZ.out, List.size_toArray, bv_length, uh_length])
        have hall := bv_all (uh l (2 * 32))
        generalize hU : (bv (uh l (2 * 32))).toArray = U at *
        have HU := Lib.hid hU
        have HA := Lib.hid hall
        clear hd hall hU
        go_wp2_with (first
          | (with_reducible refine load_blk (.tmp 4) 24 (w.heap.size + 1) 24 U hb rfl rfl rfl _ Tryd.underlying24 rfl HIU.out ?_)
          | (refine store_bl (.tmp 2) (.tmp 41) 24 w.heap.size 24 z0 U hr0 rfl rfl rfl rfl rfl HIU.out HZU.out HA.out ?_; intro w4 hb4 ht4)
          | fail)
        have h9 : Below w.heap.size wr w4 := ht4.below hbel.size (fun i hi h => by omega)
        refine ret_blk2 rfl w.heap.size 24 U (.bool true) hb4 _ rfl rfl Tryd.underlying24 rfl HIU.out rfl ⟨by rw [HOK.out, okText_yes l HOK.out, ← HU.out], hbel.trans h9⟩
  · have hok : okText l = false := by unfold okText; rw [decide_eq_false h64]; rfl
    have HOK := Lib.hid hok
    have hne : ¬ (s.size : Int) = 64 := by omega
    have HB1 : Hid (BlkIs ((w.alloc (.cells (bv (List.replicate 32 0)).toArray 24)).alloc (.cells (bv (List.replicate 32 0)).toArray 24)) (w.heap.size + 1) 24 Z) := Lib.hid (by rw [← HZ0.out]; exact BlkIs.new_at _ _ _ _ (by simp))
    clear hsz hok
    go_enter Tryd.func12, Tryd.ntmps12
    go_wp2_with (first
      | (refine load_blk (.tmp 4) 24 (w.heap.size + 1) 24 Z HB1.out rfl rfl rfl _ Tryd.underlying24 rfl HIZ.out ?_)
      | (refine store_bl (.tmp 2) (.tmp 11) 24 w.heap.size 24 _ Z ((BlkIs.new _ _ _).alloc _) rfl rfl rfl rfl rfl HIZ.out (by rw [HZ.out]; rfl) HZA.out ?_; intro w4 hb4 ht4)
      | fail)
    have hbl := no_bel _ _ _ _ ht4
    refine ret_blk2 rfl w.heap.size 24 Z (.bool false) hb4 _ rfl rfl Tryd.underlying24 rfl HIZ.out rfl ⟨by rw [HOK.out, okText_no l HOK.out, HZ0.out], hbl⟩
end Go.Proofs.YtmckgbjkplkblaaDoor
