/- The contract of digest.Parse. Conditions: as stated at each. -/
import Derived.Test.YtmckgbjkplkblaaDoorDgText
namespace Go.Proofs.YtmckgbjkplkblaaDoor
open Go.RowKit Go
theorem ret_blk2 {P : Program} {fn : Func} {R : Ending → World → Prop} {a : Act} {w : World} {p q : Tmp} {ty : TypeId} (hr : fn.results = #[.cell p ty, .tmp q]) (g : Nat) (t : TypeId) (cs : Array Value) (v : Value) (hg : BlkIs w g t cs) (d : TypeDesc)
    (hp : a.tmps.getD p undef = .pointer (some ⟨g, 0, none⟩)) (hq : a.tmps.getD q undef = v) (hu : P.underlying ty = some d) (hd : (match d with | .struct _ | .array _ _ => true | _ => false) = true) (hi : (P.info? ty).map (·.size) = some cs.size)
    (hde : a.defers = []) (hR : R (.returned (.tuple #[.agg cs, v])) w) : bodyPost P fn R .ret a w := by
  refine bodyPost_ret_by ?_ hde hR
  have hp' : a.tmps[p]?.getD undef = .pointer (some ⟨g, 0, none⟩) := by simpa using hp
  have hq' : a.tmps[q]?.getD undef = v := by simpa using hq
  simp [results, hr, hp', hq', asAddr, run_loadVar_row w g t ty cs (0, 0) d hg hu hd hi]
theorem build_nil {P : Program} {ops : Array Oper} {rest : List Oper} {o : Oper} {a : Act} {w : World} {Q : Exit → Act → World → Prop} (t : TypeId) (v : Value)
    (hrun : ∀ w, (Instr.build t #[]).run P w = .ok v w) (ho : o.op = .build t #[]) (hgd : o.guard = none)
    (h : wpList P ops Q rest (a.put o.dst v) w) : wpList P ops Q (o :: rest) a w := by
  refine wpList_plain hgd fun K hK => ?_
  unfold Oper.wp execOp
  simp only [ho, List.map_toArray, List.map_nil, Sem.run_bind, hrun, Result.andThen, Sem.run_pure]
  exact hK _ _ h
theorem build_zero (w : World) : (Instr.build 24 #[]).run Tryd.prog w = .ok (.agg (bv (List.replicate 32 0)).toArray) w := by kernel_rfl
theorem or_dig (u v : Nat) (hu : u < 16) (hv : v < 16) : bits .or .u8 ((u : Int) * 16) (v : Int) = ((16 * u + v : Nat) : Int) := by
  rw [show (u : Int) * 16 = ((u * 16 : Nat) : Int) from by omega, u8_or_nat _ _ (by omega) (by omega), nat_join 4 _ _ (by omega) (by omega)]
  congr 1
  omega
/-- one digit more. -/
theorem ub_step (l : List UInt8) (k : Nat) (hl : l.length = 64) (hk : k < 64) (hd : dgs l k = true) (hv : hexv (l.getD k 0) < 16) :
    ∃ u nv, (ub l k (k / 2)).toNat = u ∧ u < 16 ∧ (ub l (k + 1) (k / 2)).toNat = nv ∧ bits .or .u8 ((u : Int) * 16) ((hexv (l.getD k 0) : Nat) : Int) = (nv : Int) ∧ (∀ i, i < 32 → i ≠ k / 2 → ub l (k + 1) i = ub l k i) := by
  rcases Nat.mod_two_eq_zero_or_one k with h | h
  · obtain ⟨j, rfl⟩ : ∃ j, k = 2 * j := ⟨k / 2, by omega⟩
    obtain ⟨e1, e2⟩ := ub_even l j hv
    rw [show 2 * j / 2 = j from by omega]
    refine ⟨0, _, e2, by omega, e1, ?_, fun i _ hi => (ub_far l j i hi).1⟩
    have := or_dig 0 _ (by omega) hv
    simpa using this
  · obtain ⟨j, rfl⟩ : ∃ j, k = 2 * j + 1 := ⟨k / 2, by omega⟩
    have hv0 := dgs_at l (2 * j + 1) (2 * j) hd (by omega) (by omega)
    rw [show (2 * j + 1) / 2 = j from by omega]
    exact ⟨_, _, (ub_even l j hv0).1, hv0, ub_odd l j hv0 hv, or_dig _ _ hv0 hv, fun i _ hi => (ub_far l j i hi).2⟩
theorem no_bel (w w4 : World) (o o' : Obj) (ht : Tn (fun i => i = w.heap.size) ((w.alloc o).alloc o') w4) : Below w.heap.size w w4 :=
  (((Below.refl w.heap.size w).alloc (Nat.le_refl _) o).alloc (by simp) o').trans (ht.below (by simp; omega) (fun i hi h => by omega))
theorem okText_no (l : List UInt8) (h : okText l = false) : sumOf l = List.replicate 32 0 := by unfold sumOf; rw [h]; rfl
theorem okText_yes (l : List UInt8) (h : okText l = true) : sumOf l = uh l 64 := by unfold sumOf; rw [h]; rfl
set_option maxRecDepth 100000 in
set_option maxHeartbeats 1600000 in
theorem parse_any (s : ByteArray) (l : List UInt8) (w : World) (hs : s.data.toList = l) :
    Calls Tryd.prog 11 #[.string s] w fun e w' => e = .returned (.tuple #[.agg (bv (sumOf l)).toArray, .bool (okText l)]) ∧ Below w.heap.size w w' := by
  have hsz : s.size = l.length := by rw [← hs]; rfl
  have HSZ := Lib.hid hsz
  have HSS := Lib.hid hs
  have hbz := build_zero
  have hZ : (bv (List.replicate 32 0)).toArray.size = 32 := by rfl
  have hZa := bv_all (List.replicate 32 0)
  generalize hZ0 : (bv (List.replicate 32 0)).toArray = Z at *
  have HZ0 := Lib.hid hZ0
  have HZ := Lib.hid hZ
  have HZA := Lib.hid hZa
  have HIZ : Hid ((Tryd.prog.info? 24).map (·.size) = some Z.size) := Lib.hid (by rw [hZ]; exact isz24)
  clear hZ hZa hZ0 hs
  by_cases h64 : l.length = 64
  · have hszn : s.size = 64 := by omega
    have hszi : (s.size : Int) = 64 := by omega
    clear hsz
    go_enter Tryd.func11, Tryd.ntmps11
    go_wp2_with (first
      | (with_reducible refine build_nil 24 _ hbz rfl rfl ?_)
      | fail)
    have HH : Hid (bv (uh l 0) = bv (List.replicate 32 0)) := Lib.hid (by rw [uh_zero])
    have HB1 := Lib.hid (BlkIs.new_at (w.alloc (.cells (bv (List.replicate 32 0)).toArray 24)) 24 (bv (List.replicate 32 0)).toArray (w.heap.size + 1) (by simp))
    have HB0 := Lib.hid ((BlkIs.new w 24 (bv (List.replicate 32 0)).toArray).alloc (.cells (bv (List.replicate 32 0)).toArray 24))
    have HW := Lib.hid (((Below.refl w.heap.size w).alloc (Nat.le_refl _) (.cells (bv (List.replicate 32 0)).toArray 24)).alloc (by simp) (.cells (bv (List.replicate 32 0)).toArray 24))
    go_loopw [13] (fun i wr => ∃ k : Nat, k ≤ 64 ∧ i = .int .i64 k ∧ dgs l k = true ∧ BlkIs wr (w.heap.size + 1) 24 (bv (uh l k)).toArray ∧ (∃ z, BlkIs wr w.heap.size 24 z ∧ z.size = 32) ∧ Below w.heap.size w wr) (fun i _ => 64 - (intOf i).toNat)
    case atStart => exact ⟨0, by omega, rfl, rfl, by rw [HH.out]; exact HB1.out, ⟨_, HB0.out, rfl⟩, HW.out⟩
    case round =>
      clear HB0 HB1 HW HH
      obtain ⟨k, hk, rfl, hd, hb, hr, hbel⟩ := hrel
      obtain ⟨z0, hr0, hz0⟩ := hr
      have HZ9 : Hid (z0.size = Z.size) := Lib.hid (by rw [hz0, HZ.out])
      clear hz0
      by_cases hlt : k < 64
      · have hat := fun w => run_at s l HSS.out k (by omega) w
        have HNX := Lib.hid (dgs_next l k (by omega))
        have k64 : (k : Int) < 64 := by omega
        by_cases hv : hexv (l.getD k 0) < 16
        · obtain ⟨u, nv, hu, hu16, hnv, heq, hfar⟩ := ub_step l k h64 hlt hd hv
          have HD : Hid (dgs l (k + 1) = true) := Lib.hid (by rw [HNX.out, hd]; simp only [decide_eq_true hv, Bool.and_self])
          obtain ⟨j, hj⟩ : ∃ j, j = k / 2 := ⟨_, rfl⟩
          rw [← hj] at hu hnv hfar
          have j32 : j < 32 := by omega
          have HP := Lib.hid (uh_set l k (k + 1) j j32 hfar nv hnv)
          have hg := bv_get (uh l k) j (by rw [uh_length]; exact j32)
          rw [uh_get l k j j32, hu] at hg
          have hcj := hb.get hg
          have hfj := hb.froz j
          have ej : (k : Int) / 2 = (j : Int) := by omega
          have ej2 : (k : Int).tdiv 2 = (j : Int) := by rw [Int.tdiv_eq_ediv_of_nonneg (by omega)]; exact ej
          have hb2 := hb.put j (.int .u8 (nv : Int))
          rw [HP.out] at hb2
          have hct := index_yes (l.getD k 0)
          have HCT := Lib.hid fun w => hct w hv
          generalize hexv (l.getD k 0) = v at *
          generalize l.getD k 0 = c at *
          have hclt := c.toNat_lt
          have ji : (j : Int) < 32 := by omega
          have hr2 := hr0.far (x := ⟨w.heap.size + 1, j, none⟩) (by show w.heap.size ≠ w.heap.size + 1; omega) (.int .u8 (nv : Int))
          have HB2 := Lib.hid hb2
          have HR2 := Lib.hid hr2
          clear hu hnv hfar hg hj hd hct hb2 hr2
          go_wp2_with (first
            | (go_at_call 19; refine (HCT.out _).mono ?_; rintro e w' ⟨rfl, rfl⟩)
            | fail)
          exact ⟨⟨k + 1, by omega, by go_num, HD.out, HB2.out, ⟨z0, HR2.out, by rw [HZ9.out, HZ.out]⟩, hbel.setCell (by show w.heap.size ≤ w.heap.size + 1; omega) _⟩, by simp [intOf]; omega⟩
        · have HOK : Hid (okText l = false) := Lib.hid (by
            unfold okText
            rw [dgs_less l (k + 1) 64 (by rw [HNX.out, decide_eq_false hv, Bool.and_false]) (by omega), Bool.and_false])
          have HCT := Lib.hid fun w => index_no (l.getD k 0) w hv
          generalize l.getD k 0 = c at *
          go_wp2_with (first
            | (go_at_call 19; refine (HCT.out _).mono ?_; rintro e w' ⟨rfl, rfl⟩)
            | (with_reducible refine build_nil 24 _ hbz rfl rfl ?_)
            | (refine store_bl (.tmp 2) (.tmp 22) 24 w.heap.size 24 z0 Z hr0 rfl rfl rfl rfl rfl HIZ.out HZ9.out HZA.out ?_; intro w4 hb4 ht4)
            | fail)
          have h9 : Below w.heap.size wr w4 := ht4.below hbel.size (fun i hi h => by omega)
          refine ret_blk2 rfl w.heap.size 24 Z (.bool false) hb4 _ rfl rfl Tryd.underlying24 rfl HIZ.out rfl ⟨by rw [HOK.out, okText_no l HOK.out, HZ0.out], hbel.trans h9⟩
      · obtain rfl : k = 64 := by omega
        have HOK : Hid (okText l = true) := Lib.hid (by unfold okText; rw [hd, decide_eq_true h64]; rfl)
        have HIU : Hid ((Tryd.prog.info? 24).map (·.size) = some (bv (uh l 64)).toArray.size) := Lib.hid (by rw [isz24, List.size_toArray, bv_length, uh_length])
        have HZU : Hid (z0.size = (bv (uh l 64)).toArray.size) := Lib.hid (by rw [HZ9.out, HZ.out, List.size_toArray, bv_length, uh_length])
        have hall := bv_all (uh l 64)
        generalize hU : (bv (uh l 64)).toArray = U at *
        have HU := Lib.hid hU
        have HA := Lib.hid hall
        clear hd hall hU
        go_wp2_with (first
          | (with_reducible refine load_blk (.tmp 4) 24 (w.heap.size + 1) 24 U hb rfl rfl rfl _ Tryd.underlying24 rfl HIU.out ?_)
          | (refine store_bl (.tmp 2) (.tmp 35) 24 w.heap.size 24 z0 U hr0 rfl rfl rfl rfl rfl HIU.out HZU.out HA.out ?_; intro w4 hb4 ht4)
          | fail)
        have h9 : Below w.heap.size wr w4 := ht4.below hbel.size (fun i hi h => by omega)
        refine ret_blk2 rfl w.heap.size 24 U (.bool true) hb4 _ rfl rfl Tryd.underlying24 rfl HIU.out rfl ⟨by rw [HOK.out, okText_yes l HOK.out, HU.out], hbel.trans h9⟩
  · have hok : okText l = false := by unfold okText; rw [decide_eq_false h64]; rfl
    have HOK := Lib.hid hok
    have hne : ¬ (s.size : Int) = 64 := by omega
    clear hsz hok
    go_enter Tryd.func11, Tryd.ntmps11
    go_wp2_with (first
      | (with_reducible refine build_nil 24 _ hbz rfl rfl ?_)
      | (refine store_bl (.tmp 2) (.tmp 10) 24 w.heap.size 24 _ Z ((BlkIs.new _ _ _).alloc _) rfl rfl rfl rfl rfl HIZ.out (by rw [HZ.out]; rfl) HZA.out ?_; intro w4 hb4 ht4)
      | fail)
    have hbl := no_bel _ _ _ _ ht4
    refine ret_blk2 rfl w.heap.size 24 Z (.bool false) hb4 _ rfl rfl Tryd.underlying24 rfl HIZ.out rfl ⟨by rw [HOK.out, okText_no l HOK.out, HZ0.out], hbl⟩
end Go.Proofs.YtmckgbjkplkblaaDoor
