/- The walk of DigestTexts. Conditions: as stated. -/
import Derived.Test.YtmckgbjkplkblaaDoorDgBack
namespace Go.Proofs.YtmckgbjkplkblaaDoor
open Go.RowKit Go
theorem sumOf_length (l : List UInt8) : (sumOf l).length = 32 := by
  unfold sumOf
  split
  · exact uh_length l 64
  · simp
theorem blk_range {W : World} {g : Nat} {t : TypeId} {l : List Value} (h : BlkIs W g t l.toArray) : W.rangeAt g 0 l := fun j v hj => by rw [Nat.zero_add]; exact h.get hj
set_option maxRecDepth 100000 in
set_option maxHeartbeats 1600000 in
theorem texts_any (h : List UInt8) (s : ByteArray) (w : World) (hh : h.length = 32) (hs : s.size ≤ maxLen) (hg : Glob w) :
    Calls Tryd.prog 5 #[.agg (bv h).toArray, .string s] w fun e w' => e = .returned (.bool true) ∧ Below w.heap.size w w' := by
  unfold maxLen at hs
  have HI24 : Hid ((Tryd.prog.info? 24).map (·.size) = some (bv h).toArray.size) := Lib.hid (by rw [isz24, List.size_toArray, bv_length, hh])
  have HSH := Lib.hid fun w => show_any h w hh
  have HRSH := Lib.hid fun w => rshow_any h w hh
  have hp := fun w => parse_any s s.data.toList w rfl
  have hrp := fun w => rparse_any s s.data.toList w rfl
  have hl := sumOf_length s.data.toList
  have heq := fun w => run_eq24 (sumOf s.data.toList) (sumOf s.data.toList) hl hl w
  rw [show (sumOf s.data.toList == sumOf s.data.toList) = true by simp] at heq
  have HIZ : Hid ((Tryd.prog.info? 24).map (·.size) = some (bv (sumOf s.data.toList)).toArray.size) := Lib.hid (by rw [isz24, List.size_toArray, bv_length, hl])
  have HSZ : Hid ((bv (sumOf s.data.toList)).toArray.size = 32) := Lib.hid (by rw [List.size_toArray, bv_length, hl])
  have HA := Lib.hid (bv_all (sumOf s.data.toList))
  generalize hZl : bv (sumOf s.data.toList) = Zl at *
  have hiz : (Tryd.prog.info? 24).map (·.size) = some Zl.length := by rw [← hZl, isz24, bv_length, hl]
  have HIZL := Lib.hid hiz
  clear hZl hiz
  generalize okText s.data.toList = b at *
  have HP := Lib.hid hp
  have HRP := Lib.hid hrp
  clear hp hrp hl
  have hix : (Tryd.prog.info? 24).map (·.size) = some (bv h).length := by rw [isz24, bv_length, hh]
  have HIXL := Lib.hid hix
  clear hix
  generalize bv h = Xl at *
  clear hh
  have hb0 := BlkIs.new w 24 Xl.toArray
  have hw0 := (Below.refl w.heap.size w).alloc (Nat.le_refl _) (.cells Xl.toArray 24)
  have HAW := Lib.hid (awake_any _ (hg.alloc (.cells Xl.toArray 24)))
  have HB0 := Lib.hid hb0
  have HW0 := Lib.hid hw0
  clear hb0 hw0
  by_cases h200 : s.size ≤ 200
  · have hs2 : ¬ (200 : Int) < (s.size : Int) := by omega
    go_enter Tryd.func5, Tryd.ntmps5
    go_wp2_with (first
      | (go_at_call 7; refine HAW.out.mono ?_; rintro e w2 ⟨rfl, hb2⟩; have HB2 : Hid (BlkIs w2 w.heap.size 24 Xl.toArray) := Lib.hid ((hb2.block _ (by simp)).trans HB0.out); have HW2 := Lib.hid (HW0.out.trans (hb2.mono (by simp))); clear hb2)
      | (go_at_call 11; refine (HP.out _).mono ?_; rintro e w3 ⟨rfl, hb3⟩; have HB3 : Hid (BlkIs w3 w.heap.size 24 Xl.toArray) := Lib.hid ((hb3.block _ HB2.out.lt).trans HB2.out); have HW3 := Lib.hid (HW2.out.trans (hb3.mono HW2.out.size)); clear hb3)
      | (refine store_bl (.tmp 5) (.tmp 17) 24 w3.heap.size 24 _ Zl.toArray (BlkIs.new_at w3 _ _ _ rfl) rfl rfl rfl rfl rfl HIZ.out (by rw [HSZ.out]; rfl) HA.out ?_; intro w4 hb4 ht4; have hlt := HB3.out.lt; have HB4 : Hid (BlkIs w4 w.heap.size 24 Xl.toArray) := Lib.hid ((HB3.out.alloc _).tn ht4 (by omega)); have HW4 : Hid (Below w.heap.size w w4) := Lib.hid ((HW3.out.alloc HW3.out.size _).trans (ht4.below (by simp; omega) (fun i hi h => by omega))); have HC4 := Lib.hid hb4; clear hb4 ht4)
      | (go_at_call 12; refine (HRP.out _).mono ?_; rintro e w5 ⟨rfl, hb5⟩; have HB5 : Hid (BlkIs w5 w.heap.size 24 Xl.toArray) := Lib.hid ((hb5.block _ HB4.out.lt).trans HB4.out); have HC5 : Hid (BlkIs w5 w3.heap.size 24 Zl.toArray) := Lib.hid ((hb5.block _ HC4.out.lt).trans HC4.out); have HW5 := Lib.hid (HW4.out.trans (hb5.mono HW4.out.size)); clear hb5)
      | (refine store_bl (.tmp 7) (.tmp 22) 24 w5.heap.size 24 _ Zl.toArray (BlkIs.new_at w5 _ _ _ rfl) rfl rfl rfl rfl rfl HIZ.out (by rw [HSZ.out]; rfl) HA.out ?_; intro w6 hd6 ht6; have hlt5 := HB5.out.lt; have hlt6 := HC5.out.lt; have HB6 : Hid (BlkIs w6 w.heap.size 24 Xl.toArray) := Lib.hid ((HB5.out.alloc _).tn ht6 (by omega)); have HC6 : Hid (BlkIs w6 w3.heap.size 24 Zl.toArray) := Lib.hid ((HC5.out.alloc _).tn ht6 (by omega)); have HW6 : Hid (Below w.heap.size w w6) := Lib.hid ((HW5.out.alloc HW5.out.size _).trans (ht6.below (by simp; omega) (fun i hi h => by omega))); have HD6 := Lib.hid hd6; clear hd6 ht6)
      | fail)
    have hix := HIXL.out
    have hiz := HIZL.out
    have hu := Tryd.underlying24
    have KEEP : Hid (∀ w', Below w6.heap.size w6 w' → w'.rangeAt w.heap.size 0 Xl ∧ w'.rangeAt w3.heap.size 0 Zl ∧ w'.rangeAt w5.heap.size 0 Zl) := Lib.hid fun w' hb =>
      ⟨blk_range ((hb.block _ HB6.out.lt).trans HB6.out), blk_range ((hb.block _ HC6.out.lt).trans HC6.out), blk_range ((hb.block _ HD6.out.lt).trans HD6.out)⟩
    have k6 : Below w6.heap.size w6 w6.drew := (Below.refl _ w6).drew
    refine wp_region_held_drew (S := (fun w' => w'.rangeAt w.heap.size 0 Xl ∧ w'.rangeAt w3.heap.size 0 Zl ∧ w'.rangeAt w5.heap.size 0 Zl)) (by kernel_rfl) (KEEP.out _ k6) (fun hHeld => ?_)
    refine wpAnyH_take (i := 0) (v := .agg Xl.toArray) rfl (by kernel_rfl) (by kernel_rfl) (by kernel_rfl) (fun _ _ _ h => h) (yieldsIf_load_mid (by rfl) 24 (.tmp 2) rfl w.heap.size 0 rfl Xl _ (fun w h => h.1) hu rfl hix) hHeld ?_
    try simp only [Act.put, List.getElem_toArray, List.getElem_cons_zero, List.setIfInBounds_toArray, List.set_cons_zero, List.set_cons_succ]
    refine wpAnyH_take (i := 2) (v := .agg Xl.toArray) rfl (by kernel_rfl) (by kernel_rfl) (by kernel_rfl) (fun _ _ _ h => h) (yieldsIf_load_mid (by rfl) 24 (.tmp 2) rfl w.heap.size 0 rfl Xl _ (fun w h => h.1) hu rfl hix) hHeld ?_
    try simp only [Act.put, List.getElem_toArray, List.getElem_cons_zero, List.getElem_cons_succ, List.setIfInBounds_toArray, List.set_cons_zero, List.set_cons_succ]
    refine wpAnyH_ready (rs := [1]) (by kernel_rfl) (by simp) ?_
    refine AllReadyH.cons rfl (fun K hK => ?_) AllReadyH.nil
    go_simp
    go_wp2_with (go_at_call 13; refine (HSH.out _).mono ?_; rintro e w7 ⟨rfl, hb7⟩; have k7 : Below w6.heap.size w6 w7 := k6.trans (hb7.mono k6.size))
    refine hK.out _ _ ?_ (fun hHeld => ?_)
    · exact KEEP.out _ k7
    clear hK K
    try simp only [Act.put, List.getElem_toArray, List.getElem_cons_zero, List.getElem_cons_succ, List.setIfInBounds_toArray, List.set_cons_zero, List.set_cons_succ]
    refine wpAnyH_ready (rs := [3]) (by kernel_rfl) (by simp) ?_
    refine AllReadyH.cons rfl (fun K hK => ?_) AllReadyH.nil
    go_simp
    go_wp2_with (go_at_call 14; refine (HRSH.out _).mono ?_; rintro e w8 ⟨rfl, hb8⟩; have k8 : Below w6.heap.size w6 w8 := k7.trans (hb8.mono k7.size))
    refine hK.out _ _ ?_ (fun hHeld => ?_)
    · exact KEEP.out _ k8
    clear hK K
    try simp only [Act.put, List.getElem_toArray, List.getElem_cons_zero, List.getElem_cons_succ, List.setIfInBounds_toArray, List.set_cons_zero, List.set_cons_succ]
    refine wpAnyH_take (i := 4) (v := .bool true) rfl (by kernel_rfl) (by kernel_rfl) (by kernel_rfl) (fun _ _ _ h => h) (Or.inl ⟨by rfl, fun w hS => by first | (go_simp; done) | (go_simp; with_reducible rfl)⟩) hHeld ?_
    try simp only [Act.put, List.getElem_toArray, List.getElem_cons_zero, List.getElem_cons_succ, List.setIfInBounds_toArray, List.set_cons_zero, List.set_cons_succ]
    refine wpAnyH_take (i := 5) (v := .bool true) rfl (by kernel_rfl) (by kernel_rfl) (by kernel_rfl) (fun _ _ _ h => h) (Or.inl ⟨by rfl, fun w hS => by first | (go_simp; done) | (go_simp; with_reducible rfl)⟩) hHeld ?_
    try simp only [Act.put, List.getElem_toArray, List.getElem_cons_zero, List.getElem_cons_succ, List.setIfInBounds_toArray, List.set_cons_zero, List.set_cons_succ]
    refine wpAnyH_take (i := 6) (v := .bool b) rfl (by kernel_rfl) (by kernel_rfl) (by kernel_rfl) (fun _ _ _ h => h) (Or.inl ⟨by rfl, fun w hS => by first | (go_simp; done) | (go_simp; with_reducible rfl)⟩) hHeld ?_
    try simp only [Act.put, List.getElem_toArray, List.getElem_cons_zero, List.getElem_cons_succ, List.setIfInBounds_toArray, List.set_cons_zero, List.set_cons_succ]
    refine wpAnyH_take (i := 7) (v := .bool b) rfl (by kernel_rfl) (by kernel_rfl) (by kernel_rfl) (fun _ _ _ h => h) (Or.inl ⟨by rfl, fun w hS => by first | (go_simp; done) | (go_simp; with_reducible rfl)⟩) hHeld ?_
    try simp only [Act.put, List.getElem_toArray, List.getElem_cons_zero, List.getElem_cons_succ, List.setIfInBounds_toArray, List.set_cons_zero, List.set_cons_succ]
    refine wpAnyH_take (i := 8) (v := .bool true) rfl (by kernel_rfl) (by kernel_rfl) (by kernel_rfl) (fun _ _ _ h => h) (Or.inl ⟨by rfl, fun w hS => by first | (go_simp; done) | (go_simp; with_reducible rfl)⟩) hHeld ?_
    try simp only [Act.put, List.getElem_toArray, List.getElem_cons_zero, List.getElem_cons_succ, List.setIfInBounds_toArray, List.set_cons_zero, List.set_cons_succ]
    refine wpAnyH_take (i := 9) (v := .bool true) rfl (by kernel_rfl) (by kernel_rfl) (by kernel_rfl) (fun _ _ _ h => h) (Or.inl ⟨by rfl, fun w hS => by first | (go_simp; done) | (go_simp; with_reducible rfl)⟩) hHeld ?_
    try simp only [Act.put, List.getElem_toArray, List.getElem_cons_zero, List.getElem_cons_succ, List.setIfInBounds_toArray, List.set_cons_zero, List.set_cons_succ]
    refine wpAnyH_take (i := 10) (v := .bool true) rfl (by kernel_rfl) (by kernel_rfl) (by kernel_rfl) (fun _ _ _ h => h) (Or.inl ⟨by rfl, fun w hS => by first | (go_simp; done) | (go_simp; with_reducible rfl)⟩) hHeld ?_
    try simp only [Act.put, List.getElem_toArray, List.getElem_cons_zero, List.getElem_cons_succ, List.setIfInBounds_toArray, List.set_cons_zero, List.set_cons_succ]
    refine wpAnyH_take (i := 11) (v := .agg Zl.toArray) rfl (by kernel_rfl) (by kernel_rfl) (by kernel_rfl) (fun _ _ _ h => h) (yieldsIf_load_mid (by rfl) 24 (.tmp 5) rfl w3.heap.size 0 rfl Zl _ (fun w h => h.2.1) hu rfl hiz) hHeld ?_
    try simp only [Act.put, List.getElem_toArray, List.getElem_cons_zero, List.getElem_cons_succ, List.setIfInBounds_toArray, List.set_cons_zero, List.set_cons_succ]
    refine wpAnyH_take (i := 12) (v := .agg Zl.toArray) rfl (by kernel_rfl) (by kernel_rfl) (by kernel_rfl) (fun _ _ _ h => h) (yieldsIf_load_mid (by rfl) 24 (.tmp 7) rfl w5.heap.size 0 rfl Zl _ (fun w h => h.2.2) hu rfl hiz) hHeld ?_
    try simp only [Act.put, List.getElem_toArray, List.getElem_cons_zero, List.getElem_cons_succ, List.setIfInBounds_toArray, List.set_cons_zero, List.set_cons_succ]
    refine wpAnyH_take (i := 13) (v := .bool true) rfl (by kernel_rfl) (by kernel_rfl) (by kernel_rfl) (fun _ _ _ h => h) (Or.inl ⟨by rfl, fun w hS => by first | (go_simp; done) | (go_simp; with_reducible rfl)⟩) hHeld ?_
    try simp only [Act.put, List.getElem_toArray, List.getElem_cons_zero, List.getElem_cons_succ, List.setIfInBounds_toArray, List.set_cons_zero, List.set_cons_succ]
    refine wpAnyH_take (i := 14) (v := .bool true) rfl (by kernel_rfl) (by kernel_rfl) (by kernel_rfl) (fun _ _ _ h => h) (Or.inl ⟨by rfl, fun w hS => by first | (go_simp; done) | (go_simp; with_reducible rfl)⟩) hHeld ?_
    try simp only [Act.put, List.getElem_toArray, List.getElem_cons_zero, List.getElem_cons_succ, List.setIfInBounds_toArray, List.set_cons_zero, List.set_cons_succ]
    refine wpAnyH_take (i := 15) (v := .bool true) rfl (by kernel_rfl) (by kernel_rfl) (by kernel_rfl) (fun _ _ _ h => h) (Or.inl ⟨by rfl, fun w hS => by first | (go_simp; done) | (go_simp; with_reducible rfl)⟩) hHeld ?_
    try simp only [Act.put, List.getElem_toArray, List.getElem_cons_zero, List.getElem_cons_succ, List.setIfInBounds_toArray, List.set_cons_zero, List.set_cons_succ]
    refine wpAnyH_done (by kernel_rfl) ?_ _
    go_wp2_with fail
    go_ret
    exact ⟨rfl, HW6.out.trans (k8.mono HW6.out.size)⟩
  · have hs2 : (200 : Int) < (s.size : Int) := by omega
    go_enter Tryd.func5, Tryd.ntmps5
    go_wp2_with (first
      | (go_at_call 7; refine HAW.out.mono ?_; rintro e w2 ⟨rfl, hb2⟩; have HW2 := Lib.hid (HW0.out.trans (hb2.mono (by simp))); clear hb2)
      | fail)
    go_ret
    exact ⟨rfl, HW2.out⟩
end Go.Proofs.YtmckgbjkplkblaaDoor
