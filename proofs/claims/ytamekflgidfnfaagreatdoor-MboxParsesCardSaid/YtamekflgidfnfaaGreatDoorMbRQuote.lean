/- The document's Quote and Unquote. Conditions: as stated at each. -/
import Derived.Test.YtamekflgidfnfaaGreatDoorMbREach
import Derived.Test.YtamekflgidfnfaaGreatDoorMbStr
namespace Go.Proofs.YtamekflgidfnfaaGreatDoor
set_option maxRecDepth 100000
namespace Mb
open Go.RowKit Go
theorem mkd_len {x : L} (h : mkd x = true) : 5 ≤ x.length := by
  obtain ⟨r, e⟩ := (mark_iff _).1 h
  have h1 := congrArg List.length e
  have h2 : (x.dropWhile (· == 62)).length ≤ x.length := (List.dropWhile_sublist _).length_le
  simp only [List.length_cons] at h1
  omega
theorem take_next {ls : List L} {k : Nat} (h : k < ls.length) : ls.take (k + 1) = ls.take k ++ [ls.getD k []] := by
  rw [List.take_succ_eq_append_getElem h]
  simp [List.getD, h]
theorem get_mem {ls : List L} {k : Nat} (h : k < ls.length) : ls.getD k [] ∈ ls := by simp [List.getD, h]
theorem flat_snoc (f : L → L) (ls : List L) (x : L) : (ls ++ [x]).flatMap f = ls.flatMap f ++ f x := by simp
theorem flat_take {f : L → L} (ls : List L) (k : Nat) : ((ls.take k).flatMap f).length ≤ (ls.flatMap f).length := by
  have := congrArg (fun l : List L => (l.flatMap f).length) (List.take_append_drop k ls)
  simp only [List.flatMap_append, List.length_append] at this
  omega
set_option maxHeartbeats 1600000 in
theorem rquote_any {w : World} {A : Option Addr} {l : L} (h : Bts w w.heap.size A l) (c : Nat) (hc : l.length ≤ c) (hm : c ≤ maxLen) (hl : l.length ≤ 100000) :
    Calls Tryz.prog 38 #[.slice A l.length c] w (OutP w (quoteS l)) := by
  have HE := Lib.hid (reach_any h c hc hm (by omega))
  have hql := quote_len l
  have hst : quoteS l = (lns l).flatMap qt := rfl
  have HPS := Lib.hid (fun x (hx : x ∈ lns l) => And.intro (lns_pos hx) (lns_len hx))
  have hlc : (lns l).length ≤ 100000 := Nat.le_trans (lns_count _) hl
  rw [hst] at hql ⊢
  have HLL := Lib.hid hl
  clear h hst
  generalize l.length = n at *
  generalize lns l = ls at *
  go_enter Tryz.func38, Tryz.ntmps38
  go_wp2_with fail
  refine HE.out.mono ?_
  rintro e w2 ⟨v2, rfl, hr2, hb2⟩
  obtain ⟨A2, c2, rfl, hc2, hm2⟩ := hr2.slice
  have HR2 := Lib.hid hr2
  have HB2 := Lib.hid hb2
  have hs2 := hb2.size
  clear hr2 hb2
  generalize hml : ls.length = m at *
  have HM := Lib.hid hml
  clear hml
  unfold maxLen at *
  go_wp2_with fail
  go_loopw [3, 11] (fun x z wr => ∃ k : Nat, k ≤ m ∧ z = .int .i64 k ∧ Own5 wr w.heap.size x ((ls.take k).flatMap qt) ∧ RowS wr w.heap.size w.heap.size (.slice A2 m c2) ls ∧ Below w.heap.size w wr) (fun _ z _ => m - (intOf z).toNat)
  case atStart => exact ⟨0, Nat.zero_le _, rfl, Own5.nil _ _, HR2.out, HB2.out⟩
  case round =>
    obtain ⟨k, hk, rfl, hown, hrow, hbel⟩ := hrel
    have HOW := Lib.hid hown
    have HRW := Lib.hid hrow
    have HBE := Lib.hid hbel
    have hsz := hbel.size
    obtain ⟨A9, c9, rfl, hc9, hm9⟩ := own_slice hown
    clear hown hrow hbel
    by_cases hlt : k < m
    · have hk' : k < ls.length := by rw [HM.out]; exact hlt
      obtain ⟨g, A3, c3, rfl, hg, hcell, hc3, hm3, hbt⟩ := HRW.out.at_ hk'
      obtain ⟨hx0, hxl⟩ := HPS.out _ (get_mem hk')
      have HTN := Lib.hid (take_next hk')
      have HWT : Hid (((ls.take k).flatMap qt).length ≤ 300000) := Lib.hid (Nat.le_trans (flat_take ls k) (by omega))
      obtain ⟨g3, o3, rfl, hg3, _⟩ := bts_at_ hbt hx0
      have HFR := Lib.hid (rfrom_any hbt c3 hc3 hm3 (by omega))
      have HBT := Lib.hid hbt
      have HQ : Hid (qt (ls.getD k []) = if mkd (ls.getD k []) then 62 :: ls.getD k [] else ls.getD k []) := Lib.hid rfl
      clear hbt
      generalize hxe : ls.getD k [] = x at *
      generalize hxn : x.length = xn at *
      have HXN := Lib.hid hxn
      clear hxe hxn hk'
      have hkm : (k : Int) < (m : Int) := by omega
      generalize hwn : ((ls.take k).flatMap qt).length = wn at *
      have HWN := Lib.hid hwn
      clear hwn
      go_wp2_with fail
      refine HFR.out.mono ?_
      rintro e w3 ⟨n3, rfl, _, _, q, rfl⟩
      have HOD := Lib.hid (own_kept HOW.out (drewN_below wr wr.heap.size q) (Nat.le_refl _))
      have HRD := Lib.hid (HRW.out.kept (drewN_below wr wr.heap.size q) (Nat.le_refl _) hsz)
      have HBD := Lib.hid (HBE.out.trans (drewN_below wr w.heap.size q))
      have HTD := Lib.hid (HBT.out.below (drewN_below wr w.heap.size q))
      have hszd : w.heap.size ≤ (wr.drewN q).heap.size := HBD.out.size
      clear HFR HOW HRW HBE HBT hsz hcell
      generalize wr.drewN q = w3 at *
      generalize mkd x = mx at *
      cases mx with
      | true =>
        have HD : Hid (qt x = 62 :: x) := Lib.hid HQ.out
        clear HQ
        go_wp2_with (first
          | (refine app5 (.tmp 21) (.tmp 22) rfl rfl w.heap.size _ ((ls.take k).flatMap qt) [62] rfl (own_kept HOD.out ((Below.refl w3.heap.size w3).alloc (Nat.le_refl _) _) (Nat.le_refl _)) (w3.heap.size + 1) (some ⟨w3.heap.size, 0, none⟩) 1 rfl (bts_new w3 [62] _ _ rfl) (by rw [HWN.out]; have := HWT.out; simp; omega) (by simp; omega) ?_; intro v4 w4 h1 h2; have H4 := Lib.hid (show Own5 w4 w.heap.size v4 ((ls.take k).flatMap qt ++ [62]) from h1); have HR4 := Lib.hid ((HRD.out.kept ((Below.refl w3.heap.size w3).alloc (Nat.le_refl _) (.cells #[.int .u8 62] 5)) (Nat.le_refl _) hszd).other (l := (ls.take k).flatMap qt) (own_kept HOD.out ((Below.refl w3.heap.size w3).alloc (Nat.le_refl _) (.cells #[.int .u8 62] 5)) (Nat.le_refl _)) (Nat.le_refl _) (by simp; omega) h2); have b4 := (HBD.out.alloc hszd (.cells #[.int .u8 62] 5)).grown h2 (by simp; omega) (fun k hk => (HOD.out.lt k hk).1); have s4 := b4.size; have hb4 := (Below.refl w.heap.size w3).alloc hszd (.cells #[.int .u8 62] 5) |>.grown h2 (by simp; omega) (fun k hk => (HOD.out.lt k hk).1); clear h1 h2)
          | (refine app5 (.tmp 24) (.tmp 25) rfl rfl w.heap.size _ ((ls.take k).flatMap qt ++ [62]) x rfl H4.out w.heap.size (some ⟨g3, o3, none⟩) c3 (by rw [HXN.out]; rfl) (HTD.out.below hb4) (by rw [HXN.out, List.length_append, HWN.out]; have := HWT.out; simp; omega) s4 ?_; intro v5 w5 h1 h2; have H5 := Lib.hid (show Own5 w5 w.heap.size v5 (((ls.take k).flatMap qt ++ [62]) ++ x) from h1); have HR5 := Lib.hid (HR4.out.other H4.out (Nat.le_refl _) s4 h2); have b5 := b4.grown h2 s4 (fun k hk => (H4.out.lt k hk).1); clear h1 h2)
          | fail)
        go_roundw
        case rel => exact ⟨k + 1, by omega, by go_num, by rw [HTN.out, flat_snoc, HD.out]; have := H5.out; rw [List.append_assoc] at this; exact this, HR5.out, b5⟩
        case measure => simp [intOf]; omega
      | false =>
        have HD : Hid (qt x = x) := Lib.hid HQ.out
        clear HQ
        go_wp2_with (first
          | (refine app5 (.tmp 24) (.tmp 25) rfl rfl w.heap.size _ ((ls.take k).flatMap qt) x rfl HOD.out w.heap.size (some ⟨g3, o3, none⟩) c3 (by rw [HXN.out]; rfl) HTD.out (by rw [HXN.out, HWN.out]; have := HWT.out; omega) hszd ?_; intro v5 w5 h1 h2; have H5 := Lib.hid (show Own5 w5 w.heap.size v5 ((ls.take k).flatMap qt ++ x) from h1); have HR5 := Lib.hid (HRD.out.other HOD.out (Nat.le_refl _) hszd h2); have b5 := HBD.out.grown h2 hszd (fun k hk => (HOD.out.lt k hk).1); clear h1 h2)
          | fail)
        go_roundw
        case rel => exact ⟨k + 1, by omega, by go_num, by rw [HTN.out, flat_snoc, HD.out]; exact H5.out, HR5.out, b5⟩
        case measure => simp [intOf]; omega
    · have hkm : ¬ (k : Int) < (m : Int) := by omega
      generalize ((ls.take k).flatMap qt).length = wn at *
      have HW : Hid ((ls.take k).flatMap qt = ls.flatMap qt) := Lib.hid (by rw [List.take_of_length_le (by rw [HM.out]; omega)])
      rw [HW.out] at HOW
      go_wp2_with fail
      go_ret
      exact ⟨_, rfl, HOW.out, HBE.out⟩
set_option maxHeartbeats 1600000 in
theorem runquote_any {w : World} {A : Option Addr} {l : L} (h : Bts w w.heap.size A l) (c : Nat) (hc : l.length ≤ c) (hm : c ≤ maxLen) (hl : l.length ≤ 100000) :
    Calls Tryz.prog 19 #[.slice A l.length c] w (OutP w (unquoteS l)) := by
  have HE := Lib.hid (reach_any h c hc hm (by omega))
  have hql := unquote_len l
  have hst : unquoteS l = (lns l).flatMap uq := rfl
  have HPS := Lib.hid (fun x (hx : x ∈ lns l) => And.intro (lns_pos hx) (lns_len hx))
  have hlc : (lns l).length ≤ 100000 := Nat.le_trans (lns_count _) hl
  rw [hst] at hql ⊢
  have HLL := Lib.hid hl
  clear h hst
  generalize l.length = n at *
  generalize lns l = ls at *
  go_enter Tryz.func19, Tryz.ntmps19
  go_wp2_with fail
  refine HE.out.mono ?_
  rintro e w2 ⟨v2, rfl, hr2, hb2⟩
  obtain ⟨A2, c2, rfl, hc2, hm2⟩ := hr2.slice
  have HR2 := Lib.hid hr2
  have HB2 := Lib.hid hb2
  have hs2 := hb2.size
  clear hr2 hb2
  generalize hml : ls.length = m at *
  have HM := Lib.hid hml
  clear hml
  unfold maxLen at *
  go_wp2_with fail
  go_loopw [3, 11] (fun x z wr => ∃ k : Nat, k ≤ m ∧ z = .int .i64 k ∧ Own5 wr w.heap.size x ((ls.take k).flatMap uq) ∧ RowS wr w.heap.size w.heap.size (.slice A2 m c2) ls ∧ Below w.heap.size w wr) (fun _ z _ => m - (intOf z).toNat)
  case atStart => exact ⟨0, Nat.zero_le _, rfl, Own5.nil _ _, HR2.out, HB2.out⟩
  case round =>
    obtain ⟨k, hk, rfl, hown, hrow, hbel⟩ := hrel
    have HOW := Lib.hid hown
    have HRW := Lib.hid hrow
    have HBE := Lib.hid hbel
    have hsz := hbel.size
    obtain ⟨A9, c9, rfl, hc9, hm9⟩ := own_slice hown
    clear hown hrow hbel
    by_cases hlt : k < m
    · have hk' : k < ls.length := by rw [HM.out]; exact hlt
      obtain ⟨g, A3, c3, rfl, hg, hcell, hc3, hm3, hbt⟩ := HRW.out.at_ hk'
      obtain ⟨hx0, hxl⟩ := HPS.out _ (get_mem hk')
      have HTN := Lib.hid (take_next hk')
      have HWT : Hid (((ls.take k).flatMap uq).length ≤ 300000) := Lib.hid (Nat.le_trans (flat_take ls k) (by omega))
      obtain ⟨g3, o3, rfl, hg3, _⟩ := bts_at_ hbt hx0
      have HFR := Lib.hid (rfrom_any hbt c3 hc3 hm3 (by omega))
      have HBT := Lib.hid hbt
      have HQ : Hid (uq (ls.getD k []) = if mkd (ls.getD k []) then Go.Lib.trimPrefix (ls.getD k []) [62] else ls.getD k []) := Lib.hid rfl
      clear hbt
      generalize hxe : ls.getD k [] = x at *
      generalize hxn : x.length = xn at *
      have HXN := Lib.hid hxn
      clear hxe hxn hk'
      have hkm : (k : Int) < (m : Int) := by omega
      generalize hwn : ((ls.take k).flatMap uq).length = wn at *
      have HWN := Lib.hid hwn
      clear hwn
      go_wp2_with fail
      refine HFR.out.mono ?_
      rintro e w3 ⟨n3, rfl, _, hn3i, q, rfl⟩
      have HN3 := Lib.hid hn3i
      clear hn3i
      have HOD := Lib.hid (own_kept HOW.out (drewN_below wr wr.heap.size q) (Nat.le_refl _))
      have HRD := Lib.hid (HRW.out.kept (drewN_below wr wr.heap.size q) (Nat.le_refl _) hsz)
      have HBD := Lib.hid (HBE.out.trans (drewN_below wr w.heap.size q))
      have HTD := Lib.hid (HBT.out.below (drewN_below wr w.heap.size q))
      have hszd : w.heap.size ≤ (wr.drewN q).heap.size := HBD.out.size
      clear HFR HOW HRW HBE HBT hsz hcell
      generalize wr.drewN q = w3 at *
      have HMX : Hid (mkd x = true → 5 ≤ xn) := Lib.hid fun e => by have := mkd_len e; rwa [HXN.out] at this
      generalize mkd x = mx at *
      cases mx with
      | true =>
        by_cases hn3 : 0 < n3
        · have HD : Hid (uq x = x.drop 1) := Lib.hid (by
            rw [HQ.out, if_pos rfl]
            have h62 := HN3.out.1 hn3
            cases x with
            | nil => cases h62
            | cons y x =>
              have : y = 62 := by simpa using h62
              subst this
              exact trim62 x)
          have z3 : (0 : Int) < (n3 : Int) := by omega
          have hx5 : 5 ≤ xn := HMX.out rfl
          have hc1 : 1 ≤ c3 := by omega
          have hx1 : 1 ≤ xn := by omega
          have hca : ¬ c3 = 1 := by omega
          have hdn : (x.drop 1).length = xn - 1 := by rw [List.length_drop, HXN.out]
          have HDN := Lib.hid hdn
          have hb6 : Bts w3 w.heap.size (some ⟨g3, o3 + 1, none⟩) (x.drop 1) := by
            have h1 := HTD.out.drop (k := 1) c3 (by rw [HXN.out]; exact hc3)
            rw [if_neg hca] at h1
            have h2 : Option.map (fun x : Addr => x.add (1 * 1)) (some ⟨g3, o3, none⟩) = some ⟨g3, o3 + 1, none⟩ := by simp [add_at]
            rw [h2] at h1
            exact h1
          have HB6 := Lib.hid hb6
          clear HQ hdn hb6
          generalize x.drop 1 = x6 at *
          go_wp2_with (first
            | (refine app5 (.tmp 27) (.tmp 28) rfl rfl w.heap.size _ ((ls.take k).flatMap uq) x6 rfl HOD.out w.heap.size (some ⟨g3, o3 + 1, none⟩) (c3 - 1) (by rw [HDN.out]; rfl) HB6.out (by rw [HDN.out, HWN.out]; have := HWT.out; omega) hszd ?_; intro v5 w5 h1 h2; have H5 := Lib.hid (show Own5 w5 w.heap.size v5 ((ls.take k).flatMap uq ++ x6) from h1); have HR5 := Lib.hid (HRD.out.other HOD.out (Nat.le_refl _) hszd h2); have b5 := HBD.out.grown h2 hszd (fun k hk => (HOD.out.lt k hk).1); clear h1 h2)
            | fail)
          go_roundw
          case rel => exact ⟨k + 1, by omega, by go_num, by rw [HTN.out, flat_snoc, HD.out]; exact H5.out, HR5.out, b5⟩
          case measure => simp [intOf]; omega
        · have HD : Hid (uq x = x) := Lib.hid (by
            rw [HQ.out, if_pos rfl]
            exact trim_no (fun e => hn3 (HN3.out.2 e)))
          have z3 : ¬ (0 : Int) < (n3 : Int) := by omega
          clear HQ
          go_wp2_with (first
            | (refine app5 (.tmp 27) (.tmp 28) rfl rfl w.heap.size _ ((ls.take k).flatMap uq) x rfl HOD.out w.heap.size (some ⟨g3, o3, none⟩) c3 (by rw [HXN.out]; rfl) HTD.out (by rw [HXN.out, HWN.out]; have := HWT.out; omega) hszd ?_; intro v5 w5 h1 h2; have H5 := Lib.hid (show Own5 w5 w.heap.size v5 ((ls.take k).flatMap uq ++ x) from h1); have HR5 := Lib.hid (HRD.out.other HOD.out (Nat.le_refl _) hszd h2); have b5 := HBD.out.grown h2 hszd (fun k hk => (HOD.out.lt k hk).1); clear h1 h2)
            | fail)
          go_roundw
          case rel => exact ⟨k + 1, by omega, by go_num, by rw [HTN.out, flat_snoc, HD.out]; exact H5.out, HR5.out, b5⟩
          case measure => simp [intOf]; omega
      | false =>
        have HD : Hid (uq x = x) := Lib.hid HQ.out
        clear HQ
        go_wp2_with (first
          | (refine app5 (.tmp 27) (.tmp 28) rfl rfl w.heap.size _ ((ls.take k).flatMap uq) x rfl HOD.out w.heap.size (some ⟨g3, o3, none⟩) c3 (by rw [HXN.out]; rfl) HTD.out (by rw [HXN.out, HWN.out]; have := HWT.out; omega) hszd ?_; intro v5 w5 h1 h2; have H5 := Lib.hid (show Own5 w5 w.heap.size v5 ((ls.take k).flatMap uq ++ x) from h1); have HR5 := Lib.hid (HRD.out.other HOD.out (Nat.le_refl _) hszd h2); have b5 := HBD.out.grown h2 hszd (fun k hk => (HOD.out.lt k hk).1); clear h1 h2)
          | fail)
        go_roundw
        case rel => exact ⟨k + 1, by omega, by go_num, by rw [HTN.out, flat_snoc, HD.out]; exact H5.out, HR5.out, b5⟩
        case measure => simp [intOf]; omega
    · have hkm : ¬ (k : Int) < (m : Int) := by omega
      generalize ((ls.take k).flatMap uq).length = wn at *
      have HW : Hid ((ls.take k).flatMap uq = ls.flatMap uq) := Lib.hid (by rw [List.take_of_length_le (by rw [HM.out]; omega)])
      rw [HW.out] at HOW
      go_wp2_with fail
      go_ret
      exact ⟨_, rfl, HOW.out, HBE.out⟩
end Mb
end Go.Proofs.YtamekflgidfnfaaGreatDoor
