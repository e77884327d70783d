/- mbox.exported and Export. Conditions: as stated at each. -/
import Derived.Test.YtamekflgidfnfaaGreatDoorMbLts
namespace Go.Proofs.YtamekflgidfnfaaGreatDoor
set_option maxRecDepth 100000
namespace Mb
open Go.RowKit Go Go.Proofs.YtamekflgidfnfaaGreatDoor.Pa
def ExpP (w : World) (ls : List Lt) (e : Ending) (w' : World) : Prop :=
  Below w.heap.size w w' ∧ ((ls.all okL = true ∧ ∃ v, e = .returned v ∧ Own5 w' w.heap.size v (fileS ls)) ∨ (ls.all okL = false ∧ e = bad 100))
set_option maxHeartbeats 3200000 in
theorem exported_any {w : World} {A : Option Addr} {ls : List Lt} (h : Ls w w.heap.size A ls) (n c : Nat) (hn : ls.length = n) (hnb : n ≤ 1000000) (hsm : ∀ x ∈ ls, small x) (htot : (fileS ls).length ≤ 1000000) (hG : GlT w) :
    Calls Tryz.prog 30 #[.slice A n c] w (ExpP w ls) := by
  have HEL := Lib.hid (els_of h hn)
  have HSM := Lib.hid (fun k (hk : k < n) => hsm _ (getD_in (ls := ls) (k := k) (by omega)))
  have HGL : Hid (∀ X, Below w.heap.size w X → GlT X) := Lib.hid fun X hX => hG.below hX hG.lt
  have HALL : Hid ((∀ j, j < n → okL (ls.getD j d0) = true) → ls.all okL = true) := Lib.hid fun hk => List.all_eq_true.2 fun f hf => by
    obtain ⟨i, hi, rfl⟩ := List.mem_iff_getElem.1 hf
    have := hk i (by omega)
    simpa [List.getD, hi] using this
  have HBADK : Hid (∀ k, k < n → okL (ls.getD k d0) = false → ls.all okL = false) := Lib.hid fun k hk e => by
    rw [Bool.eq_false_iff]
    intro ha
    have := List.all_eq_true.1 ha _ (getD_in (ls := ls) (k := k) (by omega))
    rw [e] at this
    cases this
  have HFT : Hid (∀ k, k < n → fileS (ls.take (k + 1)) = fileS (ls.take k) ++ expS (ls.getD k d0)) := Lib.hid fun k hk => file_take (by omega)
  have HFL : Hid (∀ k, (fileS (ls.take k)).length ≤ 1000000) := Lib.hid fun k => Nat.le_trans (file_le ls k) htot
  have HEX : Hid (∀ k, k < n → (expS (ls.getD k d0)).length ≤ 1000000) := Lib.hid fun k hk => Nat.le_trans (exp_le (getD_in (ls := ls) (k := k) (by omega))) htot
  have HEND : Hid (fileS (ls.take n) = fileS ls) := Lib.hid (by rw [List.take_of_length_le (by omega)])
  clear h hn hsm htot
  go_enter Tryz.func30, Tryz.ntmps30
  go_wp2_with fail
  go_loopw [11] (fun i wr => ∃ k : Nat, k ≤ n ∧ i = .int .i64 k ∧ (∀ j, j < k → okL (ls.getD j d0) = true) ∧ Below w.heap.size w wr) (fun i _ => n - (intOf i).toNat)
  case atStart => exact ⟨0, Nat.zero_le _, rfl, fun j hj => absurd hj (Nat.not_lt_zero _), Below.refl _ _⟩
  case round =>
    obtain ⟨k, hk, rfl, hok, hbel⟩ := hrel
    by_cases hlt : k < n
    · obtain ⟨g, o, Ab, cb, rfl, hbc, hbm, hbA, hall⟩ := HEL.out k hlt
      obtain ⟨y0, y1, y2, _⟩ := hall wr hbel
      obtain ⟨hs0, hs1, hs2, hs3⟩ := HSM.out k hlt
      have HMB := Lib.hid (fun X => mailbox_any (ls.getD k d0).1 (by omega) X)
      have HWH : Hid (∀ X, Below w.heap.size w X → Calls Tryz.prog 61 #[.slice Ab (ls.getD k d0).2.2.length cb] X fun e w' => e = .returned (.bool (wholeB (ls.getD k d0).2.2)) ∧ X.grownBy w' none) := Lib.hid fun X hX => whole_any ((hall X hX).2.2.2) hX.size cb hbc (by omega)
      have HBAD := Lib.hid (HBADK.out k hlt)
      have HOK : Hid (okL (ls.getD k d0) = (((ls.getD k d0).1.isEmpty || mailS (ls.getD k d0).1) && (decide (0 ≤ (ls.getD k d0).2.1) && wholeB (ls.getD k d0).2.2))) := Lib.hid rfl
      have HK : Hid (∀ X, Below wr.heap.size wr X → Below w.heap.size w X) := Lib.hid fun X hX => hbel.trans (hX.mono hbel.size)
      have HOKJ := Lib.hid hok
      have HSE := Lib.hid (str_empty (ls.getD k d0).1)
      have hkm : (k : Int) < (n : Int) := by omega
      clear hall hbel hok hs0 hs1 hs2 hs3
      generalize hff : (ls.getD k d0).1 = ff at *
      generalize hvv : (ls.getD k d0).2.1 = v at *
      generalize hbb : (ls.getD k d0).2.2 = body at *
      generalize hbn : body.length = bn at *
      generalize hmb : mailS ff = mb at *
      generalize hwb : wholeB body = wb at *
      clear hff hvv hbb hbn hmb hwb
      have hse := HSE.out
      generalize ff.isEmpty = fe at *
      generalize str ff = s0 at *
      have hqn := BlkIs.new wr 43 #[.string s0, .int .i64 v, .slice Ab bn cb]
      have han : Below wr.heap.size wr (wr.alloc (.cells #[.string s0, .int .i64 v, .slice Ab bn cb] 43)) := (Below.refl _ _).alloc (Nat.le_refl _) _
      cases fe with
      | true =>
        by_cases hat : 0 ≤ v
        · have za : (0 : Int) ≤ v := hat
          go_wp2_with fail
          generalize wr.alloc (.cells #[.string s0, .int .i64 v, .slice Ab bn cb] 43) = w2 at *
          have HF1 := Lib.hid (HK.out _ han)
          have HW := Lib.hid (HWH.out w2 HF1.out)
          clear hqn han
          refine HW.out.mono ?_
          rintro e w3 ⟨rfl, hg3⟩
          have HF2 := Lib.hid (HF1.out.grown hg3 HF1.out.size (fun k e => by cases e))
          clear hg3 HW
          cases wb with
          | true =>
            have HOKX : Hid (okL (ls.getD k d0) = true) := Lib.hid (by rw [HOK.out, decide_eq_true hat]; rfl)
            clear HF1
            go_wp2_with (first
              | (go_at_call 59; refine (need_ok _).mono ?_; rintro e w' ⟨rfl, rfl⟩)
              | fail)
            go_roundw
            case rel =>
              refine ⟨k + 1, by omega, by go_num, fun j hj => ?_, HF2.out⟩
              rcases Nat.lt_or_ge j k with h | h
              · exact HOKJ.out j h
              · obtain rfl : j = k := by omega
                exact HOKX.out
            case measure => simp [intOf]; omega
          | false =>
            have HOKX : Hid (okL (ls.getD k d0) = false) := Lib.hid (by rw [HOK.out, decide_eq_true hat]; rfl)
            clear HF1
            go_wp2_with (first
              | (go_at_call 59; refine (need_bad _).mono ?_; rintro e w' ⟨rfl, rfl⟩)
              | fail)
            exact ⟨rfl, HF2.out, .inr ⟨HBAD.out HOKX.out, rfl⟩⟩
        · have za : ¬ (0 : Int) ≤ v := hat
          have HOKX : Hid (okL (ls.getD k d0) = false) := Lib.hid (by rw [HOK.out, decide_eq_false hat, Bool.false_and, Bool.and_false])
          have HF1 := Lib.hid (HK.out _ han)
          clear hqn han
          go_wp2_with (first
            | (go_at_call 59; refine (need_bad _).mono ?_; rintro e w' ⟨rfl, rfl⟩)
            | fail)
          exact ⟨rfl, HF1.out, .inr ⟨HBAD.out HOKX.out, rfl⟩⟩
      | false =>
        go_wp2_with fail
        refine (HMB.out _).mono ?_
        rintro e w2 ⟨rfl, hb2⟩
        have hq1 : BlkIs w2 wr.heap.size 43 #[.string s0, .int .i64 v, .slice Ab bn cb] := (hb2.block _ hqn.lt).trans hqn
        have HF1 := Lib.hid (HK.out _ (han.trans (hb2.mono (by simp))))
        clear hqn han hb2 HMB
        cases mb with
        | false =>
          have HOKX : Hid (okL (ls.getD k d0) = false) := Lib.hid (by rw [HOK.out]; rfl)
          clear hq1
          go_wp2_with (first
            | (go_at_call 59; refine (need_bad _).mono ?_; rintro e w' ⟨rfl, rfl⟩)
            | fail)
          exact ⟨rfl, HF1.out, .inr ⟨HBAD.out HOKX.out, rfl⟩⟩
        | true =>
          have z1 := (BlkIs.cell hq1 1).trans (rfl : _ = some (Value.int .i64 v))
          have z2 := (BlkIs.cell hq1 2).trans (rfl : _ = some (Value.slice Ab bn cb))
          clear hq1
          by_cases hat : 0 ≤ v
          · have za : (0 : Int) ≤ v := hat
            have HW := Lib.hid (HWH.out w2 HF1.out)
            go_wp2_with fail
            refine HW.out.mono ?_
            rintro e w3 ⟨rfl, hg3⟩
            have HF2 := Lib.hid (HF1.out.grown hg3 HF1.out.size (fun k e => by cases e))
            clear hg3 HW
            cases wb with
            | true =>
              have HOKX : Hid (okL (ls.getD k d0) = true) := Lib.hid (by rw [HOK.out, decide_eq_true hat]; rfl)
              clear HF1
              go_wp2_with (first
                | (go_at_call 59; refine (need_ok _).mono ?_; rintro e w' ⟨rfl, rfl⟩)
                | fail)
              go_roundw
              case rel =>
                refine ⟨k + 1, by omega, by go_num, fun j hj => ?_, HF2.out⟩
                rcases Nat.lt_or_ge j k with h | h
                · exact HOKJ.out j h
                · obtain rfl : j = k := by omega
                  exact HOKX.out
              case measure => simp [intOf]; omega
            | false =>
              have HOKX : Hid (okL (ls.getD k d0) = false) := Lib.hid (by rw [HOK.out, decide_eq_true hat]; rfl)
              clear HF1
              go_wp2_with (first
                | (go_at_call 59; refine (need_bad _).mono ?_; rintro e w' ⟨rfl, rfl⟩)
                | fail)
              exact ⟨rfl, HF2.out, .inr ⟨HBAD.out HOKX.out, rfl⟩⟩
          · have za : ¬ (0 : Int) ≤ v := hat
            have HOKX : Hid (okL (ls.getD k d0) = false) := Lib.hid (by rw [HOK.out, decide_eq_false hat, Bool.false_and, Bool.and_false])
            go_wp2_with (first
              | (go_at_call 59; refine (need_bad _).mono ?_; rintro e w' ⟨rfl, rfl⟩)
              | fail)
            exact ⟨rfl, HF1.out, .inr ⟨HBAD.out HOKX.out, rfl⟩⟩
    · have hkn : k = n := by omega
      subst hkn
      have HOKA := Lib.hid (HALL.out hok)
      have HB0 := Lib.hid hbel
      clear hok hbel HBADK HALL
      rename World => wb
      have hkm : ¬ (k : Int) < (k : Int) := by omega
      go_wp2_with fail
      clear hkm
      go_loopw [5, 37] (fun x5 i wr => ∃ j : Nat, j ≤ k ∧ i = .int .i64 j ∧ Own5 wr w.heap.size x5 (fileS (ls.take j)) ∧ Below w.heap.size w wr) (fun _ i _ => k - (intOf i).toNat)
      case atStart => exact ⟨0, Nat.zero_le _, rfl, Own5.nil _ _, HB0.out⟩
      case round =>
        obtain ⟨j, hj, rfl, hown, hbel⟩ := hrel
        obtain ⟨A6, c6, rfl, hc6, hm6⟩ := own_slice hown
        by_cases hlt : j < k
        · obtain ⟨g, o, Ab, cb, rfl, hbc, hbm, hbA, hall⟩ := HEL.out j hlt
          obtain ⟨y0, y1, y2, _⟩ := hall wr hbel
          obtain ⟨hs0, hs1, hs2, hs3⟩ := HSM.out j hlt
          have HQT : Hid (∀ X, Below w.heap.size w X → Calls Tryz.prog 62 #[.slice Ab (ls.getD j d0).2.2.length cb] X (OutP X (quoteS (ls.getD j d0).2.2))) := Lib.hid fun X hX => quote_any ((hall X hX).2.2.2.more hX.size) cb hbc hbm hbA hs1
          have HFM : Hid (∀ X, Below w.heap.size w X → Calls Tryz.prog 37 #[.int .i64 (ls.getD j d0).2.1, .int .i64 10] X fun e w' => e = .returned (.string (str (Lib.itoa (ls.getD j d0).2.1))) ∧ Below X.heap.size X w') := Lib.hid fun X hX => format_any _ X hs2 hs3 (HGL.out X hX)
          have HFK := Lib.hid (HFT.out j hlt)
          have HXH := Lib.hid (exp_hdr (ls.getD j d0))
          have hex := HEX.out j hlt
          have hfl := HFL.out j
          have hil := Lib.itoa_length_le _ hs2 (Int.le_of_lt_add_one hs3)
          have hiz := str_size (Lib.itoa (ls.getD j d0).2.1)
          have hfz := str_size (ls.getD j d0).1
          have HSE := Lib.hid (str_empty (ls.getD j d0).1)
          have HHD : Hid (((((⟨#[70, 114, 111, 109, 32]⟩ : ByteArray) ++ str (who (ls.getD j d0).1)) ++ ⟨#[32]⟩) ++ str (Lib.itoa (ls.getD j d0).2.1)) ++ ⟨#[10]⟩ = str (hdr (ls.getD j d0))) := Lib.hid (hdr_str _)
          have HWE : Hid ((ls.getD j d0).1.isEmpty = true → str (who (ls.getD j d0).1) = ⟨#[45]⟩) := Lib.hid fun e => by unfold who; rw [if_pos e]; rfl
          have HWN : Hid ((ls.getD j d0).1.isEmpty = false → str (who (ls.getD j d0).1) = str (ls.getD j d0).1) := Lib.hid fun e => by unfold who; rw [if_neg (by rw [e]; decide)]
          have hlen := hdr_len (ls.getD j d0)
          have hql : (quoteS (ls.getD j d0).2.2).length ≤ 60000 := by have := quote_len (ls.getD j d0).2.2; omega
          have HB1 := Lib.hid hbel
          have HO1 := Lib.hid hown
          have hN1 := hbel.size
          have hjk : (j : Int) < (k : Int) := by omega
          have hse := HSE.out
          clear hall hbel hown hs1 hs2 hs3 HSE
          generalize hdr (ls.getD j d0) = hd at *
          generalize str (who (ls.getD j d0).1) = sw at *
          generalize (ls.getD j d0).1.isEmpty = fe at *
          generalize str (ls.getD j d0).1 = s0 at *
          generalize str (Lib.itoa (ls.getD j d0).2.1) = si at *
          generalize (ls.getD j d0).2.1 = v at *
          generalize hbody : (ls.getD j d0).2.2 = body at *
          generalize hbn : body.length = bn at *
          generalize hft : fileS (ls.take j) = ft at *
          generalize hfn : ft.length = fn at *
          have hb0 : s0.size ≤ 30000 := by omega
          have hb1 : si.size ≤ 21 := by omega
          have HFN := Lib.hid hfn
          have hfn2 : fn ≤ 1000000 := by omega
          have hhd2 : hd.length ≤ 1000000 := by omega
          have hqn := BlkIs.new wr 43 #[.string s0, .int .i64 v, .slice Ab bn cb]
          have han : Below wr.heap.size wr (wr.alloc (.cells #[.string s0, .int .i64 v, .slice Ab bn cb] 43)) := (Below.refl _ _).alloc (Nat.le_refl _) _
          have hO2 : Own5 (wr.alloc (.cells #[.string s0, .int .i64 v, .slice Ab bn cb] 43)) w.heap.size (.slice A6 fn c6) ft := own_kept HO1.out han (Nat.le_refl _)
          have HB2 := Lib.hid (HB1.out.trans (han.mono hN1))
          clear hil hiz hfz hex hfl hbody hbn hft hfn hlen han
          cases fe with
          | true =>
            have HSW := Lib.hid (HWE.out rfl)
            clear HWE HWN
            have HST : Hid (((((⟨#[70, 114, 111, 109, 32]⟩ : ByteArray) ++ ⟨#[45]⟩) ++ ⟨#[32]⟩) ++ si) ++ ⟨#[10]⟩ = str hd) := Lib.hid (by rw [← HHD.out, HSW.out])
            clear HHD HSW
            go_wp2_with fail
            have HO2 := Lib.hid hO2
            have HQ2 := Lib.hid hqn
            clear hO2 hqn
            generalize wr.alloc (.cells #[.string s0, .int .i64 v, .slice Ab bn cb] 43) = w2 at *
            refine (HFM.out w2 HB2.out).mono ?_
            rintro e w3 ⟨rfl, hb3⟩
            have HO3 := Lib.hid (own_kept HO2.out hb3 (Nat.le_refl _))
            have HB3 := Lib.hid (HB2.out.trans (hb3.mono HB2.out.size))
            have hN3 := HB3.out.size
            have hq3 : BlkIs w3 wr.heap.size 43 #[.string s0, .int .i64 v, .slice Ab bn cb] := (hb3.block _ HQ2.out.lt).trans HQ2.out
            have HQ3 := Lib.hid hq3
            clear HO2 hb3 hq3 HFM
            go_wp2_with (first
              | (refine lapp5s (.tmp 45) (.tmp 53) rfl rfl (l := ft) (m := hd) rfl HO3.out rfl HST.out (by rw [HFN.out]; omega) hN3 ?_; intro v4 w4 h1 h2; obtain ⟨A4, k4, c4, rfl⟩ := own5_letters h1; have HO4 := Lib.hid h1; have HB4 := Lib.hid (HB3.out.grown h2 hN3 (own5_low HO3.out)); have q4 := blk_own HO3.out HQ3.out (by decide) h2; have z4 := (BlkIs.cell q4 2).trans (rfl : _ = some (Value.slice Ab bn cb)); clear h1 h2 q4)
              | fail)
            refine (HQT.out w4 HB4.out).mono ?_
            rintro e w5 ⟨v5, rfl, ho5, hb5⟩
            obtain ⟨A5, c5, rfl, _, _⟩ := own_slice ho5
            have HO5 := Lib.hid (own_kept HO4.out hb5 (Nat.le_refl _))
            have HB5 := Lib.hid (HB4.out.trans (hb5.mono HB4.out.size))
            have HT5 := Lib.hid (Own5.bts ho5)
            have hN5 := HB5.out.size
            clear ho5 hb5 HQT
            generalize hqs : quoteS body = qs at *
            generalize hqn : qs.length = qn at *
            have HQN := Lib.hid hqn
            clear hqs hqn
            go_wp2_with (first
              | (refine app5 (.tmp 55) (.tmp 58) rfl rfl w.heap.size _ (ft ++ hd) qs rfl HO5.out w5.heap.size A5 c5 (by rw [HQN.out]; rfl) HT5.out (by rw [List.length_append, HQN.out, HFN.out]; omega) hN5 ?_; intro v6 w6 h1 h2; have h1' : Own5 w6 w.heap.size v6 ((ft ++ hd) ++ qs) := h1; obtain ⟨A6, k6, c6, rfl⟩ := own5_letters h1'; have HO6 := Lib.hid h1'; have HB6 := Lib.hid (HB5.out.grown h2 hN5 (own5_low HO5.out)); clear h1 h1' h2)
              | (refine lapp5s (.tmp 60) (.const (.string ⟨#[10]⟩)) rfl rfl (l := (ft ++ hd) ++ qs) (m := [10]) rfl HO6.out rfl rfl (by rw [List.length_append, List.length_append, HQN.out, HFN.out]; simp; omega) HB6.out.size ?_; intro v7 w7 h1 h2; have HO7 := Lib.hid h1; have HB7 := Lib.hid (HB6.out.grown h2 HB6.out.size (own5_low HO6.out)); clear h1 h2)
              | fail)
            go_roundw
            case rel => exact ⟨j + 1, by omega, by go_num, by rw [HFK.out, HXH.out, ← List.append_assoc, ← List.append_assoc]; exact HO7.out, HB7.out⟩
            case measure => simp [intOf]; omega
          | false =>
            have HSW := Lib.hid (HWN.out rfl)
            clear HWE HWN
            have HST : Hid (((((⟨#[70, 114, 111, 109, 32]⟩ : ByteArray) ++ s0) ++ ⟨#[32]⟩) ++ si) ++ ⟨#[10]⟩ = str hd) := Lib.hid (by rw [← HHD.out, HSW.out])
            clear HHD HSW
            go_wp2_with fail
            have HO2 := Lib.hid hO2
            have HQ2 := Lib.hid hqn
            clear hO2 hqn
            generalize wr.alloc (.cells #[.string s0, .int .i64 v, .slice Ab bn cb] 43) = w2 at *
            refine (HFM.out w2 HB2.out).mono ?_
            rintro e w3 ⟨rfl, hb3⟩
            have HO3 := Lib.hid (own_kept HO2.out hb3 (Nat.le_refl _))
            have HB3 := Lib.hid (HB2.out.trans (hb3.mono HB2.out.size))
            have hN3 := HB3.out.size
            have hq3 : BlkIs w3 wr.heap.size 43 #[.string s0, .int .i64 v, .slice Ab bn cb] := (hb3.block _ HQ2.out.lt).trans HQ2.out
            have HQ3 := Lib.hid hq3
            clear HO2 hb3 hq3 HFM
            go_wp2_with (first
              | (refine lapp5s (.tmp 45) (.tmp 53) rfl rfl (l := ft) (m := hd) rfl HO3.out rfl HST.out (by rw [HFN.out]; omega) hN3 ?_; intro v4 w4 h1 h2; obtain ⟨A4, k4, c4, rfl⟩ := own5_letters h1; have HO4 := Lib.hid h1; have HB4 := Lib.hid (HB3.out.grown h2 hN3 (own5_low HO3.out)); have q4 := blk_own HO3.out HQ3.out (by decide) h2; have z4 := (BlkIs.cell q4 2).trans (rfl : _ = some (Value.slice Ab bn cb)); clear h1 h2 q4)
              | fail)
            refine (HQT.out w4 HB4.out).mono ?_
            rintro e w5 ⟨v5, rfl, ho5, hb5⟩
            obtain ⟨A5, c5, rfl, _, _⟩ := own_slice ho5
            have HO5 := Lib.hid (own_kept HO4.out hb5 (Nat.le_refl _))
            have HB5 := Lib.hid (HB4.out.trans (hb5.mono HB4.out.size))
            have HT5 := Lib.hid (Own5.bts ho5)
            have hN5 := HB5.out.size
            clear ho5 hb5 HQT
            generalize hqs : quoteS body = qs at *
            generalize hqn : qs.length = qn at *
            have HQN := Lib.hid hqn
            clear hqs hqn
            go_wp2_with (first
              | (refine app5 (.tmp 55) (.tmp 58) rfl rfl w.heap.size _ (ft ++ hd) qs rfl HO5.out w5.heap.size A5 c5 (by rw [HQN.out]; rfl) HT5.out (by rw [List.length_append, HQN.out, HFN.out]; omega) hN5 ?_; intro v6 w6 h1 h2; have h1' : Own5 w6 w.heap.size v6 ((ft ++ hd) ++ qs) := h1; obtain ⟨A6, k6, c6, rfl⟩ := own5_letters h1'; have HO6 := Lib.hid h1'; have HB6 := Lib.hid (HB5.out.grown h2 hN5 (own5_low HO5.out)); clear h1 h1' h2)
              | (refine lapp5s (.tmp 60) (.const (.string ⟨#[10]⟩)) rfl rfl (l := (ft ++ hd) ++ qs) (m := [10]) rfl HO6.out rfl rfl (by rw [List.length_append, List.length_append, HQN.out, HFN.out]; simp; omega) HB6.out.size ?_; intro v7 w7 h1 h2; have HO7 := Lib.hid h1; have HB7 := Lib.hid (HB6.out.grown h2 HB6.out.size (own5_low HO6.out)); clear h1 h2)
              | fail)
            go_roundw
            case rel => exact ⟨j + 1, by omega, by go_num, by rw [HFK.out, HXH.out, ← List.append_assoc, ← List.append_assoc]; exact HO7.out, HB7.out⟩
            case measure => simp [intOf]; omega
        · have hkn : j = k := by omega
          subst hkn
          generalize (fileS (ls.take j)).length = fn at *
          rw [HEND.out] at hown
          have hjk : ¬ (j : Int) < (j : Int) := by omega
          have HO := Lib.hid hown
          have HB := Lib.hid hbel
          clear hown hbel
          go_wp2_with fail
          go_ret
          exact ⟨HB.out, .inl ⟨HOKA.out, _, rfl, HO.out⟩⟩
end Mb
end Go.Proofs.YtamekflgidfnfaaGreatDoor
