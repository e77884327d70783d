/- The document's letter and Export. Conditions: as stated at each. -/
import Derived.Test.YtamekflgidfnfaaGreatDoorMbRQuote
import Derived.Test.YtamekflgidfnfaaGreatDoorMbExport
import Derived.Test.YtamekflgidfnfaaGreatDoorPaRDom
namespace Go.Proofs.YtamekflgidfnfaaGreatDoor
set_option maxRecDepth 100000
namespace Mb
open Go.RowKit Go Go.Proofs.YtamekflgidfnfaaGreatDoor.Pa
theorem whole_last (b : L) : wholeB b = (b.isEmpty || b.getD (b.length - 1) 0 == 10) := by
  rw [Bool.eq_iff_iff, whole_iff, Bool.or_eq_true, List.isEmpty_iff, beq_iff_eq]
  refine or_congr Iff.rfl ⟨?_, fun h => ?_⟩
  · rintro ⟨s, rfl⟩
    simp [List.getD]
  · by_cases hb : b = []
    · subst hb; simp at h
    · refine ⟨b.dropLast, ?_⟩
      have hl := List.length_pos_iff.2 hb
      have : b.getLast hb = 10 := by
        have hg : b.getD (b.length - 1) 0 = b[b.length - 1] := by simp [List.getD, show b.length - 1 < b.length by omega]
        rw [List.getLast_eq_getElem, ← hg, h]
      rw [← this, List.dropLast_concat_getLast]
set_option maxHeartbeats 1600000 in
theorem rletter_any {w : World} {A : Option Addr} (x : Lt) (h : Bts w w.heap.size A x.2.2) (c : Nat) (hc : x.2.2.length ≤ c) (hsm : small x) :
    Calls Tryz.prog 36 #[.agg #[.string (str x.1), .int .i64 x.2.1, .slice A x.2.2.length c]] w fun e w' => e = .returned (.bool (okL x)) ∧ Below w.heap.size w w' := by
  obtain ⟨ff, v, body⟩ := x
  obtain ⟨hs0, hs1, hs2, hs3⟩ := hsm
  simp only at h hc hs0 hs1 hs2 hs3 ⊢
  have HMB := Lib.hid (fun X => rmailbox_any ff X (by omega))
  have HOK : Hid (okL (ff, v, body) = ((ff.isEmpty || mailS ff) && (decide (0 ≤ v) && wholeB body))) := Lib.hid rfl
  have hse := str_empty ff
  have hqn := BlkIs.new w 43 #[.string (str ff), .int .i64 v, .slice A body.length c]
  have han : Below w.heap.size w (w.alloc (.cells #[.string (str ff), .int .i64 v, .slice A body.length c] 43)) := (Below.refl _ _).alloc (Nat.le_refl _) _
  have HBT0 := Lib.hid (h.below han)
  clear h hs2 hs3
  generalize ff.isEmpty = fe at *
  generalize mailS ff = mb at *
  generalize okL (ff, v, body) = res at *
  generalize str ff = s0 at *
  go_enter Tryz.func36, Tryz.ntmps36
  cases fe with
  | true =>
    by_cases hat : 0 ≤ v
    · have za : (0 : Int) ≤ v := hat
      have HB := Lib.hid han
      have HBT := Lib.hid HBT0.out
      have z0c := (BlkIs.cell hqn 0).trans (rfl : _ = some (Value.string s0))
      have z1c := (BlkIs.cell hqn 1).trans (rfl : _ = some (Value.int .i64 v))
      have z2c := (BlkIs.cell hqn 2).trans (rfl : _ = some (Value.slice A body.length c))
      clear hqn han HBT0
      have hz0 : ((body.length : Int) == 0) = body.isEmpty := by cases body <;> simp <;> omega
      rcases Nat.eq_zero_or_pos body.length with hb0 | hb0
      · obtain rfl := List.eq_nil_of_length_eq_zero hb0
        have HR := Lib.hid (HOK.out.trans (by rw [decide_eq_true hat]; rfl : _ = true))
        clear hz0 HOK
        go_wp2_with fail
        go_ret
        exact ⟨by rw [HR.out]; rfl, HB.out⟩
      · obtain ⟨g, o, rfl, hg, hcell⟩ := bts_at_ HBT.out hb0
        have hlast := hcell (body.length - 1) (by omega)
        have e0 : (((body.getD (body.length - 1) 0).toNat : Int) == 10) = (body.getD (body.length - 1) 0 == 10) := eq_byte _ 10
        have z1 : (body.length : Int) - 1 = ((body.length - 1 : Nat) : Int) := by omega
        have z2 : body.length - 1 < body.length := by omega
        have hz1 : ((body.length : Int) == 0) = false := beq_eq_false_iff_ne.2 (by omega)
        have HR := Lib.hid (HOK.out.trans (by rw [decide_eq_true hat, whole_last, show body.isEmpty = false by cases body with | nil => simp at hb0 | cons _ _ => rfl]; rfl : _ = (body.getD (body.length - 1) 0 == 10)))
        clear hcell hz0 HOK
        generalize body.getD (body.length - 1) 0 = lb at *
        generalize body.length = bn at *
        go_wp2_with fail
        go_ret
        exact ⟨by rw [HR.out]; rfl, HB.out⟩
    · have za : ¬ (0 : Int) ≤ v := hat
      have HR := Lib.hid (HOK.out.trans (by rw [decide_eq_false hat, Bool.false_and, Bool.and_false] : _ = false))
      have HB := Lib.hid han
      clear hqn han HBT0
      go_wp2_with fail
      go_ret
      exact ⟨by rw [HR.out]; rfl, HB.out⟩
  | false =>
    go_wp2_with fail
    refine (HMB.out _).mono ?_
    rintro e w2 ⟨rfl, hb2⟩
    have hq2 : BlkIs w2 w.heap.size 43 #[.string s0, .int .i64 v, .slice A body.length c] := (hb2.block _ hqn.lt).trans hqn
    have HB := Lib.hid (han.trans (hb2.mono (by simp)))
    have HBT := Lib.hid (HBT0.out.below (hb2.mono (by simp)))
    clear hqn han hb2 HMB HBT0
    cases mb with
    | false =>
      have HR := Lib.hid (HOK.out.trans (rfl : _ = false))
      clear hq2
      go_wp2_with fail
      go_ret
      exact ⟨by rw [HR.out]; rfl, HB.out⟩
    | true =>
      have z1c := (BlkIs.cell hq2 1).trans (rfl : _ = some (Value.int .i64 v))
      have z2c := (BlkIs.cell hq2 2).trans (rfl : _ = some (Value.slice A body.length c))
      clear hq2
      by_cases hat : 0 ≤ v
      · have za : (0 : Int) ≤ v := hat
        have hz0 : ((body.length : Int) == 0) = body.isEmpty := by cases body <;> simp <;> omega
        rcases Nat.eq_zero_or_pos body.length with hb0 | hb0
        · obtain rfl := List.eq_nil_of_length_eq_zero hb0
          have HR := Lib.hid (HOK.out.trans (by rw [decide_eq_true hat]; rfl : _ = true))
          clear hz0 HOK
          go_wp2_with fail
          go_ret
          exact ⟨by rw [HR.out]; rfl, HB.out⟩
        · obtain ⟨g, o, rfl, hg, hcell⟩ := bts_at_ HBT.out hb0
          have hlast := hcell (body.length - 1) (by omega)
          have e0 : (((body.getD (body.length - 1) 0).toNat : Int) == 10) = (body.getD (body.length - 1) 0 == 10) := eq_byte _ 10
          have z1 : (body.length : Int) - 1 = ((body.length - 1 : Nat) : Int) := by omega
          have z2 : body.length - 1 < body.length := by omega
          have hz1 : ((body.length : Int) == 0) = false := beq_eq_false_iff_ne.2 (by omega)
          have HR := Lib.hid (HOK.out.trans (by rw [decide_eq_true hat, whole_last, show body.isEmpty = false by cases body with | nil => simp at hb0 | cons _ _ => rfl]; rfl : _ = (body.getD (body.length - 1) 0 == 10)))
          clear hcell hz0 HOK
          generalize body.getD (body.length - 1) 0 = lb at *
          generalize body.length = bn at *
          go_wp2_with fail
          go_ret
          exact ⟨by rw [HR.out]; rfl, HB.out⟩
      · have za : ¬ (0 : Int) ≤ v := hat
        have HR := Lib.hid (HOK.out.trans (by rw [decide_eq_false hat, Bool.false_and, Bool.and_false] : _ = false))
        go_wp2_with fail
        go_ret
        exact ⟨by rw [HR.out]; rfl, HB.out⟩
set_option maxHeartbeats 3200000 in
theorem rexport_any {w : World} {A : Option Addr} {ls : List Lt} (h : Ls w w.heap.size A ls) (n c : Nat) (hn : ls.length = n) (hnb : n ≤ 1000000) (hsm : ∀ x ∈ ls, small x) (htot : (fileS ls).length ≤ 1000000) (hG : GlT w) :
    Calls Tryz.prog 20 #[.slice A n c] w (ExportP w ls) := by
  have HEL := Lib.hid (els_of h hn)
  have HSM := Lib.hid (fun k (hk : k < n) => hsm _ (getD_in (ls := ls) (k := k) (by omega)))
  have HGL : Hid (∀ X, Below w.heap.size w X → GlT X) := Lib.hid fun X hX => hG.below hX hG.lt
  have HALL : Hid ((∀ j, j < n → okL (ls.getD j d0) = true) → ls.all okL = true) := Lib.hid fun hk => List.all_eq_true.2 fun f hf => by
    obtain ⟨i, hi, rfl⟩ := List.mem_iff_getElem.1 hf
    have := hk i (by omega)
    simpa [List.getD, hi] using this
  have HBADK : Hid (∀ k, k < n → okL (ls.getD k d0) = false → ls.all okL = false) := Lib.hid fun k hk e => by
    rw [Bool.eq_false_iff]
    intro ha
    have := List.all_eq_true.1 ha _ (getD_in (ls := ls) (k := k) (by omega))
    rw [e] at this
    cases this
  have HFT : Hid (∀ k, k < n → fileS (ls.take (k + 1)) = fileS (ls.take k) ++ expS (ls.getD k d0)) := Lib.hid fun k hk => file_take (by omega)
  have HFL : Hid (∀ k, (fileS (ls.take k)).length ≤ 1000000) := Lib.hid fun k => Nat.le_trans (file_le ls k) htot
  have HEX : Hid (∀ k, k < n → (expS (ls.getD k d0)).length ≤ 1000000) := Lib.hid fun k hk => Nat.le_trans (exp_le (getD_in (ls := ls) (k := k) (by omega))) htot
  have HEND : Hid (fileS (ls.take n) = fileS ls) := Lib.hid (by rw [List.take_of_length_le (by omega)])
  clear h hn hsm htot
  go_enter Tryz.func20, Tryz.ntmps20
  go_wp2_with fail
  go_loopw [4, 10] (fun x5 i wr => ∃ j : Nat, j ≤ n ∧ i = .int .i64 j ∧ (∀ k, k < j → okL (ls.getD k d0) = true) ∧ Own5 wr w.heap.size x5 (fileS (ls.take j)) ∧ Below w.heap.size w wr) (fun _ i _ => n - (intOf i).toNat)
  case atStart => exact ⟨0, Nat.zero_le _, rfl, fun k hk => absurd hk (Nat.not_lt_zero _), Own5.nil _ _, Below.refl _ _⟩
  case round =>
    obtain ⟨j, hj, rfl, hok, hown, hbel⟩ := hrel
    obtain ⟨A6, c6, rfl, hc6, hm6⟩ := own_slice hown
    by_cases hlt : j < n
    · obtain ⟨g, o, Ab, cb, rfl, hbc, hbm, hbA, hall⟩ := HEL.out j hlt
      obtain ⟨y0, y1, y2, _⟩ := hall wr hbel
      obtain ⟨hs0, hs1, hs2, hs3⟩ := HSM.out j hlt
      have HLT : Hid (∀ X, Below w.heap.size w X → Calls Tryz.prog 36 #[.agg #[.string (str (ls.getD j d0).1), .int .i64 (ls.getD j d0).2.1, .slice Ab (ls.getD j d0).2.2.length cb]] X fun e w' => e = .returned (.bool (okL (ls.getD j d0))) ∧ Below X.heap.size X w') := Lib.hid fun X hX => rletter_any (ls.getD j d0) ((hall X hX).2.2.2.more hX.size) cb hbc ⟨hs0, hs1, hs2, hs3⟩
      have HQT : Hid (∀ X, Below w.heap.size w X → Calls Tryz.prog 38 #[.slice Ab (ls.getD j d0).2.2.length cb] X (OutP X (quoteS (ls.getD j d0).2.2))) := Lib.hid fun X hX => rquote_any ((hall X hX).2.2.2.more hX.size) cb hbc hbm (by omega)
      have HFM : Hid (∀ X, Below w.heap.size w X → Calls Tryz.prog 37 #[.int .i64 (ls.getD j d0).2.1, .int .i64 10] X fun e w' => e = .returned (.string (str (Lib.itoa (ls.getD j d0).2.1))) ∧ Below X.heap.size X w') := Lib.hid fun X hX => format_any _ X hs2 hs3 (HGL.out X hX)
      have HFK := Lib.hid (HFT.out j hlt)
      have HXH := Lib.hid (exp_hdr (ls.getD j d0))
      have HOKJ := Lib.hid hok
      have HBAD := Lib.hid (HBADK.out j hlt)
      have hex := HEX.out j hlt
      have hfl := HFL.out j
      have hil := Lib.itoa_length_le _ hs2 (Int.le_of_lt_add_one hs3)
      have hiz := str_size (Lib.itoa (ls.getD j d0).2.1)
      have hfz := str_size (ls.getD j d0).1
      have HSE := Lib.hid (str_empty (ls.getD j d0).1)
      have HHD : Hid (((((⟨#[70, 114, 111, 109, 32]⟩ : ByteArray) ++ str (who (ls.getD j d0).1)) ++ ⟨#[32]⟩) ++ str (Lib.itoa (ls.getD j d0).2.1)) ++ ⟨#[10]⟩ = str (hdr (ls.getD j d0))) := Lib.hid (hdr_str _)
      have HWE : Hid ((ls.getD j d0).1.isEmpty = true → str (who (ls.getD j d0).1) = ⟨#[45]⟩) := Lib.hid fun e => by unfold who; rw [if_pos e]; rfl
      have HWN : Hid ((ls.getD j d0).1.isEmpty = false → str (who (ls.getD j d0).1) = str (ls.getD j d0).1) := Lib.hid fun e => by unfold who; rw [if_neg (by rw [e]; decide)]
      have hlen := hdr_len (ls.getD j d0)
      have hql : (quoteS (ls.getD j d0).2.2).length ≤ 60000 := by have := quote_len (ls.getD j d0).2.2; omega
      have HB1 := Lib.hid hbel
      have HO1 := Lib.hid hown
      have hN1 := hbel.size
      have hjk : (j : Int) < (n : Int) := by omega
      have hse := HSE.out
      have HOKE : Hid (∀ b, okL (ls.getD j d0) = b → okL (ls.getD j d0) = b) := Lib.hid fun _ e => e
      clear hall hbel hown hok hs1 hs2 hs3 HSE
      generalize hdr (ls.getD j d0) = hd at *
      generalize str (who (ls.getD j d0).1) = sw at *
      generalize (ls.getD j d0).1.isEmpty = fe at *
      generalize str (ls.getD j d0).1 = s0 at *
      generalize str (Lib.itoa (ls.getD j d0).2.1) = si at *
      generalize (ls.getD j d0).2.1 = v at *
      generalize hbody : (ls.getD j d0).2.2 = body at *
      generalize hbn : body.length = bn at *
      generalize hft : fileS (ls.take j) = ft at *
      generalize hfn : ft.length = fn at *
      have hb0 : s0.size ≤ 30000 := by omega
      have hb1 : si.size ≤ 21 := by omega
      have HFN := Lib.hid hfn
      have hfn2 : fn ≤ 1000000 := by omega
      have hhd2 : hd.length ≤ 1000000 := by omega
      have hqn := BlkIs.new wr 43 #[.string s0, .int .i64 v, .slice Ab bn cb]
      have han : Below wr.heap.size wr (wr.alloc (.cells #[.string s0, .int .i64 v, .slice Ab bn cb] 43)) := (Below.refl _ _).alloc (Nat.le_refl _) _
      have hO2 : Own5 (wr.alloc (.cells #[.string s0, .int .i64 v, .slice Ab bn cb] 43)) w.heap.size (.slice A6 fn c6) ft := own_kept HO1.out han (Nat.le_refl _)
      have HB2 := Lib.hid (HB1.out.trans (han.mono hN1))
      clear hil hiz hfz hex hfl hbody hbn hft hfn hlen han
      go_wp2_with fail
      have HO2 := Lib.hid hO2
      have HQ2 := Lib.hid hqn
      clear hO2 hqn
      generalize wr.alloc (.cells #[.string s0, .int .i64 v, .slice Ab bn cb] 43) = w2 at *
      refine (HLT.out w2 HB2.out).mono ?_
      rintro e w3 ⟨rfl, hb3⟩
      have HO3 := Lib.hid (own_kept HO2.out hb3 (Nat.le_refl _))
      have HB3 := Lib.hid (HB2.out.trans (hb3.mono HB2.out.size))
      have hN3 := HB3.out.size
      have hq3 : BlkIs w3 wr.heap.size 43 #[.string s0, .int .i64 v, .slice Ab bn cb] := (hb3.block _ HQ2.out.lt).trans HQ2.out
      have HQ3 := Lib.hid hq3
      have x0 := (BlkIs.cell hq3 0).trans (rfl : _ = some (Value.string s0))
      have x1 := (BlkIs.cell hq3 1).trans (rfl : _ = some (Value.int .i64 v))
      clear HO2 hb3 hq3 HLT HQ2
      generalize hokx : okL (ls.getD j d0) = okx at *
      cases okx with
      | false =>
        have HF := Lib.hid (HBAD.out rfl)
        clear x0 x1
        go_wp2_with fail
        refine bodyPost_ret (results_tmp2 rfl _ _ _) rfl ?_
        exact ⟨HB3.out, .inr ⟨HF.out, rfl⟩⟩
      | true =>
        have HOKX := Lib.hid hokx
        clear hokx HBAD
        cases fe with
        | true =>
          have HSW := Lib.hid (HWE.out rfl)
          clear HWE HWN
          have HST : Hid (((((⟨#[70, 114, 111, 109, 32]⟩ : ByteArray) ++ ⟨#[45]⟩) ++ ⟨#[32]⟩) ++ si) ++ ⟨#[10]⟩ = str hd) := Lib.hid (by rw [← HHD.out, HSW.out])
          clear HHD HSW
          go_wp2_with fail
          refine (HFM.out w3 HB3.out).mono ?_
          rintro e w3b ⟨rfl, hb3⟩
          have HO3b := Lib.hid (own_kept HO3.out hb3 (Nat.le_refl _))
          have HB3b := Lib.hid (HB3.out.trans (hb3.mono HB3.out.size))
          have hN3b := HB3b.out.size
          have hq3 : BlkIs w3b wr.heap.size 43 #[.string s0, .int .i64 v, .slice Ab bn cb] := (hb3.block _ HQ3.out.lt).trans HQ3.out
          have HQ3b := Lib.hid hq3
          clear hb3 hq3 HFM x0 x1
          go_wp2_with (first
            | (refine lapp5s (.tmp 21) (.tmp 29) rfl rfl (l := ft) (m := hd) rfl HO3b.out rfl HST.out (by rw [HFN.out]; omega) hN3b ?_; intro v4 w4 h1 h2; obtain ⟨A4, k4, c4, rfl⟩ := own5_letters h1; have HO4 := Lib.hid h1; have HB4 := Lib.hid (HB3b.out.grown h2 hN3b (own5_low HO3b.out)); have q4 := blk_own HO3b.out HQ3b.out (by decide) h2; have z4 := (BlkIs.cell q4 2).trans (rfl : _ = some (Value.slice Ab bn cb)); clear h1 h2 q4)
            | fail)
          refine (HQT.out w4 HB4.out).mono ?_
          rintro e w5 ⟨v5, rfl, ho5, hb5⟩
          obtain ⟨A5, c5, rfl, _, _⟩ := own_slice ho5
          have HO5 := Lib.hid (own_kept HO4.out hb5 (Nat.le_refl _))
          have HB5 := Lib.hid (HB4.out.trans (hb5.mono HB4.out.size))
          have HT5 := Lib.hid (Own5.bts ho5)
          have hN5 := HB5.out.size
          clear ho5 hb5 HQT
          generalize hqs : quoteS body = qs at *
          generalize hqn : qs.length = qn at *
          have HQN := Lib.hid hqn
          clear hqs hqn
          go_wp2_with (first
            | (refine app5 (.tmp 31) (.tmp 34) rfl rfl w.heap.size _ (ft ++ hd) qs rfl HO5.out w5.heap.size A5 c5 (by rw [HQN.out]; rfl) HT5.out (by rw [List.length_append, HQN.out, HFN.out]; omega) hN5 ?_; intro v6 w6 h1 h2; have h1' : Own5 w6 w.heap.size v6 ((ft ++ hd) ++ qs) := h1; obtain ⟨A6, k6, c6, rfl⟩ := own5_letters h1'; have HO6 := Lib.hid h1'; have HB6 := Lib.hid (HB5.out.grown h2 hN5 (own5_low HO5.out)); have HO6b := Lib.hid (own_kept HO6.out ((Below.refl w6.heap.size w6).alloc (Nat.le_refl _) (.cells #[.int .u8 10] 5)) (Nat.le_refl _)); have HB6b := Lib.hid (HB6.out.alloc HB6.out.size (.cells #[.int .u8 10] 5)); clear h1 h1' h2)
            | (refine app5 (.tmp 35) (.tmp 36) rfl rfl w.heap.size _ ((ft ++ hd) ++ qs) [10] rfl HO6b.out (w6.heap.size + 1) (some ⟨w6.heap.size, 0, none⟩) 1 rfl (bts_new w6 [10] _ _ rfl) (by rw [List.length_append, List.length_append, HQN.out, HFN.out]; simp; omega) HB6b.out.size ?_; intro v7 w7 h1 h2; have HO7 : Hid (Own5 w7 w.heap.size v7 (((ft ++ hd) ++ qs) ++ [10])) := Lib.hid h1; have HB7 := Lib.hid (HB6b.out.grown h2 HB6b.out.size (own5_low HO6b.out)); clear h1 h2)
            | fail)
          go_roundw
          case rel =>
            refine ⟨j + 1, by omega, by go_num, fun k hk => ?_, by rw [HFK.out, HXH.out, ← List.append_assoc, ← List.append_assoc]; exact HO7.out, HB7.out⟩
            rcases Nat.lt_or_ge k j with h | h
            · exact HOKJ.out k h
            · obtain rfl : k = j := by omega
              exact HOKX.out
          case measure => simp [intOf]; omega
        | false =>
          have HSW := Lib.hid (HWN.out rfl)
          clear HWE HWN
          have HST : Hid (((((⟨#[70, 114, 111, 109, 32]⟩ : ByteArray) ++ s0) ++ ⟨#[32]⟩) ++ si) ++ ⟨#[10]⟩ = str hd) := Lib.hid (by rw [← HHD.out, HSW.out])
          clear HHD HSW
          go_wp2_with fail
          refine (HFM.out w3 HB3.out).mono ?_
          rintro e w3b ⟨rfl, hb3⟩
          have HO3b := Lib.hid (own_kept HO3.out hb3 (Nat.le_refl _))
          have HB3b := Lib.hid (HB3.out.trans (hb3.mono HB3.out.size))
          have hN3b := HB3b.out.size
          have hq3 : BlkIs w3b wr.heap.size 43 #[.string s0, .int .i64 v, .slice Ab bn cb] := (hb3.block _ HQ3.out.lt).trans HQ3.out
          have HQ3b := Lib.hid hq3
          clear hb3 hq3 HFM x0 x1
          go_wp2_with (first
            | (refine lapp5s (.tmp 21) (.tmp 29) rfl rfl (l := ft) (m := hd) rfl HO3b.out rfl HST.out (by rw [HFN.out]; omega) hN3b ?_; intro v4 w4 h1 h2; obtain ⟨A4, k4, c4, rfl⟩ := own5_letters h1; have HO4 := Lib.hid h1; have HB4 := Lib.hid (HB3b.out.grown h2 hN3b (own5_low HO3b.out)); have q4 := blk_own HO3b.out HQ3b.out (by decide) h2; have z4 := (BlkIs.cell q4 2).trans (rfl : _ = some (Value.slice Ab bn cb)); clear h1 h2 q4)
            | fail)
          refine (HQT.out w4 HB4.out).mono ?_
          rintro e w5 ⟨v5, rfl, ho5, hb5⟩
          obtain ⟨A5, c5, rfl, _, _⟩ := own_slice ho5
          have HO5 := Lib.hid (own_kept HO4.out hb5 (Nat.le_refl _))
          have HB5 := Lib.hid (HB4.out.trans (hb5.mono HB4.out.size))
          have HT5 := Lib.hid (Own5.bts ho5)
          have hN5 := HB5.out.size
          clear ho5 hb5 HQT
          generalize hqs : quoteS body = qs at *
          generalize hqn : qs.length = qn at *
          have HQN := Lib.hid hqn
          clear hqs hqn
          go_wp2_with (first
            | (refine app5 (.tmp 31) (.tmp 34) rfl rfl w.heap.size _ (ft ++ hd) qs rfl HO5.out w5.heap.size A5 c5 (by rw [HQN.out]; rfl) HT5.out (by rw [List.length_append, HQN.out, HFN.out]; omega) hN5 ?_; intro v6 w6 h1 h2; have h1' : Own5 w6 w.heap.size v6 ((ft ++ hd) ++ qs) := h1; obtain ⟨A6, k6, c6, rfl⟩ := own5_letters h1'; have HO6 := Lib.hid h1'; have HB6 := Lib.hid (HB5.out.grown h2 hN5 (own5_low HO5.out)); have HO6b := Lib.hid (own_kept HO6.out ((Below.refl w6.heap.size w6).alloc (Nat.le_refl _) (.cells #[.int .u8 10] 5)) (Nat.le_refl _)); have HB6b := Lib.hid (HB6.out.alloc HB6.out.size (.cells #[.int .u8 10] 5)); clear h1 h1' h2)
            | (refine app5 (.tmp 35) (.tmp 36) rfl rfl w.heap.size _ ((ft ++ hd) ++ qs) [10] rfl HO6b.out (w6.heap.size + 1) (some ⟨w6.heap.size, 0, none⟩) 1 rfl (bts_new w6 [10] _ _ rfl) (by rw [List.length_append, List.length_append, HQN.out, HFN.out]; simp; omega) HB6b.out.size ?_; intro v7 w7 h1 h2; have HO7 : Hid (Own5 w7 w.heap.size v7 (((ft ++ hd) ++ qs) ++ [10])) := Lib.hid h1; have HB7 := Lib.hid (HB6b.out.grown h2 HB6b.out.size (own5_low HO6b.out)); clear h1 h2)
            | fail)
          go_roundw
          case rel =>
            refine ⟨j + 1, by omega, by go_num, fun k hk => ?_, by rw [HFK.out, HXH.out, ← List.append_assoc, ← List.append_assoc]; exact HO7.out, HB7.out⟩
            rcases Nat.lt_or_ge k j with h | h
            · exact HOKJ.out k h
            · obtain rfl : k = j := by omega
              exact HOKX.out
          case measure => simp [intOf]; omega
    · have hkn : j = n := by omega
      subst hkn
      generalize (fileS (ls.take j)).length = fn at *
      rw [HEND.out] at hown
      have hjk : ¬ (j : Int) < (j : Int) := by omega
      have HO := Lib.hid hown
      have HB := Lib.hid hbel
      have HOKA := Lib.hid (HALL.out hok)
      clear hown hbel hok
      go_wp2_with fail
      refine bodyPost_ret (results_tmp2 rfl _ _ _) rfl ?_
      exact ⟨HB.out, .inl ⟨HOKA.out, _, rfl, HO.out⟩⟩
end Mb
end Go.Proofs.YtamekflgidfnfaaGreatDoor
