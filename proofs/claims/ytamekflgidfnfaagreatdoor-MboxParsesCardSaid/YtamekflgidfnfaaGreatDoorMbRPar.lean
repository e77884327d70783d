/- The document's Parse. Conditions: as stated at each. -/
import Derived.Test.YtamekflgidfnfaaGreatDoorMbRPm
namespace Go.Proofs.YtamekflgidfnfaaGreatDoor
set_option maxRecDepth 100000
namespace Mb
open Go.RowKit Go Go.Proofs.YtamekflgidfnfaaGreatDoor.Pa
theorem own5_nil2 {w : World} {N n c : Nat} {A : Option Addr} {l : L} (h : Own5 w N (.slice A n c) l) : A = none → c = 0 := by
  intro e
  subst e
  rcases h.2 with ⟨h0, _⟩ | ⟨g, cap, cur, h0, _⟩
  · injection h0
  · injection h0 with h0 _ _
    cases h0
set_option maxHeartbeats 3200000 in
theorem rparse_any {w : World} {A : Option Addr} {b : L} (h : Bts w w.heap.size A b) (c : Nat) (hc : b.length ≤ c) (hm : c ≤ maxLen) (hl : b.length ≤ 2000) (hG : GlT w) :
    Calls Tryz.prog 7 #[.slice A b.length c] w (ParseQ w b) := by
  have HE := Lib.hid (reach_any h c hc hm (by omega))
  have hlc := lns_count b
  have HST : Hid (∀ X, Below w.heap.size w X → (convert 22 9 (.slice A b.length c)).run Tryz.prog X = .ok (.string (str b)) X) := Lib.hid fun X hX => conv_str (h.below hX) c
  have HGL : Hid (∀ X, Below w.heap.size w X → GlT X) := Lib.hid fun X hX => hG.below hX hG.lt
  have HPS := Lib.hid (fun x (hx : x ∈ lns b) => And.intro (lns_pos hx) (lns_len hx))
  clear h hG hc hm
  have HBL := Lib.hid hl
  generalize hbn : b.length = bn at *
  have HBN := Lib.hid hbn
  clear hbn
  go_enter Tryz.func7, Tryz.ntmps7
  go_wp2_with fail
  refine HE.out.mono ?_
  rintro e w1 ⟨v1, rfl, hr1, hb1⟩
  obtain ⟨Al, cl, rfl, hcl, hml⟩ := hr1.slice
  have HR1 := Lib.hid hr1
  have HB1 := Lib.hid hb1
  have hs1 := hb1.size
  clear hr1 hb1 HE
  generalize hln : (lns b).length = lc at *
  have HLN := Lib.hid hln
  clear hln
  go_wp2_with fail
  go_loopw [4, 6] (fun x4 i wr => ∃ (k : Nat) (out : List Lt), i = .int .i64 k ∧ RpI b k out ∧ Row wr w1.heap.size x4 out ∧ Below w1.heap.size w1 wr) (fun _ i _ => lc + 1 - (intOf i).toNat)
  case atStart => exact ⟨0, [], rfl, RpI.init b, Row.nil _ _, Below.refl _ _⟩
  case round =>
    obtain ⟨k, out, rfl, hi, hrow, hbel⟩ := hrel
    have HI := Lib.hid hi
    have HRW := Lib.hid hrow
    have HBE := Lib.hid hbel
    have hsz := hbel.size
    have hkle : k ≤ lc := by have := hi.le; rw [HLN.out] at this; exact this
    obtain ⟨Ao, co, rfl, hco, hmo⟩ := hrow.slice
    clear hi hrow hbel
    by_cases hlt : k < lc
    · have hk' : k < (lns b).length := by rw [HLN.out]; exact hlt
      have HK := Lib.hid hk'
      have HRS := Lib.hid (HR1.out.kept HBE.out (Nat.le_refl _) hs1)
      obtain ⟨g, A3, c3, rfl, hg, hcell, hc3, hm3, hbt⟩ := HRS.out.at_ hk'
      obtain ⟨hx0, hxl⟩ := HPS.out _ (get_mem hk')
      have HFI := Lib.hid (rfirst_any (hbt.more (B' := wr.heap.size) (by omega)) c3 (by omega))
      clear hbt hk' HRS
      generalize hxe : (lns b).getD k [] = x at *
      have HXE := Lib.hid hxe
      generalize x.length = xn at *
      clear hxe
      have hkm : (k : Int) < (lc : Int) := by omega
      go_wp2_with fail
      refine HFI.out.mono ?_
      rintro e w2 ⟨hb2, ⟨wo, n, hf, rfl⟩ | ⟨hf, s, v, rfl⟩⟩
      · have HF : Hid (firstS ((lns b).getD k []) = some (wo, n)) := Lib.hid (by rw [HXE.out]; exact hf)
        have hb3 := (hb2.alloc hb2.size (.cells #[.string (str wo), .int .i64 (n : Int), .slice none 0 0] 43))
        have hw2 := hb2.size
        have HB3 := Lib.hid (HBE.out.trans (hb3.mono hsz))
        have hro := HRW.out.lt
        have HR3 := Lib.hid (HRW.out.less hb3 (Nat.le_refl _))
        have HOB : Hid (∀ i, (Value.slice Ao out.length co).ownBlock = some i → i ≠ w2.heap.size) := Lib.hid fun i hi => by have := hro i hi; omega
        have HL3 := Lib.hid (BlkIs.new w2 43 #[.string (str wo), .int .i64 (n : Int), .slice none 0 0])
        have hw2n : w1.heap.size ≤ w2.heap.size := by omega
        clear hf hb3 hro HFI hcell hx0 hxl hb2 HRW HBE
        generalize hsw : str wo = sw at *
        have HSW := Lib.hid hsw
        clear hsw
        go_wp2_with fail
        generalize w2.alloc (.cells #[.string sw, .int .i64 (n : Int), .slice none 0 0] 43) = w3 at *
        have hl3 := HL3.out.lt
        have hs3 := HB3.out.size
        generalize w2.heap.size = G at *
        go_loopw [9, 6] (fun x9 i wb => ∃ (j : Nat) (body : L), i = .int .i64 j ∧ RpB b (k + 1) j body ∧ Own5 wb w3.heap.size x9 body ∧ Below w3.heap.size w3 wb) (fun _ i _ => lc + 1 - (intOf i).toNat)
        case atStart => exact ⟨k + 1, [], by go_num, RpB.init b (by rw [HLN.out]; omega), Own5.nil _ _, Below.refl _ _⟩
        case round =>
          obtain ⟨j, body, rfl, hi, hown, hbel⟩ := hrel
          have HJ := Lib.hid hi
          have HOW := Lib.hid hown
          have HBB := Lib.hid hbel
          have hszb := hbel.size
          have hjle : j ≤ lc := by have := hi.hi; rw [HLN.out] at this; exact this
          have hkj : k + 1 ≤ j := hi.lo
          have hbl : body.length ≤ bn := by have := hi.len; rw [HBN.out] at this; exact this
          obtain ⟨Ab, cb, rfl, hcb, hmb⟩ := own_slice hown
          clear hi hown hbel
          by_cases hjlt : j < lc
          · have hj' : j < (lns b).length := by rw [HLN.out]; exact hjlt
            have HJ' := Lib.hid hj'
            have HRS := Lib.hid (HR1.out.kept (HB3.out.trans (HBB.out.mono hs3)) (Nat.le_refl _) hs1)
            obtain ⟨g, A3, c3, eg, hg, hcell, hc3, hm3, hbt⟩ := HRS.out.at_ hj'
            injection eg with eg
            injection eg with eg
            subst eg
            obtain ⟨hx0, hxl⟩ := HPS.out _ (get_mem hj')
            have HMK := Lib.hid (mkd_70 (x := (lns b).getD j []))
            have HMN := Lib.hid (mark_no_mkd (x := (lns b).getD j []))
            obtain ⟨g3, o3, rfl, hg3, hcel3⟩ := bts_at_ hbt hx0
            have hcel0 := hcel3 0 hx0
            have HFR := Lib.hid (rfrom_any hbt c3 hc3 hm3 (by omega))
            have HBT := Lib.hid hbt
            have HNX := Lib.hid (fun hmk => HJ.out.next hj' hmk)
            have HH : Hid (((lns b).getD j []).head? = some (((lns b).getD j []).getD 0 0)) := Lib.hid (by
              cases hxx : (lns b).getD j [] with
              | nil => rw [hxx] at hx0; simp at hx0
              | cons y t => rfl)
            clear hbt hj' HRS hcel3
            generalize hye : (lns b).getD j [] = y at *
            have HYE := Lib.hid hye
            generalize hyn : y.length = yn at *
            have HYN := Lib.hid hyn
            clear hye hyn
            have hjm : (j : Int) < (lc : Int) := by omega
            generalize hy00 : y.getD 0 0 = y0 at *
            have HY0 := Lib.hid hy00
            clear hy00
            go_wp2_with fail
            refine HFR.out.mono ?_
            rintro e w4 ⟨n4, rfl, _, _, q, rfl⟩
            have HC4 : Hid ((wr.drewN q).cell? ⟨g, j, none⟩ = some (.slice (some ⟨g3, o3, none⟩) yn c3)) := Lib.hid hcell
            have HC5 : Hid ((wr.drewN q).cell? ⟨g3, o3, none⟩ = some (.int .u8 (y0.toNat : Int))) := Lib.hid hcel0
            have hdb : Below w3.heap.size wr (wr.drewN q) := drewN_below wr w3.heap.size q
            have HO4 := Lib.hid (own_kept HOW.out (drewN_below wr wr.heap.size q) (Nat.le_refl _))
            have HB4 := Lib.hid (HBB.out.trans hdb)
            have HT4 := Lib.hid (HBT.out.below (drewN_below wr w.heap.size q))
            have hsz4 := HB4.out.size
            clear hdb HFR HOW HBB HBT hcell hcel0 hszb
            generalize wr.drewN q = w4 at *
            have c4 := HC4.out
            have c5 := HC5.out
            cases hmy : mkd y with
            | true =>
              have HMY := Lib.hid (HMK.out hmy)
              by_cases h70 : y0 = 70
              · subst h70
                have HEND : Hid (j = (lns b).length ∨ mark ((lns b).getD j []) = true) := Lib.hid (.inr (by rw [HYE.out, HMY.out, HH.out]; rfl))
                clear HNX HMK HMN HMY HH
                have HBX : Hid (Below w.heap.size w w4) := Lib.hid (HB1.out.trans ((HB3.out.trans (HB4.out.mono hs3)).mono hs1))
                by_cases hz : body.length = 0
                · have HP : Hid (parseS b = none) := Lib.hid (par_none (HI.out.bad2 HK.out HJ.out HEND.out HF.out (suf_not (.inl hz))))
                  rw [hz] at *
                  go_wp2_with fail
                  refine bodyPost_ret (results_tmp2 rfl _ _ _) rfl ?_
                  exact ⟨HBX.out, .inr ⟨HP.out, rfl⟩⟩
                · obtain ⟨g5, o5, rfl, hg5, hcel⟩ := bts_at_ (Own5.bts HO4.out) (by omega)
                  have hlast := hcel (body.length - 1) (by omega)
                  have hz1 : ((body.length : Int) == 0) = false := beq_eq_false_iff_ne.2 (by omega)
                  have hz2 : (body.length : Int) - 1 = ((body.length - 1 : Nat) : Int) := by omega
                  have hz3 : body.length - 1 < body.length := by omega
                  have hbz : body.length ≤ 2000 := by omega
                  have hz4 : (body.length == 0) = false := beq_eq_false_iff_ne.2 hz
                  have hz5 : ¬ (body.length : Int) = 0 := by omega
                  clear hcel
                  by_cases h10 : body.getD (body.length - 1) 0 = 10
                  · have HS := Lib.hid (suf_yes (body := body) (by omega) h10)
                    have HUQ := Lib.hid (runquote_any (l := body.dropLast) (by rw [List.dropLast_eq_take]; exact (Own5.bts HO4.out).take _) cb (by rw [List.length_dropLast]; omega) hmb (by rw [List.length_dropLast]; omega))
                    rw [List.length_dropLast] at HUQ
                    have hul := unquote_len body.dropLast
                    rw [List.length_dropLast] at hul
                    have HST2 := Lib.hid (HI.out.step HK.out HJ.out HEND.out HF.out HS.out (by rw [HBN.out]; exact HBL.out))
                    have hcnt := HI.out.cnt
                    rw [h10] at hlast
                    clear h10 HS
                    generalize unquoteS body.dropLast = ub at *
                    generalize body.length = bl at *
                    go_wp2_with fail
                    refine HUQ.out.mono ?_
                    rintro e w5 ⟨v5, rfl, ho5, hb5⟩
                    obtain ⟨A5, q5, rfl, hq5, hm5⟩ := own_slice ho5
                    have hA5 := own5_nil2 ho5
                    have hw5 := hb5.size
                    have hL4 : BlkIs w4 G 43 #[.string sw, .int .i64 (n : Int), .slice none 0 0] := (HB4.out.block G hl3).trans HL3.out
                    have hL5 : BlkIs w5 G 43 #[.string sw, .int .i64 (n : Int), .slice none 0 0] := (hb5.block G (by omega)).trans hL4
                    have hL6 : BlkIs (w5.setCell ⟨G, 2, none⟩ (.slice A5 ub.length q5)) G 43 #[.string sw, .int .i64 (n : Int), .slice A5 ub.length q5] := hL5.put 2 _
                    have hR5 := (HR3.out.less HB4.out (Nat.le_refl _)).less hb5 (Nat.le_refl _)
                    have hR6 := hR5.set hL5 HOB.out 2 (.slice A5 ub.length q5)
                    have hU5 : Bu w5 A5 ub := Bu.own ho5
                    have hU6 : Bu (w5.setCell ⟨G, 2, none⟩ (.slice A5 ub.length q5)) A5 ub := hU5.keep (KU.tn (p := fun k => k = G) ((Tn.refl (fun k => k = G) w5).setCell (x := ⟨G, 2, none⟩) (.inl rfl) _) (fun i hi => by
                      subst hi
                      exact blk_not hL5 (by decide)))
                    have hB6 : Below w1.heap.size w1 (w5.setCell ⟨G, 2, none⟩ (.slice A5 ub.length q5)) := ((HB3.out.trans (HB4.out.mono hs3)).trans (hb5.mono (by omega))).setCell (p := ⟨G, 2, none⟩) hw2n _
                    have z0c := (BlkIs.cell hL5 0).trans (rfl : _ = some (Value.string sw))
                    have z1c := (BlkIs.cell hL5 1).trans (rfl : _ = some (Value.int .i64 (n : Int)))
                    have z2c := (BlkIs.cell hL5 2).trans (rfl : _ = some (Value.slice none 0 0))
                    have zf2 := hL5.froz 2
                    have z6 : (w5.setCell ⟨G, 2, none⟩ (.slice A5 ub.length q5)).heap.size = w5.heap.size := by simp [World.setCell]
                    have HL7 := Lib.hid (BlkIs.new (w5.setCell ⟨G, 2, none⟩ (.slice A5 ub.length q5)) 43 #[.string sw, .int .i64 (n : Int), .slice A5 ub.length q5])
                    have HR7 := Lib.hid (hR6.less ((Below.refl _ _).alloc (Nat.le_refl _) (.cells #[.string sw, .int .i64 (n : Int), .slice A5 ub.length q5] 43)) (Nat.le_refl _))
                    have HU7 := Lib.hid (hU6.keep (KU.grown (grown_alloc (w5.setCell ⟨G, 2, none⟩ (.slice A5 ub.length q5)) (.cells #[.string sw, .int .i64 (n : Int), .slice A5 ub.length q5] 43)) (fun i e => by cases e)))
                    have HB7 := Lib.hid (hB6.alloc (by rw [z6]; omega) (.cells #[.string sw, .int .i64 (n : Int), .slice A5 ub.length q5] 43))
                    have HN7 : Hid (w1.heap.size ≤ ((w5.setCell ⟨G, 2, none⟩ (.slice A5 ub.length q5)).alloc (.cells #[.string sw, .int .i64 (n : Int), .slice A5 ub.length q5] 43)).heap.size) := Lib.hid (by simp; omega)
                    rw [z6] at HL7
                    have HG7 := Lib.hid (And.intro ((HL7.out.cell 0).trans (rfl : _ = some (Value.string sw))) (And.intro ((HL7.out.cell 1).trans (rfl : _ = some (Value.int .i64 (n : Int)))) ((HL7.out.cell 2).trans (rfl : _ = some (Value.slice A5 ub.length q5)))))
                    clear ho5 hb5 hL4 hL5 hL6 hR5 hR6 hU5 hU6 hB6 z6 HL7
                    have hol : out.length + 1 ≤ 1000000000 := by omega
                    go_wp2_with (first
                      | (refine lappR (.tmp 81) (.tmp 83) rfl rfl (wo, (n : Int), ub) rfl HR7.out rfl HG7.out.1 HG7.out.2.1 HG7.out.2.2 ⟨HSW.out.symm, rfl, rfl⟩ hq5 hm5 hA5 HU7.out hol HN7.out ?_; intro v8 w8 hr8 hb8; have HR8 := Lib.hid hr8; have HB8 := Lib.hid (HB7.out.trans hb8); clear hr8 hb8)
                      | fail)
                    go_roundw
                    case rel => exact ⟨j, _, rfl, HST2.out, HR8.out, HB8.out⟩
                    case measure => simp [intOf]; omega
                  · have e10 : (((body.getD (body.length - 1) 0).toNat : Int) == 10) = false := by
                      rw [show (((body.getD (body.length - 1) 0).toNat : Int) == 10) = (body.getD (body.length - 1) 0 == 10) from eq_byte _ 10]
                      simpa using h10
                    have hne : (((body.getD (body.length - 1) 0).toNat : Int) != 10) = true := by rw [bne, e10]; rfl
                    have HP : Hid (parseS b = none) := Lib.hid (par_none (HI.out.bad2 HK.out HJ.out HEND.out HF.out (suf_not (.inr h10))))
                    clear h10
                    generalize body.getD (body.length - 1) 0 = lb at *
                    generalize body.length = bl at *
                    go_wp2_with fail
                    refine bodyPost_ret (results_tmp2 rfl _ _ _) rfl ?_
                    exact ⟨HBX.out, .inr ⟨HP.out, rfl⟩⟩
              · have e70 : ((y0.toNat : Int) == 70) = false := by
                  rw [show ((y0.toNat : Int) == 70) = (y0 == 70) from eq_byte y0 70]
                  simpa using h70
                have HN2 := Lib.hid (HNX.out (by rw [HMY.out, HH.out]; simpa using h70))
                clear HNX HMK HMN HMY HH h70
                go_wp2_with (first
                  | (refine app5 (.tmp 54) (.tmp 58) rfl rfl w3.heap.size _ body y rfl HO4.out w.heap.size (some ⟨g3, o3, none⟩) c3 (by rw [HYN.out]; rfl) HT4.out (by rw [HYN.out]; omega) hsz4 ?_; intro v5 w5 h1 h2; have H5 := Lib.hid h1; have B5 := Lib.hid (HB4.out.grown h2 hsz4 (fun k hk => (HO4.out.lt k hk).1)); clear h1 h2)
                  | fail)
                go_roundw
                case rel => exact ⟨j + 1, body ++ y, by go_num, HN2.out, H5.out, B5.out⟩
                case measure => simp [intOf]; omega
            | false =>
              have HN2 := Lib.hid (HNX.out (HMN.out hmy))
              clear HNX HMK HMN HH
              go_wp2_with (first
                | (refine app5 (.tmp 54) (.tmp 58) rfl rfl w3.heap.size _ body y rfl HO4.out w.heap.size (some ⟨g3, o3, none⟩) c3 (by rw [HYN.out]; rfl) HT4.out (by rw [HYN.out]; omega) hsz4 ?_; intro v5 w5 h1 h2; have H5 := Lib.hid h1; have B5 := Lib.hid (HB4.out.grown h2 hsz4 (fun k hk => (HO4.out.lt k hk).1)); clear h1 h2)
                | fail)
              go_roundw
              case rel => exact ⟨j + 1, body ++ y, by go_num, HN2.out, H5.out, B5.out⟩
              case measure => simp [intOf]; omega
          · have hjm : ¬ (j : Int) < (lc : Int) := by omega
            have HEND : Hid (j = (lns b).length ∨ mark ((lns b).getD j []) = true) := Lib.hid (.inl (by rw [HLN.out]; omega))
            have HO4 := Lib.hid HOW.out
            have HB4 := Lib.hid HBB.out
            have hsz4 := hszb
            clear HOW HBB
            generalize hwb : wr = w4 at *
            clear hwb
            have HBX : Hid (Below w.heap.size w w4) := Lib.hid (HB1.out.trans ((HB3.out.trans (HB4.out.mono hs3)).mono hs1))
            by_cases hz : body.length = 0
            · have HP : Hid (parseS b = none) := Lib.hid (par_none (HI.out.bad2 HK.out HJ.out HEND.out HF.out (suf_not (.inl hz))))
              rw [hz] at *
              go_wp2_with fail
              refine bodyPost_ret (results_tmp2 rfl _ _ _) rfl ?_
              exact ⟨HBX.out, .inr ⟨HP.out, rfl⟩⟩
            · obtain ⟨g5, o5, rfl, hg5, hcel⟩ := bts_at_ (Own5.bts HO4.out) (by omega)
              have hlast := hcel (body.length - 1) (by omega)
              have hz1 : ((body.length : Int) == 0) = false := beq_eq_false_iff_ne.2 (by omega)
              have hz2 : (body.length : Int) - 1 = ((body.length - 1 : Nat) : Int) := by omega
              have hz3 : body.length - 1 < body.length := by omega
              have hbz : body.length ≤ 2000 := by omega
              have hz4 : (body.length == 0) = false := beq_eq_false_iff_ne.2 hz
              have hz5 : ¬ (body.length : Int) = 0 := by omega
              clear hcel
              by_cases h10 : body.getD (body.length - 1) 0 = 10
              · have HS := Lib.hid (suf_yes (body := body) (by omega) h10)
                have HUQ := Lib.hid (runquote_any (l := body.dropLast) (by rw [List.dropLast_eq_take]; exact (Own5.bts HO4.out).take _) cb (by rw [List.length_dropLast]; omega) hmb (by rw [List.length_dropLast]; omega))
                rw [List.length_dropLast] at HUQ
                have hul := unquote_len body.dropLast
                rw [List.length_dropLast] at hul
                have HST2 := Lib.hid (HI.out.step HK.out HJ.out HEND.out HF.out HS.out (by rw [HBN.out]; exact HBL.out))
                have hcnt := HI.out.cnt
                rw [h10] at hlast
                clear h10 HS
                generalize unquoteS body.dropLast = ub at *
                generalize body.length = bl at *
                go_wp2_with fail
                refine HUQ.out.mono ?_
                rintro e w5 ⟨v5, rfl, ho5, hb5⟩
                obtain ⟨A5, q5, rfl, hq5, hm5⟩ := own_slice ho5
                have hA5 := own5_nil2 ho5
                have hw5 := hb5.size
                have hL4 : BlkIs w4 G 43 #[.string sw, .int .i64 (n : Int), .slice none 0 0] := (HB4.out.block G hl3).trans HL3.out
                have hL5 : BlkIs w5 G 43 #[.string sw, .int .i64 (n : Int), .slice none 0 0] := (hb5.block G (by omega)).trans hL4
                have hL6 : BlkIs (w5.setCell ⟨G, 2, none⟩ (.slice A5 ub.length q5)) G 43 #[.string sw, .int .i64 (n : Int), .slice A5 ub.length q5] := hL5.put 2 _
                have hR5 := (HR3.out.less HB4.out (Nat.le_refl _)).less hb5 (Nat.le_refl _)
                have hR6 := hR5.set hL5 HOB.out 2 (.slice A5 ub.length q5)
                have hU5 : Bu w5 A5 ub := Bu.own ho5
                have hU6 : Bu (w5.setCell ⟨G, 2, none⟩ (.slice A5 ub.length q5)) A5 ub := hU5.keep (KU.tn (p := fun k => k = G) ((Tn.refl (fun k => k = G) w5).setCell (x := ⟨G, 2, none⟩) (.inl rfl) _) (fun i hi => by
                  subst hi
                  exact blk_not hL5 (by decide)))
                have hB6 : Below w1.heap.size w1 (w5.setCell ⟨G, 2, none⟩ (.slice A5 ub.length q5)) := ((HB3.out.trans (HB4.out.mono hs3)).trans (hb5.mono (by omega))).setCell (p := ⟨G, 2, none⟩) hw2n _
                have z0c := (BlkIs.cell hL5 0).trans (rfl : _ = some (Value.string sw))
                have z1c := (BlkIs.cell hL5 1).trans (rfl : _ = some (Value.int .i64 (n : Int)))
                have z2c := (BlkIs.cell hL5 2).trans (rfl : _ = some (Value.slice none 0 0))
                have zf2 := hL5.froz 2
                have z6 : (w5.setCell ⟨G, 2, none⟩ (.slice A5 ub.length q5)).heap.size = w5.heap.size := by simp [World.setCell]
                have HL7 := Lib.hid (BlkIs.new (w5.setCell ⟨G, 2, none⟩ (.slice A5 ub.length q5)) 43 #[.string sw, .int .i64 (n : Int), .slice A5 ub.length q5])
                have HR7 := Lib.hid (hR6.less ((Below.refl _ _).alloc (Nat.le_refl _) (.cells #[.string sw, .int .i64 (n : Int), .slice A5 ub.length q5] 43)) (Nat.le_refl _))
                have HU7 := Lib.hid (hU6.keep (KU.grown (grown_alloc (w5.setCell ⟨G, 2, none⟩ (.slice A5 ub.length q5)) (.cells #[.string sw, .int .i64 (n : Int), .slice A5 ub.length q5] 43)) (fun i e => by cases e)))
                have HB7 := Lib.hid (hB6.alloc (by rw [z6]; omega) (.cells #[.string sw, .int .i64 (n : Int), .slice A5 ub.length q5] 43))
                have HN7 : Hid (w1.heap.size ≤ ((w5.setCell ⟨G, 2, none⟩ (.slice A5 ub.length q5)).alloc (.cells #[.string sw, .int .i64 (n : Int), .slice A5 ub.length q5] 43)).heap.size) := Lib.hid (by simp; omega)
                rw [z6] at HL7
                have HG7 := Lib.hid (And.intro ((HL7.out.cell 0).trans (rfl : _ = some (Value.string sw))) (And.intro ((HL7.out.cell 1).trans (rfl : _ = some (Value.int .i64 (n : Int)))) ((HL7.out.cell 2).trans (rfl : _ = some (Value.slice A5 ub.length q5)))))
                clear ho5 hb5 hL4 hL5 hL6 hR5 hR6 hU5 hU6 hB6 z6 HL7
                have hol : out.length + 1 ≤ 1000000000 := by omega
                go_wp2_with (first
                  | (refine lappR (.tmp 81) (.tmp 83) rfl rfl (wo, (n : Int), ub) rfl HR7.out rfl HG7.out.1 HG7.out.2.1 HG7.out.2.2 ⟨HSW.out.symm, rfl, rfl⟩ hq5 hm5 hA5 HU7.out hol HN7.out ?_; intro v8 w8 hr8 hb8; have HR8 := Lib.hid hr8; have HB8 := Lib.hid (HB7.out.trans hb8); clear hr8 hb8)
                  | fail)
                go_roundw
                case rel => exact ⟨j, _, rfl, HST2.out, HR8.out, HB8.out⟩
                case measure => simp [intOf]; omega
              · have e10 : (((body.getD (body.length - 1) 0).toNat : Int) == 10) = false := by
                  rw [show (((body.getD (body.length - 1) 0).toNat : Int) == 10) = (body.getD (body.length - 1) 0 == 10) from eq_byte _ 10]
                  simpa using h10
                have hne : (((body.getD (body.length - 1) 0).toNat : Int) != 10) = true := by rw [bne, e10]; rfl
                have HP : Hid (parseS b = none) := Lib.hid (par_none (HI.out.bad2 HK.out HJ.out HEND.out HF.out (suf_not (.inr h10))))
                clear h10
                generalize body.getD (body.length - 1) 0 = lb at *
                generalize body.length = bl at *
                go_wp2_with fail
                refine bodyPost_ret (results_tmp2 rfl _ _ _) rfl ?_
                exact ⟨HBX.out, .inr ⟨HP.out, rfl⟩⟩
      · have HP : Hid (parseS b = none) := Lib.hid (par_none (HI.out.bad1 HK.out (by rw [HXE.out]; exact hf)))
        have HB3 := Lib.hid (HB1.out.trans ((HBE.out.trans ((hb2.alloc hb2.size (.cells #[.string s, .int .i64 v, .slice none 0 0] 43)).mono hsz)).mono hs1))
        clear hf hb2 HFI
        go_wp2_with fail
        refine bodyPost_ret (results_tmp2 rfl _ _ _) rfl ?_
        exact ⟨HB3.out, .inr ⟨HP.out, rfl⟩⟩
    · have hkm : ¬ (k : Int) < (lc : Int) := by omega
      have hraw := HI.out.fin (by rw [HLN.out]; omega)
      have HPS2 := Lib.hid (par_some hraw HI.out.sm)
      have htot := HI.out.tot
      have hcnt := HI.out.cnt
      rw [HBN.out] at htot
      have HX := Lib.hid (rexport_any HRW.out.ls out.length co rfl (by omega) HI.out.sm (by omega) (HGL.out wr (HB1.out.trans (HBE.out.mono hs1))))
      clear hraw htot hcnt HI
      have HOL : Hid (out.length = out.length) := Lib.hid rfl
      go_wp2_with fail
      refine HX.out.mono ?_
      rintro e w2 ⟨hb2, ⟨hok, v2, rfl, ho2⟩ | ⟨hok, rfl⟩⟩
      · have HB2 := Lib.hid (HB1.out.trans ((HBE.out.trans (hb2.mono hsz)).mono hs1))
        have HR2 := Lib.hid ((HRW.out.less hb2 (Nat.le_refl _)).down hs1)
        have hq1 := fun q => HST.out (w2.drewN q) (HB2.out.trans (drewN_below w2 w.heap.size q))
        obtain ⟨A2, c2, rfl, _, _⟩ := own_slice ho2
        have hq2 := fun q => conv_str ((Own5.bts ho2).below (drewN_below w2 w2.heap.size q)) c2
        have hq1' := HST.out w2 HB2.out
        have hq2' := conv_str (Own5.bts ho2) c2
        have hse : ((str (fileS out)).toList == (str b).toList) = (fileS out == b) := by
          rw [Go.Lib.toList_data, Go.Lib.toList_data, show (str (fileS out)).data.toList = fileS out by simp [str], show (str b).data.toList = b by simp [str]]
        rw [export_ok hok] at HPS2
        clear hb2 ho2 hok HRW HBE HX HOL HB1 HR1 HGL HPS
        by_cases hfb : fileS out = b
        · have HP : Hid (parseS b = some out) := Lib.hid (by rw [HPS2.out, if_pos (by rw [hfb])])
          have hs : ((str (fileS out)).toList == (str b).toList) = true := by rw [hse]; simpa using hfb
          have hs2 : ((str (fileS out)).toList != (str b).toList) = false := by rw [bne, hs]; rfl
          have hs3 : (str (fileS out)).toList = (str b).toList := by simpa using hs
          clear hse hfb HPS2
          generalize str (fileS out) = s1 at *
          generalize str b = s2 at *
          generalize (fileS out).length = fl at *
          go_wp2_with fail
          refine bodyPost_ret (results_tmp2 rfl _ _ _) rfl ?_
          exact ⟨HB2.out, .inl ⟨out, _, HP.out, rfl, HR2.out⟩⟩
        · have HP : Hid (parseS b = none) := Lib.hid (by rw [HPS2.out, if_neg (by intro e; injection e with e; exact hfb e)])
          have hs : ((str (fileS out)).toList == (str b).toList) = false := by rw [hse]; simpa using hfb
          have hs2 : ((str (fileS out)).toList != (str b).toList) = true := by rw [bne, hs]; rfl
          have hs3 : ¬ (str (fileS out)).toList = (str b).toList := by simpa using hs
          clear hse hfb HPS2
          generalize str (fileS out) = s1 at *
          generalize str b = s2 at *
          generalize (fileS out).length = fl at *
          go_wp2_with fail
          refine bodyPost_ret (results_tmp2 rfl _ _ _) rfl ?_
          exact ⟨HB2.out, .inr ⟨HP.out, rfl⟩⟩
      · have HB2 := Lib.hid (HB1.out.trans ((HBE.out.trans (hb2.mono hsz)).mono hs1))
        have HP : Hid (parseS b = none) := Lib.hid (by rw [HPS2.out, export_no hok, if_neg (by intro e; cases e)])
        clear hb2 hok HRW HBE HX HPS2
        go_wp2_with fail
        refine bodyPost_ret (results_tmp2 rfl _ _ _) rfl ?_
        exact ⟨HB2.out, .inr ⟨HP.out, rfl⟩⟩
end Mb
end Go.Proofs.YtamekflgidfnfaaGreatDoor
