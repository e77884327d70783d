/- mbox's reader: at. Conditions: as stated at each. -/
import Derived.Test.YtamekflgidfnfaaGreatDoorMbRead
namespace Go.Proofs.YtamekflgidfnfaaGreatDoor
set_option maxRecDepth 100000
namespace Mb
open Go.RowKit Go Go.Proofs.YtamekflgidfnfaaGreatDoor.Pa
/-- the error variables hold errors, or none. -/
def GlE (w : World) : Prop := (∃ ev, w.cell? ⟨2, 0, none⟩ = some ev ∧ (ev = .nilIface ∨ ∃ te pe, ev = .iface te pe)) ∧ ∃ ev, w.cell? ⟨3, 0, none⟩ = some ev ∧ (ev = .nilIface ∨ ∃ te pe, ev = .iface te pe)
theorem GlE.lt {w : World} (h : GlE w) : 2 < w.heap.size ∧ 3 < w.heap.size := by
  obtain ⟨⟨e1, h1, _⟩, e2, h2, _⟩ := h
  exact ⟨World.block_lt_of_cell? w ⟨_, 0, none⟩ h1, World.block_lt_of_cell? w ⟨_, 0, none⟩ h2⟩
theorem GlE.below {w w' : World} {B : Nat} (h : GlE w) (hb : Below B w w') (hB : 2 < B ∧ 3 < B) : GlE w' := by
  obtain ⟨⟨e1, h1, h1'⟩, e2, h2, h2'⟩ := h
  exact ⟨⟨e1, (hb.cell (p := ⟨_, 0, none⟩) hB.1).trans h1, h1'⟩, e2, (hb.cell (p := ⟨_, 0, none⟩) hB.2).trans h2, h2'⟩
theorem parse_int (ds : L) (hl : ds.length ≤ 1000000) (w : World) (hE : GlE w) :
    Calls Tryz.prog 65 #[.string (str ds), .int .i64 10, .int .i64 64] w fun e w' => Below w.heap.size w w' ∧
      ((∃ v, Lib.parseIntB 64 ds = .ok v ∧ e = .returned (.tuple #[.int .i64 v, .nilIface])) ∨ ((∀ v, Lib.parseIntB 64 ds ≠ .ok v) ∧ ∃ v M, e = .returned (.tuple #[.int .i64 v, .iface 139 (.pointer (some ⟨M, 0, none⟩))]))) := by
  have hz : (str ds).size ≤ 1000000 := by rw [str_size]; exact hl
  have hd : (str ds).data.toList = ds := by simp [str]
  obtain ⟨⟨e1, h1, h1'⟩, e2, h2, h2'⟩ := hE
  cases hp : Lib.parseIntB 64 ds with
  | ok v =>
    refine (Tryz.strconv_ParseInt_10_at64_ok (str ds) (by omega) v (by rw [hd]; exact hp) w).mono ?_
    rintro e w' ⟨rfl, hw⟩
    refine ⟨?_, .inl ⟨v, rfl, rfl⟩⟩
    rcases hw with rfl | ⟨t, rfl⟩
    · exact Below.refl _ _
    · exact Lib.bytesWorld_below _ _ _
  | range =>
    refine (Tryz.strconv_ParseInt_10_at64_range (str ds) (by omega) (by rw [hd]; exact hp) e2 w h2 h2').mono ?_
    rintro e w' ⟨M, rfl, _, _, hb⟩
    exact ⟨hb, .inr ⟨(fun v h => nomatch h), _, M, rfl⟩⟩
  | _ =>
    refine (Tryz.strconv_ParseInt_10_at64_syntax (str ds) (by omega) (by rw [hd]; exact hp) e1 w h1 h1').mono ?_
    rintro e w' ⟨M, rfl, _, _, hb⟩
    exact ⟨hb, .inr ⟨(fun v h => nomatch h), _, M, rfl⟩⟩
def AtQ (w : World) (N R K : Nat) (lv vf vb : Value) (l : L) (e : Ending) (w' : World) : Prop :=
  Tn (fun k => k = R ∨ k = K) w w' ∧ ((has 10 l = true ∧ ∃ n, numS (Pa.ahead 10 l) = some n ∧ e = .returned (.tuple #[]) ∧ Rd w' N R lv (Pa.behind 10 l) ∧ BlkIs w' K 43 #[vf, .int .i64 (n : Int), vb]) ∨
    (¬ (has 10 l = true ∧ ∃ n, numS (Pa.ahead 10 l) = some n) ∧ e = bad 100))
set_option maxHeartbeats 1600000 in
theorem at_any {w : World} {N R K : Nat} {lv vf va vb : Value} {l : L} (h : Rd w N R lv l) (hK : BlkIs w K 43 #[vf, va, vb]) (hNR : N ≤ R) (hNK : N ≤ K) (hRK : R ≠ K) (hl : l.length ≤ 1000000) (hT : GlT w) (hE : GlE w)
    (hgN : 1 < N ∧ 2 < N ∧ 3 < N) :
    Calls Tryz.prog 33 #[.pointer (some ⟨R, 0, none⟩), .pointer (some ⟨K, 0, none⟩)] w (AtQ w N R K lv vf vb l) := by
  have hRlt := h.lt
  have hKlt := hK.lt
  have hNw : N ≤ w.heap.size := by omega
  have HU := Lib.hid (upto_any h hNR 10 hl)
  have hal := Pa.ahead_len 10 l
  have HKK := Lib.hid hK
  have HGB : Hid (∀ X, Below N w X → GlT X ∧ GlE X) := Lib.hid fun X hX => ⟨hT.below hX hgN.1, hE.below hX hgN.2⟩
  clear h hK
  go_enter Tryz.func33, Tryz.ntmps33
  go_wp2_with fail
  refine HU.out.mono ?_
  rintro e w1 ⟨ht1, ⟨hm, rfl, hrd⟩ | ⟨hm, rfl⟩⟩
  · have hK1 : BlkIs w1 K 43 #[vf, va, vb] := HKK.out.tn ht1 (fun e => hRK e.symm)
    have HT1 := Lib.hid (tn_2 (K := K) ht1)
    have HB1 := Lib.hid (ht1.below hNw (fun i hi e => by omega))
    have HRD := Lib.hid hrd
    have HH := Lib.hid (has_iff.2 hm)
    have HK1 := Lib.hid hK1
    have HPI := Lib.hid (parse_int (Pa.ahead 10 l) (by omega) w1 (HGB.out w1 HB1.out).2)
    have HNY := Lib.hid (fun v => num_yes (ds := Pa.ahead 10 l) (v := v))
    have HNN := Lib.hid (fun v => num_no (ds := Pa.ahead 10 l) (v := v))
    have HNB := Lib.hid (num_bad (ds := Pa.ahead 10 l))
    have HEQ := Lib.hid (fun v => str_inj (a := Lib.itoa v) (b := Pa.ahead 10 l))
    clear ht1 hrd hm hK1 HU HKK hal
    generalize hds : Pa.ahead 10 l = ds at *
    have HDS := Lib.hid hds
    clear hds
    generalize hsd : str ds = sd at *
    go_wp2_with fail
    refine HPI.out.mono ?_
    rintro e w2 ⟨hb2, ⟨v, hp, rfl⟩ | ⟨hp, v, M, rfl⟩⟩
    · have hN1 := HB1.out.size
      have HT2 := Lib.hid (HT1.out.trans (Tn.of_below hb2))
      have HB2 := Lib.hid (HB1.out.trans (hb2.mono (by omega)))
      have HK2 : Hid (BlkIs w2 K 43 #[vf, va, vb]) := Lib.hid ((hb2.block _ HK1.out.lt).trans HK1.out)
      have HRD2 : Hid (Rd w2 N R lv (Pa.behind 10 l)) := Lib.hid (HRD.out.tn (p := fun _ => False) (Tn.of_below hb2) (fun e => e) (by omega) (fun _ _ e => e))
      have HP := Lib.hid hp
      have hbd := Lib.parseIntB_bounds hp
      have hc63 : ((2 ^ (64 - 1) : Nat) : Int) = 9223372036854775808 := by decide
      rw [hc63] at hbd
      have heq : ∀ (w : World), (binOp .eql 93 .nilIface .nilIface).run Tryz.prog w = .ok (.bool true) w := fun _ => by kernel_rfl
      clear hb2 hp HPI HK1 HRD HT1 HB1 hc63
      by_cases h0 : 0 ≤ v
      · have HF := Lib.hid (format_any v w2 hbd.1 hbd.2 (HGB.out w2 HB2.out).1)
        clear hbd
        go_wp2_with fail
        refine HF.out.mono ?_
        rintro e w3 ⟨rfl, hb3⟩
        have hse : ((str (Lib.itoa v)).toList == sd.toList) = (Lib.itoa v == ds) := by
          rw [← hsd, Go.Lib.toList_data, Go.Lib.toList_data]
          rfl
        have hN2 := HB2.out.size
        have HT3 := Lib.hid (HT2.out.trans (Tn.of_below hb3))
        have HK3 : Hid (BlkIs w3 K 43 #[vf, va, vb]) := Lib.hid ((hb3.block _ HK2.out.lt).trans HK2.out)
        have HRD3 : Hid (Rd w3 N R lv (Pa.behind 10 l)) := Lib.hid (HRD2.out.tn (p := fun _ => False) (Tn.of_below hb3) (fun e => e) (by omega) (fun _ _ e => e))
        clear hb3 HT2 HB2 HK2 HRD2 hsd
        generalize str (Lib.itoa v) = si at *
        by_cases hq : Lib.itoa v = ds
        · have HNS := Lib.hid (HNY.out v HP.out h0 hq)
          rw [hq, beq_self_eq_true] at hse
          have y1 := (HK3.out.cell 1).trans (rfl : _ = some va)
          have yf := HK3.out.froz 1
          have HK4 := Lib.hid (HK3.out.put 1 (.int .i64 v))
          have HT4 := Lib.hid (HT3.out.setCell (x := ⟨K, 1, none⟩) (.inl (.inr rfl)) (.int .i64 v))
          have HRD4 : Hid (Rd (w3.setCell ⟨K, 1, none⟩ (.int .i64 v)) N R lv (Pa.behind 10 l)) := Lib.hid (HRD3.out.tn (p := fun k => k = K) ((Tn.refl (fun k => k = K) w3).setCell (x := ⟨K, 1, none⟩) (.inl rfl) _) hRK (by have := HT3.out.size; omega) (fun i hi e => by omega))
          have HVN : Hid (((v.toNat : Nat) : Int) = v) := Lib.hid (by omega)
          clear hq
          go_wp2_with (first
            | (go_at_call 59; refine (need_ok _).mono ?_; rintro e w' ⟨rfl, rfl⟩)
            | fail)
          go_end0
          refine ⟨HT4.out, .inl ⟨HH.out, v.toNat, by rw [HDS.out]; exact HNS.out, rfl, HRD4.out, ?_⟩⟩
          rw [HVN.out]
          exact HK4.out
        · have hqb : (Lib.itoa v == ds) = false := by simpa using hq
          rw [hqb] at hse
          have HNO : Hid (numS ds = none) := Lib.hid (HNN.out v HP.out (fun hc => hq hc.2))
          clear hq hqb
          go_wp2_with (first
            | (go_at_call 59; refine (need_bad _).mono ?_; rintro e w' ⟨rfl, rfl⟩)
            | fail)
          refine ⟨rfl, HT3.out, .inr ⟨fun ⟨_, n, hn⟩ => ?_, rfl⟩⟩
          rw [HDS.out, HNO.out] at hn
          cases hn
      · have HNO : Hid (numS ds = none) := Lib.hid (HNN.out v HP.out (fun hc => h0 hc.1))
        clear hbd
        go_wp2_with (first
          | (go_at_call 59; refine (need_bad _).mono ?_; rintro e w' ⟨rfl, rfl⟩)
          | fail)
        refine ⟨rfl, HT2.out, .inr ⟨fun ⟨_, n, hn⟩ => ?_, rfl⟩⟩
        rw [HDS.out, HNO.out] at hn
        cases hn
    · have HNO : Hid (numS ds = none) := Lib.hid (HNB.out hp)
      have HT2 := Lib.hid (HT1.out.trans (Tn.of_below hb2))
      have heq : ∀ (w : World), (binOp .eql 93 (.iface 139 (.pointer (some ⟨M, 0, none⟩))) .nilIface).run Tryz.prog w = .ok (.bool false) w := fun _ => by kernel_rfl
      clear hb2 hp HPI HK1 HRD HB1
      go_wp2_with (first
        | (go_at_call 59; refine (need_bad _).mono ?_; rintro e w' ⟨rfl, rfl⟩)
        | fail)
      refine ⟨rfl, HT2.out, .inr ⟨fun ⟨_, n, hn⟩ => ?_, rfl⟩⟩
      rw [HDS.out, HNO.out] at hn
      cases hn
  · exact ⟨rfl, tn_2 ht1, .inr ⟨fun hc => hm (has_iff.1 hc.1), rfl⟩⟩
end Mb
end Go.Proofs.YtamekflgidfnfaaGreatDoor
