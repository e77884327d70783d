/- mbox's reader: upTo, from, at. Conditions: as stated at each. -/
import Derived.Test.YtamekflgidfnfaaGreatDoorMbExport
import Derived.Laws.IdiomStrings
namespace Go.Proofs.YtamekflgidfnfaaGreatDoor
set_option maxRecDepth 100000
namespace Mb
open Go.RowKit Go Go.Proofs.YtamekflgidfnfaaGreatDoor.Pa
/-- block g of W holds these bytes first, and they may be written. -/
def Byt (W : World) (g : Nat) (l : List UInt8) : Prop := ∃ C fr, W.heap[g]? = some (.cells C 5 fr) ∧ (∀ j, j < l.length → C[j]? = some (.int .u8 ((l.getD j 0).toNat : Int))) ∧ l.length ≤ fr.1
theorem Byt.lt {W : World} {g : Nat} {l : List UInt8} (h : Byt W g l) : g < W.heap.size := by
  obtain ⟨C, fr, h1, _⟩ := h
  exact (Array.getElem?_eq_some_iff.1 h1).1
theorem Byt.cell {W : World} {g : Nat} {l : List UInt8} (h : Byt W g l) {j : Nat} (hj : j < l.length) : W.cell? ⟨g, j, none⟩ = some (.int .u8 ((l.getD j 0).toNat : Int)) := by
  obtain ⟨C, fr, h1, h2, _⟩ := h
  rw [cell_of_row W g j C _ fr h1]
  exact h2 j hj
theorem Byt.froz {W : World} {g : Nat} {l : List UInt8} (h : Byt W g l) {j : Nat} (hj : j < l.length) : W.frozen? ⟨g, j, none⟩ = false := by
  obtain ⟨C, fr, h1, h2, h3⟩ := h
  have : ¬ fr.1 ≤ j := by omega
  simp [World.frozen?, h1, this]
theorem Byt.bts {W : World} {g : Nat} {l : List UInt8} (h : Byt W g l) : Bts W W.heap.size (some ⟨g, 0, none⟩) l := fun j u hj => by
  have hlt : j < l.length := by
    have := (List.getElem?_eq_some_iff.1 hj).1
    rwa [bv_length] at this
  rw [bv_get l j hlt] at hj
  injection hj with hj
  subst hj
  refine ⟨_, rfl, h.lt, ?_⟩
  have := h.cell hlt
  rwa [show (⟨g, 0, none⟩ : Addr).add j = ⟨g, j, none⟩ by simp [Addr.add]; rintro rfl; rfl]
/-- a text made bytes. -/
theorem run_byt (l : List UInt8) (w : World) : ∃ c w', (convert 9 22 (.string (str l))).run Tryz.prog w = .ok (.slice (some ⟨w.heap.size, 0, none⟩) l.length c) w' ∧ Byt w' w.heap.size l ∧ Below w.heap.size w w' := by
  have hrun := run_bytes_of_string (P := Tryz.prog) w 9 22 5 (str l) Tryz.underlying9 Tryz.underlying22 Tryz.underlying5
  rw [show (str l).size = l.length from str_size l] at hrun
  refine ⟨_, _, hrun, ⟨_, _, heap_alloc_new _ _, fun j hj => ?_, ?_⟩, ((Below.refl _ w).drew).alloc (Nat.le_refl _) _⟩
  · have hj' : j < (str l).data.size := by simpa [str] using hj
    rw [bytesRow_at _ _ j hj']
    simp [str, List.getD, hj]
  · simp [bytesRow, str]
/-- the reader at R: the letters' value, and what is left. -/
def Rd (w : World) (N R : Nat) (lv : Value) (l : L) : Prop :=
  ∃ A c, BlkIs w R 45 #[lv, .slice A l.length c] ∧ Bts w N A l ∧ l.length ≤ c ∧ c ≤ maxLen ∧ (A = none → c = 0)
theorem Rd.tn {p : Nat → Prop} {w w' : World} {N R : Nat} {lv : Value} {l : L} (h : Rd w N R lv l) (k : Tn p w w') (hp : ¬ p R) (hN : N ≤ w.heap.size) (hpN : ∀ i, i < N → ¬ p i) : Rd w' N R lv l := by
  obtain ⟨A, c, h1, h2, h3⟩ := h
  exact ⟨A, c, h1.tn k hp, h2.below (k.below hN hpN), h3⟩
theorem Rd.lt {w : World} {N R : Nat} {lv : Value} {l : L} (h : Rd w N R lv l) : R < w.heap.size := by
  obtain ⟨A, c, h1, _⟩ := h
  exact h1.lt
set_option maxHeartbeats 800000 in
theorem upto_any {w : World} {N R : Nat} {lv : Value} {l : L} (h : Rd w N R lv l) (hNR : N ≤ R) (c : UInt8) (hl : l.length ≤ 1000000) :
    Calls Tryz.prog 64 #[.pointer (some ⟨R, 0, none⟩), .string (str [c])] w fun e w' => Tn (fun k => k = R) w w' ∧
      ((c ∈ l ∧ e = .returned (.string (str (Pa.ahead c l))) ∧ Rd w' N R lv (Pa.behind c l)) ∨ (c ∉ l ∧ e = bad 100)) := by
  have hRlt := h.lt
  obtain ⟨A, cp, hR, hb, hlc, hcm, hA⟩ := h
  obtain ⟨d, w1, hcs, hby, hb1⟩ := run_byt [c] w
  have x1 := (hR.cell 1).trans (rfl : _ = some (Value.slice A l.length cp))
  have hNw : N ≤ w.heap.size := by omega
  have HC := Lib.hid (cut_any c (hb.below (hb1.mono hNw)) cp w.heap.size d hlc hA hl (hby.cell (j := 0) (by simp)))
  have hR1 : BlkIs w1 R 45 #[lv, .slice A l.length cp] := (hb1.block _ hRlt).trans hR
  have HR1 := Lib.hid hR1
  have HB := Lib.hid hb
  have HB1 := Lib.hid hb1
  have HL := Lib.hid (Pa.take_ahead (c := c) (l := l))
  have HAL := Lib.hid (Pa.ahead_len c l)
  clear hR hb hby hb1 hR1
  rw [show [c].length = 1 from rfl] at hcs
  generalize str [c] = sep at *
  generalize hn : l.length = n at *
  have HN := Lib.hid hn
  clear hn
  go_enter Tryz.func64, Tryz.ntmps64
  go_wp2_with fail
  refine HC.out.mono ?_
  rintro e w2 ⟨⟨q, rfl⟩, ⟨hm, A2, c2, rfl, hb2, hc2, hc2m, hA2⟩ | ⟨hm, rfl⟩⟩
  · have HX := Lib.hid (And.intro (hb2.below (drewN_below w1 N q)) (And.intro hc2 (And.intro hc2m hA2)))
    have hR2 : BlkIs (w1.drewN q) R 45 #[lv, .slice A n cp] := HR1.out
    have HT2 : Hid (Tn (fun k => k = R) w (w1.drewN q)) := Lib.hid (Tn.of_below (HB1.out.trans (drewN_below w1 _ q)))
    have HBA : Hid (∀ X, Below N w X → Bts X N A (Pa.ahead c l)) := Lib.hid fun X hX => by
      have := (HB.out.below hX).take (Pa.ahead c l).length
      rwa [(HL.out hm).1] at this
    have y0 := (hR2.cell 0).trans (rfl : _ = some lv)
    have y1 := (hR2.cell 1).trans (rfl : _ = some (Value.slice A n cp))
    have yf := hR2.froz 1
    have HR2 := Lib.hid hR2
    have HM := Lib.hid hm
    clear hb2 hc2 hc2m hA2 hR2 HC HB hm
    generalize w1.drewN q = w2 at *
    have HT3 : Hid (Tn (fun k => k = R) w (w2.setCell ⟨R, 1, none⟩ (.slice A2 (Pa.behind c l).length c2))) := Lib.hid (HT2.out.setCell (.inl rfl) _)
    have hbel3 : Below N w (w2.setCell ⟨R, 1, none⟩ (.slice A2 (Pa.behind c l).length c2)) := HT3.out.below hNw (fun i hi e => by omega)
    have hst := conv_str (HBA.out _ hbel3) cp
    have HF : Hid (Rd (w2.setCell ⟨R, 1, none⟩ (.slice A2 (Pa.behind c l).length c2)) N R lv (Pa.behind c l)) := Lib.hid (by
      refine ⟨A2, c2, HR2.out.put 1 _, ?_, HX.out.2.1, by have := HX.out.2.2.1; omega, HX.out.2.2.2⟩
      exact HX.out.1.below ((Below.refl N w2).setCell hNR _))
    clear hbel3 HBA HX
    generalize (Pa.behind c l).length = nb at *
    generalize (Pa.ahead c l).length = na at *
    go_wp2_with (first
      | (go_at_call 59; refine (need_ok _).mono ?_; rintro e w' ⟨rfl, rfl⟩)
      | fail)
    go_ret
    exact ⟨HT3.out, .inl ⟨HM.out, rfl, HF.out⟩⟩
  · have HT2 : Hid (Tn (fun k => k = R) w (w1.drewN q)) := Lib.hid (Tn.of_below (HB1.out.trans (drewN_below w1 _ q)))
    have HM := Lib.hid hm
    clear HC HB hm
    generalize w1.drewN q = w2 at *
    go_wp2_with (first
      | (go_at_call 59; refine (need_bad _).mono ?_; rintro e w' ⟨rfl, rfl⟩)
      | fail)
    exact ⟨rfl, HT2.out, .inr ⟨HM.out, rfl⟩⟩
theorem tn_2 {R K : Nat} {w w' : World} (h : Tn (fun k => k = R) w w') : Tn (fun k => k = R ∨ k = K) w w' := h.mono fun _ _ e => .inl e
/-- a letter's first line begins as it may, and who sent it. -/
def C1 (l : L) : Prop := mark l = true ∧ has 32 (l.drop 5) = true ∧ (Pa.ahead 32 (l.drop 5) = [45] ∨ mailS (Pa.ahead 32 (l.drop 5)) = true)
def b2 (l : L) : L := Pa.behind 32 (l.drop 5)
def FromQ (w : World) (N R K : Nat) (lv va vb : Value) (l : L) (e : Ending) (w' : World) : Prop :=
  Tn (fun k => k = R ∨ k = K) w w' ∧ ((C1 l ∧ e = .returned (.tuple #[]) ∧ Rd w' N R lv (b2 l) ∧ BlkIs w' K 43 #[.string (str (whom (Pa.ahead 32 (l.drop 5)))), va, vb]) ∨ (¬ C1 l ∧ e = bad 100))
set_option maxHeartbeats 1600000 in
theorem from_any {w : World} {N R K : Nat} {lv va vb : Value} {l : L} (h : Rd w N R lv l) (hK : BlkIs w K 43 #[.string ⟨#[]⟩, va, vb]) (hNR : N ≤ R) (hNK : N ≤ K) (hRK : R ≠ K) (hl : l.length ≤ 1000000) :
    Calls Tryz.prog 32 #[.pointer (some ⟨R, 0, none⟩), .pointer (some ⟨K, 0, none⟩)] w (FromQ w N R K lv va vb l) := by
  have hRlt := h.lt
  have hKlt := hK.lt
  have hNw : N ≤ w.heap.size := by omega
  obtain ⟨A, cp, hR, hb, hlc, hcm, hA⟩ := h
  have x1 := (hR.cell 1).trans (rfl : _ = some (Value.slice A l.length cp))
  have HM := Lib.hid (marked_any hb hNw cp hlc)
  have HR := Lib.hid hR
  have HKK := Lib.hid hK
  have HB := Lib.hid hb
  have HL := Lib.hid hl
  have HFIN : Hid (∀ X, Rd X N R lv (l.drop 5) → Calls Tryz.prog 64 #[.pointer (some ⟨R, 0, none⟩), .string (str [32])] X fun e w' => Tn (fun k => k = R) X w' ∧
      ((32 ∈ l.drop 5 ∧ e = .returned (.string (str (Pa.ahead 32 (l.drop 5)))) ∧ Rd w' N R lv (b2 l)) ∨ (32 ∉ l.drop 5 ∧ e = bad 100))) := Lib.hid fun X hX => upto_any hX hNR 32 (by rw [List.length_drop]; omega)
  clear hR hK hb
  go_enter Tryz.func32, Tryz.ntmps32
  go_wp2_with fail
  refine HM.out.mono ?_
  rintro e w1 ⟨rfl, hg1⟩
  have hT1 : Tn (fun k => k = R ∨ k = K) w w1 := (Tn.refl _ w).grown hg1 (fun g e => by cases e)
  have HT1 := Lib.hid hT1
  cases hmk : mark l with
  | false =>
    clear hT1 hg1 HM
    go_wp2_with (first
      | (go_at_call 59; refine (need_bad _).mono ?_; rintro e w' ⟨rfl, rfl⟩)
      | fail)
    exact ⟨rfl, HT1.out, .inr ⟨fun hc => absurd hc.1 (by rw [hmk]; decide), rfl⟩⟩
  | true =>
    have h5 : 5 ≤ l.length := by
      obtain ⟨r, e⟩ := (mark_iff l).1 hmk
      rw [e]
      simp
    obtain ⟨g, o, rfl, hg, _⟩ := bts_at_ HB.out (by omega)
    have hR1 : BlkIs w1 R 45 #[lv, .slice (some ⟨g, o, none⟩) l.length cp] := HR.out.grown hg1 (by simp)
    have hK1 : BlkIs w1 K 43 #[.string ⟨#[]⟩, va, vb] := HKK.out.grown hg1 (by simp)
    have y1 := (hR1.cell 1).trans (rfl : _ = some (Value.slice (some ⟨g, o, none⟩) l.length cp))
    have yf := hR1.froz 1
    have h5c : 5 ≤ cp := by omega
    have HR1 := Lib.hid hR1
    have HK1 := Lib.hid hK1
    have HBB := Lib.hid (hT1.below hNw (fun i hi e => by omega))
    have HMK := Lib.hid hmk
    by_cases hcp : cp = 5
    · subst hcp
      have hn5 : l.length = 5 := by omega
      have hd : l.drop 5 = [] := List.drop_eq_nil_of_le (by omega)
      rw [hn5] at *
      have hRd2 : Rd (w1.setCell ⟨R, 1, none⟩ (.slice (some ⟨g, o, none⟩) 0 0)) N R lv (l.drop 5) := by
        rw [hd]
        exact ⟨some ⟨g, o, none⟩, 0, HR1.out.put 1 _, Cs.nil, Nat.le_refl _, Nat.zero_le _, fun e => by cases e⟩
      have HT2 := Lib.hid (hT1.setCell (x := ⟨R, 1, none⟩) (.inl (.inl rfl)) (.slice (some ⟨g, o, none⟩) 0 0))
      have HU := Lib.hid (HFIN.out _ hRd2)
      have HD := Lib.hid hd
      clear hR1 hK1 hRd2 hT1 hg1 HM HFIN HB HR HKK hmk hd
      go_wp2_with (first
        | (go_at_call 59; refine (need_ok _).mono ?_; rintro e w' ⟨rfl, rfl⟩)
        | fail)
      refine HU.out.mono ?_
      rintro e w3 ⟨ht3, ⟨hm3, _⟩ | ⟨hm3, rfl⟩⟩
      · rw [HD.out] at hm3; cases hm3
      · refine ⟨rfl, HT2.out.trans (tn_2 ht3), .inr ⟨fun hc => hm3 (has_iff.1 hc.2.1), rfl⟩⟩
    · have t2 : Bts w N (some ⟨g, o + 5, none⟩) (l.drop 5) := by
        have h1 := HB.out.drop (k := 5) cp hlc
        rw [if_neg hcp] at h1
        have h2 : Option.map (fun x : Addr => x.add (5 * 1)) (some ⟨g, o, none⟩) = some ⟨g, o + 5, none⟩ := by simp [add_at]
        rw [h2] at h1
        exact h1
      have hl5 : (l.drop 5).length = l.length - 5 := List.length_drop
      have hRd2 : Rd (w1.setCell ⟨R, 1, none⟩ (.slice (some ⟨g, o + 5, none⟩) (l.length - 5) (cp - 5))) N R lv (l.drop 5) := by
        rw [← hl5]
        exact ⟨some ⟨g, o + 5, none⟩, cp - 5, HR1.out.put 1 _, t2.below (HBB.out.setCell hNR _), by omega, by omega, fun e => by cases e⟩
      have hK2 : BlkIs (w1.setCell ⟨R, 1, none⟩ (.slice (some ⟨g, o + 5, none⟩) (l.length - 5) (cp - 5))) K 43 #[.string ⟨#[]⟩, va, vb] := hK1.far (fun e => hRK e.symm) _
      have HT2 := Lib.hid (hT1.setCell (x := ⟨R, 1, none⟩) (.inl (.inl rfl)) (.slice (some ⟨g, o + 5, none⟩) (l.length - 5) (cp - 5)))
      have HU := Lib.hid (HFIN.out _ hRd2)
      have HK2 := Lib.hid hK2
      clear hR1 hK1 t2 hRd2 hK2 hT1 hg1 HM HFIN HB HR HKK hmk hl5
      generalize hn : l.length = n at *
      have HN := Lib.hid hn
      clear hn
      go_wp2_with (first
        | (go_at_call 59; refine (need_ok _).mono ?_; rintro e w' ⟨rfl, rfl⟩)
        | fail)
      generalize w1.setCell ⟨R, 1, none⟩ (.slice (some ⟨g, o + 5, none⟩) (n - 5) (cp - 5)) = w2 at *
      refine HU.out.mono ?_
      rintro e w3 ⟨ht3, ⟨hm3, rfl, hrd3⟩ | ⟨hm3, rfl⟩⟩
      · have hK3 : BlkIs w3 K 43 #[.string ⟨#[]⟩, va, vb] := HK2.out.tn ht3 (fun e => hRK e.symm)
        have HT3 := Lib.hid (HT2.out.trans (tn_2 ht3))
        have HRD := Lib.hid hrd3
        have HA := Lib.hid (has_iff.2 hm3)
        have HC : Hid (C1 l ↔ (Pa.ahead 32 (l.drop 5) = [45] ∨ mailS (Pa.ahead 32 (l.drop 5)) = true)) := Lib.hid ⟨fun hc => hc.2.2, fun hc => ⟨HMK.out, HA.out, hc⟩⟩
        have hal := Pa.ahead_len 32 (l.drop 5)
        rw [List.length_drop, HN.out] at hal
        have HMB := Lib.hid (fun X => mailbox_any (Pa.ahead 32 (l.drop 5)) (by omega) X)
        have hse : ((str (Pa.ahead 32 (l.drop 5))).toList == [45]) = (Pa.ahead 32 (l.drop 5) == [45]) := by
          rw [Go.Lib.toList_data]
          rfl
        have HWH : Hid (Pa.ahead 32 (l.drop 5) ≠ [45] → whom (Pa.ahead 32 (l.drop 5)) = Pa.ahead 32 (l.drop 5)) := Lib.hid fun e => by unfold whom; rw [if_neg e]
        have HFR : Hid (∀ (f : L), f = Pa.ahead 32 (l.drop 5) → f = Pa.ahead 32 (l.drop 5)) := Lib.hid fun _ e => e
        clear ht3 hrd3 hm3 HU HK2 hal
        generalize hf : Pa.ahead 32 (l.drop 5) = f at *
        have HF := Lib.hid hf
        clear hf HFR
        by_cases h45 : f = [45]
        · subst h45
          rw [show (([45] : L) == [45]) = true from rfl] at hse
          have HK3 := Lib.hid hK3
          clear hK3
          go_wp2_with fail
          go_end0
          refine ⟨HT3.out, .inl ⟨HC.out.2 (by simp), rfl, HRD.out, ?_⟩⟩
          rw [HF.out]
          exact HK3.out
        · have h45b : (f == [45]) = false := by simpa using h45
          rw [h45b] at hse
          have HN45 := Lib.hid h45
          generalize hsf : str f = sf at *
          have HSF := Lib.hid hsf
          clear h45 h45b hsf
          go_wp2_with fail
          refine (HMB.out _).mono ?_
          rintro e w4 ⟨rfl, hb4⟩
          have hK4 : BlkIs w4 K 43 #[.string ⟨#[]⟩, va, vb] := (hb4.block _ hK3.lt).trans hK3
          have HT4 := Lib.hid (HT3.out.trans (Tn.of_below hb4))
          cases hmb : mailS f with
          | false =>
            have HNC : Hid (¬ C1 l) := Lib.hid fun hc => by
              rcases HC.out.1 hc with e | e
              · exact HN45.out e
              · rw [hmb] at e; cases e
            clear hK3 hb4 hK4
            go_wp2_with (first
              | (go_at_call 59; refine (need_bad _).mono ?_; rintro e w' ⟨rfl, rfl⟩)
              | fail)
            exact ⟨rfl, HT4.out, .inr ⟨HNC.out, rfl⟩⟩
          | true =>
            have HCC := Lib.hid (HC.out.2 (.inr hmb))
            have hN3 := HT3.out.size
            have HRD4 : Hid (Rd w4 N R lv (b2 l)) := Lib.hid (HRD.out.tn (p := fun _ => False) (Tn.of_below hb4) (fun e => e) (by omega) (fun _ _ e => e))
            have y0 := (hK4.cell 0).trans (rfl : _ = some (Value.string ⟨#[]⟩))
            have yf4 := hK4.froz 0
            have HK5 := Lib.hid (hK4.put 0 (.string sf))
            have HT5 := Lib.hid (HT4.out.setCell (x := ⟨K, 0, none⟩) (.inl (.inr rfl)) (.string sf))
            have HRD5 : Hid (Rd (w4.setCell ⟨K, 0, none⟩ (.string sf)) N R lv (b2 l)) := Lib.hid (HRD4.out.tn (p := fun k => k = K) ((Tn.refl (fun k => k = K) w4).setCell (x := ⟨K, 0, none⟩) (.inl rfl) _) hRK (by have := hb4.size; omega) (fun i hi e => by omega))
            clear hK3 hb4 hK4
            go_wp2_with (first
              | (go_at_call 59; refine (need_ok _).mono ?_; rintro e w' ⟨rfl, rfl⟩)
              | fail)
            go_end0
            refine ⟨HT5.out, .inl ⟨HCC.out, rfl, HRD5.out, ?_⟩⟩
            rw [HF.out, HWH.out HN45.out, HSF.out]
            exact HK5.out
      · refine ⟨rfl, HT2.out.trans (tn_2 ht3), .inr ⟨fun hc => hm3 (has_iff.1 hc.2.1), rfl⟩⟩
end Mb
end Go.Proofs.YtamekflgidfnfaaGreatDoor
