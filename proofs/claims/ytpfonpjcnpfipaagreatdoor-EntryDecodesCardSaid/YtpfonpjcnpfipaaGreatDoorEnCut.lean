/- entry.cut, entry.Take. Conditions: as stated at each. -/
import Derived.Test.YtpfonpjcnpfipaaGreatDoorEnPut
namespace Go.Proofs.YtpfonpjcnpfipaaGreatDoor
set_option maxRecDepth 100000
namespace En
open Go.RowKit Go Go.Proofs.YtpfonpjcnpfipaaGreatDoor.Pa
attribute [local go_sem] Oper.semAt_some
/-- what bytes.Cut hands back at a byte, there or not. -/
theorem bcut_any {w : World} {B : Nat} {A : Option Addr} {l : L} (c : UInt8) (h : Bts w B A l) (cap g d : Nat) (hcap : l.length ≤ cap) (hA : A = none → cap = 0) (hl : l.length ≤ 1000000) (hg : w.cell? ⟨g, 0, none⟩ = some (.int .u8 (c.toNat : Int))) :
    Calls Tryz.prog 36 #[.slice A l.length cap, .slice (some ⟨g, 0, none⟩) 1 d] w fun e w' => (∃ q, w' = w.drewN q) ∧
      ∃ A2 c2 b, e = .returned (.tuple #[.slice A (Pa.ahead c l).length cap, .slice A2 (Pa.behind c l).length c2, .bool b]) ∧ Bts w B A2 (Pa.behind c l) ∧ (Pa.behind c l).length ≤ c2 ∧ c2 ≤ cap ∧ (A2 = none → c2 = 0) := by
  refine (cut_any c h cap g d hcap hA hl hg).mono ?_
  rintro e w' ⟨hq, ⟨_, A2, c2, h1, h2, h3, h4, h5⟩ | ⟨hn, h1⟩⟩
  · exact ⟨hq, A2, c2, true, h1, h2, h3, h4, h5⟩
  · obtain ⟨e1, e2⟩ := Pa.ahead_no hn
    refine ⟨hq, none, 0, false, ?_, ?_, ?_, Nat.zero_le _, fun _ => rfl⟩
    · rw [e1, e2, h1]; rfl
    · rw [e2]; exact Cs.nil
    · rw [e2]; simp
theorem bts_ahead {w : World} {B : Nat} {A : Option Addr} {l : L} (c : UInt8) (h : Bts w B A l) : Bts w B A (Pa.ahead c l) := by
  by_cases hm : c ∈ l
  · have := h.take (Pa.ahead c l).length
    rwa [(Pa.take_ahead hm).1] at this
  · rw [(Pa.ahead_no hm).1]; exact h
theorem behind_le (c : UInt8) (l : L) : (Pa.behind c l).length ≤ l.length := by
  by_cases hm : c ∈ l
  · have := Pa.behind_len hm; omega
  · rw [(Pa.ahead_no hm).2]; simp
def CutP (w : World) (B : Nat) (A : Option Addr) (l : L) (cap : Nat) (e : Ending) (w' : World) : Prop := Below w.heap.size w w' ∧
  ((takeS l = none ∧ e = .returned (.tuple #[.slice none 0 0, .slice A l.length cap, .bool false])) ∨
   ∃ p r, takeS l = some (p, r) ∧ ∃ A1 c1 A2 c2, e = .returned (.tuple #[.slice A1 p.length c1, .slice A2 r.length c2, .bool true]) ∧ Bts w B A1 p ∧ p.length ≤ c1 ∧ c1 ≤ cap ∧ (A1 = none → c1 = 0) ∧ Bts w B A2 r ∧ r.length ≤ c2 ∧ c2 ≤ cap ∧ (A2 = none → c2 = 0))
set_option maxHeartbeats 3200000 in
theorem ecut_any {w : World} {B : Nat} {A : Option Addr} {l : L} (h : Bts w B A l) (hB : B ≤ w.heap.size) (cap : Nat) (hcap : l.length ≤ cap) (hm : cap ≤ maxLen) (hA : A = none → cap = 0) (hl : l.length ≤ 1000000) (hG : GlT w) (hE : GlE w) :
    Calls Tryz.prog 22 #[.slice A l.length cap] w (CutP w B A l cap) := by
  have hcv := conv_const
  have hb0 : Below w.heap.size w (w.alloc (.cells #[.int .u8 58] 5 (1, 2))) := (Below.refl _ w).alloc (Nat.le_refl _) _
  have hbt0 := h.below (hb0.mono hB)
  have HC := Lib.hid (bcut_any 58 hbt0 cap w.heap.size 1 hcap hA hl ((cell_of_row _ w.heap.size 0 #[.int .u8 58] 5 (1, 2) (heap_alloc_new w _)).trans rfl))
  have HAH := Lib.hid (fun X (hX : Below B w X) => (conv_str (bts_ahead 58 (h.below hX)) cap))
  have HBT := Lib.hid h
  have hal := Pa.ahead_len 58 l
  have hbl := behind_le 58 l
  have HG := Lib.hid (fun X (hX : Below w.heap.size w X) => And.intro (hG.below hX hG.lt) (hE.below hX hE.lt))
  have HAT := Lib.hid (fun X (hX : Below w.heap.size w X) => atoi_any (Pa.ahead 58 l) (by omega) X (HG.out X hX).2)
  have HNB := Lib.hid (cut_bad (b := l))
  have HNO := Lib.hid (fun v => cut_out (b := l) (v := v))
  have HNE := Lib.hid (fun v => cut_else (b := l) (v := v))
  have HY := Lib.hid (fun v => cut_yes (b := l) (v := v))
  have HB0 := Lib.hid hb0
  have HPN : Hid (Bts w B A l → Below w.heap.size w w) := Lib.hid fun _ => Below.refl _ _
  clear hb0 hbt0 h hG hE
  unfold CutP
  have hln : Hid (l.length = l.length) := Lib.hid rfl
  generalize hahl : (Pa.ahead 58 l).length = al at *
  generalize hsa : str (Pa.ahead 58 l) = sa at *
  generalize Pa.behind 58 l = bh at *
  generalize Pa.ahead 58 l = ah at *
  generalize hll : l.length = ln at *
  generalize hbb : bh.length = bn at *
  generalize takeS l = tk at *
  have HLN := Lib.hid (And.intro hll hbb)
  clear hll hbb hahl hsa hln
  go_enter Tryz.func22, Tryz.ntmps22
  go_wp2_with fail
  refine HC.out.mono ?_
  rintro e w1 ⟨⟨q, rfl⟩, A2, c2, b, rfl, hbt2, hc2, hcc, hA2⟩
  have hB1 : Below w.heap.size w ((w.alloc (.cells #[.int .u8 58] 5 (1, 2))).drewN q) := HB0.out.trans (drewN_below _ _ _)
  have hbt2' := hbt2.below ((drewN_below _ _ q : Below B _ _))
  clear HC
  generalize (w.alloc (.cells #[.int .u8 58] 5 (1, 2))).drewN q = w1 at *
  have HB1 := Lib.hid hB1
  have HT2 := Lib.hid hbt2'
  have hcv1 := HAH.out w1 (hB1.mono hB)
  have HA1 := Lib.hid (HAT.out w1 hB1)
  clear hbt2 hbt2' hB1 HAT HAH
  go_wp2_with fail
  refine HA1.out.mono ?_
  rintro e w2 ⟨hb2, ⟨v, hv, rfl⟩ | ⟨hv, v, M, rfl⟩⟩
  · have HB2 := Lib.hid (HB1.out.trans (hb2.mono HB1.out.size))
    have HT3 := Lib.hid (HT2.out.below (hb2.mono (Nat.le_trans hB HB1.out.size)))
    clear hb2 HA1 HT2 HNB
    by_cases hv0 : v < 0
    · have HN := Lib.hid (HNO.out v hv (.inl hv0))
      go_wp2_with fail
      refine bodyPost_ret (results_tmp3 rfl _ _ _) rfl ?_
      exact ⟨HB2.out, .inl ⟨HN.out, rfl⟩⟩
    · by_cases hvb : (bn : Int) < v
      · have HN := Lib.hid (HNO.out v hv (.inr (.inr (by omega))))
        have hmm : ¬ (1000000 : Int) < bn := by omega
        go_wp2_with fail
        refine bodyPost_ret (results_tmp3 rfl _ _ _) rfl ?_
        exact ⟨HB2.out, .inl ⟨HN.out, rfl⟩⟩
      · obtain ⟨k, rfl⟩ := Int.eq_ofNat_of_zero_le (by omega : 0 ≤ v)
        have hmm : ¬ (1000000 : Int) < bn := by omega
        have hkb : k ≤ bn := by omega
        have HNE1 := Lib.hid (HNE.out k hv)
        have HY1 := Lib.hid (HY.out k (by omega) (by omega))
        rw [Int.toNat_natCast] at HNE1 HY1
        clear HNE HY HNO hv
        have htk : (bh.take k).length = k := by rw [List.length_take, HLN.out.2]; omega
        have HP0 := Lib.hid (HT3.out.take k)
        have HTK := Lib.hid htk
        generalize bh.take k = p at *
        have hrw := Rws.one (c := c2) HP0.out (Nat.le_trans hB HB2.out.size) (by omega) (by omega)
        rw [htk] at hrw
        have hb3 : Below w2.heap.size w2 (w2.alloc (.cells #[.slice A2 k c2] 22)) := (Below.refl _ w2).alloc (Nat.le_refl _) _
        have HB3 := Lib.hid (HB2.out.trans (hb3.mono HB2.out.size))
        have HPU := Lib.hid (put_any (hrw.more (by simp)) 1 1 rfl (by rw [put_one]; simp [partS]; have := dec_len2 (v := (p.length : Int)) (by omega) (by omega); rw [Int.toNat_natCast] at this; omega) (HG.out _ HB3.out).1)
        rw [put_one] at HPU
        clear hrw hb3 htk
        go_wp2_with fail
        refine HPU.out.mono ?_
        rintro e w4 ⟨v4, rfl, ho4, hb4⟩
        have HB4 := Lib.hid (HB3.out.trans (hb4.mono HB3.out.size))
        obtain ⟨A4, c4, rfl, _, _⟩ := own_slice ho4
        have HCP := Lib.hid (cutpre_any (HBT.out.below (HB4.out.mono hB)) ho4.bts cap c4 (by rw [HLN.out.1]; omega) hA)
        have hpl : (partS p).length ≤ 2000000 := by
          simp [partS]; have htk := HTK.out; have := dec_len2 (v := (p.length : Int)) (by omega) (by omega); rw [Int.toNat_natCast] at this; omega
        have HBK : Hid (∀ X, Bts w4 B X (l.drop (partS p).length) → Bts w B X (l.drop (partS p).length)) := Lib.hid fun X hX => Cs.keep hX fun a ha => (HB4.out.cell (p := a) (Nat.lt_of_lt_of_le ha hB)).symm
        have HPK : Hid (Bts w B A2 p) := Lib.hid (Cs.keep HP0.out fun a ha => (HB2.out.cell (p := a) (Nat.lt_of_lt_of_le ha hB)).symm)
        rw [HLN.out.1] at HCP
        clear ho4 hb4 HPU
        generalize hpp : (partS p).length = pl at *
        go_wp2_with fail
        refine HCP.out.mono ?_
        rintro e w5 ⟨rfl, ⟨hp, A5, c5, rfl, hbt5, hc5, hcc5, hA5⟩ | ⟨hp, rfl⟩⟩
        · have HYY := Lib.hid (HY1.out hp)
          have HT5 := Lib.hid (HBK.out _ hbt5)
          clear hbt5 HCP
          generalize hdl : l.drop pl = r at *
          generalize hrl : r.length = rn at *
          have HRL := Lib.hid hrl
          clear hrl
          go_wp2_with fail
          refine bodyPost_ret (results_tmp3 rfl _ _ _) rfl ?_
          refine ⟨HB4.out, .inr ⟨p, r, HYY.out, A2, c2, A5, c5, ?_, HPK.out, by rw [HTK.out]; omega, hcc, hA2, HT5.out, by rw [HRL.out]; exact hc5, hcc5, hA5⟩⟩
          rw [HTK.out, HRL.out]
          rfl
        · have HN := Lib.hid (HNE1.out hp)
          clear HCP
          go_wp2_with fail
          refine bodyPost_ret (results_tmp3 rfl _ _ _) rfl ?_
          exact ⟨HB4.out, .inl ⟨HN.out, rfl⟩⟩
  · have HN := Lib.hid (HNB.out hv)
    have HB2 := Lib.hid (HB1.out.trans (hb2.mono HB1.out.size))
    clear hb2 HA1 hv
    go_wp2_with fail
    refine bodyPost_ret (results_tmp3 rfl _ _ _) rfl ?_
    exact ⟨HB2.out, .inl ⟨HN.out, rfl⟩⟩
def TakeP (w : World) (l : L) (e : Ending) (w' : World) : Prop := Below w.heap.size w w' ∧
  ((takeS l = none ∧ ∃ v, e = .returned (.tuple #[.slice none 0 0, v, .bool false]) ∧ Own5 w' w.heap.size v l) ∨
   ∃ p r, takeS l = some (p, r) ∧ ∃ v1 v2, e = .returned (.tuple #[v1, v2, .bool true]) ∧ Own5 w' w.heap.size v1 p ∧ Own5 w' w.heap.size v2 r)
end En
end Go.Proofs.YtpfonpjcnpfipaaGreatDoor
