/- EnCut MbLet MbRaw. Conditions: as stated at each. -/
import Derived.Test.YteapnkedpmcokaaGreatDoorRm21
import Derived.Test.YteapnkedpmcokaaGreatDoorRm06
/- entry.cut, entry.Take. Conditions: as stated at each. -/
namespace Go.Proofs.YteapnkedpmcokaaGreatDoor
set_option maxRecDepth 100000
namespace En
open Go.RowKit Go Go.Proofs.YteapnkedpmcokaaGreatDoor.Pa
attribute [local go_sem] Oper.semAt_some
/-- what bytes.Cut hands back at a byte, there or not. -/
theorem bcut_any {w : World} {B : Nat} {A : Option Addr} {l : L} (c : UInt8) (h : Bts w B A l) (cap g d : Nat) (hcap : l.length ≤ cap) (hA : A = none → cap = 0) (hl : l.length ≤ 1000000) (hg : w.cell? ⟨g, 0, none⟩ = some (.int .u8 (c.toNat : Int))) :
    Calls Tryz.prog 177 #[.slice A l.length cap, .slice (some ⟨g, 0, none⟩) 1 d] w fun e w' => (∃ q, w' = w.drewN q) ∧
      ∃ A2 c2 b, e = .returned (.tuple #[.slice A (Pa.ahead c l).length cap, .slice A2 (Pa.behind c l).length c2, .bool b]) ∧ Bts w B A2 (Pa.behind c l) ∧ (Pa.behind c l).length ≤ c2 ∧ c2 ≤ cap ∧ (A2 = none → c2 = 0) := by
  refine (cut_any c h cap g d hcap hA hl hg).mono ?_
  rintro e w' ⟨hq, ⟨_, A2, c2, h1, h2, h3, h4, h5⟩ | ⟨hn, h1⟩⟩
  · exact ⟨hq, A2, c2, true, h1, h2, h3, h4, h5⟩
  · obtain ⟨e1, e2⟩ := Pa.ahead_no hn
    refine ⟨hq, none, 0, false, ?_, ?_, ?_, Nat.zero_le _, fun _ => rfl⟩
    · rw [e1, e2, h1]; rfl
    · rw [e2]; exact Cs.nil
    · rw [e2]; simp
theorem bts_ahead {w : World} {B : Nat} {A : Option Addr} {l : L} (c : UInt8) (h : Bts w B A l) : Bts w B A (Pa.ahead c l) := by
  by_cases hm : c ∈ l
  · have := h.take (Pa.ahead c l).length
    rwa [(Pa.take_ahead hm).1] at this
  · rw [(Pa.ahead_no hm).1]; exact h
theorem behind_le (c : UInt8) (l : L) : (Pa.behind c l).length ≤ l.length := by
  by_cases hm : c ∈ l
  · have := Pa.behind_len hm; omega
  · rw [(Pa.ahead_no hm).2]; simp
def CutP (w : World) (B : Nat) (A : Option Addr) (l : L) (cap : Nat) (e : Ending) (w' : World) : Prop := Below w.heap.size w w' ∧
  ((takeS l = none ∧ e = .returned (.tuple #[.slice none 0 0, .slice A l.length cap, .bool false])) ∨
   ∃ p r, takeS l = some (p, r) ∧ ∃ A1 c1 A2 c2, e = .returned (.tuple #[.slice A1 p.length c1, .slice A2 r.length c2, .bool true]) ∧ Bts w B A1 p ∧ p.length ≤ c1 ∧ c1 ≤ cap ∧ (A1 = none → c1 = 0) ∧ Bts w B A2 r ∧ r.length ≤ c2 ∧ c2 ≤ cap ∧ (A2 = none → c2 = 0))
set_option maxHeartbeats 3200000 in
theorem ecut_or {w : World} {B : Nat} {A : Option Addr} {l : L} (h : Bts w B A l) (hB : B ≤ w.heap.size) (cap : Nat) (hcap : l.length ≤ cap) (hm : cap ≤ maxLen) (hA : A = none → cap = 0) (hl : l.length ≤ 1000000) (hG : GlT w) (hE : GlO w (Pa.ahead 58 l)) :
    Calls Tryz.prog 171 #[.slice A l.length cap] w (CutP w B A l cap) := by
  have hcv := conv_const
  have hb0 : Below w.heap.size w (w.alloc (.cells #[.int .u8 58] 5 (1, 2))) := (Below.refl _ w).alloc (Nat.le_refl _) _
  have hbt0 := h.below (hb0.mono hB)
  have HC := Lib.hid (bcut_any 58 hbt0 cap w.heap.size 1 hcap hA hl ((cell_of_row _ w.heap.size 0 #[.int .u8 58] 5 (1, 2) (heap_alloc_new w _)).trans rfl))
  have HAH := Lib.hid (fun X (hX : Below B w X) => (conv_str (bts_ahead 58 (h.below hX)) cap))
  have HBT := Lib.hid h
  have hal := Pa.ahead_len 58 l
  have hbl := behind_le 58 l
  have HG := Lib.hid (fun X (hX : Below w.heap.size w X) => And.intro (hG.below hX hG.lt) (hE.kept hX))
  have HAT := Lib.hid (fun X (hX : Below w.heap.size w X) => atoi_or (Pa.ahead 58 l) (by omega) X (HG.out X hX).2)
  have HNB := Lib.hid (cut_bad (b := l))
  have HNO := Lib.hid (fun v => cut_out (b := l) (v := v))
  have HNE := Lib.hid (fun v => cut_else (b := l) (v := v))
  have HY := Lib.hid (fun v => cut_yes (b := l) (v := v))
  have HB0 := Lib.hid hb0
  have HPN : Hid (Bts w B A l → Below w.heap.size w w) := Lib.hid fun _ => Below.refl _ _
  clear hb0 hbt0 h hG hE
  unfold CutP
  have hln : Hid (l.length = l.length) := Lib.hid rfl
  generalize hahl : (Pa.ahead 58 l).length = al at *
  generalize hsa : str (Pa.ahead 58 l) = sa at *
  generalize Pa.behind 58 l = bh at *
  generalize Pa.ahead 58 l = ah at *
  generalize hll : l.length = ln at *
  generalize hbb : bh.length = bn at *
  generalize takeS l = tk at *
  have HLN := Lib.hid (And.intro hll hbb)
  clear hll hbb hahl hsa hln
  go_enter Tryz.func171, Tryz.ntmps171
  go_wp2_with fail
  refine HC.out.mono ?_
  rintro e w1 ⟨⟨q, rfl⟩, A2, c2, b, rfl, hbt2, hc2, hcc, hA2⟩
  have hB1 : Below w.heap.size w ((w.alloc (.cells #[.int .u8 58] 5 (1, 2))).drewN q) := HB0.out.trans (drewN_below _ _ _)
  have hbt2' := hbt2.below ((drewN_below _ _ q : Below B _ _))
  clear HC
  generalize (w.alloc (.cells #[.int .u8 58] 5 (1, 2))).drewN q = w1 at *
  have HB1 := Lib.hid hB1
  have HT2 := Lib.hid hbt2'
  have hcv1 := HAH.out w1 (hB1.mono hB)
  have HA1 := Lib.hid (HAT.out w1 hB1)
  clear hbt2 hbt2' hB1 HAT HAH
  go_wp2_with fail
  refine HA1.out.mono ?_
  rintro e w2 ⟨hb2, ⟨v, hv, rfl⟩ | ⟨hv, v, M, rfl⟩⟩
  · have HB2 := Lib.hid (HB1.out.trans (hb2.mono HB1.out.size))
    have HT3 := Lib.hid (HT2.out.below (hb2.mono (Nat.le_trans hB HB1.out.size)))
    clear hb2 HA1 HT2 HNB
    by_cases hv0 : v < 0
    · have HN := Lib.hid (HNO.out v hv (.inl hv0))
      go_wp2_with fail
      refine bodyPost_ret (results_tmp3 rfl _ _ _) rfl ?_
      exact ⟨HB2.out, .inl ⟨HN.out, rfl⟩⟩
    · by_cases hvb : (bn : Int) < v
      · have HN := Lib.hid (HNO.out v hv (.inr (.inr (by omega))))
        have hmm : ¬ (1000000 : Int) < bn := by omega
        go_wp2_with fail
        refine bodyPost_ret (results_tmp3 rfl _ _ _) rfl ?_
        exact ⟨HB2.out, .inl ⟨HN.out, rfl⟩⟩
      · obtain ⟨k, rfl⟩ := Int.eq_ofNat_of_zero_le (by omega : 0 ≤ v)
        have hmm : ¬ (1000000 : Int) < bn := by omega
        have hkb : k ≤ bn := by omega
        have HNE1 := Lib.hid (HNE.out k hv)
        have HY1 := Lib.hid (HY.out k (by omega) (by omega))
        rw [Int.toNat_natCast] at HNE1 HY1
        clear HNE HY HNO hv
        have htk : (bh.take k).length = k := by rw [List.length_take, HLN.out.2]; omega
        have HP0 := Lib.hid (HT3.out.take k)
        have HTK := Lib.hid htk
        generalize bh.take k = p at *
        have hrw := Rws.one (c := c2) HP0.out (Nat.le_trans hB HB2.out.size) (by omega) (by omega)
        rw [htk] at hrw
        have hb3 : Below w2.heap.size w2 (w2.alloc (.cells #[.slice A2 k c2] 25)) := (Below.refl _ w2).alloc (Nat.le_refl _) _
        have HB3 := Lib.hid (HB2.out.trans (hb3.mono HB2.out.size))
        have HPU := Lib.hid (put_any (hrw.more (by simp)) 1 1 rfl (by rw [put_one]; simp [partS]; have := dec_len2 (v := (p.length : Int)) (by omega) (by omega); rw [Int.toNat_natCast] at this; omega) (HG.out _ HB3.out).1)
        rw [put_one] at HPU
        clear hrw hb3 htk
        go_wp2_with fail
        refine HPU.out.mono ?_
        rintro e w4 ⟨v4, rfl, ho4, hb4⟩
        have HB4 := Lib.hid (HB3.out.trans (hb4.mono HB3.out.size))
        obtain ⟨A4, c4, rfl, _, _⟩ := own_slice ho4
        have HCP := Lib.hid (cutpre_any (HBT.out.below (HB4.out.mono hB)) ho4.bts cap c4 (by rw [HLN.out.1]; omega) hA)
        have hpl : (partS p).length ≤ 2000000 := by
          simp [partS]; have htk := HTK.out; have := dec_len2 (v := (p.length : Int)) (by omega) (by omega); rw [Int.toNat_natCast] at this; omega
        have HBK : Hid (∀ X, Bts w4 B X (l.drop (partS p).length) → Bts w B X (l.drop (partS p).length)) := Lib.hid fun X hX => Cs.keep hX fun a ha => (HB4.out.cell (p := a) (Nat.lt_of_lt_of_le ha hB)).symm
        have HPK : Hid (Bts w B A2 p) := Lib.hid (Cs.keep HP0.out fun a ha => (HB2.out.cell (p := a) (Nat.lt_of_lt_of_le ha hB)).symm)
        rw [HLN.out.1] at HCP
        clear ho4 hb4 HPU
        generalize hpp : (partS p).length = pl at *
        go_wp2_with fail
        refine HCP.out.mono ?_
        rintro e w5 ⟨rfl, ⟨hp, A5, c5, rfl, hbt5, hc5, hcc5, hA5⟩ | ⟨hp, rfl⟩⟩
        · have HYY := Lib.hid (HY1.out hp)
          have HT5 := Lib.hid (HBK.out _ hbt5)
          clear hbt5 HCP
          generalize hdl : l.drop pl = r at *
          generalize hrl : r.length = rn at *
          have HRL := Lib.hid hrl
          clear hrl
          go_wp2_with fail
          refine bodyPost_ret (results_tmp3 rfl _ _ _) rfl ?_
          refine ⟨HB4.out, .inr ⟨p, r, HYY.out, A2, c2, A5, c5, ?_, HPK.out, by rw [HTK.out]; omega, hcc, hA2, HT5.out, by rw [HRL.out]; exact hc5, hcc5, hA5⟩⟩
          rw [HTK.out, HRL.out]
          rfl
        · have HN := Lib.hid (HNE1.out hp)
          clear HCP
          go_wp2_with fail
          refine bodyPost_ret (results_tmp3 rfl _ _ _) rfl ?_
          exact ⟨HB4.out, .inl ⟨HN.out, rfl⟩⟩
  · have HN := Lib.hid (HNB.out hv)
    have HB2 := Lib.hid (HB1.out.trans (hb2.mono HB1.out.size))
    clear hb2 HA1 hv
    go_wp2_with fail
    refine bodyPost_ret (results_tmp3 rfl _ _ _) rfl ?_
    exact ⟨HB2.out, .inl ⟨HN.out, rfl⟩⟩
theorem ecut_any {w : World} {B : Nat} {A : Option Addr} {l : L} (h : Bts w B A l) (hB : B ≤ w.heap.size) (cap : Nat) (hcap : l.length ≤ cap) (hm : cap ≤ maxLen) (hA : A = none → cap = 0) (hl : l.length ≤ 1000000) (hG : GlT w) (hE : GlE w) :
    Calls Tryz.prog 171 #[.slice A l.length cap] w (CutP w B A l cap) :=
  ecut_or h hB cap hcap hm hA hl hG (.inr hE)
def TakeP (w : World) (l : L) (e : Ending) (w' : World) : Prop := Below w.heap.size w w' ∧
  ((takeS l = none ∧ ∃ v, e = .returned (.tuple #[.slice none 0 0, v, .bool false]) ∧ Own5 w' w.heap.size v l) ∨
   ∃ p r, takeS l = some (p, r) ∧ ∃ v1 v2, e = .returned (.tuple #[v1, v2, .bool true]) ∧ Own5 w' w.heap.size v1 p ∧ Own5 w' w.heap.size v2 r)
set_option maxHeartbeats 1600000 in
theorem take_or {w : World} {B : Nat} {A : Option Addr} {l : L} (h : Bts w B A l) (hB : B ≤ w.heap.size) (cap : Nat) (hcap : l.length ≤ cap) (hm : cap ≤ maxLen) (hA : A = none → cap = 0) (hl : l.length ≤ 1000000) (hG : GlT w) (hE : GlO w (Pa.ahead 58 l)) :
    Calls Tryz.prog 168 #[.slice A l.length cap] w (TakeP w l) := by
  have hC := ecut_or h hB cap hcap hm hA hl hG hE
  unfold CutP at hC
  have HC := Lib.hid hC
  clear hC
  have HCL := Lib.hid (fun (X : World) (A' : Option Addr) (m : L) (c : Nat) (hb : Bts X B A' m) (hm : m.length ≤ 1000000) => clone_any (w := X) hb c hm)
  have HL := Lib.hid h
  have HLE : Hid (∀ p r, takeS l = some (p, r) → p.length ≤ 1000000 ∧ r.length ≤ 1000000) := Lib.hid fun p r e => by
    have h1 := take_iff.1 e
    have h2 := take_less e
    exact ⟨h1.2, by omega⟩
  have HLL := Lib.hid hl
  clear h hG hE hl
  unfold TakeP
  generalize hll : l.length = ln at *
  have HLN := Lib.hid hll
  clear hll
  generalize takeS l = tk at *
  go_enter Tryz.func168, Tryz.ntmps168
  go_wp2_with fail
  refine HC.out.mono ?_
  rintro e w1 ⟨hb1, ⟨hn, rfl⟩ | ⟨p, r, hs, A1, c1, A2, c2, rfl, hp, _, _, _, hr, _, _, _⟩⟩
  · have HB1 := Lib.hid hb1
    have H1 := Lib.hid (Tryz.bytes_Clone_nil 0 0 w1)
    have H2 : Hid (∀ X, Below w1.heap.size w1 X → Calls Tryz.prog 172 #[.slice A ln cap] X fun e w' => ∃ v, e = .returned v ∧ Own5 w' X.heap.size v l ∧ Below X.heap.size X w') := Lib.hid fun X hX => by
      have := HCL.out X A l cap (HL.out.below ((hb1.mono hB).trans (hX.mono (Nat.le_trans hB hb1.size)))) (by rw [HLN.out]; exact HLL.out)
      rwa [HLN.out] at this
    have hN := hb1.size
    clear hb1 HC
    go_wp2_with fail
    refine H1.out.mono ?_
    rintro e w2 ⟨rfl, rfl⟩
    have H3 := Lib.hid (H2.out w2 (Below.refl _ _))
    have HB2 := HB1
    have hN2 := hN
    clear H2 H1
    go_wp2_with fail
    refine H3.out.mono ?_
    rintro e w3 ⟨v2, rfl, ho2, hb3⟩
    have HO2 := Lib.hid ho2
    have HB3 := Lib.hid (HB2.out.trans (hb3.mono HB2.out.size))
    clear ho2 hb3 H3
    go_wp2_with fail
    refine bodyPost_ret (results_tmp3 rfl _ _ _) rfl ?_
    exact ⟨HB3.out, .inl ⟨hn, v2, rfl, own_more HO2.out (by omega)⟩⟩
  · have HB1 := Lib.hid hb1
    obtain ⟨hpl, hrl⟩ := HLE.out p r hs
    have H1 := Lib.hid (HCL.out w1 A1 p c1 (hp.below (hb1.mono hB)) hpl)
    have H2 : Hid (∀ X, Below w1.heap.size w1 X → Calls Tryz.prog 172 #[.slice A2 r.length c2] X fun e w' => ∃ v, e = .returned v ∧ Own5 w' X.heap.size v r ∧ Below X.heap.size X w') := Lib.hid fun X hX => HCL.out X A2 r c2 (hr.below ((hb1.mono hB).trans (hX.mono (Nat.le_trans hB hb1.size)))) hrl
    have hN := hb1.size
    clear hb1 HC hp hr
    generalize p.length = pn at *
    generalize r.length = rn at *
    go_wp2_with fail
    refine H1.out.mono ?_
    rintro e w2 ⟨v1, rfl, ho1, hb2⟩
    have HO1 := Lib.hid ho1
    have H3 := Lib.hid (H2.out w2 hb2)
    have HB2 := Lib.hid (HB1.out.trans (hb2.mono hN))
    have hN2 := hb2.size
    clear hb2 ho1 H2 H1
    go_wp2_with fail
    refine H3.out.mono ?_
    rintro e w3 ⟨v2, rfl, ho2, hb3⟩
    have HO2 := Lib.hid ho2
    have HO3 := Lib.hid (own_kept HO1.out hb3 (Nat.le_refl _))
    have HB3 := Lib.hid (HB2.out.trans (hb3.mono HB2.out.size))
    clear ho2 hb3 H3
    go_wp2_with fail
    refine bodyPost_ret (results_tmp3 rfl _ _ _) rfl ?_
    exact ⟨HB3.out, .inr ⟨p, r, hs, v1, v2, rfl, own_more HO3.out (by omega), own_more HO2.out (by omega)⟩⟩
theorem take_any {w : World} {B : Nat} {A : Option Addr} {l : L} (h : Bts w B A l) (hB : B ≤ w.heap.size) (cap : Nat) (hcap : l.length ≤ cap) (hm : cap ≤ maxLen) (hA : A = none → cap = 0) (hl : l.length ≤ 1000000) (hG : GlT w) (hE : GlE w) :
    Calls Tryz.prog 168 #[.slice A l.length cap] w (TakeP w l) :=
  take_or h hB cap hcap hm hA hl hG (.inr hE)

end En
end Go.Proofs.YteapnkedpmcokaaGreatDoor
/- Letters as plain data, written into a mailbox file and read out of it; that both ways agree. Conditions: none. -/
namespace Go.Proofs.YteapnkedpmcokaaGreatDoor
set_option maxRecDepth 100000
namespace Mb
open Go.Proofs.YteapnkedpmcokaaGreatDoor.Pa
/-- who sent it, when, its body. -/
abbrev Lt : Type := L × Int × L
def okL (x : Lt) : Bool := (x.1.isEmpty || mailS x.1) && (decide (0 ≤ x.2.1) && wholeB x.2.2)
def who (f : L) : L := if f.isEmpty then [45] else f
def whom (f : L) : L := if f = [45] then [] else f
def expS (x : Lt) : L := mkL ++ (who x.1 ++ 32 :: (Lib.itoa x.2.1 ++ 10 :: (quoteS x.2.2 ++ [10])))
def fileS (ls : List Lt) : L := ls.flatMap expS
def exportS (ls : List Lt) : Option L := if ls.all okL then some (fileS ls) else none
theorem export_ok {ls : List Lt} (h : ls.all okL = true) : exportS ls = some (fileS ls) := by rw [exportS, if_pos h]
theorem export_no {ls : List Lt} (h : ls.all okL = false) : exportS ls = none := by rw [exportS, if_neg (by rw [h]; decide)]
theorem export_some {ls : List Lt} {b : L} (h : exportS ls = some b) : ls.all okL = true ∧ fileS ls = b := by
  unfold exportS at h
  split at h
  · rename_i h'
    injection h with h
    exact ⟨h', h⟩
  · cases h
/-- a mailbox holds no byte that may not stand in an atom, but points and at signs. -/
theorem mail_no {l : L} (h : mailS l = true) {c : UInt8} (h1 : c ≠ 46) (h2 : c ≠ 64) (h3 : atB c = false) : c ∉ l := by
  intro hc
  have h4 : labB c = false := by
    unfold atB at h3
    exact (Bool.or_eq_false_iff.1 h3).1
  unfold mailS at h
  rw [Bool.and_eq_true, Bool.and_eq_true] at h
  have ha : ∀ p ∈ parts (loc l), c ∉ p := fun p hp hm => by
    have := List.all_eq_true.1 h.1.2 p hp
    unfold atS at this
    rw [Bool.and_eq_true] at this
    have := List.all_eq_true.1 this.1 c hm
    rw [h3] at this
    cases this
  have hb : ∀ p ∈ parts (dom l), c ∉ p := fun p hp hm => by
    have hd := h.2
    unfold domS at hd
    rw [Bool.and_eq_true] at hd
    have := List.all_eq_true.1 hd.2 p hp
    unfold labS at this
    simp only [Bool.and_eq_true] at this
    have := List.all_eq_true.1 this.1.1.1.1 c hm
    rw [h4] at this
    cases this
  have hl : c ∉ loc l := fun hm => by
    obtain ⟨p, hp, hm⟩ := mem_parts h1 hm
    exact ha p hp hm
  have hd : c ∉ dom l := fun hm => by
    obtain ⟨p, hp, hm⟩ := mem_parts h1 hm
    exact hb p hp hm
  rcases last_cases l with ⟨hn, _⟩ | ⟨a, b, rfl, hn, _⟩
  · rw [(loc_no hn).1] at hl
    exact hl hc
  · rw [(loc_at hn).1] at hl
    rw [(loc_at hn).2] at hd
    rcases List.mem_append.1 hc with h' | h'
    · exact hl h'
    · rcases List.mem_cons.1 h' with h' | h'
      · exact h2 h'
      · exact hd h'
theorem mail_32 {l : L} (h : mailS l = true) : (32 : UInt8) ∉ l := mail_no h (by decide) (by decide) (by decide)
theorem mail_10 {l : L} (h : mailS l = true) : (10 : UInt8) ∉ l := mail_no h (by decide) (by decide) (by decide)
theorem mail_at {l : L} (h : mailS l = true) : (64 : UInt8) ∈ l := by
  by_cases hc : (64 : UInt8) ∈ l
  · exact hc
  · unfold mailS at h
    rw [(loc_no hc).2, domS_nil, Bool.and_false] at h
    cases h
theorem mail_dash : mailS [45] = false := by
  rw [Bool.eq_false_iff]
  intro h
  have := mail_at h
  simp at this
theorem mail_nil : mailS [] = false := by
  rw [Bool.eq_false_iff]
  intro h
  have := mail_at h
  simp at this
theorem mail_ne {l : L} (h : mailS l = true) : l ≠ [] ∧ l ≠ [45] := ⟨fun e => absurd h (by rw [e, mail_nil]; decide), fun e => absurd h (by rw [e, mail_dash]; decide)⟩
theorem who_cases {f : L} (h : (f.isEmpty || mailS f) = true) : (f = [] ∧ who f = [45]) ∨ (mailS f = true ∧ who f = f ∧ f ≠ [45]) := by
  rw [Bool.or_eq_true] at h
  rcases h with h | h
  · have : f = [] := List.isEmpty_iff.1 h
    subst this
    exact .inl ⟨rfl, rfl⟩
  · refine .inr ⟨h, ?_, (mail_ne h).2⟩
    unfold who
    rw [if_neg]
    intro e
    exact (mail_ne h).1 (List.isEmpty_iff.1 e)
theorem who_whom {f : L} (h : (f.isEmpty || mailS f) = true) : whom (who f) = f ∧ (who f = [45] ∨ mailS (who f) = true) ∧ (32 : UInt8) ∉ who f ∧ (10 : UInt8) ∉ who f := by
  rcases who_cases h with ⟨rfl, e⟩ | ⟨h1, e, h2⟩
  · rw [e]; exact ⟨rfl, .inl rfl, by decide, by decide⟩
  · rw [e]
    refine ⟨?_, .inr h1, mail_32 h1, mail_10 h1⟩
    unfold whom
    rw [if_neg h2]
theorem whom_who {f : L} (h : f = [45] ∨ mailS f = true) : who (whom f) = f ∧ ((whom f).isEmpty || mailS (whom f)) = true := by
  rcases h with rfl | h
  · exact ⟨rfl, rfl⟩
  · have hw : whom f = f := by unfold whom; rw [if_neg (mail_ne h).2]
    rw [hw]
    refine ⟨?_, by rw [h, Bool.or_true]⟩
    unfold who
    rw [if_neg]
    intro e
    exact (mail_ne h).1 (List.isEmpty_iff.1 e)
theorem itoa_10 {v : Int} (h : 0 ≤ v) : (10 : UInt8) ∉ Lib.itoa v := by
  rw [Lib.itoa, if_neg (by omega)]
  intro hm
  have := dec_dig _ _ hm
  unfold digB at this
  have : (10 : UInt8).toNat = 10 := rfl
  omega
/-- the lines up to the next letter. -/
def headL (b : L) : List L := (lns b).takeWhile (fun x => !mark x)
def tailL (b : L) : List L := (lns b).dropWhile (fun x => !mark x)
def bodyOf (b : L) : L := (headL b).flatten
def restOf (b : L) : L := (tailL b).flatten
theorem body_rest (b : L) : bodyOf b ++ restOf b = b := by
  unfold bodyOf restOf headL tailL
  rw [← List.flatten_append, List.takeWhile_append_dropWhile, lns_flat]
/-- one letter, and what is behind it. -/
def letS (b : L) : Option (Lt × L) :=
  if mark b = true ∧ has 32 (b.drop 5) = true ∧ (Pa.ahead 32 (b.drop 5) = [45] ∨ mailS (Pa.ahead 32 (b.drop 5)) = true) ∧ has 10 (Pa.behind 32 (b.drop 5)) = true then
    match numS (Pa.ahead 10 (Pa.behind 32 (b.drop 5))) with
    | none => none
    | some n =>
      if Go.Lib.hasSuffix (bodyOf (Pa.behind 10 (Pa.behind 32 (b.drop 5)))) [10] = true ∧ wholeB (bodyOf (Pa.behind 10 (Pa.behind 32 (b.drop 5)))).dropLast = true then
        some ((whom (Pa.ahead 32 (b.drop 5)), (n : Int), unquoteS (bodyOf (Pa.behind 10 (Pa.behind 32 (b.drop 5)))).dropLast), restOf (Pa.behind 10 (Pa.behind 32 (b.drop 5))))
      else none
  else none
theorem has_iff {c : UInt8} {l : L} : has c l = true ↔ c ∈ l := by unfold has; simp
/-- what a letter's text looks like, taken apart. -/
theorem let_parts {b : L} {x : Lt} {r : L} (h : letS b = some (x, r)) : ∃ w ds q, b = mkL ++ (w ++ 32 :: (ds ++ 10 :: (q ++ 10 :: r))) ∧ (w = [45] ∨ mailS w = true) ∧ numS ds = some x.2.1.toNat ∧ 0 ≤ x.2.1 ∧ wholeB q = true ∧ x.1 = whom w ∧ x.2.2 = unquoteS q ∧ (32 : UInt8) ∉ w ∧ (10 : UInt8) ∉ ds ∧
    q ++ [10] = bodyOf (q ++ 10 :: r) ∧ r = restOf (q ++ 10 :: r) := by
  unfold letS at h
  split at h
  · rename_i hc
    obtain ⟨h1, h2, h3, h4⟩ := hc
    obtain ⟨b1, rfl⟩ : ∃ b1, b = mkL ++ b1 := by
      obtain ⟨b1, e⟩ := (mark_iff b).1 h1
      exact ⟨b1, e⟩
    have hd : (mkL ++ b1).drop 5 = b1 := rfl
    rw [hd] at h h2 h3 h4
    obtain ⟨e2, n2⟩ := cut_at (has_iff.1 h2)
    generalize Pa.ahead 32 b1 = w at *
    generalize Pa.behind 32 b1 = b2 at *
    subst e2
    obtain ⟨e3, n3⟩ := cut_at (has_iff.1 h4)
    generalize Pa.ahead 10 b2 = ds at *
    generalize Pa.behind 10 b2 = b3 at *
    subst e3
    split at h
    · cases h
    · rename_i n hn
      split at h
      · rename_i hq
        injection h with h
        injection h with hx hr
        obtain ⟨t, ht⟩ := (suf_iff _).1 hq.1
        have hbr := body_rest b3
        rw [ht, List.dropLast_concat] at hq
        rw [ht, List.dropLast_concat] at hx
        rw [ht, hr] at hbr
        have hbr' : t ++ 10 :: r = b3 := by rw [← hbr]; simp
        subst hx
        refine ⟨w, ds, t, by rw [hbr'], h3, by simpa using hn, by simp, hq.2, rfl, rfl, n2, n3, by rw [hbr', ht], by rw [hbr', hr]⟩
      · cases h
  · cases h
theorem head_no (b : L) : ∀ x ∈ headL b, mark x = false := fun x hx => by
  have := List.all_eq_true.1 (List.all_takeWhile (l := lns b) (p := fun x => !mark x)) x hx
  simpa using this
theorem lns_take (b : L) : ∀ k, lns ((lns b).take k).flatten = (lns b).take k := by
  refine lines_ind (P := fun b => ∀ k, lns ((lns b).take k).flatten = (lns b).take k) (fun k => by simp [lns]) (fun s h h' k => ?_) (fun s r h ih k => ?_) b
  · rw [lns_last h h']
    cases k with
    | zero => rfl
    | succ k =>
      rw [show [s].take (k + 1) = [s] by simp, show [s].flatten = s by simp]
      exact lns_last h h'
  · rw [lns_end h]
    cases k with
    | zero => rfl
    | succ k => rw [List.take_succ_cons, List.flatten_cons, show s ++ [10] ++ ((lns r).take k).flatten = s ++ 10 :: ((lns r).take k).flatten by simp, lns_end h, ih k]
theorem lns_drop (b : L) : ∀ k, lns ((lns b).drop k).flatten = (lns b).drop k := by
  refine lines_ind (P := fun b => ∀ k, lns ((lns b).drop k).flatten = (lns b).drop k) (fun k => by simp [lns]) (fun s h h' k => ?_) (fun s r h ih k => ?_) b
  · cases k with
    | zero => rw [List.drop_zero, lns_flat]
    | succ k =>
      rw [lns_last h h', show [s].drop (k + 1) = [] by simp]
      rfl
  · cases k with
    | zero => rw [List.drop_zero, lns_flat]
    | succ k => rw [lns_end h, List.drop_succ_cons, ih k]
theorem lns_body (b : L) : lns (bodyOf b) = headL b := by
  have : headL b = (lns b).take (headL b).length := List.prefix_iff_eq_take.1 (List.takeWhile_prefix _)
  unfold bodyOf
  rw [this]
  exact lns_take b _
theorem lns_rest (b : L) : lns (restOf b) = tailL b := by
  have : tailL b = (lns b).drop ((lns b).length - (tailL b).length) := List.suffix_iff_eq_drop.1 (List.dropWhile_suffix _)
  unfold restOf
  rw [this]
  exact lns_drop b _
theorem rest_mark (b : L) : restOf b = [] ∨ mark (restOf b) = true := by
  have h := lns_rest b
  cases ht : tailL b with
  | nil => left; unfold restOf; rw [ht]; rfl
  | cons x t =>
    right
    rw [ht] at h
    rw [mark_first h]
    have hx := List.head_dropWhile_not (p := fun x => !mark x) (l := lns b)
    unfold tailL at ht
    have := hx (by rw [ht]; simp)
    simpa [ht] using this
theorem let_inv {b : L} {x : Lt} {r : L} (h : letS b = some (x, r)) : b = expS x ++ r ∧ okL x = true ∧ (r = [] ∨ mark r = true) := by
  obtain ⟨w, ds, q, hb, hw, hn, h0, hq, hf, hB, _, _, hbody, hrest⟩ := let_parts h
  obtain ⟨f, v, B⟩ := x
  simp only at hn h0 hf hB
  obtain ⟨hw1, hw2⟩ := whom_who hw
  have hun : ∀ y ∈ lns q, mark y = false := fun y hy => by
    have := lns_body (q ++ 10 :: r)
    rw [← hbody, lns_app hq] at this
    exact head_no _ y (by rw [← this]; exact List.mem_append_left _ hy)
  have hds : Lib.itoa v = ds := by
    rw [(numS_some hn).1, Lib.itoa, if_neg (by omega)]
  refine ⟨?_, ?_, ?_⟩
  · rw [hb]
    unfold expS
    simp only
    rw [hf, hw1, hds, hB, quote_unquote hun]
    simp
  · unfold okL
    simp only
    rw [hf, hw2, hB, whole_unquote hq, decide_eq_true h0]
    rfl
  · rw [hrest]; exact rest_mark _
theorem body_exp {q r : L} (hq : wholeB q = true) (hm : ∀ x ∈ lns q, mark x = false) (hr : r = [] ∨ mark r = true) : bodyOf (q ++ 10 :: r) = q ++ [10] ∧ restOf (q ++ 10 :: r) = r := by
  have hl : lns (q ++ 10 :: r) = (lns q ++ [[10]]) ++ lns r := by
    rw [lns_app hq]
    have : lns (10 :: r) = [10] :: lns r := lns_end (s := []) (by simp) r
    rw [this]; simp
  have hr' : (lns r).takeWhile (fun x => !mark x) = [] ∧ (lns r).dropWhile (fun x => !mark x) = lns r := by
    rcases hr with rfl | hr
    · exact ⟨rfl, rfl⟩
    · obtain ⟨x, t, e, hx⟩ := lns_mark hr
      rw [e, List.takeWhile_cons, List.dropWhile_cons]
      simp [hx]
  have ha : ∀ x ∈ lns q ++ [[10]], (fun x => !mark x) x = true := fun x hx => by
    rcases List.mem_append.1 hx with h | h
    · simp [hm x h]
    · rw [List.mem_singleton.1 h]; decide
  unfold bodyOf restOf headL tailL
  rw [hl, List.takeWhile_append_of_pos ha, List.dropWhile_append_of_pos ha, hr'.1, hr'.2, lns_flat]
  refine ⟨?_, rfl⟩
  simp [lns_flat]
theorem let_exp {x : Lt} (h : okL x = true) {r : L} (hr : r = [] ∨ mark r = true) (hv : x.2.1 < 9223372036854775808) : letS (expS x ++ r) = some (x, r) := by
  obtain ⟨f, v, B⟩ := x
  unfold okL at h
  simp only [Bool.and_eq_true, decide_eq_true_eq] at h hv
  obtain ⟨h1, h2, h3⟩ := h
  obtain ⟨w1, w2, w3, w4⟩ := who_whom h1
  have hi := itoa_10 h2
  have he : expS (f, v, B) ++ r = 70 :: 114 :: 111 :: 109 :: 32 :: (who f ++ 32 :: (Lib.itoa v ++ 10 :: (quoteS B ++ 10 :: r))) := by
    unfold expS mkL
    simp
  rw [he]
  unfold letS
  have hd : (70 :: 114 :: 111 :: 109 :: 32 :: (who f ++ 32 :: (Lib.itoa v ++ 10 :: (quoteS B ++ 10 :: r)))).drop 5 = who f ++ 32 :: (Lib.itoa v ++ 10 :: (quoteS B ++ 10 :: r)) := rfl
  obtain ⟨b1, b2⟩ := body_exp (whole_quote h3) (quote_marks B) hr
  rw [hd, (ahead_at w3).1, (ahead_at w3).2, (ahead_at hi).1, (ahead_at hi).2, b1, b2]
  have hn : numS (Lib.itoa v) = some v.toNat := by
    rw [Lib.itoa, if_neg (by omega)]
    exact numS_dec (by omega)
  rw [if_pos ⟨(mark_iff _).2 ⟨_, rfl⟩, has_iff.2 (by simp), w2, has_iff.2 (by simp)⟩, hn]
  simp only
  have hv0 : ((v.toNat : Nat) : Int) = v := by omega
  rw [List.dropLast_concat, if_pos ⟨(suf_iff _).2 ⟨_, rfl⟩, whole_quote h3⟩, w1, unquote_quote, hv0]
/-- all letters. -/
def parseF : Nat → L → Option (List Lt)
  | _, [] => some []
  | 0, _ :: _ => none
  | k + 1, c :: b => match letS (c :: b) with
    | none => none
    | some (x, r) => (parseF k r).map (x :: ·)
theorem let_len {b : L} {x : Lt} {r : L} (h : letS b = some (x, r)) : r.length < b.length := by
  rw [(let_inv h).1]
  unfold expS mkL
  simp
  omega
theorem parseF_enough : ∀ (k k' : Nat) (b : L), b.length ≤ k → b.length ≤ k' → parseF k b = parseF k' b
  | 0, 0, _, _, _ => rfl
  | 0, k' + 1, [], _, _ => rfl
  | k + 1, 0, [], _, _ => rfl
  | k + 1, k' + 1, [], _, _ => rfl
  | 0, k' + 1, c :: b, h, _ => by simp at h
  | k + 1, 0, c :: b, _, h => by simp at h
  | k + 1, k' + 1, c :: b, h, h' => by
    unfold parseF
    cases hl : letS (c :: b) with
    | none => rfl
    | some p =>
      obtain ⟨x, r⟩ := p
      have := let_len hl
      simp only
      rw [parseF_enough k k' r (by omega) (by omega)]
def parseS (b : L) : Option (List Lt) := parseF b.length b
theorem parse_nil : parseS [] = some [] := rfl
theorem let_nil : letS [] = none := by
  cases h : letS [] with
  | none => rfl
  | some p => have := let_len h; simp at this
theorem parse_none {b : L} (hb : b ≠ []) (h : letS b = none) : parseS b = none := by
  cases b with
  | nil => exact absurd rfl hb
  | cons c b =>
    unfold parseS
    rw [List.length_cons, parseF, h]
theorem parse_some {b : L} {x : Lt} {r : L} (h : letS b = some (x, r)) : parseS b = (parseS r).map (x :: ·) := by
  have hl := let_len h
  cases b with
  | nil => rw [let_nil] at h; cases h
  | cons c b =>
    unfold parseS
    rw [List.length_cons, parseF, h]
    simp only
    rw [parseF_enough b.length r.length r (by simp at hl; omega) (Nat.le_refl _)]
theorem parse_exp : ∀ (n : Nat) (b : L) (ls : List Lt), b.length ≤ n → parseS b = some ls → ls.all okL = true ∧ fileS ls = b ∧ ls.length ≤ b.length
  | _, [], ls, _, h => by
    rw [parse_nil] at h
    injection h with h
    rw [← h]
    exact ⟨rfl, rfl, Nat.le_refl _⟩
  | 0, c :: b, ls, hl, _ => by simp at hl
  | n + 1, c :: b, ls, hl, h => by
    cases hx : letS (c :: b) with
    | none => rw [parse_none (by simp) hx] at h; cases h
    | some p =>
      obtain ⟨x, r⟩ := p
      rw [parse_some hx] at h
      cases hr : parseS r with
      | none => rw [hr] at h; cases h
      | some ms =>
        rw [hr] at h
        injection h with h
        have hlen := let_len hx
        obtain ⟨i1, i2, i3⟩ := parse_exp n r ms (by omega) hr
        obtain ⟨e, ho, _⟩ := let_inv hx
        rw [← h]
        refine ⟨by rw [List.all_cons, ho, i1]; rfl, ?_, by rw [List.length_cons]; omega⟩
        rw [e, fileS, List.flatMap_cons]
        rw [← i2]
        rfl
theorem file_mark (ls : List Lt) : fileS ls = [] ∨ mark (fileS ls) = true := by
  cases ls with
  | nil => exact .inl rfl
  | cons x ls =>
    right
    rw [fileS, List.flatMap_cons, mark_iff]
    exact ⟨who x.1 ++ 32 :: (Lib.itoa x.2.1 ++ 10 :: (quoteS x.2.2 ++ [10])) ++ ls.flatMap expS, rfl⟩
theorem exp_parse : ∀ {ls : List Lt}, ls.all okL = true → (∀ x ∈ ls, x.2.1 < 9223372036854775808) → parseS (fileS ls) = some ls
  | [], _, _ => rfl
  | x :: ls, h, hv => by
    rw [List.all_cons, Bool.and_eq_true] at h
    have := let_exp h.1 (file_mark ls) (hv x (by simp))
    have e : fileS (x :: ls) = expS x ++ fileS ls := List.flatMap_cons
    rw [e, parse_some this, exp_parse h.2 (fun y hy => hv y (List.mem_cons_of_mem _ hy))]
    rfl
/-- the document's reading, line by line. -/
def firstS (f : L) : Option (L × Nat) :=
  if mark f = true ∧ Go.Lib.hasSuffix f [10] = true ∧ has 32 (f.drop 5).dropLast = true ∧ (Pa.ahead 32 (f.drop 5).dropLast = [45] ∨ mailS (Pa.ahead 32 (f.drop 5).dropLast) = true) then
    (numS (Pa.behind 32 (f.drop 5).dropLast)).map fun n => (whom (Pa.ahead 32 (f.drop 5).dropLast), n)
  else none
def tkL (ls : List L) : List L := ls.takeWhile (fun x => !mark x)
def dpL (ls : List L) : List L := ls.dropWhile (fun x => !mark x)
def rawF : Nat → List L → Option (List Lt)
  | _, [] => some []
  | 0, _ :: _ => none
  | k + 1, f :: t => match firstS f with
    | none => none
    | some (w, n) => if Go.Lib.hasSuffix (tkL t).flatten [10] = true then (rawF k (dpL t)).map ((w, (n : Int), unquoteS (tkL t).flatten.dropLast) :: ·) else none
theorem dp_len (t : List L) : (dpL t).length ≤ t.length := (List.dropWhile_sublist _).length_le
theorem rawF_enough : ∀ (k k' : Nat) (b : List L), b.length ≤ k → b.length ≤ k' → rawF k b = rawF k' b
  | 0, 0, _, _, _ => rfl
  | 0, k' + 1, [], _, _ => rfl
  | k + 1, 0, [], _, _ => rfl
  | k + 1, k' + 1, [], _, _ => rfl
  | 0, k' + 1, c :: b, h, _ => by simp at h
  | k + 1, 0, c :: b, _, h => by simp at h
  | k + 1, k' + 1, f :: t, h, h' => by
    unfold rawF
    have := dp_len t
    rw [List.length_cons] at h h'
    rw [rawF_enough k k' (dpL t) (by omega) (by omega)]
def rawS (ls : List L) : Option (List Lt) := rawF ls.length ls
theorem raw_nil : rawS [] = some [] := rfl
theorem raw_cons (f : L) (t : List L) : rawS (f :: t) = match firstS f with
    | none => none
    | some (w, n) => if Go.Lib.hasSuffix (tkL t).flatten [10] = true then (rawS (dpL t)).map ((w, (n : Int), unquoteS (tkL t).flatten.dropLast) :: ·) else none := by
  unfold rawS
  rw [List.length_cons, rawF, rawF_enough t.length (dpL t).length _ (dp_len t) (Nat.le_refl _)]
theorem raw_let {b : L} {x : Lt} {r : L} (h : letS b = some (x, r)) : rawS (lns b) = (rawS (lns r)).map (x :: ·) := by
  obtain ⟨w, ds, q, hb, hw, hn, h0, hq, hf, hB, n32, n10, hbody, hrest⟩ := let_parts h
  obtain ⟨f, v, B⟩ := x
  simp only at hn h0 hf hB
  have hw10 : (10 : UInt8) ∉ w := by
    rcases hw with rfl | hw
    · decide
    · exact mail_10 hw
  have hs : (10 : UInt8) ∉ mkL ++ (w ++ 32 :: ds) := by
    unfold mkL
    simp [hw10, n10]
  have hl : lns b = ((mkL ++ (w ++ 32 :: ds)) ++ [10]) :: lns (q ++ 10 :: r) := by
    rw [hb, show mkL ++ (w ++ 32 :: (ds ++ 10 :: (q ++ 10 :: r))) = (mkL ++ (w ++ 32 :: ds)) ++ 10 :: (q ++ 10 :: r) by simp]
    exact lns_end hs _
  have hd5 : List.drop 5 (mkL ++ (w ++ 32 :: ds) ++ [10]) = (w ++ 32 :: ds) ++ [10] := by rw [List.append_assoc]; rfl
  have hd : (List.drop 5 (mkL ++ (w ++ 32 :: ds) ++ [10])).dropLast = w ++ 32 :: ds := by rw [hd5, List.dropLast_concat]
  have hm : mark (mkL ++ (w ++ 32 :: ds) ++ [10]) = true := (mark_iff _).2 ⟨(w ++ 32 :: ds) ++ [10], by rw [List.append_assoc]; rfl⟩
  have hfirst : firstS (mkL ++ (w ++ 32 :: ds) ++ [10]) = some (whom w, v.toNat) := by
    unfold firstS
    rw [hd, (ahead_at n32).1, (ahead_at n32).2, if_pos ⟨hm, (suf_iff _).2 ⟨_, rfl⟩, has_iff.2 (by simp), hw⟩, hn]
    rfl
  have htk : (tkL (lns (q ++ 10 :: r))).flatten = q ++ [10] := hbody.symm
  have hdp : dpL (lns (q ++ 10 :: r)) = lns r := by
    have := lns_rest (q ++ 10 :: r)
    rw [← hrest] at this
    exact this.symm
  rw [hl, raw_cons, hfirst]
  simp only
  have hv : ((v.toNat : Nat) : Int) = v := by omega
  rw [htk, hdp, if_pos ((suf_iff _).2 ⟨_, rfl⟩), List.dropLast_concat, hf, hB, hv]
theorem raw_parse : ∀ (n : Nat) (b : L) (ls : List Lt), b.length ≤ n → parseS b = some ls → rawS (lns b) = some ls
  | _, [], ls, _, h => h
  | 0, c :: b, ls, hl, _ => by simp at hl
  | n + 1, c :: b, ls, hl, h => by
    cases hx : letS (c :: b) with
    | none => rw [parse_none (by simp) hx] at h; cases h
    | some p =>
      obtain ⟨x, r⟩ := p
      have hlen := let_len hx
      rw [parse_some hx] at h
      rw [raw_let hx]
      cases hr : parseS r with
      | none => rw [hr] at h; cases h
      | some ms => rw [raw_parse n r ms (by omega) hr, ← hr, h]
/-- what the document answers is what the program does. -/
theorem ref_is (b : L) (hv : ∀ out, rawS (lns b) = some out → ∀ x ∈ out, x.2.1 < 9223372036854775808) :
    parseS b = match rawS (lns b) with
      | none => none
      | some out => if exportS out = some b then some out else none := by
  cases hp : parseS b with
  | some ls =>
    obtain ⟨h1, h2, _⟩ := parse_exp b.length b ls (Nat.le_refl _) hp
    rw [raw_parse b.length b ls (Nat.le_refl _) hp]
    simp only
    rw [export_ok h1, h2, if_pos rfl]
  | none =>
    cases hr : rawS (lns b) with
    | none => rfl
    | some out =>
      simp only
      rw [if_neg]
      intro he
      obtain ⟨h1, h2⟩ := export_some he
      have := exp_parse h1 (hv out hr)
      rw [h2, hp] at this
      cases this
end Mb
end Go.Proofs.YteapnkedpmcokaaGreatDoor
/- Numbers and first lines as the document reads them. Conditions: none. -/
namespace Go.Proofs.YteapnkedpmcokaaGreatDoor
set_option maxRecDepth 100000
namespace Mb
open Go.Proofs.YteapnkedpmcokaaGreatDoor.Pa
theorem num_digs {ds : L} {n : Nat} (h : numS ds = some n) : ∀ c ∈ ds, digB c := by
  rw [(numS_some h).1]
  exact dec_dig n
theorem val_app (a b : L) : valL (a ++ b) = valF (valL a) b := by unfold valL valF; rw [List.foldl_append]
theorem val_take (ds : L) (k : Nat) : valL (ds.take k) ≤ valL ds := by
  have h := val_app (ds.take k) (ds.drop k)
  rw [List.take_append_drop] at h
  rw [h]
  exact valF_le _ _
theorem val_next {ds : L} {k : Nat} (hk : k < ds.length) : valL (ds.take (k + 1)) = 10 * valL (ds.take k) + ((ds.getD k 0).toNat - 48) := by
  rw [List.take_succ_eq_append_getElem hk]
  have : ds.getD k 0 = ds[k] := by simp [List.getD, hk]
  rw [this]
  exact valF_snoc 0 _ _
theorem num_no_dig {ds : L} {k : Nat} (hk : k < ds.length) (h : ¬ digB (ds.getD k 0)) : numS ds = none := by
  cases hn : numS ds with
  | none => rfl
  | some n => exact absurd (num_digs hn _ (by simp [List.getD, hk])) h
theorem num_big {ds : L} {k : Nat} (h : 9223372036854775808 ≤ valL (ds.take k)) : numS ds = none := by
  cases hn : numS ds with
  | none => rfl
  | some n =>
    have h1 := numS_some hn
    have h2 := val_take ds k
    rw [h1.1, val_dec] at h2
    rw [h1.1] at h
    omega
theorem num_nil : numS [] = none := by
  cases hn : numS [] with
  | none => rfl
  | some n => exact absurd (numS_some hn).1.symm (dec_ne n)
theorem num_zero {ds : L} (h : ds.head? = some 48) (h' : ds ≠ [48]) : numS ds = none := by
  cases hn : numS ds with
  | none => rfl
  | some n =>
    have h1 := (numS_some hn).1
    rcases dec_head n with h2 | h2
    · rw [← h1] at h2; exact absurd h h2
    · rw [← h1] at h2; exact absurd h2 h'
theorem num_all {ds : L} (hd : ∀ c ∈ ds, digB c) (hne : ds ≠ []) (hh : ds.head? ≠ some 48 ∨ ds = [48]) (hv : valL ds < 9223372036854775808) : numS ds = some (valL ds) := by
  unfold numS
  rw [if_pos ⟨(dig_canon ds.length ds (Nat.le_refl _) hd hne hh).1, hv⟩]
theorem digs_all {ds : L} (h : ∀ k, k < ds.length → digB (ds.getD k 0)) : ∀ c ∈ ds, digB c := fun c hc => by
  obtain ⟨i, hi, rfl⟩ := List.mem_iff_getElem.1 hc
  have := h i hi
  simpa [List.getD, hi] using this
/-- a first line, taken apart. -/
theorem first_parts {f : L} {w : L} {n : Nat} (h : firstS f = some (w, n)) : ∃ a ds, f = mkL ++ (a ++ 32 :: ds) ++ [10] ∧ w = whom a ∧ ds = Lib.decDigits n ∧ n < 9223372036854775808 ∧ (a = [45] ∨ mailS a = true) := by
  unfold firstS at h
  split at h
  · rename_i hc
    obtain ⟨h1, h2, h3, h4⟩ := hc
    cases hn : numS (Pa.behind 32 (f.drop 5).dropLast) with
    | none => rw [hn] at h; cases h
    | some m =>
      rw [hn] at h
      injection h with h
      injection h with hw hm
      subst hm
      obtain ⟨e, hno⟩ := cut_at (has_iff.1 h3)
      obtain ⟨r, hr⟩ := (mark_iff f).1 h1
      obtain ⟨s, hs⟩ := (suf_iff f).1 h2
      have hd5 : f.drop 5 = r := by rw [hr]; rfl
      have hrne : r ≠ [] := by
        intro e0
        rw [hd5, e0] at h3
        simp [has] at h3
      have hlast : r = r.dropLast ++ [10] := by
        have h6 : f.getLast? = some 10 := by rw [hs]; simp
        rw [hr] at h6
        have h7 : r.getLast? = some 10 := by
          cases r with
          | nil => exact absurd rfl hrne
          | cons x t => simpa using h6
        have h8 := List.dropLast_concat_getLast hrne
        have h9 : r.getLast hrne = 10 := by
          rw [List.getLast?_eq_some_getLast hrne] at h7
          injection h7
        rw [h9] at h8
        exact h8.symm
      refine ⟨Pa.ahead 32 (f.drop 5).dropLast, Pa.behind 32 (f.drop 5).dropLast, ?_, hw.symm, (numS_some hn).1, (numS_some hn).2, h4⟩
      rw [← e, hd5, hr]
      show mkL ++ r = mkL ++ r.dropLast ++ [10]
      rw [List.append_assoc, ← hlast]
  · cases h
theorem exp_first {f : L} {w : L} {n : Nat} (h : firstS f = some (w, n)) (B : L) : (expS (w, (n : Int), B)).length = f.length + (quoteS B).length + 1 ∧ w.length ≤ f.length ∧ n < 9223372036854775808 := by
  obtain ⟨a, ds, hf, hw, hd, hn, hm⟩ := first_parts h
  have hwa := (whom_who hm).1
  have hwl : w.length ≤ a.length := by
    rw [hw]
    unfold whom
    split
    · simp
    · exact Nat.le_refl _
  refine ⟨?_, ?_, hn⟩
  · unfold expS
    simp only
    rw [hw, hwa, Lib.itoa_nonneg, ← hd, hf]
    simp
    omega
  · rw [hf]
    simp
    omega
theorem mkd_70 {x : L} (h : mkd x = true) : mark x = decide (x.head? = some 70) := by
  rcases mkd_cases h with h1 | ⟨y, rfl, _⟩
  · rw [h1]
    obtain ⟨r, rfl⟩ := (mark_iff x).1 h1
    rfl
  · rw [mark_62]
    simp
theorem mark_no_mkd {x : L} (h : mkd x = false) : mark x = false := by
  cases hm : mark x with
  | false => rfl
  | true => rw [mark_mkd hm] at h; cases h
end Mb
end Go.Proofs.YteapnkedpmcokaaGreatDoor
