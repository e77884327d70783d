/- The document's Decode. Conditions: as stated at each. -/
import Derived.Test.YtpfonpjcnpfipaaGreatDoorEnRDMath
import Derived.Test.YtpfonpjcnpfipaaGreatDoorEnRTake
import Derived.Test.YtpfonpjcnpfipaaGreatDoorEnREncd
import Derived.Test.YtpfonpjcnpfipaaGreatDoorEnDec
import Derived.Deep.CutBlock
namespace Go.Proofs.YtpfonpjcnpfipaaGreatDoor
set_option maxRecDepth 100000
namespace En
open Go.RowKit Go Go.Proofs.YtpfonpjcnpfipaaGreatDoor.Pa
attribute [local go_sem] Oper.semAt_some
theorem El.own {w : World} {v : Value} {N n c : Nat} {A : Option Addr} {p : L} (ho : Own5 w N (.slice A n c) p) (hv : ∀ k, v.ownBlock = some k → k < N) : El w v A p := by
  refine .inr ⟨Own5.bts ho, fun ad e hc => ?_⟩
  subst e
  have h1 := (ho.lt ad.block rfl).1
  have h2 := hv _ hc
  omega
theorem res_RDec {w : World} {g : Nat} {x0 x1 x2 x3 x4 x5 : Value} (tmps : Array Value) (hB : BlkIs w g 28 #[x0, x1, x2, x3, x4, x5]) (h2 : tmps.getD 2 undef = .pointer (some ⟨g, 0, none⟩)) :
    (results Tryz.f6 tmps).run Tryz.prog w = .ok (.tuple #[.agg #[x0, x1, x2, x3, x4, x5], tmps.getD 3 undef]) w := by
  rw [results_cell_tmp rfl, h2]
  have hl := run_loadVar_row (P := Tryz.prog) w g 28 28 #[x0, x1, x2, x3, x4, x5] (0, 0) _ hB Tryz.underlying28 rfl (by kernel_rfl)
  simp only [asAddr, Result.andThen, Sem.run_pure]
  rw [hl]
theorem six_heap {w : World} {g k : Nat} (hk : k ≠ g) (x0 x1 x2 x3 x4 x5 : Value) : (six w g x0 x1 x2 x3 x4 x5).heap[k]? = w.heap[k]? := by
  unfold six
  rw [Below.heap_setCell _ _ _ _ hk, Below.heap_setCell _ _ _ _ hk, Below.heap_setCell _ _ _ _ hk, Below.heap_setCell _ _ _ _ hk, Below.heap_setCell _ _ _ _ hk, Below.heap_setCell _ _ _ _ hk]
theorem six_own {w : World} {D N n sz : Nat} {e : TypeId} {v : Value} {xs : List Value} (h : w.ownsRow N e sz v n xs) (hf : ∀ g, v.ownBlock = some g → g ≠ D) (x0 x1 x2 x3 x4 x5 : Value) : (six w D x0 x1 x2 x3 x4 x5).ownsRow N e sz v n xs :=
  own_far (x := ⟨D, 5, none⟩) (own_far (x := ⟨D, 4, none⟩) (own_far (x := ⟨D, 3, none⟩) (own_far (x := ⟨D, 2, none⟩) (own_far (x := ⟨D, 1, none⟩) (own_far (x := ⟨D, 0, none⟩) h hf x0) hf x1) hf x2) hf x3) hf x4) hf x5
/-- bytes lie in no block that holds a message. -/
theorem bts_far {w w' : World} {B D : Nat} {A : Option Addr} {l : L} {t : TypeId} (hB : BlkIs w D t #[.int .i64 0, .string ⟨#[]⟩, .string ⟨#[]⟩, .slice none 0 0, .int .i64 0, .slice none 0 0]) (h : Bts w B A l) (hk : ∀ k, k ≠ D → w'.heap[k]? = w.heap[k]?) : Bts w' B A l := fun j u hj => by
  have hjl : j < l.length := by
    have := (List.getElem?_eq_some_iff.1 hj).1
    simpa [bv] using this
  obtain ⟨ad, e, hb, hc⟩ := h j u hj
  obtain ⟨ad0, e0, _, hc0⟩ := h.at_ (k := 0) (by omega)
  rw [e] at e0
  injection e0 with e0
  subst e0
  have hne : ad.block ≠ D := fun hd => by
    rw [tx_add0] at hc0
    have hsp := World.cell?_spot hc0
    obtain ⟨g, o, sp⟩ := ad
    obtain rfl : sp = none := hsp
    obtain rfl : g = D := hd
    rw [hB.cell o] at hc0
    have ho : o < 6 := (Array.getElem?_eq_some_iff.1 hc0).1
    rcases (by omega : o = 0 ∨ o = 1 ∨ o = 2 ∨ o = 3 ∨ o = 4 ∨ o = 5) with rfl | rfl | rfl | rfl | rfl | rfl <;> simp at hc0
  refine ⟨ad, e, hb, ?_⟩
  rw [← hc]
  unfold World.cell?
  rw [blk_add, hk _ hne]
theorem str_ne2 {a b : ByteArray} (h : ¬ a = b) : (a.toList == b.toList) = false := by
  rw [Go.Lib.toList_data, Go.Lib.toList_data, beq_eq_false_iff_ne]
  intro e
  exact h (by cases a; cases b; exact congrArg ByteArray.mk (Array.toList_inj.1 e))
/-- what is taken so far, and what is left. -/
def SpI (b : L) (ps : List L) (rest : L) : Prop := splitS 110 b = (ps ++ (splitS (110 - ps.length) rest).1, (splitS (110 - ps.length) rest).2)
theorem SpI.nil (b : L) : SpI b [] b := rfl
theorem SpI.snoc {b : L} {ps : List L} {rest p r : L} (h : SpI b ps rest) (hk : ps.length < 110) (ht : takeS rest = some (p, r)) : SpI b (ps ++ [p]) r := by
  unfold SpI at h ⊢
  rw [show 110 - ps.length = (110 - (ps ++ [p]).length) + 1 by simp; omega, split_some ht] at h
  rw [h]
  simp
theorem SpI.done {b : L} {ps : List L} {rest : L} (h : SpI b ps rest) (hk : ps.length = 110 ∨ takeS rest = none) (h110 : ps.length ≤ 110) : splitS 110 b = (ps, rest) := by
  unfold SpI at h
  rcases hk with hk | hk
  · rw [hk] at h
    simpa [splitS] using h
  · rcases Nat.eq_zero_or_pos (110 - ps.length) with h0 | h0
    · rw [h0] at h
      simpa [splitS] using h
    · rw [show 110 - ps.length = (110 - ps.length - 1) + 1 by omega, split_none hk] at h
      simpa using h
theorem SpI.len {b : L} {ps : List L} {rest : L} (h : splitS 110 b = (ps, rest)) : rest.length ≤ b.length ∧ ∀ p ∈ ps, p.length ≤ b.length := by
  have h1 := split_back 110 b
  rw [h] at h1
  exact took_len (ps := ps) (rest := rest) ⟨h1.1, h1.2.2⟩
theorem RowP.form {w : World} {N n c : Nat} {A : Option Addr} {ls : List L} (h : RowP w N (.slice A n c) ls) (hl : 0 < ls.length) : ∃ g, A = some ⟨g, 0, none⟩ ∧ ∀ k, k < ls.length → ∃ A' c', ∀ X, Below w.heap.size w X → X.cell? ⟨g, k, none⟩ = some (.slice A' (ls.getD k []).length c') ∧ Bts X w.heap.size A' (ls.getD k []) ∧ (ls.getD k []).length ≤ c' ∧ c' ≤ maxLen := by
  have hr := h.rws
  obtain ⟨vs, h1, h2, h3⟩ := h
  obtain ⟨A', c', e, _⟩ := own_slice h1
  injection e with e1 e2 e3
  subst e1; subst e2; subst e3
  obtain ⟨g, cap, hv, _, hlt⟩ := h1.form hl
  injection hv with hv
  subst hv
  refine ⟨g, rfl, fun k hk => ?_⟩
  obtain ⟨g1, o1, A', c', e, _, hX, h4, h5⟩ := rws_els hr hk
  injection e with e
  injection e with e1 e2
  subst e1; subst e2
  refine ⟨A', c', fun X hX' => ?_⟩
  have := hX X hX'
  rw [Nat.zero_add] at this
  exact ⟨this.1, this.2, h4, h5⟩
/-- Number, with what it answers beside false. -/
theorem num_w (ds : L) (w : World) (hl : ds.length ≤ 1000000) :
    Calls Tryz.prog 14 #[.string (str ds)] w fun e w' => Below w.heap.size w w' ∧ ∃ (i : Int) (t : Bool), e = .returned (.tuple #[.int .i64 i, .bool t]) ∧ (-9223372036854775808 ≤ i ∧ i < 9223372036854775808) ∧ ∀ n : Nat, Mb.numS ds = some n → i = n := by
  refine (rnumber_b ds w hl).mono ?_
  rintro e w' ⟨hb, ⟨n, hn, rfl⟩ | ⟨hn, v, rfl, h1, h2⟩⟩
  · have := (Mb.numS_some hn).2
    exact ⟨hb, _, _, rfl, by omega, fun k hk => by rw [hn] at hk; injection hk with hk; omega⟩
  · exact ⟨hb, _, _, rfl, ⟨h1, h2⟩, fun k hk => by rw [hn] at hk; cases hk⟩
def RDecP (w : World) (b : L) (e : Ending) (w' : World) : Prop := Below w.heap.size w w' ∧
  ((decS b = none ∧ e = .returned (.tuple #[.agg #[.int .i64 0, .string ⟨#[]⟩, .string ⟨#[]⟩, .slice none 0 0, .int .i64 0, .slice none 0 0], .int .i64 150])) ∨ ∃ m x, decS b = some m ∧ e = .returned (.tuple #[x, .int .i64 0]) ∧ MsgAt w' w'.heap.size x m)
set_option maxHeartbeats 6400000 in
theorem rdecode_any {w0 : World} {A : Option Addr} {b : L} {c : Nat} (hb : Bts w0 w0.heap.size A b) (hc : b.length ≤ c) (hm : c ≤ maxLen) (hA : A = none → c = 0) (hl : b.length ≤ 10000) (hG : GlT w0) :
    Calls Tryz.prog 6 #[.slice A b.length c] w0 (RDecP w0 b) := by
  have HRT : Hid (∀ X A2 c2 (l : L), Below w0.heap.size w0 X → Bts X w0.heap.size A2 l → l.length ≤ c2 → (A2 = none → c2 = 0) → l.length ≤ 10000 → Calls Tryz.prog 13 #[.slice A2 l.length c2] X (RTakeP X w0.heap.size A2 l c2)) := Lib.hid fun X A2 c2 l h1 h2 h3 h4 h5 => rtake_any h2 h1.size c2 h3 h4 (by omega)
  have HENC := Lib.hid (fun X x m (h1 : Below w0.heap.size w0 X) (h2 : MsgAt X X.heap.size x m) (h3 : SmallM m) => rencode_any h2 h3 (hG.below h1 hG.lt))
  have HCB := Lib.hid (fun X (hX : Below w0.heap.size w0 X) => conv_str (hb.below hX) c)
  have HSH := Lib.hid (rd_short (b := b))
  have HSL := Lib.hid (fun ps rest (h : splitS 110 b = (ps, rest)) => SpI.len h)
  unfold RTakeP at HRT
  unfold REncP at HENC
  unfold RDecP
  have n0 := BlkIs.new w0 28 #[.int .i64 0, .string ⟨#[]⟩, .string ⟨#[]⟩, .slice none 0 0, .int .i64 0, .slice none 0 0]
  have kB : Below w0.heap.size w0 (w0.alloc (.cells #[.int .i64 0, .string ⟨#[]⟩, .string ⟨#[]⟩, .slice none 0 0, .int .i64 0, .slice none 0 0] 28)) := (Below.refl _ _).alloc (Nat.le_refl _) _
  have HD0 := Lib.hid n0
  have HB0 := Lib.hid kB
  have HI0 : Hid (Bts (w0.alloc (.cells #[.int .i64 0, .string ⟨#[]⟩, .string ⟨#[]⟩, .slice none 0 0, .int .i64 0, .slice none 0 0] 28)) w0.heap.size A b) := Lib.hid (hb.below kB)
  clear n0 kB hb hG
  generalize hbl : b.length = bn at *
  have HBN := Lib.hid hbl
  clear hbl
  go_enter Tryz.func6, Tryz.ntmps6
  go_upto_block 0 with fail
  generalize w0.alloc (.cells #[.int .i64 0, .string ⟨#[]⟩, .string ⟨#[]⟩, .slice none 0 0, .int .i64 0, .slice none 0 0] 28) = w1 at *
  go_cut [4, 5] from 6 to 30 (fun x4 x5 wd => ∃ (ps : List L) (rest : L) (A2 : Option Addr) (c2 : Nat), Hid (splitS 110 b = (ps, rest)) ∧ x5 = .slice A2 rest.length c2 ∧ Hid (RowP wd (w0.heap.size + 1) x4 ps) ∧ Hid (Below w0.heap.size w0 wd) ∧ Hid (BlkIs wd w0.heap.size 28 #[.int .i64 0, .string ⟨#[]⟩, .string ⟨#[]⟩, .slice none 0 0, .int .i64 0, .slice none 0 0]))
  case first =>
    go_wp2_with fail
    go_loopw [4, 5] (fun x4 x5 wr => ∃ (ps : List L) (rest : L) (A2 : Option Addr) (A4 : Option Addr) (k c2 c4 : Nat), Hid (SpI b ps rest) ∧ k = ps.length ∧ k ≤ 110 ∧ x4 = .slice A4 k c4 ∧ x5 = .slice A2 rest.length c2 ∧ Hid (RowP wr (w0.heap.size + 1) (.slice A4 k c4) ps) ∧ Hid (Below w0.heap.size w0 wr) ∧ Hid (BlkIs wr w0.heap.size 28 #[.int .i64 0, .string ⟨#[]⟩, .string ⟨#[]⟩, .slice none 0 0, .int .i64 0, .slice none 0 0]) ∧ Hid (Bts wr w0.heap.size A2 rest ∧ rest.length ≤ c2 ∧ c2 ≤ maxLen ∧ (A2 = none → c2 = 0) ∧ rest.length ≤ 10000)) (fun x4 _ _ => 110 - (match x4 with | .slice _ n _ => n | _ => 0))
    case atStart => exact ⟨[], b, A, none, 0, c, 0, Lib.hid (SpI.nil b), rfl, by omega, rfl, by rw [HBN.out], Lib.hid ⟨[], World.ownsRow_nil _ _ _ 1, rfl, fun k l h => by simp at h⟩, HB0, HD0, Lib.hid ⟨HI0.out, by rw [HBN.out]; exact hc, hm, hA, by rw [HBN.out]; exact hl⟩⟩
    case round =>
      obtain ⟨ps, rest, A2, A4, k, c2, c4, HSP, hkp, hk, rfl, rfl, HRW, HBK, HDK, HRE⟩ := hrel
      have HKP := Lib.hid hkp
      clear hkp HB0 HD0 HI0
      by_cases hlt : (k : Int) < 110
      · have HC1 := Lib.hid (HRT.out wr A2 c2 rest HBK.out HRE.out.1 HRE.out.2.1 HRE.out.2.2.2.1 HRE.out.2.2.2.2)
        generalize hrn : rest.length = rn at *
        have HRN := Lib.hid hrn
        clear hrn
        go_wp2_with fail
        refine HC1.out.mono ?_
        rintro e w2 ⟨hb2, ⟨hn, rfl⟩ | ⟨p, r, hs, v, A3, c3, rfl, ho, hbr, hr1, hr2, hr3⟩⟩
        · have HR2 := Lib.hid (HRW.out.below hb2)
          have HB2 := Lib.hid (HBK.out.trans (hb2.mono HBK.out.size))
          have HD2 : Hid (BlkIs w2 w0.heap.size 28 #[.int .i64 0, .string ⟨#[]⟩, .string ⟨#[]⟩, .slice none 0 0, .int .i64 0, .slice none 0 0]) := Lib.hid ((hb2.block _ HDK.out.lt).trans HDK.out)
          have HSD := Lib.hid (SpI.done HSP.out (.inr hn) (by rw [← HKP.out]; exact hk))
          clear hb2 HC1
          go_wp2_with fail
          go_meet
          exact ⟨ps, rest, A2, c2, HSD, by rw [HRN.out], HR2, HB2, HD2⟩
        · have hB2 := HBK.out.trans (hb2.mono HBK.out.size)
          have HB2 := Lib.hid hB2
          have HR2 := Lib.hid (HRW.out.below hb2)
          have HD2 : Hid (BlkIs w2 w0.heap.size 28 #[.int .i64 0, .string ⟨#[]⟩, .string ⟨#[]⟩, .slice none 0 0, .int .i64 0, .slice none 0 0]) := Lib.hid ((hb2.block _ HDK.out.lt).trans HDK.out)
          have HSN := Lib.hid (HSP.out.snoc (by rw [← HKP.out]; omega) hs)
          have hrl := take_less hs
          rw [HRN.out] at hrl
          have HRB : Hid (Bts w2 w0.heap.size A3 r ∧ r.length ≤ c3 ∧ c3 ≤ maxLen ∧ (A3 = none → c3 = 0) ∧ r.length ≤ 10000) := Lib.hid ⟨hbr.below (hb2.mono HBK.out.size), hr1, Nat.le_trans hr2 HRE.out.2.2.1, hr3, by have := HRE.out.2.2.2.2; omega⟩
          obtain ⟨Av, cv, rfl, lv, mv⟩ := own_slice ho
          have HEL : Hid (El w2 (.slice A4 k c4) Av p) := Lib.hid (El.own ho (fun j hj => (HRW.out.low j hj).2))
          have HBA : Hid (Below w2.heap.size w2 (w2.alloc (.cells #[.slice Av p.length cv] 22))) := Lib.hid ((Below.refl _ _).alloc (Nat.le_refl _) _)
          have HCE := Lib.hid ((cell_of_row _ w2.heap.size 0 #[.slice Av p.length cv] 22 (0, 0) (heap_alloc_new w2 _)).trans rfl)
          have hlo : w0.heap.size + 1 ≤ w2.heap.size := by have := HD2.out.lt; omega
          have HLM := Lib.hid (And.intro lv mv)
          clear hb2 hs ho hbr hr1 hr2 hr3 hB2 HC1 HRW HBK HDK HRE hrl lv mv
          generalize hpn : p.length = pn at *
          have HPN := Lib.hid hpn
          clear hpn
          generalize hrn2 : r.length = rn2 at *
          have HRN2 := Lib.hid hrn2
          clear hrn2
          go_wp2_with (first
            | (refine lappR (.tmp 26) (.tmp 28) rfl rfl (v := .slice A4 k c4) (l := p) (A := Av) (c := cv) rfl (HR2.out.below HBA.out) (HEL.out.below HBA.out) (by rw [HPN.out]; exact HLM.out.1) HLM.out.2 (g := w2.heap.size) (c1 := 1) rfl (by rw [HPN.out]; exact HCE.out) (by rw [← HKP.out]; omega) (by rw [World.size_alloc]; omega) ?_; intro v9 w9 h1 h2 h3; have HR9 := Lib.hid h1; have HB9 := Lib.hid ((HB2.out.alloc HB2.out.size (.cells #[.slice Av pn cv] 22)).grown h2 (by rw [World.size_alloc]; omega) (fun j hj => by have := h3 j hj; omega)); have HD9 := Lib.hid ((HD2.out.alloc (.cells #[.slice Av pn cv] 22)).grown h2 (fun e => by have := h3 _ e; omega)); have HRB9 := Lib.hid ((HRB.out.1.below ((Below.refl w0.heap.size w2).alloc (by omega) (.cells #[.slice Av pn cv] 22))).below ((Below.refl w0.heap.size _).grown h2 (by rw [World.size_alloc]; omega) (fun j hj => by have := h3 j hj; omega))); obtain ⟨A9, c9, e9, _, _⟩ := h1.slice; subst e9; generalize hq : (ps ++ [p]).length = k9 at *; have HQ9 := Lib.hid hq; clear h1 h2 h3 hq)
            | fail)
          have hk9 : k9 = k + 1 := by rw [← HQ9.out, List.length_append, ← HKP.out]; rfl
          go_roundw
          case rel => exact ⟨ps ++ [p], r, A3, A9, k9, c3, c9, HSN, HQ9.out.symm, by omega, rfl, by rw [HRN2.out], HR9, HB9, HD9, Lib.hid ⟨HRB9.out, by rw [HRN2.out]; exact HRB.out.2.1, HRB.out.2.2.1, HRB.out.2.2.2.1, by rw [HRN2.out]; exact HRB.out.2.2.2.2⟩⟩
          case measure => simp only []; omega
      · obtain rfl : k = 110 := by omega
        have HSD := Lib.hid (SpI.done HSP.out (.inl HKP.out.symm) (by rw [← HKP.out]; exact hk))
        generalize hrn : rest.length = rn at *
        have HRN := Lib.hid hrn
        clear hrn
        go_wp2_with fail
        go_meet
        exact ⟨ps, rest, A2, c2, HSD, by rw [HRN.out], HRW, HBK, HDK⟩
  case rest =>
    obtain ⟨ps, rest, A2, c2, HSD, rfl, HRW, HBC, HDC⟩ := hcut
    have HK := Lib.hid (HSL.out _ _ HSD.out)
    have h110 : ps.length ≤ 110 := by have := (split_back 110 b).2.1; rw [HSD.out] at this; exact this
    obtain ⟨A4, c4, rfl, hk4, hm4⟩ := HRW.out.slice
    have HSH1 : Hid (ps.length < 7 ∨ 0 < rest.length → decS b = none) := Lib.hid fun h => HSH.out (by rw [HSD.out]; exact h)
    generalize hkn : ps.length = kn at *
    generalize hrn : rest.length = rn at *
    have HKN := Lib.hid (And.intro hkn hrn)
    clear hkn hrn HSL HSH
    by_cases h7 : kn < 7
    · have HN := Lib.hid (HSH1.out (.inl h7))
      have h7' : (kn : Int) < 7 := by omega
      have HF := Lib.hid (And.intro (six_below HBC.out (Nat.le_refl _) (.int .i64 0) (.string ⟨#[]⟩) (.string ⟨#[]⟩) (.slice none 0 0) (.int .i64 0) (.slice none 0 0)) (six_blk HDC.out (.int .i64 0) (.string ⟨#[]⟩) (.string ⟨#[]⟩) (.slice none 0 0) (.int .i64 0) (.slice none 0 0)))
      unfold six at HF
      have z0 := (HDC.out.cell 0).trans (rfl : _ = some (Value.int .i64 0))
      have z1 := (HDC.out.cell 1).trans (rfl : _ = some (Value.string ⟨#[]⟩))
      have z2 := (HDC.out.cell 2).trans (rfl : _ = some (Value.string ⟨#[]⟩))
      have z3 := (HDC.out.cell 3).trans (rfl : _ = some (Value.slice none 0 0))
      have z4 := (HDC.out.cell 4).trans (rfl : _ = some (Value.int .i64 0))
      have z5 := (HDC.out.cell 5).trans (rfl : _ = some (Value.slice none 0 0))
      have f0 := HDC.out.froz 0
      have f1 := HDC.out.froz 1
      have f2 := HDC.out.froz 2
      have f3 := HDC.out.froz 3
      have f4 := HDC.out.froz 4
      have f5 := HDC.out.froz 5
      go_wp2_with fail
      exact bodyPost_ret (res_RDec _ HF.out.2 rfl) rfl ⟨HF.out.1, .inl ⟨HN.out, rfl⟩⟩
    by_cases hr0 : 0 < rn
    · have HN := Lib.hid (HSH1.out (.inr hr0))
      have h7' : ¬ (kn : Int) < 7 := by omega
      have hr0' : (0 : Int) < rn := by omega
      have HF := Lib.hid (And.intro (six_below HBC.out (Nat.le_refl _) (.int .i64 0) (.string ⟨#[]⟩) (.string ⟨#[]⟩) (.slice none 0 0) (.int .i64 0) (.slice none 0 0)) (six_blk HDC.out (.int .i64 0) (.string ⟨#[]⟩) (.string ⟨#[]⟩) (.slice none 0 0) (.int .i64 0) (.slice none 0 0)))
      unfold six at HF
      have z0 := (HDC.out.cell 0).trans (rfl : _ = some (Value.int .i64 0))
      have z1 := (HDC.out.cell 1).trans (rfl : _ = some (Value.string ⟨#[]⟩))
      have z2 := (HDC.out.cell 2).trans (rfl : _ = some (Value.string ⟨#[]⟩))
      have z3 := (HDC.out.cell 3).trans (rfl : _ = some (Value.slice none 0 0))
      have z4 := (HDC.out.cell 4).trans (rfl : _ = some (Value.int .i64 0))
      have z5 := (HDC.out.cell 5).trans (rfl : _ = some (Value.slice none 0 0))
      have f0 := HDC.out.froz 0
      have f1 := HDC.out.froz 1
      have f2 := HDC.out.froz 2
      have f3 := HDC.out.froz 3
      have f4 := HDC.out.froz 4
      have f5 := HDC.out.froz 5
      go_wp2_with fail
      exact bodyPost_ret (res_RDec _ HF.out.2 rfl) rfl ⟨HF.out.1, .inl ⟨HN.out, rfl⟩⟩
    have h7' : ¬ (kn : Int) < 7 := by omega
    have hr0' : ¬ (0 : Int) < rn := by omega
    have HRN : Hid (rest = []) := Lib.hid (List.eq_nil_of_length_eq_zero (by rw [HKN.out.2]; omega))
    have HPLN : Hid (∀ k, (ps.getD k []).length ≤ 10000) := Lib.hid fun k => by
      rcases Nat.lt_or_ge k ps.length with hk | hk
      · have := HK.out.2 (ps.getD k []) (by simp [List.getD, hk])
        omega
      · simp [List.getD, List.getElem?_eq_none hk]
    have HDT := Lib.hid (drop_take (l := ps) (by rw [HKN.out.1]; omega))
    have HEND : Hid (∀ (i t : Int), (∀ n : Nat, Mb.numS (ps.getD 0 []) = some n → i = n) → (∀ n : Nat, Mb.numS (ps.getD 3 []) = some n → t = n) → t ≤ 9223372036854775807 → decS b = if encS ⟨i, ps.getD 1 [], ps.getD 2 [], (ps.drop 5).dropLast, t, (ps.drop 5).getLastD []⟩ = some b then some ⟨i, ps.getD 1 [], ps.getD 2 [], (ps.drop 5).dropLast, t, (ps.drop 5).getLastD []⟩ else none) := Lib.hid fun i t h1 h2 h3 => rd_end (by rw [HSD.out, HRN.out]) h1 h2 h3
    obtain ⟨g, rfl, hels⟩ := RowP.form HRW.out (by rw [HKN.out.1]; omega)
    rw [HKN.out.1] at hels
    rw [HDT.out.2.1] at HEND
    obtain ⟨B0, d0, hX0⟩ := hels 0 (by omega)
    obtain ⟨B1, d1, hX1⟩ := hels 1 (by omega)
    obtain ⟨B2, d2, hX2⟩ := hels 2 (by omega)
    obtain ⟨B3, d3, hX3⟩ := hels 3 (by omega)
    obtain ⟨B9, d9, hX9⟩ := hels (kn - 1) (by omega)
    rw [HKN.out.1] at HEND
    have HC0 := Lib.hid (fun X hX => conv_str (hX0 X hX).2.1 d0)
    have HC1 := Lib.hid (fun X hX => conv_str (hX1 X hX).2.1 d1)
    have HC2 := Lib.hid (fun X hX => conv_str (hX2 X hX).2.1 d2)
    have HC3 := Lib.hid (fun X hX => conv_str (hX3 X hX).2.1 d3)
    have HNU0 := Lib.hid (fun X => num_w (ps.getD 0 []) X (by have := HPLN.out 0; omega))
    have HNU3 := Lib.hid (fun X => num_w (ps.getD 3 []) X (by have := HPLN.out 3; omega))
    have HX0 := Lib.hid hX0
    have HX1 := Lib.hid hX1
    have HX2 := Lib.hid hX2
    have HX3 := Lib.hid hX3
    have HX9 := Lib.hid hX9
    have HELS : Hid (∀ k, k < kn - 6 → ∃ A' c', (∀ X, Below wc.heap.size wc X → X.cell? ⟨g, 5 + k, none⟩ = some (.slice A' (ps.getD (5 + k) []).length c') ∧ (convert 22 9 (.slice A' (ps.getD (5 + k) []).length c')).run Tryz.prog X = .ok (.string (str (ps.getD (5 + k) []))) X)) := Lib.hid fun k hk => by
      obtain ⟨A', c', h⟩ := hels (5 + k) (by omega)
      exact ⟨A', c', fun X hX => ⟨(h X hX).1, conv_str (h X hX).2.1 c'⟩⟩
    clear hels hX0 hX1 hX2 hX3 hX9 hk4
    generalize hp0 : ps.getD 0 [] = p0 at *
    generalize hp1 : ps.getD 1 [] = p1 at *
    generalize hp2 : ps.getD 2 [] = p2 at *
    generalize hp3 : ps.getD 3 [] = p3 at *
    generalize hp9 : ps.getD (kn - 1) [] = p9 at *
    have HPP : Hid (p1.length ≤ 10000 ∧ p2.length ≤ 10000 ∧ p9.length ≤ 10000) := Lib.hid ⟨by rw [← hp1]; exact HPLN.out 1, by rw [← hp2]; exact HPLN.out 2, by rw [← hp9]; exact HPLN.out _⟩
    clear hp0 hp1 hp2 hp3 hp9
    generalize p0.length = m0 at *
    generalize p3.length = m3 at *
    generalize hm1 : p1.length = m1 at *
    generalize hm2 : p2.length = m2 at *
    generalize hm9 : p9.length = m9 at *
    generalize hs1 : str p1 = s1 at *
    generalize hs2 : str p2 = s2 at *
    generalize str p0 = s0 at *
    generalize str p3 = s3 at *
    have HLN := Lib.hid (And.intro hm1 (And.intro hm2 (And.intro hm9 (And.intro hs1 hs2))))
    clear hm1 hm2 hm9 hs1 hs2
    have hck5 : ¬ c4 = 5 := by have := HRW.out.slice; obtain ⟨_, _, e, h, _⟩ := this; injection e with _ _ e; subst e; rw [HKN.out.1] at h; omega
    have hkc : kn ≤ c4 := by have := HRW.out.slice; obtain ⟨_, _, e, h, _⟩ := this; injection e with _ _ e; subst e; rw [HKN.out.1] at h; exact h
    go_wp2_with fail
    have hbd : Below wc.heap.size wc wc.drew := (Below.refl _ _).drew
    refine wp_region_held_drew (S := (fun Y => Below wc.heap.size wc Y)) (by kernel_rfl) (hbd) (fun hHeld => ?_)
    generalize wc.drew = wd at *
    have HBD := Lib.hid hbd
    clear hbd
    have hwn : IntKind.i64.wrap ((kn : Int) - 1) = (kn : Int) - 1 := IntWalk.i64_in _ (by have hm4' := hm4; unfold maxLen at hm4'; omega)
    have htn : ((kn : Int) - 1).toNat = kn - 1 := by omega
    refine wpAnyH_take (i := 0) (v := .slice (some ⟨g, 0, none⟩) kn c4) rfl (by kernel_rfl) (by kernel_rfl) (by kernel_rfl) (fun _ _ _ h => h) (Or.inl ⟨by rfl, fun w hS => by first | (go_simp; done) | (go_simp; with_reducible rfl)⟩) hHeld ?_
    try simp only [Act.put, List.getElem_toArray, List.getElem_cons_zero, List.setIfInBounds_toArray, List.set_cons_zero, List.set_cons_succ]
    refine wpAnyH_take (i := 1) (v := .pointer (some ⟨g, 1, none⟩)) rfl (by kernel_rfl) (by kernel_rfl) (by kernel_rfl) (fun _ _ _ h => h) (Or.inl ⟨by rfl, fun w hS => by (go_simp; first | done | (intro hh; omega) | (rw [if_pos (by omega)]))⟩) hHeld ?_
    try simp only [Act.put, List.getElem_toArray, List.getElem_cons_zero, List.getElem_cons_succ, List.setIfInBounds_toArray, List.set_cons_zero, List.set_cons_succ]
    refine wpAnyH_take (i := 2) (v := .slice B1 m1 d1) rfl (by kernel_rfl) (by kernel_rfl) (by kernel_rfl) (fun _ _ _ h => h) (Or.inl ⟨by rfl, fun w hS => by (have c0 := (HX1.out _ hS).1; first | (go_simp; done) | (go_simp; with_reducible rfl))⟩) hHeld ?_
    try simp only [Act.put, List.getElem_toArray, List.getElem_cons_zero, List.getElem_cons_succ, List.setIfInBounds_toArray, List.set_cons_zero, List.set_cons_succ]
    refine wpAnyH_take (i := 3) (v := .string s1) rfl (by kernel_rfl) (by kernel_rfl) (by kernel_rfl) (fun _ _ _ h => h) (Or.inl ⟨by rfl, fun w hS => by (have c0 := HC1.out _ hS; first | (go_simp; done) | (go_simp; with_reducible rfl))⟩) hHeld ?_
    try simp only [Act.put, List.getElem_toArray, List.getElem_cons_zero, List.getElem_cons_succ, List.setIfInBounds_toArray, List.set_cons_zero, List.set_cons_succ]
    refine wpAnyH_take (i := 4) (v := .slice (some ⟨g, 0, none⟩) kn c4) rfl (by kernel_rfl) (by kernel_rfl) (by kernel_rfl) (fun _ _ _ h => h) (Or.inl ⟨by rfl, fun w hS => by first | (go_simp; done) | (go_simp; with_reducible rfl)⟩) hHeld ?_
    try simp only [Act.put, List.getElem_toArray, List.getElem_cons_zero, List.getElem_cons_succ, List.setIfInBounds_toArray, List.set_cons_zero, List.set_cons_succ]
    refine wpAnyH_take (i := 5) (v := .pointer (some ⟨g, 2, none⟩)) rfl (by kernel_rfl) (by kernel_rfl) (by kernel_rfl) (fun _ _ _ h => h) (Or.inl ⟨by rfl, fun w hS => by (go_simp; first | done | (intro hh; omega) | (rw [if_pos (by omega)]))⟩) hHeld ?_
    try simp only [Act.put, List.getElem_toArray, List.getElem_cons_zero, List.getElem_cons_succ, List.setIfInBounds_toArray, List.set_cons_zero, List.set_cons_succ]
    refine wpAnyH_take (i := 6) (v := .slice B2 m2 d2) rfl (by kernel_rfl) (by kernel_rfl) (by kernel_rfl) (fun _ _ _ h => h) (Or.inl ⟨by rfl, fun w hS => by (have c0 := (HX2.out _ hS).1; first | (go_simp; done) | (go_simp; with_reducible rfl))⟩) hHeld ?_
    try simp only [Act.put, List.getElem_toArray, List.getElem_cons_zero, List.getElem_cons_succ, List.setIfInBounds_toArray, List.set_cons_zero, List.set_cons_succ]
    refine wpAnyH_take (i := 7) (v := .string s2) rfl (by kernel_rfl) (by kernel_rfl) (by kernel_rfl) (fun _ _ _ h => h) (Or.inl ⟨by rfl, fun w hS => by (have c0 := HC2.out _ hS; first | (go_simp; done) | (go_simp; with_reducible rfl))⟩) hHeld ?_
    try simp only [Act.put, List.getElem_toArray, List.getElem_cons_zero, List.getElem_cons_succ, List.setIfInBounds_toArray, List.set_cons_zero, List.set_cons_succ]
    refine wpAnyH_take (i := 8) (v := .agg #[.string s2, .slice none 0 0, .int .i64 0]) rfl (by kernel_rfl) (by kernel_rfl) (by kernel_rfl) (fun _ _ _ h => h) (Or.inl ⟨by rfl, fun w hS => by first | (go_simp; done) | (go_simp; with_reducible rfl)⟩) hHeld ?_
    try simp only [Act.put, List.getElem_toArray, List.getElem_cons_zero, List.getElem_cons_succ, List.setIfInBounds_toArray, List.set_cons_zero, List.set_cons_succ]
    refine wpAnyH_take (i := 9) (v := .slice (some ⟨g, 0, none⟩) kn c4) rfl (by kernel_rfl) (by kernel_rfl) (by kernel_rfl) (fun _ _ _ h => h) (Or.inl ⟨by rfl, fun w hS => by first | (go_simp; done) | (go_simp; with_reducible rfl)⟩) hHeld ?_
    try simp only [Act.put, List.getElem_toArray, List.getElem_cons_zero, List.getElem_cons_succ, List.setIfInBounds_toArray, List.set_cons_zero, List.set_cons_succ]
    refine wpAnyH_take (i := 10) (v := .slice (some ⟨g, 0, none⟩) kn c4) rfl (by kernel_rfl) (by kernel_rfl) (by kernel_rfl) (fun _ _ _ h => h) (Or.inl ⟨by rfl, fun w hS => by first | (go_simp; done) | (go_simp; with_reducible rfl)⟩) hHeld ?_
    try simp only [Act.put, List.getElem_toArray, List.getElem_cons_zero, List.getElem_cons_succ, List.setIfInBounds_toArray, List.set_cons_zero, List.set_cons_succ]
    refine wpAnyH_take (i := 11) (v := .int .i64 kn) rfl (by kernel_rfl) (by kernel_rfl) (by kernel_rfl) (fun _ _ _ h => h) (Or.inl ⟨by rfl, fun w hS => by first | (go_simp; done) | (go_simp; with_reducible rfl)⟩) hHeld ?_
    try simp only [Act.put, List.getElem_toArray, List.getElem_cons_zero, List.getElem_cons_succ, List.setIfInBounds_toArray, List.set_cons_zero, List.set_cons_succ]
    refine wpAnyH_take (i := 12) (v := .int .i64 ((kn : Int) - 1)) rfl (by kernel_rfl) (by kernel_rfl) (by kernel_rfl) (fun _ _ _ h => h) (Or.inl ⟨by rfl, fun w hS => by first | (go_simp; done) | (go_simp; with_reducible rfl)⟩) hHeld ?_
    try simp only [Act.put, List.getElem_toArray, List.getElem_cons_zero, List.getElem_cons_succ, List.setIfInBounds_toArray, List.set_cons_zero, List.set_cons_succ]
    refine wpAnyH_take (i := 13) (v := .pointer (some ⟨g, kn - 1, none⟩)) rfl (by kernel_rfl) (by kernel_rfl) (by kernel_rfl) (fun _ _ _ h => h) (Or.inl ⟨by rfl, fun w hS => by (go_simp; first | done | (intro hh; omega) | (rw [if_pos (by omega)]))⟩) hHeld ?_
    try simp only [Act.put, List.getElem_toArray, List.getElem_cons_zero, List.getElem_cons_succ, List.setIfInBounds_toArray, List.set_cons_zero, List.set_cons_succ]
    refine wpAnyH_take (i := 14) (v := .slice B9 m9 d9) rfl (by kernel_rfl) (by kernel_rfl) (by kernel_rfl) (fun _ _ _ h => h) (Or.inl ⟨by rfl, fun w hS => by (have c0 := (HX9.out _ hS).1; first | (go_simp; done) | (go_simp; with_reducible rfl))⟩) hHeld ?_
    try simp only [Act.put, List.getElem_toArray, List.getElem_cons_zero, List.getElem_cons_succ, List.setIfInBounds_toArray, List.set_cons_zero, List.set_cons_succ]
    refine wpAnyH_take (i := 15) (v := .agg #[.int .i64 0, .string s1, .string s2, .slice none 0 0, .int .i64 0, .slice B9 m9 d9]) rfl (by kernel_rfl) (by kernel_rfl) (by kernel_rfl) (fun _ _ _ h => h) (Or.inl ⟨by rfl, fun w hS => by first | (go_simp; done) | (go_simp; with_reducible rfl)⟩) hHeld ?_
    try simp only [Act.put, List.getElem_toArray, List.getElem_cons_zero, List.getElem_cons_succ, List.setIfInBounds_toArray, List.set_cons_zero, List.set_cons_succ]
    refine wpAnyH_ready (rs := [16]) (by kernel_rfl) (by simp) ?_
    refine AllReadyH.cons rfl (fun K hK => ?_) AllReadyH.nil
    go_simp
    refine hK.out _ _ ?_ (fun hHeld => ?_)
    · exact (HBD.out.alloc HBD.out.size _)
    clear hK K
    try simp only [Act.put, List.getElem_toArray, List.getElem_cons_zero, List.getElem_cons_succ, List.setIfInBounds_toArray, List.set_cons_zero, List.set_cons_succ]
    have nM := BlkIs.new wd 28 #[.int .i64 0, .string ⟨#[]⟩, .string ⟨#[]⟩, .slice none 0 0, .int .i64 0, .slice none 0 0]
    have x0 := (nM.cell 0).trans (rfl : _ = some (Value.int .i64 0))
    have f0 := nM.froz 0
    have x1 := (nM.cell 1).trans (rfl : _ = some (Value.string ⟨#[]⟩))
    have f1 := nM.froz 1
    have x2 := (nM.cell 2).trans (rfl : _ = some (Value.string ⟨#[]⟩))
    have f2 := nM.froz 2
    have x3 := (nM.cell 3).trans (rfl : _ = some (Value.slice none 0 0))
    have f3 := nM.froz 3
    have x4 := (nM.cell 4).trans (rfl : _ = some (Value.int .i64 0))
    have f4 := nM.froz 4
    have x5 := (nM.cell 5).trans (rfl : _ = some (Value.slice none 0 0))
    have f5 := nM.froz 5
    refine wpAnyH_ready (rs := [17]) (by kernel_rfl) (by simp) ?_
    refine AllReadyH.cons rfl (fun K hK => ?_) AllReadyH.nil
    go_simp
    refine hK.out _ _ ?_ (fun hHeld => ?_)
    · exact (by first | exact HBD.out.alloc HBD.out.size _ | exact six_below (HBD.out.alloc HBD.out.size _) HBD.out.size _ _ _ _ _ _)
    clear hK K
    try simp only [Act.put, List.getElem_toArray, List.getElem_cons_zero, List.getElem_cons_succ, List.setIfInBounds_toArray, List.set_cons_zero, List.set_cons_succ]
    refine wpAnyH_done (by kernel_rfl) ?_ _
    have HM0 := Lib.hid (BlkIs.new wd 28 #[.int .i64 0, .string s1, .string s2, .slice none 0 0, .int .i64 0, .slice B9 m9 d9])
    have HW0 := Lib.hid (HBD.out.alloc HBD.out.size (.cells #[.int .i64 0, .string s1, .string s2, .slice none 0 0, .int .i64 0, .slice B9 m9 d9] 28))
    have HLT : Hid (wc.heap.size ≤ wd.heap.size ∧ w0.heap.size < wc.heap.size) := Lib.hid ⟨HBD.out.size, HDC.out.lt⟩
    clear nM x0 x1 x2 x3 x4 x5 f0 f1 f2 f3 f4 f5 hwn htn hHeld
    generalize wd.alloc (.cells #[.int .i64 0, .string s1, .string s2, .slice none 0 0, .int .i64 0, .slice B9 m9 d9] 28) = wm at *
    generalize wd.heap.size = bM at *
    have hbM : wc.heap.size ≤ bM := HLT.out.1
    have c0 := (HX0.out _ HW0.out).1
    have hc0 := HC0.out _ HW0.out
    have zi := (HM0.out.cell 0).trans (rfl : _ = some (Value.int .i64 0))
    have zfi := HM0.out.froz 0
    go_wp2_with fail
    refine (HNU0.out wm).mono ?_
    rintro e w12 ⟨hb12, i, ti, rfl, hib, hie⟩
    have HM1 : Hid (BlkIs w12 bM 28 #[.int .i64 0, .string s1, .string s2, .slice none 0 0, .int .i64 0, .slice B9 m9 d9]) := Lib.hid ((hb12.block _ HM0.out.lt).trans HM0.out)
    have HW1 := Lib.hid (HW0.out.trans (hb12.mono HW0.out.size))
    clear hb12 c0 hc0 zi zfi
    have zi := (HM1.out.cell 0).trans (rfl : _ = some (Value.int .i64 0))
    have zfi := HM1.out.froz 0
    have HM2 : Hid (BlkIs (w12.setCell ⟨bM, 0, none⟩ (.int .i64 i)) bM 28 #[.int .i64 i, .string s1, .string s2, .slice none 0 0, .int .i64 0, .slice B9 m9 d9]) := Lib.hid (HM1.out.put 0 _)
    have HW2 := Lib.hid (HW1.out.setCell (p := ⟨bM, 0, none⟩) hbM (.int .i64 i))
    have c3 := (HX3.out _ HW2.out).1
    have hc3 := HC3.out _ HW2.out
    have HIB := Lib.hid (And.intro hib hie)
    clear hib hie HM0 HW0 HM1 HW1
    go_wp2_with fail
    refine (HNU3.out _).mono ?_
    generalize w12.setCell ⟨bM, 0, none⟩ (.int .i64 i) = w13 at *
    rintro e w14 ⟨hb14, t, ti2, rfl, htb, hte⟩
    have HM3 : Hid (BlkIs w14 bM 28 #[.int .i64 i, .string s1, .string s2, .slice none 0 0, .int .i64 0, .slice B9 m9 d9]) := Lib.hid ((hb14.block _ HM2.out.lt).trans HM2.out)
    have HW3 := Lib.hid (HW2.out.trans (hb14.mono HW2.out.size))
    clear hb14 c3 hc3 zi zfi
    have zi := (HM3.out.cell 4).trans (rfl : _ = some (Value.int .i64 0))
    have zfi := HM3.out.froz 4
    have HM4 : Hid (BlkIs (w14.setCell ⟨bM, 4, none⟩ (.int .i64 t)) bM 28 #[.int .i64 i, .string s1, .string s2, .slice none 0 0, .int .i64 t, .slice B9 m9 d9]) := Lib.hid (HM3.out.put 4 _)
    have HW4 := Lib.hid (HW3.out.setCell (p := ⟨bM, 4, none⟩) hbM (.int .i64 t))
    have HTB := Lib.hid (And.intro htb hte)
    clear htb hte HM2 HW2 HM3 HW3 HX0 HX3 HC0 HC3 HNU0 HNU3
    have hwn : IntKind.i64.wrap ((kn : Int) - 1) = (kn : Int) - 1 := IntWalk.i64_in _ (by have hm4' := hm4; unfold maxLen at hm4'; omega)
    have htn : ((kn : Int) - 1).toNat = kn - 1 := by omega
    have hcx : (kn : Int) - 1 ≤ c4 := by omega
    have hcy : (5 : Int) ≤ (kn : Int) - 1 := by omega
    have hk6 : kn - 1 - 5 = kn - 6 := by omega
    have hTL : (ps.drop 5).dropLast.length = kn - 6 := by rw [List.length_dropLast, List.length_drop, HKN.out.1]; omega
    have HTE : Hid (∀ k, k < kn - 6 → ((ps.drop 5).dropLast).getD k [] = ps.getD (5 + k) []) := Lib.hid fun k hk => HDT.out.2.2 k (by rw [HKN.out.1]; exact hk)
    have HEL2 : Hid (∀ k, k < kn - 6 → ∃ A' c', (∀ X, Below wc.heap.size wc X → X.cell? ⟨g, 5 + k, none⟩ = some (.slice A' (((ps.drop 5).dropLast).getD k []).length c') ∧ (convert 22 9 (.slice A' (((ps.drop 5).dropLast).getD k []).length c')).run Tryz.prog X = .ok (.string (str (((ps.drop 5).dropLast).getD k []))) X)) := Lib.hid fun k hk => by
      rw [HTE.out k hk]
      exact HELS.out k hk
    have HTB2 : Hid (∀ k, (((ps.drop 5).dropLast).getD k []).length ≤ 10000) := Lib.hid fun k => by
      rcases Nat.lt_or_ge k (kn - 6) with hk | hk
      · rw [HTE.out k hk]; exact HPLN.out _
      · rw [List.getD, List.getElem?_eq_none (by rw [hTL]; exact hk)]; simp
    clear HELS HTE HDT HPLN
    generalize (ps.drop 5).dropLast = TO at *
    have HTL := Lib.hid hTL
    clear hTL
    go_upto_region 14 with fail
    generalize w14.setCell ⟨bM, 4, none⟩ (.int .i64 t) = w15 at *
    have HBMW : Hid (bM < w15.heap.size) := Lib.hid HM4.out.lt
    go_loopw [81] (fun vj wr => ∃ (va : Value) (k : Nat), vj = .int .i64 (k : Nat) ∧ k ≤ kn - 6 ∧ Hid (BlkIs wr bM 28 #[.int .i64 i, .string s1, .string s2, va, .int .i64 t, .slice B9 m9 d9]) ∧ Hid (Below wc.heap.size wc wr) ∧ Hid (OwnT wr (bM + 1) va (TO.take k))) (fun vj _ => ((kn : Int) - intOf vj).toNat)
    case atStart => exact ⟨.slice none 0 0, 0, rfl, by omega, HM4, HW4, Lib.hid (OwnT.nil _ _)⟩
    case round =>
      obtain ⟨va, k, rfl, hk, HMr, HWr, HOr⟩ := hrel
      clear HM4 HW4 HBMW
      by_cases hlt : (k : Int) < ((kn - 6 : Nat) : Int)
      · obtain ⟨A', c', hX⟩ := HEL2.out k (by omega)
        have hXX := Lib.hid hX
        clear hX
        generalize hpk : TO.getD k [] = pk at *
        have HPK := Lib.hid hpk
        clear hpk
        generalize hqn : pk.length = qn at *
        generalize hsp : str pk = sp at *
        have HSP := Lib.hid (And.intro hqn hsp)
        clear hqn hsp
        have ce := (hXX.out _ HWr.out).1
        have z3 := (HMr.out.cell 3).trans (rfl : _ = some va)
        have hcv := (hXX.out _ HWr.out).2
        have HBA : Hid (Below wr.heap.size wr (wr.alloc (.cells #[.string sp] 9))) := Lib.hid ((Below.refl _ wr).alloc (Nat.le_refl _) _)
        have HOA := Lib.hid (HOr.out.below HBA.out)
        have HTX : Hid (Tx (wr.alloc (.cells #[.string sp] 9)) (wr.heap.size + 1) (some ⟨wr.heap.size, 0, none⟩) [pk]) := Lib.hid (tx_lit wr #[.string sp] [pk] (by rw [← HSP.out.2]; rfl) (0, 0))
        have hzA : bM + 1 ≤ (wr.alloc (.cells #[.string sp] 9)).heap.size := by have := HMr.out.lt; simp; omega
        have HTK : Hid (TO.take k ++ [pk] = TO.take (k + 1)) := Lib.hid (by
          have hk' : k < TO.length := by rw [HTL.out]; omega
          rw [List.take_add_one, List.getElem?_eq_getElem hk', ← HPK.out]
          simp [List.getD, hk'])
        have htl : (TO.take k).length = k := by rw [List.length_take, HTL.out]; omega
        have HTLK := Lib.hid htl
        clear htl
        go_wp2_with (first
          | (refine lappTx (.tmp 87) (.tmp 90) rfl rfl (v := va) (by rfl) HOA.out (A := some ⟨wr.heap.size, 0, none⟩) (m := 1) (c := 1) (by rfl) HTX.out rfl (by rw [HTLK.out]; omega) hzA ?_; intro v11 w11 h1 h2; have HO11 : Hid (OwnT w11 (bM + 1) v11 (TO.take (k + 1))) := Lib.hid (by rw [← HTK.out]; exact h1); have HM11 : Hid (BlkIs w11 bM 28 #[.int .i64 i, .string s1, .string s2, va, .int .i64 t, .slice B9 m9 d9]) := Lib.hid ((HMr.out.alloc (.cells #[.string sp] 9)).grown h2 (fun e => by have := (HOA.out.lt _ e).1; omega)); have HW11 : Hid (Below wc.heap.size wc w11) := Lib.hid ((HWr.out.alloc HWr.out.size (.cells #[.string sp] 9)).grown h2 (by rw [World.size_alloc]; have := HWr.out.size; omega) (fun g hg => by have := (HOA.out.lt g hg).1; omega)); clear h1 h2; have z3b := (HM11.out.cell 3).trans (rfl : _ = some va); have zf3 := HM11.out.froz 3; have HM12 : Hid (BlkIs (w11.setCell ⟨bM, 3, none⟩ v11) bM 28 #[.int .i64 i, .string s1, .string s2, v11, .int .i64 t, .slice B9 m9 d9]) := Lib.hid (HM11.out.put 3 v11); have HW12 : Hid (Below wc.heap.size wc (w11.setCell ⟨bM, 3, none⟩ v11)) := Lib.hid (HW11.out.setCell (p := ⟨bM, 3, none⟩) hbM v11); have HO12 : Hid (OwnT (w11.setCell ⟨bM, 3, none⟩ v11) (bM + 1) v11 (TO.take (k + 1))) := Lib.hid (own_far HO11.out (fun g hg => by have := (HO11.out.lt g hg).1; show g ≠ bM; omega) v11); obtain ⟨Av, cv, rfl, _, _⟩ := OwnT.slice HO11.out; generalize hq : (TO.take (k + 1)).length = k11 at *; clear hq)
          | fail)
        go_roundw
        case rel => exact ⟨_, k + 1, by go_num, by omega, HM12, HW12, HO12⟩
        case measure => simp [intOf]; omega
      · obtain rfl : k = kn - 6 := by omega
        have HOE : Hid (OwnT wr (bM + 1) va TO) := Lib.hid (by have := HOr.out; rw [List.take_of_length_le (by rw [HTL.out]; omega)] at this; exact this)
        clear HOr HEL2
        obtain ⟨Av, cv, rfl, hv1, hv2⟩ := OwnT.slice HOE.out
        have HBW : Hid (Below w0.heap.size w0 wr) := Lib.hid (HBC.out.trans (HWr.out.mono HBC.out.size))
        have HX99 := Lib.hid (HX9.out _ HWr.out).2
        have HMAT : Hid (MsgAt wr wr.heap.size (.agg #[.int .i64 i, .string s1, .string s2, .slice Av TO.length cv, .int .i64 t, .slice B9 m9 d9]) ⟨i, p1, p2, TO, t, p9⟩) := Lib.hid ⟨Av, cv, B9, d9, by rw [← HLN.out.2.2.1, ← HLN.out.2.2.2.1, ← HLN.out.2.2.2.2], HOE.out.tx, hv1, hv2, HX99.out.1.more HWr.out.size, by rw [HLN.out.2.2.1]; exact HX99.out.2.1, HX99.out.2.2, trivial⟩
        have HSMM : Hid (SmallM ⟨i, p1, p2, TO, t, p9⟩) := Lib.hid ⟨by show p1.length ≤ 100000; rw [HLN.out.1]; have := HPP.out.1; omega, by show p2.length ≤ 100000; rw [HLN.out.2.1]; have := HPP.out.2.1; omega, fun j => by show (TO.getD j []).length ≤ _; have := HTB2.out j; omega, by show TO.length ≤ 1000; rw [HTL.out]; omega, HTB.out.1.1, HTB.out.1.2, HIB.out.1.1, HIB.out.1.2, by show p9.length ≤ 1000000; rw [HLN.out.2.2.1]; have := HPP.out.2.2; omega⟩
        have HENm := Lib.hid (HENC.out wr _ _ HBW.out HMAT.out HSMM.out)
        have HENDm := Lib.hid (HEND.out i t HIB.out.2 HTB.out.2 (by have := HTB.out.1.2; omega))
        have HDr : Hid (BlkIs wr w0.heap.size 28 #[.int .i64 0, .string ⟨#[]⟩, .string ⟨#[]⟩, .slice none 0 0, .int .i64 0, .slice none 0 0]) := Lib.hid ((HWr.out.block _ HDC.out.lt).trans HDC.out)
        have HLOB : Hid (w0.heap.size < bM) := Lib.hid (by have := HDC.out.lt; omega)
        generalize hmm : (⟨i, p1, p2, TO, t, p9⟩ : M) = mm at *
        have HMM := Lib.hid hmm
        clear hmm HSMM HEND HENC
        generalize hto : TO.length = tn at *
        have HTO := Lib.hid hto
        clear hto
        have y0 := (HMr.out.cell 0).trans (rfl : _ = some (Value.int .i64 i))
        have y1 := (HMr.out.cell 1).trans (rfl : _ = some (Value.string s1))
        have y2 := (HMr.out.cell 2).trans (rfl : _ = some (Value.string s2))
        have y3 := (HMr.out.cell 3).trans (rfl : _ = some (Value.slice Av tn cv))
        have y4 := (HMr.out.cell 4).trans (rfl : _ = some (Value.int .i64 t))
        have y5 := (HMr.out.cell 5).trans (rfl : _ = some (Value.slice B9 m9 d9))
        go_upto_region 18 with fail
        go_wp2_with fail
        refine HENm.out.mono ?_
        rintro e w2 ⟨hb2, ⟨hok, v2, rfl, ho2⟩ | ⟨hok, rfl⟩⟩
        · obtain ⟨A13, c13, rfl, _, _⟩ := own_slice ho2
          have HB2 := Lib.hid (HBW.out.trans (hb2.mono HBW.out.size))
          have HD2 : Hid (BlkIs w2 w0.heap.size 28 #[.int .i64 0, .string ⟨#[]⟩, .string ⟨#[]⟩, .slice none 0 0, .int .i64 0, .slice none 0 0]) := Lib.hid ((hb2.block _ HDr.out.lt).trans HDr.out)
          have HM2 : Hid (BlkIs w2 bM 28 #[.int .i64 i, .string s1, .string s2, .slice Av tn cv, .int .i64 t, .slice B9 m9 d9]) := Lib.hid ((hb2.block _ HMr.out.lt).trans HMr.out)
          have HO2 := Lib.hid (HOE.out.below hb2)
          have HP2 : Hid (Bts w2 w2.heap.size B9 p9) := Lib.hid (((HX99.out.1.more HWr.out.size).below hb2).more hb2.size)
          have hcv := conv_str ho2.bts c13
          have hcb := HCB.out _ HB2.out
          have HOK := Lib.hid hok
          clear hb2 ho2 hok y0 y1 y2 y3 y4 y5
          generalize (putS (fldS mm)).length = pl at *
          have HSI := Lib.hid (str_inj (a := putS (fldS mm)) (b := b))
          generalize str (putS (fldS mm)) = sP at *
          generalize str b = sB at *
          have y0 := (HM2.out.cell 0).trans (rfl : _ = some (Value.int .i64 i))
          have y1 := (HM2.out.cell 1).trans (rfl : _ = some (Value.string s1))
          have y2 := (HM2.out.cell 2).trans (rfl : _ = some (Value.string s2))
          have y3 := (HM2.out.cell 3).trans (rfl : _ = some (Value.slice Av tn cv))
          have y4 := (HM2.out.cell 4).trans (rfl : _ = some (Value.int .i64 t))
          have y5 := (HM2.out.cell 5).trans (rfl : _ = some (Value.slice B9 m9 d9))
          have z0 := (HD2.out.cell 0).trans (rfl : _ = some (Value.int .i64 0))
          have z1 := (HD2.out.cell 1).trans (rfl : _ = some (Value.string ⟨#[]⟩))
          have z2 := (HD2.out.cell 2).trans (rfl : _ = some (Value.string ⟨#[]⟩))
          have z3 := (HD2.out.cell 3).trans (rfl : _ = some (Value.slice none 0 0))
          have z4 := (HD2.out.cell 4).trans (rfl : _ = some (Value.int .i64 0))
          have z5 := (HD2.out.cell 5).trans (rfl : _ = some (Value.slice none 0 0))
          have f0 := HD2.out.froz 0
          have f1 := HD2.out.froz 1
          have f2 := HD2.out.froz 2
          have f3 := HD2.out.froz 3
          have f4 := HD2.out.froz 4
          have f5 := HD2.out.froz 5
          by_cases hq : sP = sB
          · subst hq
            have HY : Hid (decS b = some mm) := Lib.hid (by
              rw [HENDm.out, if_pos]
              unfold encS
              rw [HOK.out, if_pos rfl, HSI.out.1 rfl])
            have HF := Lib.hid (And.intro (six_below HB2.out (Nat.le_refl _) (.int .i64 i) (.string s1) (.string s2) (.slice Av tn cv) (.int .i64 t) (.slice B9 m9 d9)) (And.intro (six_blk HD2.out (.int .i64 i) (.string s1) (.string s2) (.slice Av tn cv) (.int .i64 t) (.slice B9 m9 d9)) (And.intro (six_own (D := w0.heap.size) HO2.out (fun g hg => by have h1 := (HO2.out.lt g hg).1; have h2 := HLOB.out; omega) (.int .i64 i) (.string s1) (.string s2) (.slice Av tn cv) (.int .i64 t) (.slice B9 m9 d9)) (bts_far (w' := six w2 w0.heap.size (.int .i64 i) (.string s1) (.string s2) (.slice Av tn cv) (.int .i64 t) (.slice B9 m9 d9)) HD2.out HP2.out (fun k hk => six_heap hk _ _ _ _ _ _)))))
            have HSZ : Hid (w2.heap.size ≤ (six w2 w0.heap.size (.int .i64 i) (.string s1) (.string s2) (.slice Av tn cv) (.int .i64 t) (.slice B9 m9 d9)).heap.size) := Lib.hid (six_below (Below.refl 0 w2) (Nat.zero_le _) _ _ _ _ _ _).size
            unfold six at HF HSZ
            clear HENDm HSI HMAT HENm
            go_wp2_with fail
            refine bodyPost_ret (res_RDec _ HF.out.2.1 rfl) rfl ⟨HF.out.1, .inr ⟨mm, _, HY.out, rfl, ?_⟩⟩
            rw [← HMM.out]
            refine ⟨Av, cv, B9, d9, ?_, ?_, ?_, ?_, ?_, ?_, ?_, trivial⟩
            · rw [← HLN.out.2.2.1, ← HLN.out.2.2.2.1, ← HLN.out.2.2.2.2, ← HTO.out]
            · exact OwnT.tx HF.out.2.2.1
            · rw [HTO.out]; exact hv1
            · exact hv2
            · exact HF.out.2.2.2.more HSZ.out
            · rw [HLN.out.2.2.1]; exact HX99.out.2.1
            · exact HX99.out.2.2
          · have HN : Hid (decS b = none) := Lib.hid (by
              rw [HENDm.out, if_neg]
              unfold encS
              rw [HOK.out, if_pos rfl]
              intro e
              injection e with e
              exact hq (HSI.out.2 e))
            have hq2 := str_ne2 hq
            have HF := Lib.hid (And.intro (six_below HB2.out (Nat.le_refl _) (.int .i64 0) (.string ⟨#[]⟩) (.string ⟨#[]⟩) (.slice none 0 0) (.int .i64 0) (.slice none 0 0)) (six_blk HD2.out (.int .i64 0) (.string ⟨#[]⟩) (.string ⟨#[]⟩) (.slice none 0 0) (.int .i64 0) (.slice none 0 0)))
            unfold six at HF
            clear HENDm HSI HMAT HENm
            go_wp2_with fail
            exact bodyPost_ret (res_RDec _ HF.out.2 rfl) rfl ⟨HF.out.1, .inl ⟨HN.out, rfl⟩⟩
        · have HB2 := Lib.hid (HBW.out.trans (hb2.mono HBW.out.size))
          have HD2 : Hid (BlkIs w2 w0.heap.size 28 #[.int .i64 0, .string ⟨#[]⟩, .string ⟨#[]⟩, .slice none 0 0, .int .i64 0, .slice none 0 0]) := Lib.hid ((hb2.block _ HDr.out.lt).trans HDr.out)
          have HN : Hid (decS b = none) := Lib.hid (by
            rw [HENDm.out, if_neg]
            unfold encS
            rw [hok]
            simp)
          have z0 := (HD2.out.cell 0).trans (rfl : _ = some (Value.int .i64 0))
          have z1 := (HD2.out.cell 1).trans (rfl : _ = some (Value.string ⟨#[]⟩))
          have z2 := (HD2.out.cell 2).trans (rfl : _ = some (Value.string ⟨#[]⟩))
          have z3 := (HD2.out.cell 3).trans (rfl : _ = some (Value.slice none 0 0))
          have z4 := (HD2.out.cell 4).trans (rfl : _ = some (Value.int .i64 0))
          have z5 := (HD2.out.cell 5).trans (rfl : _ = some (Value.slice none 0 0))
          have f0 := HD2.out.froz 0
          have f1 := HD2.out.froz 1
          have f2 := HD2.out.froz 2
          have f3 := HD2.out.froz 3
          have f4 := HD2.out.froz 4
          have f5 := HD2.out.froz 5
          have HF := Lib.hid (And.intro (six_below HB2.out (Nat.le_refl _) (.int .i64 0) (.string ⟨#[]⟩) (.string ⟨#[]⟩) (.slice none 0 0) (.int .i64 0) (.slice none 0 0)) (six_blk HD2.out (.int .i64 0) (.string ⟨#[]⟩) (.string ⟨#[]⟩) (.slice none 0 0) (.int .i64 0) (.slice none 0 0)))
          unfold six at HF
          clear hb2 hok HENDm HMAT HENm y0 y1 y2 y3 y4 y5
          go_wp2_with fail
          exact bodyPost_ret (res_RDec _ HF.out.2 rfl) rfl ⟨HF.out.1, .inl ⟨HN.out, rfl⟩⟩
end En
end Go.Proofs.YtpfonpjcnpfipaaGreatDoor
