/- mbox's reader: read; Parse. Conditions: as stated at each. -/
import Derived.Test.YtamekflgidfnfaaGreatDoorMbRow
namespace Go.Proofs.YtamekflgidfnfaaGreatDoor
set_option maxRecDepth 100000
namespace Mb
open Go.RowKit Go Go.Proofs.YtamekflgidfnfaaGreatDoor.Pa
theorem body_any {w : World} {N R K : Nat} {lv vf va vb : Value} {l : L} (h : Rd w N R lv l) (hK : BlkIs w K 43 #[vf, va, vb]) (hNR : N ≤ R) (hNK : N ≤ K) (hRK : R ≠ K) (hl : l.length ≤ 30000) :
    Calls Tryz.prog 34 #[.pointer (some ⟨R, 0, none⟩), .pointer (some ⟨K, 0, none⟩)] w (BodyQ w N R K lv vf va l) := callsIn_wide.1 (body_in h hK hNR hNK hRK hl)
abbrev fnc (f : Nat) (R : Nat) : Value := .func (.func f) #[.pointer (some ⟨R, 0, none⟩)] #[]
abbrev parts (R : Nat) : Array Value := #[fnc 32 R, fnc 33 R, fnc 34 R]
/-- between two letters. -/
def OutI (w : World) (N R : Nat) (b : L) (X : World) : Prop :=
  ∃ (ls : List Lt) (rest : L) (lv : Value), parseS b = (parseS rest).map (ls ++ ·) ∧ Rd X N R lv rest ∧ Row X w.heap.size lv ls ∧ BlkIs X w.heap.size 68 (parts R) ∧ Tn (fun k => k = R) w X ∧ rest.length ≤ b.length ∧ ls.length + rest.length ≤ b.length
/-- what is left, as the memory has it. -/
def left (R : Nat) (X : World) : Nat := match X.cell? ⟨R, 1, none⟩ with | some (.slice _ k _) => k | _ => 0
theorem left_is {X : World} {N R : Nat} {lv : Value} {l : L} (h : Rd X N R lv l) : left R X = l.length := by
  obtain ⟨A, c, h1, _⟩ := h
  unfold left
  rw [(h1.cell 1).trans (rfl : _ = some (Value.slice A l.length c))]
/-- between two parts of a letter. -/
def PartI (wk : World) (N R K : Nat) (lv : Value) (l : L) (m : Nat) (X : World) : Prop :=
  Tn (fun k => k = R ∨ k = K) wk X ∧
   ((m = 0 ∧ Rd X N R lv l ∧ BlkIs X K 43 #[.string ⟨#[]⟩, .int .i64 0, .slice none 0 0]) ∨
    (m = 1 ∧ C1 l ∧ Rd X N R lv (b2 l) ∧ BlkIs X K 43 #[.string (str (whom (Pa.ahead 32 (l.drop 5)))), .int .i64 0, .slice none 0 0]) ∨
    (m = 2 ∧ C1 l ∧ has 10 (b2 l) = true ∧ ∃ n : Nat, numS (Pa.ahead 10 (b2 l)) = some n ∧ Rd X N R lv (b3 l) ∧ BlkIs X K 43 #[.string (str (whom (Pa.ahead 32 (l.drop 5)))), .int .i64 (n : Int), .slice none 0 0]) ∨
    (m = 3 ∧ ∃ (x : Lt) (r : L), letS l = some (x, r) ∧ Rd X N R lv r ∧ ∃ A c, BlkIs X K 43 #[.string (str x.1), .int .i64 x.2.1, .slice A x.2.2.length c] ∧ x.2.2.length ≤ c ∧ c ≤ maxLen ∧ (A = none → c = 0) ∧ Bu X A x.2.2))
/-- what read comes to. -/
def ReadQ (w : World) (R : Nat) (b : L) (e : Ending) (w' : World) : Prop :=
  Tn (fun k => k = R) w w' ∧ ((∃ ls lv rv, parseS b = some ls ∧ e = .returned (.tuple #[]) ∧ BlkIs w' R 45 #[lv, rv] ∧ Row w' w.heap.size lv ls) ∨ (parseS b = none ∧ e = bad 100))
theorem tn_mono {R K : Nat} {w X Y : World} (h : Tn (fun k => k = R) w X) (k : Tn (fun k => k = R ∨ k = K) X Y) (hK : w.heap.size ≤ K) : Tn (fun k => k = R) w Y :=
  ⟨k.os.trans h.os, k.tape.trans h.tape, k.output.trans h.output, Nat.le_trans h.size k.size, fun i hi hp => (k.block i (Nat.lt_of_lt_of_le hi h.size) (fun e => by rcases e with e | e; exact hp e; omega)).trans (h.block i hi hp)⟩
set_option maxHeartbeats 3200000 in
theorem read_any {w : World} {N R : Nat} {b : L} (h : Rd w N R (.slice none 0 0) b) (hNR : N ≤ R) (hl : b.length ≤ 30000) (hT : GlT w) (hE : GlE w)
    (hgN : 1 < N ∧ 2 < N ∧ 3 < N) :
    Calls Tryz.prog 15 #[.pointer (some ⟨R, 0, none⟩)] w (ReadQ w R b) := by
  have hRlt := h.lt
  have hNw : N ≤ w.heap.size := by omega
  have hmf : ∀ (fn : Fn) (first cap : Array Value) (w : World), (Instr.makeFunc fn first cap).run Tryz.prog w = .ok (.func fn first cap) w := fun _ _ _ _ => rfl
  have HGB : Hid (∀ X, Tn (fun k => k = R) w X → GlT X ∧ GlE X) := Lib.hid fun X hX => by
    have hb : Below N w X := hX.below hNw (fun i hi e => by omega)
    exact ⟨hT.below hb hgN.1, hE.below hb hgN.2⟩
  have HGN := Lib.hid hgN
  have hP := BlkIs.new w 68 (parts R)
  have hT0 : Tn (fun k => k = R) w (w.alloc (.cells (parts R) 68)) := (Tn.refl _ w).alloc _
  have hR0 : Rd (w.alloc (.cells (parts R) 68)) N R (.slice none 0 0) b := h.tn (p := fun _ => False) ((Tn.refl _ w).alloc _) (fun e => e) hNw (fun _ _ e => e)
  have H0 : Hid (OutI w N R b (w.alloc (.cells (parts R) 68))) := Lib.hid ⟨[], b, _, by cases parseS b <;> rfl, hR0, Row.nil _ _, hP, hT0, Nat.le_refl _, by simp⟩
  clear h hT hE hP hT0 hR0 hgN
  go_enter Tryz.func15, Tryz.ntmps15
  go_wp2_with fail
  go_loopw [] (fun wr => OutI w N R b wr) (fun wr => left R wr)
  case atStart => exact H0.out
  case round =>
    obtain ⟨ls, rest, lv, hpar, hrd, hrow, hpb, htn, hrl, hcn⟩ := hrel
    have hle := left_is hrd
    have HRD := Lib.hid hrd
    obtain ⟨A, cp, hR, _, _, _, _⟩ := hrd
    have x1 := (hR.cell 1).trans (rfl : _ = some (Value.slice A rest.length cp))
    by_cases h0 : rest = []
    · subst h0
      have HF : Hid (ReadQ w R b (.returned (.tuple #[])) wr) := Lib.hid ⟨htn, .inl ⟨ls, lv, .slice A 0 cp, by rw [hpar, parse_nil]; simp, rfl, hR, hrow⟩⟩
      rw [List.length_nil] at x1
      clear hpar hrow hpb htn hR
      go_wp2_with fail
      go_end0
      exact HF.out
    · have hpos := List.length_pos_iff.2 h0
      have hgt : (0 : Int) < (rest.length : Int) := by omega
      have HPAR := Lib.hid hpar
      have HROW := Lib.hid hrow
      have HPB := Lib.hid hpb
      have HTN := Lib.hid htn
      have HH0 := Lib.hid h0
      have HRR := Lib.hid hR
      rename World => wb
      have hMb : w.heap.size ≤ wb.heap.size := HTN.out.size
      have hPlt : w.heap.size < wb.heap.size := HPB.out.lt
      have hz := BlkIs.new wb 43 #[.string ⟨#[]⟩, .int .i64 0, .slice none 0 0]
      have hR1 : Rd (wb.alloc (.cells #[.string ⟨#[]⟩, .int .i64 0, .slice none 0 0] 43)) N R lv rest := HRD.out.tn (p := fun _ => False) ((Tn.refl _ wb).alloc _) (fun e => e) (by omega) (fun _ _ e => e)
      have HI0 : Hid (PartI (wb.alloc (.cells #[.string ⟨#[]⟩, .int .i64 0, .slice none 0 0] 43)) N R wb.heap.size lv rest 0 (wb.alloc (.cells #[.string ⟨#[]⟩, .int .i64 0, .slice none 0 0] 43))) := Lib.hid ⟨Tn.refl _ _, .inl ⟨rfl, hR1, hz⟩⟩
      have hal : Tn (fun k => k = R ∨ k = wb.heap.size) wb (wb.alloc (.cells #[.string ⟨#[]⟩, .int .i64 0, .slice none 0 0] 43)) := (Tn.refl _ wb).alloc _
      have HAL := Lib.hid hal
      have hwk : (wb.alloc (.cells #[.string ⟨#[]⟩, .int .i64 0, .slice none 0 0] 43)).heap.size = wb.heap.size + 1 := by simp
      clear hpar hrow hpb htn hR hz hR1 hal HRD h0
      go_wp2_with fail
      generalize wb.alloc (.cells #[.string ⟨#[]⟩, .int .i64 0, .slice none 0 0] 43) = wk at *
      go_loopw [21] (fun i wr => ∃ m : Nat, i = .int .i64 m ∧ m ≤ 3 ∧ PartI wk N R wb.heap.size lv rest m wr) (fun i _ => 3 - (intOf i).toNat)
      case atStart => exact ⟨0, rfl, by omega, HI0.out⟩
      case round =>
        obtain ⟨m, rfl, hm3, hti, hph⟩ := hrel
        have HTI := Lib.hid hti
        have hPX : BlkIs wr w.heap.size 68 (parts R) := (HPB.out.tn HAL.out (by omega)).tn hti (by omega)
        have hwx : wk.heap.size ≤ wr.heap.size := hti.size
        have HTW : Hid (Tn (fun k => k = R) w wr) := Lib.hid (tn_mono (tn_mono HTN.out HAL.out hMb) hti hMb)
        have hRKne : R ≠ wb.heap.size := by omega
        have hNK : N ≤ wb.heap.size := by omega
        clear hti
        rcases hph with ⟨rfl, hr, hk⟩ | ⟨rfl, hc1, hr, hk⟩ | ⟨rfl, hc1, hh, nn, hns, hr, hk⟩ | ⟨rfl, x, r, hlet, hr, A3, c3, hk, hl3, hm3', hA3, hbu⟩
        · have p0 := (hPX.cell 0).trans (rfl : _ = some (fnc 32 R))
          have HC := Lib.hid (from_any hr hk hNR hNK hRKne (by omega))
          clear hPX hr hk
          go_wp2_with fail
          refine HC.out.mono ?_
          rintro e w2 ⟨ht2, ⟨h1, rfl, h2, h3⟩ | ⟨h1, rfl⟩⟩
          · have HF : Hid (PartI wk N R wb.heap.size lv rest 1 w2) := Lib.hid ⟨HTI.out.trans ht2, .inr (.inl ⟨rfl, h1, h2, h3⟩)⟩
            clear ht2 h1 h2 h3
            go_wp2_with fail
            go_roundw
            case rel => exact ⟨1, by go_num, by omega, HF.out⟩
            case measure => simp [intOf]
          · refine ⟨rfl, tn_mono HTW.out ht2 hMb, .inr ⟨?_, rfl⟩⟩
            rw [HPAR.out, parse_none HH0.out (let_no1 h1)]
            rfl
        · have p1 := (hPX.cell 1).trans (rfl : _ = some (fnc 33 R))
          have hb2 := b2_len rest
          have HC := Lib.hid (at_any hr hk hNR hNK hRKne (by omega) (HGB.out _ HTW.out).1 (HGB.out _ HTW.out).2 HGN.out)
          have HC1 := Lib.hid hc1
          clear hPX hr hk hc1
          go_wp2_with fail
          refine HC.out.mono ?_
          rintro e w2 ⟨ht2, ⟨h1, n2, h2, rfl, h3, h4⟩ | ⟨h1, rfl⟩⟩
          · have HF : Hid (PartI wk N R wb.heap.size lv rest 2 w2) := Lib.hid ⟨HTI.out.trans ht2, .inr (.inr (.inl ⟨rfl, HC1.out, h1, n2, h2, h3, h4⟩))⟩
            clear ht2 h1 h2 h3 h4
            go_wp2_with fail
            go_roundw
            case rel => exact ⟨2, by go_num, by omega, HF.out⟩
            case measure => simp [intOf]
          · refine ⟨rfl, tn_mono HTW.out ht2 hMb, .inr ⟨?_, rfl⟩⟩
            rw [HPAR.out, parse_none HH0.out (let_no2 h1)]
            rfl
        · have p2 := (hPX.cell 2).trans (rfl : _ = some (fnc 34 R))
          have hb3 := b3_len rest
          have HC := Lib.hid (body_any hr hk hNR hNK hRKne (by omega))
          have HC1 := Lib.hid (And.intro hc1 (And.intro hh hns))
          clear hPX hr hk hc1 hh hns
          go_wp2_with fail
          refine HC.out.mono ?_
          rintro e w2 ⟨ht2, ⟨h1, rfl, h3, A4, c4, h4, h5⟩ | ⟨h1, rfl⟩⟩
          · obtain ⟨A5, c5, e5, hl5, hm5⟩ := own_slice h5
            injection e5 with e51 e52 e53
            subst e51; subst e53
            have hA5 : A4 = none → c4 = 0 := fun e => by
              subst e
              rcases h5.2 with ⟨hv, _⟩ | ⟨g, _, _, hv, _⟩
              · injection hv
              · injection hv with hv; cases hv
            have HF : Hid (PartI wk N R wb.heap.size lv rest 3 w2) := Lib.hid ⟨HTI.out.trans ht2, .inr (.inr (.inr ⟨rfl, _, _, let_some HC1.out.1 HC1.out.2.1 HC1.out.2.2 h1, h3, A4, c4, h4, hl5, hm5, hA5, Bu.own h5⟩))⟩
            clear ht2 h1 h3 h4 h5 e52 hl5 hm5 hA5
            go_wp2_with fail
            go_roundw
            case rel => exact ⟨3, by go_num, by omega, HF.out⟩
            case measure => simp [intOf]
          · refine ⟨rfl, tn_mono HTW.out ht2 hMb, .inr ⟨?_, rfl⟩⟩
            rw [HPAR.out, parse_none HH0.out (let_no3 h1)]
            rfl
        · have HLET := Lib.hid hlet
          have HBU := Lib.hid hbu
          have HRX := Lib.hid hr
          have HKX := Lib.hid hk
          have HPX := Lib.hid hPX
          obtain ⟨Ar, cr, hRX, _, _, _, _⟩ := HRX.out
          have HRB := Lib.hid hRX
          have HSZ := Lib.hid (And.intro hl3 (And.intro hm3' hA3))
          clear hlet hbu hr hk hPX hRX hl3 hm3' hA3
          have hTX := HAL.out.trans HTI.out
          have hbn : ∀ i, lv.ownBlock = some i → w.heap.size ≤ i ∧ i < wb.heap.size := fun i hi => by
            obtain ⟨h1, cs, fr, h2⟩ := HROW.out.low i hi
            exact ⟨h1, (Array.getElem?_eq_some_iff.1 h2).1⟩
          have hKU : KU wb wr := KU.tn hTX (fun i hi => by
            rcases hi with rfl | rfl
            · exact blk_not HRR.out (by decide)
            · intro cs fr e
              rw [Array.getElem?_eq_none (Nat.le_refl _)] at e
              cases e)
          have hRW : Row wr w.heap.size lv ls := HROW.out.keep hKU (fun i hi => hTX.block i (hbn i hi).2 (fun e => by have := hbn i hi; omega))
          obtain ⟨Al, cl, rfl, hcl, hml⟩ := hRW.slice
          obtain ⟨xs, ho, hxl, hxb⟩ := hRW
          have hRc := (HRB.out.cell 0).trans (rfl : _ = some (Value.slice Al ls.length cl))
          have hRf := HRB.out.froz 0
          have hK0 := (HKX.out.cell 0).trans (rfl : _ = some (Value.string (str x.1)))
          have hK1 := (HKX.out.cell 1).trans (rfl : _ = some (Value.int .i64 x.2.1))
          have hK2 := (HKX.out.cell 2).trans (rfl : _ = some (Value.slice A3 x.2.2.length c3))
          have HXB := Lib.hid hxb
          have HXL := Lib.hid hxl
          have HBN := Lib.hid hbn
          have HLL := Lib.hid (let_len HLET.out)
          have HPS := Lib.hid (parse_some HLET.out)
          clear hTX hKU hxb hxl hbn
          have HOW := Lib.hid ho
          clear ho
          have HP1 : Hid (Value.oneCell' (.string (str x.1)) = true ∧ Value.oneCell' (.int .i64 x.2.1) = true ∧ Value.oneCell' (.slice A3 x.2.2.length c3) = true) := Lib.hid ⟨rfl, rfl, rfl⟩
          generalize hs1 : str x.1 = s1 at *
          generalize hv1 : x.2.1 = v1 at *
          generalize hn1 : x.2.2.length = n1 at *
          have HE := Lib.hid (And.intro hs1 (And.intro hv1 hn1))
          clear hs1 hv1 hn1
          generalize hll : ls.length = ll at *
          have HLN := Lib.hid hll
          clear hll
          go_wp2_with fail
          refine wp_region_key ((fun Y => Y.cell? ⟨R, 0, none⟩ = some (.slice Al ll cl) ∧ Y.frozen? ⟨R, 0, none⟩ = false ∧ Y.cell? ⟨wb.heap.size, 0, none⟩ = some (.string s1) ∧ Y.cell? ⟨wb.heap.size, 1, none⟩ = some (.int .i64 v1) ∧ Y.cell? ⟨wb.heap.size, 2, none⟩ = some (.slice A3 n1 c3))) 10 (by kernel_rfl) (⟨hRc, hRf, hK0, hK1, hK2⟩) (fun hHeld => ?_)
          have HRB2 : Hid (BlkIs wr.drew R 45 #[.slice Al ll cl, .slice Ar r.length cr]) := HRB
          have HKX2 : Hid (BlkIs wr.drew wb.heap.size 43 #[.string s1, .int .i64 v1, .slice A3 n1 c3]) := HKX
          have HOW2 : Hid (wr.drew.ownsRow w.heap.size 43 3 (.slice Al ll cl) xs.length (tc xs)) := HOW
          have HTD : Hid (Tn (fun k => k = R) w wr.drew) := Lib.hid ⟨HTW.out.os, HTW.out.tape, HTW.out.output, HTW.out.size, HTW.out.block⟩
          have HPD : Hid (BlkIs wr.drew w.heap.size 68 (parts R)) := HPX
          have HRXD : Hid (Rd wr.drew N R (.slice Al ll cl) r) := HRX
          have HKUD : Hid (KU wr wr.drew) := Lib.hid fun _ _ _ h => h
          have hwd : wb.heap.size < wr.drew.heap.size := by show wb.heap.size < wr.heap.size; omega
          have HWE : Hid (wr.drew.heap.size = wr.heap.size) := Lib.hid rfl
          clear hRc hRf hK0 hK1 hK2
          generalize wr.drew = wd at *
          refine wpAnyK_take (i := 0) (v := .pointer (some ⟨R, 0, none⟩)) rfl (by kernel_rfl) (by kernel_rfl) (by kernel_rfl) (by kernel_rfl) (fun _ _ _ h => h) (Or.inl ⟨by rfl, fun w hS => by first | (go_simp; done) | (go_simp; with_reducible rfl)⟩) hHeld ?_
          try simp only [Act.put, List.getElem_toArray, List.getElem_cons_zero, List.setIfInBounds_toArray, List.set_cons_zero, List.set_cons_succ]
          refine wpAnyK_take (i := 1) (v := .pointer (some ⟨R, 0, none⟩)) rfl (by kernel_rfl) (by kernel_rfl) (by kernel_rfl) (by kernel_rfl) (fun _ _ _ h => h) (Or.inl ⟨by rfl, fun w hS => by first | (go_simp; done) | (go_simp; with_reducible rfl)⟩) hHeld ?_
          try simp only [Act.put, List.getElem_toArray, List.getElem_cons_zero, List.getElem_cons_succ, List.setIfInBounds_toArray, List.set_cons_zero, List.set_cons_succ]
          refine wpAnyK_take (i := 2) (v := .pointer (some ⟨R, 0, none⟩)) rfl (by kernel_rfl) (by kernel_rfl) (by kernel_rfl) (by kernel_rfl) (fun _ _ _ h => h) (Or.inl ⟨by rfl, fun w hS => by first | (go_simp; done) | (go_simp; with_reducible rfl)⟩) hHeld ?_
          try simp only [Act.put, List.getElem_toArray, List.getElem_cons_zero, List.getElem_cons_succ, List.setIfInBounds_toArray, List.set_cons_zero, List.set_cons_succ]
          refine wpAnyK_take (i := 3) (v := .pointer (some ⟨R, 0, none⟩)) rfl (by kernel_rfl) (by kernel_rfl) (by kernel_rfl) (by kernel_rfl) (fun _ _ _ h => h) (Or.inl ⟨by rfl, fun w hS => by first | (go_simp; done) | (go_simp; with_reducible rfl)⟩) hHeld ?_
          try simp only [Act.put, List.getElem_toArray, List.getElem_cons_zero, List.getElem_cons_succ, List.setIfInBounds_toArray, List.set_cons_zero, List.set_cons_succ]
          refine wpAnyK_take (i := 4) (v := .slice Al ll cl) rfl (by kernel_rfl) (by kernel_rfl) (by kernel_rfl) (by kernel_rfl) (fun _ _ _ h => h) (Or.inl ⟨by rfl, fun w hS => by obtain ⟨s1, s2, s3, s4, s5⟩ := hS; (first | (go_simp; done) | (go_simp; with_reducible rfl))⟩) hHeld ?_
          try simp only [Act.put, List.getElem_toArray, List.getElem_cons_zero, List.getElem_cons_succ, List.setIfInBounds_toArray, List.set_cons_zero, List.set_cons_succ]
          refine wpAnyK_take (i := 5) (v := .agg #[.string s1, .int .i64 v1, .slice A3 n1 c3]) rfl (by kernel_rfl) (by kernel_rfl) (by kernel_rfl) (by kernel_rfl) (fun _ _ _ h => h) (Or.inl ⟨by rfl, fun w hS => by obtain ⟨s1, s2, s3, s4, s5⟩ := hS; (first | (go_simp; done) | (go_simp; with_reducible rfl))⟩) hHeld ?_
          try simp only [Act.put, List.getElem_toArray, List.getElem_cons_zero, List.getElem_cons_succ, List.setIfInBounds_toArray, List.set_cons_zero, List.set_cons_succ]
          have HQ6 := Lib.hid (BlkIs.new wd 43 #[.string s1, .int .i64 v1, .slice A3 n1 c3])
          have HRB6 := Lib.hid (HRB2.out.alloc (.cells #[.string s1, .int .i64 v1, .slice A3 n1 c3] 43))
          have HKX6 := Lib.hid (HKX2.out.alloc (.cells #[.string s1, .int .i64 v1, .slice A3 n1 c3] 43))
          refine wpAnyK_ready (rs := [6]) (by kernel_rfl) (by simp) ?_
          refine AllReadyK.cons rfl (fun K hK => ?_) AllReadyK.nil
          go_simp
          refine hK.out _ _ ?_ (fun hHeld => ?_)
          · exact ⟨(HRB6.out.cell 0).trans rfl, HRB6.out.froz 0, (HKX6.out.cell 0).trans rfl, (HKX6.out.cell 1).trans rfl, (HKX6.out.cell 2).trans rfl⟩
          clear hK K
          try simp only [Act.put, List.getElem_toArray, List.getElem_cons_zero, List.getElem_cons_succ, List.setIfInBounds_toArray, List.set_cons_zero, List.set_cons_succ]
          have HOW6 : Hid ((wd.alloc (.cells #[.string s1, .int .i64 v1, .slice A3 n1 c3] 43)).ownsRow w.heap.size 43 3 (.slice Al ll cl) xs.length (tc xs)) := Lib.hid (own_same HOW2.out (fun i hi => Below.heap_alloc wd _ i (by have := HBN.out i hi; omega)))
          have HT6 := Lib.hid (HTD.out.alloc (.cells #[.string s1, .int .i64 v1, .slice A3 n1 c3] 43))
          have HP6 := Lib.hid (HPD.out.alloc (.cells #[.string s1, .int .i64 v1, .slice A3 n1 c3] 43))
          have HRX6 : Hid (Rd (wd.alloc (.cells #[.string s1, .int .i64 v1, .slice A3 n1 c3] 43)) N R (.slice Al ll cl) r) := Lib.hid (HRXD.out.tn (p := fun _ => False) ((Tn.refl _ wd).alloc _) (fun e => e) (by omega) (fun _ _ e => e))
          have HKU6 : Hid (KU wr (wd.alloc (.cells #[.string s1, .int .i64 v1, .slice A3 n1 c3] 43))) := Lib.hid (HKUD.out.trans (KU.grown (grown_alloc wd _) (fun i e => by cases e)))
          have hw6 : (wd.alloc (.cells #[.string s1, .int .i64 v1, .slice A3 n1 c3] 43)).heap.size = wd.heap.size + 1 := by simp
          generalize wd.alloc (.cells #[.string s1, .int .i64 v1, .slice A3 n1 c3] 43) = w6 at *
          have c60 := (HQ6.out.cell 0).trans (rfl : _ = some (Value.string s1))
          have c61 := (HQ6.out.cell 1).trans (rfl : _ = some (Value.int .i64 v1))
          have c62 := (HQ6.out.cell 2).trans (rfl : _ = some (Value.slice A3 n1 c3))
          have hneR : (Value.slice Al ll cl).ownBlock ≠ some R := fun e => by have := HBN.out R e; omega
          have hneK : (Value.slice Al ll cl).ownBlock ≠ some wb.heap.size := fun e => by have := HBN.out _ e; omega
          have hN6 : w.heap.size ≤ w6.heap.size := HT6.out.size
          have hlx : xs.length + 1 ≤ 1000000000 := by rw [HXL.out]; have := HLN.out; omega
          refine wpAnyK_ready (rs := [7]) (by kernel_rfl) (by simp) ?_
          refine AllReadyK.cons rfl (fun K hK => ?_) AllReadyK.nil
          (refine stepT (.tmp 32) (.tmp 34) Tryz.underlying24 info38 (by rfl) (by decide) (by rfl) (by rfl) (by rfl) HOW6.out (p := (.string s1, .int .i64 v1, .slice A3 n1 c3)) HP1.out.1 HP1.out.2.1 HP1.out.2.2 (by rfl) c60 c61 c62 hlx hN6 ?_; intro v3 w3 ho3 hg3 hv3; have hR3 := HRB6.out.grown hg3 hneR; have hK3 := HKX6.out.grown hg3 hneK)
          refine hK.out _ _ ?_ (fun hHeld => ?_)
          · exact ⟨(hR3.cell 0).trans rfl, hR3.froz 0, (hK3.cell 0).trans rfl, (hK3.cell 1).trans rfl, (hK3.cell 2).trans rfl⟩
          clear hK K
          try simp only [Act.put, List.getElem_toArray, List.getElem_cons_zero, List.getElem_cons_succ, List.setIfInBounds_toArray, List.set_cons_zero, List.set_cons_succ]
          refine wpAnyK_take (i := 8) (v := .pointer (some ⟨R, 0, none⟩)) rfl (by kernel_rfl) (by kernel_rfl) (by kernel_rfl) (by kernel_rfl) (fun _ _ _ h => h) (Or.inl ⟨by rfl, fun w hS => by first | (go_simp; done) | (go_simp; with_reducible rfl)⟩) hHeld ?_
          try simp only [Act.put, List.getElem_toArray, List.getElem_cons_zero, List.getElem_cons_succ, List.setIfInBounds_toArray, List.set_cons_zero, List.set_cons_succ]
          refine wpAnyK_take (i := 9) (v := .pointer (some ⟨R, 0, none⟩)) rfl (by kernel_rfl) (by kernel_rfl) (by kernel_rfl) (by kernel_rfl) (fun _ _ _ h => h) (Or.inl ⟨by rfl, fun w hS => by first | (go_simp; done) | (go_simp; with_reducible rfl)⟩) hHeld ?_
          try simp only [Act.put, List.getElem_toArray, List.getElem_cons_zero, List.getElem_cons_succ, List.setIfInBounds_toArray, List.set_cons_zero, List.set_cons_succ]
          have q1 := (hR3.cell 0).trans (rfl : _ = some (Value.slice Al ll cl))
          have q2 := hR3.froz 0
          obtain ⟨Av, cv, rfl, hcv3, hmv3⟩ := own_slice3 ho3
          have HR3 := Lib.hid hR3
          have HO3 := Lib.hid ho3
          have HG3 := Lib.hid hg3
          clear hR3 hK3 ho3 hg3 hv3
          generalize hn3 : (xs ++ [(Value.string s1, Value.int .i64 v1, Value.slice A3 n1 c3)]).length = n3 at *
          have HN3 := Lib.hid hn3
          clear hn3
          refine wpAnyK_ready (rs := [10]) (by kernel_rfl) (by simp) ?_
          refine AllReadyK.late rfl (by kernel_rfl) (fun K hK => ?_) AllReadyK.nil
          go_simp
          refine hK.out _ _ ?_ (fun _ => ?_)
          · trivial
          clear hK K
          try simp only [Act.put, List.getElem_toArray, List.getElem_cons_zero, List.getElem_cons_succ, List.setIfInBounds_toArray, List.set_cons_zero, List.set_cons_succ]
          refine wpAnyK_done (by kernel_rfl) ?_ _
          go_wp2_with fail
          have hw3 : w6.heap.size ≤ w3.heap.size := HG3.out.size
          have hR9 := HR3.out.put 0 (.slice Av n3 cv)
          have hT3 : Tn (fun k => k = R) w w3 := HT6.out.grown HG3.out (fun g e => by have := HBN.out g e; right; omega)
          have hT9 := hT3.setCell (x := ⟨R, 0, none⟩) (.inl rfl) (.slice Av n3 cv)
          have hP9 : BlkIs (w3.setCell ⟨R, 0, none⟩ (.slice Av n3 cv)) w.heap.size 68 (parts R) := (HP6.out.grown HG3.out (fun e => own_blk HOW6.out HP6.out (by decide) e)).far (x := ⟨R, 0, none⟩) (by show w.heap.size ≠ R; omega) _
          have hKU3 : KU w6 w3 := KU.grown HG3.out (fun i hi cs fr e => by
            obtain ⟨_, cs', fr', h2⟩ := own_type HOW6.out hi
            rw [h2] at e
            injection e with e
            injection e with _ e
            exact absurd e (by decide))
          have hKU9 : KU w3 (w3.setCell ⟨R, 0, none⟩ (.slice Av n3 cv)) := KU.tn (p := fun k => k = R) ((Tn.refl (fun k => k = R) w3).setCell (x := ⟨R, 0, none⟩) (.inl rfl) _) (fun i hi => by
            subst hi
            exact blk_not HR3.out (by decide))
          have hO9 := own_same (w' := w3.setCell ⟨R, 0, none⟩ (.slice Av n3 cv)) HO3.out (fun i hi => Below.heap_setCell _ _ _ _ (by
            have := (own_type HO3.out hi).1
            show i ≠ R
            omega))
          have hKUW : KU wr (w3.setCell ⟨R, 0, none⟩ (.slice Av n3 cv)) := (HKU6.out.trans hKU3).trans hKU9
          have hRow9 : Row (w3.setCell ⟨R, 0, none⟩ (.slice Av n3 cv)) w.heap.size (.slice Av n3 cv) (ls ++ [x]) := by
            refine ⟨xs ++ [(.string s1, .int .i64 v1, .slice A3 n1 c3)], by rw [HN3.out]; exact hO9, by simp [HXL.out, HLN.out], fun k y hy => ?_⟩
            rcases Nat.lt_or_ge k ls.length with hkl | hkl
            · rw [List.getElem?_append_left hkl] at hy
              obtain ⟨A1, c1, g1, g2, g3, g4, g5⟩ := HXB.out k y hy
              exact ⟨A1, c1, by rw [List.getElem?_append_left (by rw [HXL.out, ← HLN.out]; exact hkl)]; exact g1, g2, g3, g4, g5.keep hKUW⟩
            · have hk0 : k = ls.length := by
                have := (List.getElem?_eq_some_iff.1 hy).1
                simp at this
                omega
              subst hk0
              have hyx : y = x := by simpa using hy.symm
              subst hyx
              refine ⟨A3, c3, ?_, by rw [HE.out.2.2]; exact HSZ.out.1, HSZ.out.2.1, HSZ.out.2.2, HBU.out.keep hKUW⟩
              rw [HE.out.1, HE.out.2.1, HE.out.2.2, show ls.length = xs.length by rw [HXL.out, HLN.out]]
              simp
          have hrd9 : Rd (w3.setCell ⟨R, 0, none⟩ (.slice Av n3 cv)) N R (.slice Av n3 cv) r := by
            obtain ⟨A7, c7, g1, g2, g3⟩ := HRX6.out
            have : BlkIs w6 R 45 #[.slice Al ll cl, .slice Ar r.length cr] := HRB6.out
            have e7 : Value.slice A7 r.length c7 = .slice Ar r.length cr := by
              have h1 := (g1.cell 1).trans (rfl : _ = some (Value.slice A7 r.length c7))
              have h2 := (this.cell 1).trans (rfl : _ = some (Value.slice Ar r.length cr))
              rw [h1] at h2
              injection h2
            injection e7 with e71 e72 e73
            subst e71; subst e73
            refine ⟨A7, c7, hR9, g2.below ?_, g3⟩
            refine (Below.refl N w6).grown HG3.out (by omega) (fun g e => by have := HBN.out g e; omega) |>.trans ((Below.refl N w3).setCell hNR _)
          have hmeas : left R (w3.setCell ⟨R, 0, none⟩ (.slice Av n3 cv)) < left R wb := by
            rw [left_is hrd9, hle]
            exact HLL.out
          go_roundw
          case rel =>
            refine ⟨ls ++ [x], r, .slice Av n3 cv, ?_, hrd9, hRow9, hP9, hT9, by have := HLL.out; omega, by have := HLL.out; have := HLN.out; simp; omega⟩
            rw [HPAR.out, HPS.out, Option.map_map]
            congr 1
            funext t
            simp
          case measure => exact hmeas
theorem own_low3 {w : World} {N M n sz : Nat} {e : TypeId} {v : Value} {xs : List Value} (h : w.ownsRow N e sz v n xs) (hM : M ≤ N) : w.ownsRow M e sz v n xs := by
  refine ⟨h.1, ?_⟩
  rcases h.2 with hn | ⟨g, cap, cur, rfl, hn, rest⟩
  · exact .inl hn
  · exact .inr ⟨g, cap, cur, rfl, Nat.le_trans hM hn, rest⟩
/-- what Parse answers. -/
def ParseQ (w : World) (b : L) (e : Ending) (w' : World) : Prop :=
  Below w.heap.size w w' ∧ ((∃ ls v, parseS b = some ls ∧ e = .returned (.tuple #[v, .int .i64 0]) ∧ Row w' w.heap.size v ls) ∨ (parseS b = none ∧ e = .returned (.tuple #[.slice none 0 0, .int .i64 100])))
def PaQ (w : World) (b : L) (x : Int) (X : World) : Prop :=
  Below w.heap.size w X ∧ ((x = 0 ∧ ∃ ls lv rv, parseS b = some ls ∧ BlkIs X w.heap.size 45 #[lv, rv] ∧ Row X w.heap.size lv ls) ∨ (x = 100 ∧ parseS b = none))
set_option maxHeartbeats 800000 in
theorem parse_any {w : World} {A : Option Addr} {b : L} (h : Bts w w.heap.size A b) (c : Nat) (hc : b.length ≤ c) (hm : c ≤ maxLen) (hA : A = none → c = 0) (hl : b.length ≤ 30000) (hT : GlT w) (hE : GlE w) :
    Calls Tryz.prog 6 #[.slice A b.length c] w (ParseQ w b) := by
  have hmf : ∀ (fn : Fn) (first cap : Array Value) (w : World), (Instr.makeFunc fn first cap).run Tryz.prog w = .ok (.func fn first cap) w := fun _ _ _ _ => rfl
  have hb1 : Below w.heap.size w (w.alloc (.cells #[.slice none 0 0, .slice A b.length c] 45)) := (Below.refl _ w).alloc (Nat.le_refl _) _
  have hR1 := BlkIs.new w 45 #[.slice none 0 0, .slice A b.length c]
  have hz1 : (w.alloc (.cells #[.slice none 0 0, .slice A b.length c] 45)).heap.size = w.heap.size + 1 := by simp
  have HAT : Hid (Calls Tryz.prog 14 #[.func (.func 15) #[.pointer (some ⟨w.heap.size, 0, none⟩)] #[]] (w.alloc (.cells #[.slice none 0 0, .slice A b.length c] 45)) fun e w' => ∃ x, e = .returned (.int .i64 x) ∧ PaQ w b x w') := Lib.hid (by
    refine Fa.attempt_m 15 #[.pointer (some ⟨w.heap.size, 0, none⟩)] _ (PaQ w b) (enters_of Tryz.func15 (by kernel_rfl) rfl _) ?_
    generalize w.alloc (.cells #[.slice none 0 0, .slice A b.length c] 45) = w1 at *
    have hb2 : Below w.heap.size w (w1.alloc (.cells #[.int .i64 0] 25)) := hb1.alloc (by omega) _
    have hR2 : BlkIs (w1.alloc (.cells #[.int .i64 0] 25)) w.heap.size 45 #[.slice none 0 0, .slice A b.length c] := hR1.alloc _
    have hE2 := BlkIs.new w1 25 #[.int .i64 0]
    have hz2 : (w1.alloc (.cells #[.int .i64 0] 25)).heap.size = w1.heap.size + 1 := by simp
    refine (read_any (N := w.heap.size) (R := w.heap.size) (b := b) ⟨A, c, hR2, h.below hb2, hc, hm, hA⟩ (Nat.le_refl _) hl (hT.below hb2 hT.lt) (hE.below hb2 hE.lt) ⟨hT.lt, hE.lt⟩).mono ?_
    rintro e w' ⟨ht, ⟨ls, lv, rv, h1, rfl, h2, h3⟩ | ⟨h1, rfl⟩⟩
    · have hE3 := hE2.tn ht (by omega)
      have hb3 : Below w.heap.size w w' := hb2.trans (ht.below (by omega) (fun i hi e => by omega))
      obtain ⟨xs, k1, k2, k3⟩ := h3
      have hrow : Row w' w.heap.size lv ls := ⟨xs, own_low3 k1 (by omega), k2, k3⟩
      exact ⟨hE3, .inl ⟨rfl, hb3, .inl ⟨rfl, ls, lv, rv, h1, h2, hrow⟩⟩⟩
    · have hE3 := hE2.tn ht (by omega)
      have hb3 : Below w.heap.size w w' := hb2.trans (ht.below (by omega) (fun i hi e => by omega))
      exact ⟨hE3, .inr ⟨100, rfl, hb3.setCell (by show w.heap.size ≤ w1.heap.size; omega) _, .inr ⟨rfl, h1⟩⟩⟩)
  clear h hc hm hA hl hT hE hb1 hR1 hz1
  generalize b.length = n at *
  go_enter Tryz.func6, Tryz.ntmps6
  go_wp2_with fail
  refine HAT.out.mono ?_
  rintro e w3 ⟨x, rfl, hb3, ⟨rfl, ls, lv, rv, h1, h2, h3⟩ | ⟨rfl, h1⟩⟩
  · obtain ⟨Al, cl, rfl, _, _⟩ := h3.slice
    have y0 := (h2.cell 0).trans (rfl : _ = some (Value.slice Al ls.length cl))
    have HF := Lib.hid (And.intro hb3 (And.intro h1 h3))
    clear hb3 h1 h2 h3
    generalize ls.length = nl at *
    go_wp2_with fail
    refine bodyPost_ret (results_tmp2 rfl _ _ _) rfl ?_
    exact ⟨HF.out.1, .inl ⟨ls, _, HF.out.2.1, rfl, HF.out.2.2⟩⟩
  · have HF := Lib.hid (And.intro hb3 h1)
    clear hb3 h1
    go_wp2_with fail
    refine bodyPost_ret (results_tmp2 rfl _ _ _) rfl ?_
    exact ⟨HF.out.1, .inr ⟨HF.out.2, rfl⟩⟩
end Mb
end Go.Proofs.YtamekflgidfnfaaGreatDoor
