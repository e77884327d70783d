/- mime.reported where it refuses; mime.Report. Conditions: as stated at each. -/
import Derived.Test.YtamekflgidfnfaaGreatDoorMiRept
namespace Go.Proofs.YtamekflgidfnfaaGreatDoor
set_option maxRecDepth 100000
namespace Mi
open Go.RowKit Go Go.Proofs.YtamekflgidfnfaaGreatDoor.Pa
attribute [local go_sem] Oper.semAt_some
set_option maxHeartbeats 3200000 in
theorem reported_no {w : World} {x : Value} {e : Env} {A : Option Addr} {l : L} (h : EnvAt w w.heap.size x e) (hs : SmallE e) (hno : ¬ (envOk e = true ∧ e.2.1.length ≤ 100)) (c : Nat) :
    Calls Tryz.prog 40 #[x, .slice A l.length c] w (RptQ w e l) := by
  have HOK : Hid (envOk e = ((e.1.isEmpty || mailS e.1) && (decide (1 ≤ e.2.1.length) && (decide (0 ≤ e.2.2) && e.2.1.all mailS)))) := Lib.hid rfl
  have HER : Hid (errS e l = if envOk e = true then (if 100 < e.2.1.length ∨ 1000000 < l.length then 2 else 0) else 110) := Lib.hid rfl
  have hf0 := hs.fl
  have ht := hs.tl
  have HMB := Lib.hid (fun X => mailbox_any e.1 (by omega) X)
  have HMT := Lib.hid (fun k X => mailbox_any (e.2.1.getD k []) (ht k) X)
  have hse := str_empty e.1
  obtain ⟨AT, cT, rfl, hTx, hc1, hc2⟩ := h
  have HEL := Lib.hid hTx.els
  have HALL := Lib.hid (fun n (hn : e.2.1.length = n) => all_mail hn)
  have HBAD := Lib.hid (fun n j (hn : e.2.1.length = n) => not_mail (j := j) hn)
  have hnl := hs.nl
  have HNO := Lib.hid hno
  unfold RptQ
  clear hTx ht hf0 hs hno
  generalize errS e l = er at *
  generalize envOk e = ok at *
  generalize str e.1 = sf at *
  generalize e.1.isEmpty = fe at *
  generalize mailS e.1 = mb at *
  generalize e.2.2 = v at *
  generalize hps : e.2.1 = ps at *
  clear hps
  generalize hn : ps.length = n at *
  have HALL2 := Lib.hid (HALL.out n rfl)
  have HBAD2 := Lib.hid (fun j => HBAD.out n j rfl)
  clear HALL HBAD hn
  generalize l.length = ln at *
  have hqn := BlkIs.new w 34 #[.string sf, .slice AT n cT, .int .i64 v]
  have han : Below w.heap.size w (w.alloc (.cells #[.string sf, .slice AT n cT, .int .i64 v] 34)) := (Below.refl _ _).alloc (Nat.le_refl _) _
  have HQ := Lib.hid hqn
  have HB0 := Lib.hid han
  clear hqn han
  have z0c := (BlkIs.cell HQ.out 0).trans (rfl : _ = some (Value.string sf))
  have z1c := (BlkIs.cell HQ.out 1).trans (rfl : _ = some (Value.slice AT n cT))
  have z2c := (BlkIs.cell HQ.out 2).trans (rfl : _ = some (Value.int .i64 v))
  go_enter Tryz.func40, Tryz.ntmps40
  cases fe with
  | true =>
    rw [Bool.true_or, Bool.true_and] at HOK
    by_cases hn1 : n < 1
    · have HR : Hid (er = 110) := Lib.hid (by rw [HER.out, HOK.out, decide_eq_false (by omega : ¬ 1 ≤ n)]; simp)
      have zz : ¬ (0 : Int) < (n : Int) := by omega
      go_wp2_with (first
        | (go_at_call 46; refine (Fa.mnd_f (by first | rfl | (simp; done) | (simp; omega)) _).mono ?_; rintro r w' ⟨rfl, rfl⟩)
        | fail)
      exact ⟨rfl, HB0.out, .inr ⟨by rw [HR.out]; decide, by rw [HR.out]; rfl⟩⟩
    · have zz : (0 : Int) < (n : Int) := by omega
      by_cases hv : v < 0
      · have HR : Hid (er = 110) := Lib.hid (by rw [HER.out, HOK.out, decide_eq_false (by omega : ¬ 0 ≤ v)]; simp)
        have zv : ¬ (0 : Int) ≤ v := by omega
        go_wp2_with (first
          | (go_at_call 46; refine (Fa.mnd_f (by first | rfl | (simp; done) | (simp; omega)) _).mono ?_; rintro r w' ⟨rfl, rfl⟩)
          | fail)
        exact ⟨rfl, HB0.out, .inr ⟨by rw [HR.out]; decide, by rw [HR.out]; rfl⟩⟩
      · have HOKA : Hid (ok = ps.all mailS) := Lib.hid (by rw [HOK.out, decide_eq_true (by omega : 1 ≤ n), decide_eq_true (by omega : 0 ≤ v)]; simp)
        have zv : (0 : Int) ≤ v := by omega
        go_wp2_with (first
          | (go_at_call 46; refine (Fa.mnd_t (by first | rfl | (simp; done) | (simp; omega)) _).mono ?_; rintro r w' ⟨rfl, rfl⟩)
          | fail)
        go_loopw [34] (fun i wr => ∃ k : Nat, k ≤ n ∧ i = .int .i64 (k : Nat) ∧ Hid (∀ j, j < k → mailS (ps.getD j []) = true) ∧ Hid (Below w.heap.size w wr) ∧ Hid (BlkIs wr w.heap.size 34 #[.string sf, .slice AT n cT, .int .i64 v])) (fun i _ => n + 1 - (intOf i).toNat)
        case atStart => exact ⟨0, Nat.zero_le _, rfl, Lib.hid fun j hj => absurd hj (Nat.not_lt_zero _), HB0, HQ⟩
        case round =>
          obtain ⟨k, hk, rfl, HJ, HBK, HQK⟩ := hrel
          by_cases hlt : k < n
          · obtain ⟨g, o, rfl, hg, hX⟩ := HEL.out k hlt
            have hcell := hX wr HBK.out
            have HM := Lib.hid (HMT.out k)
            have hkn : (k : Int) < (n : Int) := by omega
            clear hX
            generalize hms : mailS (ps.getD k []) = mk at *
            have HMS := Lib.hid hms
            clear hms
            generalize str (ps.getD k []) = sk at *
            cases mk with
            | true =>
              go_wp2_with (first
                | (go_at_call 60; refine (HM.out _).mono ?_; rintro r w3 ⟨rfl, hb3⟩)
                | (go_at_call 46; refine (Fa.mnd_ok _).mono ?_; rintro r w4 ⟨rfl, rfl⟩)
                | fail)
              have HB3 := Lib.hid (HBK.out.trans (hb3.mono HBK.out.size))
              have HQ3 : Hid (BlkIs w3 w.heap.size 34 #[.string sf, .slice (some ⟨g, o, none⟩) n cT, .int .i64 v]) := Lib.hid ((hb3.block _ HQK.out.lt).trans HQK.out)
              go_roundw
              case rel =>
                refine ⟨k + 1, by omega, by go_num, Lib.hid fun j hj => ?_, HB3, HQ3⟩
                rcases Nat.lt_or_ge j k with h | h
                · exact HJ.out j h
                · obtain rfl : j = k := by omega
                  exact HMS.out
              case measure => simp [intOf]; omega
            | false =>
              have HR : Hid (er = 110) := Lib.hid (by rw [HER.out, HOKA.out, HBAD2.out k hlt HMS.out]; simp)
              go_wp2_with (first
                | (go_at_call 60; refine (HM.out _).mono ?_; rintro r w3 ⟨rfl, hb3⟩)
                | (go_at_call 46; refine (Fa.mnd_bad _).mono ?_; rintro r w4 ⟨rfl, rfl⟩)
                | fail)
              exact ⟨rfl, HBK.out.trans (hb3.mono HBK.out.size), .inr ⟨by rw [HR.out]; decide, by rw [HR.out]; rfl⟩⟩
          · obtain rfl : k = n := by omega
            have hkn : ¬ (k : Int) < (k : Int) := by omega
            have hbig : 100 < k := by
              rcases Nat.lt_or_ge 100 k with h | h
              · exact h
              · exact absurd ⟨by rw [HOKA.out]; exact HALL2.out HJ.out, h⟩ HNO.out
            have HR : Hid (er = 2) := Lib.hid (by rw [HER.out, HOKA.out, HALL2.out HJ.out, if_pos rfl, if_pos (.inl hbig)])
            have hzb : ¬ (k : Int) ≤ 100 := by omega
            have z1k := (BlkIs.cell HQK.out 1).trans (rfl : _ = some (Value.slice AT k cT))
            go_wp2_with (first
              | (go_at_call 73; refine (Fa.nd_f (by first | rfl | (simp; done) | (simp; omega)) 2 _).mono ?_; rintro r w' ⟨rfl, rfl⟩)
              | fail)
            exact ⟨rfl, HBK.out, .inr ⟨by rw [HR.out]; decide, by rw [HR.out]; rfl⟩⟩
  | false =>
    rw [Bool.false_or] at HOK
    go_wp2_with fail
    refine (HMB.out _).mono ?_
    rintro r w2 ⟨rfl, hb2⟩
    have HB2 := Lib.hid (HB0.out.trans (hb2.mono HB0.out.size))
    have HQ2 : Hid (BlkIs w2 w.heap.size 34 #[.string sf, .slice AT n cT, .int .i64 v]) := Lib.hid ((hb2.block _ HQ.out.lt).trans HQ.out)
    have z1q := (BlkIs.cell HQ2.out 1).trans (rfl : _ = some (Value.slice AT n cT))
    have z2q := (BlkIs.cell HQ2.out 2).trans (rfl : _ = some (Value.int .i64 v))
    clear hb2 z0c z1c z2c
    cases mb with
    | false =>
      have HR : Hid (er = 110) := Lib.hid (by rw [HER.out, HOK.out]; rfl)
      go_wp2_with (first
        | (go_at_call 46; refine (Fa.mnd_f (by first | rfl | (simp; done) | (simp; omega)) _).mono ?_; rintro r w' ⟨rfl, rfl⟩)
        | fail)
      exact ⟨rfl, HB2.out, .inr ⟨by rw [HR.out]; decide, by rw [HR.out]; rfl⟩⟩
    | true =>
      rw [Bool.true_and] at HOK
      by_cases hn1 : n < 1
      · have HR : Hid (er = 110) := Lib.hid (by rw [HER.out, HOK.out, decide_eq_false (by omega : ¬ 1 ≤ n)]; simp)
        have zz : ¬ (0 : Int) < (n : Int) := by omega
        go_wp2_with (first
          | (go_at_call 46; refine (Fa.mnd_f (by first | rfl | (simp; done) | (simp; omega)) _).mono ?_; rintro r w' ⟨rfl, rfl⟩)
          | fail)
        exact ⟨rfl, HB2.out, .inr ⟨by rw [HR.out]; decide, by rw [HR.out]; rfl⟩⟩
      · have zz : (0 : Int) < (n : Int) := by omega
        by_cases hv : v < 0
        · have HR : Hid (er = 110) := Lib.hid (by rw [HER.out, HOK.out, decide_eq_false (by omega : ¬ 0 ≤ v)]; simp)
          have zv : ¬ (0 : Int) ≤ v := by omega
          go_wp2_with (first
            | (go_at_call 46; refine (Fa.mnd_f (by first | rfl | (simp; done) | (simp; omega)) _).mono ?_; rintro r w' ⟨rfl, rfl⟩)
            | fail)
          exact ⟨rfl, HB2.out, .inr ⟨by rw [HR.out]; decide, by rw [HR.out]; rfl⟩⟩
        · have HOKA : Hid (ok = ps.all mailS) := Lib.hid (by rw [HOK.out, decide_eq_true (by omega : 1 ≤ n), decide_eq_true (by omega : 0 ≤ v)]; simp)
          have zv : (0 : Int) ≤ v := by omega
          go_wp2_with (first
            | (go_at_call 46; refine (Fa.mnd_t (by first | rfl | (simp; done) | (simp; omega)) _).mono ?_; rintro r w' ⟨rfl, rfl⟩)
            | fail)
          go_loopw [34] (fun i wr => ∃ k : Nat, k ≤ n ∧ i = .int .i64 (k : Nat) ∧ Hid (∀ j, j < k → mailS (ps.getD j []) = true) ∧ Hid (Below w.heap.size w wr) ∧ Hid (BlkIs wr w.heap.size 34 #[.string sf, .slice AT n cT, .int .i64 v])) (fun i _ => n + 1 - (intOf i).toNat)
          case atStart => exact ⟨0, Nat.zero_le _, rfl, Lib.hid fun j hj => absurd hj (Nat.not_lt_zero _), HB2, HQ2⟩
          case round =>
            obtain ⟨k, hk, rfl, HJ, HBK, HQK⟩ := hrel
            by_cases hlt : k < n
            · obtain ⟨g, o, rfl, hg, hX⟩ := HEL.out k hlt
              have hcell := hX wr HBK.out
              have HM := Lib.hid (HMT.out k)
              have hkn : (k : Int) < (n : Int) := by omega
              clear hX
              generalize hms : mailS (ps.getD k []) = mk at *
              have HMS := Lib.hid hms
              clear hms
              generalize str (ps.getD k []) = sk at *
              cases mk with
              | true =>
                go_wp2_with (first
                  | (go_at_call 60; refine (HM.out _).mono ?_; rintro r w3 ⟨rfl, hb3⟩)
                  | (go_at_call 46; refine (Fa.mnd_ok _).mono ?_; rintro r w4 ⟨rfl, rfl⟩)
                  | fail)
                have HB3 := Lib.hid (HBK.out.trans (hb3.mono HBK.out.size))
                have HQ3 : Hid (BlkIs w3 w.heap.size 34 #[.string sf, .slice (some ⟨g, o, none⟩) n cT, .int .i64 v]) := Lib.hid ((hb3.block _ HQK.out.lt).trans HQK.out)
                go_roundw
                case rel =>
                  refine ⟨k + 1, by omega, by go_num, Lib.hid fun j hj => ?_, HB3, HQ3⟩
                  rcases Nat.lt_or_ge j k with h | h
                  · exact HJ.out j h
                  · obtain rfl : j = k := by omega
                    exact HMS.out
                case measure => simp [intOf]; omega
              | false =>
                have HR : Hid (er = 110) := Lib.hid (by rw [HER.out, HOKA.out, HBAD2.out k hlt HMS.out]; simp)
                go_wp2_with (first
                  | (go_at_call 60; refine (HM.out _).mono ?_; rintro r w3 ⟨rfl, hb3⟩)
                  | (go_at_call 46; refine (Fa.mnd_bad _).mono ?_; rintro r w4 ⟨rfl, rfl⟩)
                  | fail)
                exact ⟨rfl, HBK.out.trans (hb3.mono HBK.out.size), .inr ⟨by rw [HR.out]; decide, by rw [HR.out]; rfl⟩⟩
            · obtain rfl : k = n := by omega
              have hkn : ¬ (k : Int) < (k : Int) := by omega
              have hbig : 100 < k := by
                rcases Nat.lt_or_ge 100 k with h | h
                · exact h
                · exact absurd ⟨by rw [HOKA.out]; exact HALL2.out HJ.out, h⟩ HNO.out
              have HR : Hid (er = 2) := Lib.hid (by rw [HER.out, HOKA.out, HALL2.out HJ.out, if_pos rfl, if_pos (.inl hbig)])
              have hzb : ¬ (k : Int) ≤ 100 := by omega
              have z1k := (BlkIs.cell HQK.out 1).trans (rfl : _ = some (Value.slice AT k cT))
              go_wp2_with (first
                | (go_at_call 73; refine (Fa.nd_f (by first | rfl | (simp; done) | (simp; omega)) 2 _).mono ?_; rintro r w' ⟨rfl, rfl⟩)
                | fail)
              exact ⟨rfl, HBK.out, .inr ⟨by rw [HR.out]; decide, by rw [HR.out]; rfl⟩⟩

theorem reported_any {w : World} {x : Value} {e : Env} {A : Option Addr} {l : L} (h : EnvAt w w.heap.size x e) (hs : SmallE e) (hb : Bts w w.heap.size A l) (c : Nat) (hc : l.length ≤ c) (hcm : c ≤ maxLen) (hA : A = none → c = 0) (hl : l.length ≤ 100000) (hT : GlT w) (hG : GlM w) :
    Calls Tryz.prog 40 #[x, .slice A l.length c] w (RptQ w e l) := by
  by_cases hok : envOk e = true ∧ e.2.1.length ≤ 100
  · exact reported_ok h hs hok.1 hok.2 hb c hc hcm hA hl hT hG
  · exact reported_no h hs hok c
/-- behind the closure of Report. -/
def Rq (w : World) (N R : Nat) (e : Env) (l : L) (x : Int) (X : World) : Prop :=
  Below N w X ∧ x = (errS e l : Nat) ∧ ((errS e l = 0 ∧ ∃ v, BlkIs X R 22 #[v] ∧ Own5 X N v (repS e l)) ∨ (errS e l ≠ 0 ∧ BlkIs X R 22 #[.slice none 0 0]))

theorem own_far {w : World} {N n sz : Nat} {e : TypeId} {v : Value} {xs : List Value} (h : w.ownsRow N e sz v n xs) {x : Addr} (hx : ∀ g, v.ownBlock = some g → g ≠ x.block) (u : Value) : (w.setCell x u).ownsRow N e sz v n xs := by
  refine ⟨h.1, ?_⟩
  rcases h.2 with h0 | ⟨g, cap, cur, rfl, hn, hh, rest⟩
  · exact .inl h0
  · exact .inr ⟨g, cap, cur, rfl, hn, (Below.heap_setCell w x u g (hx g rfl)).trans hh, rest⟩
set_option maxHeartbeats 1600000 in
theorem report1_any {W : World} {N R E V V2 : Nat} {sf : ByteArray} {AT A : Option Addr} {n cT ln c : Nat} {v : Int} {e : Env} {l : L}
    (hS : Calls Tryz.prog 40 #[.agg #[.string sf, .slice AT n cT, .int .i64 v], .slice A ln c] W (RptQ W e l))
    (hNR : N ≤ R) (hNE : N ≤ E) (hRE : R ≠ E) (hE : BlkIs W E 25 #[.int .i64 0]) (hV : BlkIs W V 34 #[.string sf, .slice AT n cT, .int .i64 v]) (hV2 : BlkIs W V2 22 #[.slice A ln c]) (hR : BlkIs W R 22 #[.slice none 0 0]) :
    Calls Tryz.prog 39 #[.pointer (some ⟨V, 0, none⟩), .pointer (some ⟨V2, 0, none⟩), .pointer (some ⟨R, 0, none⟩)] W fun r w' => BlkIs w' E 25 #[.int .i64 0] ∧ ((r = .returned (.tuple #[]) ∧ Rq W N R e l 0 w') ∨ ∃ x, r = Fa.bad x ∧ Rq W N R e l x (w'.setCell ⟨E, 0, none⟩ (.int .i64 x))) := by
  have HS := Lib.hid hS
  have HE := Lib.hid (And.intro hE (And.intro hR (And.intro hNR (And.intro hNE hRE))))
  have x1 := (hV2.cell 0).trans (rfl : _ = some (Value.slice A ln c))
  have y0 := (hV.cell 0).trans (rfl : _ = some (Value.string sf))
  have y1 := (hV.cell 1).trans (rfl : _ = some (Value.slice AT n cT))
  have y2 := (hV.cell 2).trans (rfl : _ = some (Value.int .i64 v))
  have hRlt : R < W.heap.size := hR.lt
  clear hE hV hV2 hR hNR hNE hRE hS
  unfold Rq
  go_enter Tryz.func39, Tryz.ntmps39
  go_wp2_with fail
  refine HS.out.mono ?_
  rintro r w' ⟨hb, ⟨h1, v3, rfl, h3⟩ | ⟨h1, rfl⟩⟩
  · obtain ⟨A6, c6, rfl, _, _⟩ := own_slice h3
    have hR' : BlkIs w' R 22 #[.slice none 0 0] := (hb.block _ hRlt).trans HE.out.2.1
    have hE' : BlkIs w' E 25 #[.int .i64 0] := (hb.block _ HE.out.1.lt).trans HE.out.1
    have y0 := (hR'.cell 0).trans (rfl : _ = some (Value.slice none 0 0))
    have yf := hR'.froz 0
    have hNW : N ≤ W.heap.size := by have := HE.out.2.2.1; omega
    have hO : Own5 (w'.setCell ⟨R, 0, none⟩ (.slice A6 (repS e l).length c6)) N (.slice A6 (repS e l).length c6) (repS e l) := own_more (own_far h3 (fun g hg => by have := (h3.lt g hg).1; show g ≠ R; omega) _) hNW
    have HF : Hid (BlkIs (w'.setCell ⟨R, 0, none⟩ (.slice A6 (repS e l).length c6)) E 25 #[.int .i64 0] ∧ (Below N W (w'.setCell ⟨R, 0, none⟩ (.slice A6 (repS e l).length c6)) ∧ (0 : Int) = (errS e l : Nat) ∧ ((errS e l = 0 ∧ ∃ v, BlkIs (w'.setCell ⟨R, 0, none⟩ (.slice A6 (repS e l).length c6)) R 22 #[v] ∧ Own5 (w'.setCell ⟨R, 0, none⟩ (.slice A6 (repS e l).length c6)) N v (repS e l)) ∨ (errS e l ≠ 0 ∧ BlkIs (w'.setCell ⟨R, 0, none⟩ (.slice A6 (repS e l).length c6)) R 22 #[.slice none 0 0])))) :=
      Lib.hid ⟨hE'.far (fun e => HE.out.2.2.2.2 e.symm) _, (hb.mono hNW).setCell HE.out.2.2.1 _, by rw [h1]; rfl, .inl ⟨h1, _, hR'.put 0 _, hO⟩⟩
    clear hb h1 h3 hO hR' hE'
    generalize (repS e l).length = m9 at *
    go_wp2_with fail
    go_end0
    exact ⟨HF.out.1, .inl ⟨rfl, HF.out.2⟩⟩
  · have hR' : BlkIs w' R 22 #[.slice none 0 0] := (hb.block _ hRlt).trans HE.out.2.1
    have hE' : BlkIs w' E 25 #[.int .i64 0] := (hb.block _ HE.out.1.lt).trans HE.out.1
    have hNW : N ≤ W.heap.size := by have := HE.out.2.2.1; omega
    exact ⟨rfl, hE', .inr ⟨_, rfl, (hb.mono hNW).setCell HE.out.2.2.2.1 _, rfl, .inr ⟨h1, hR'.far (fun e => HE.out.2.2.2.2 e) _⟩⟩⟩
set_option maxHeartbeats 1600000 in
theorem report_any {w : World} {x : Value} {e : Env} {A : Option Addr} {l : L} (h : EnvAt w w.heap.size x e) (hs : SmallE e) (hb : Bts w w.heap.size A l) (c : Nat) (hc : l.length ≤ c) (hcm : c ≤ maxLen) (hA : A = none → c = 0) (hl : l.length ≤ 100000) (hT : GlT w) (hG : GlM w) :
    Calls Tryz.prog 21 #[x, .slice A l.length c] w (RepP w e l) := by
  have h0 := h
  obtain ⟨AT, cT, rfl, hTx, hc1, hc2⟩ := h
  have HRP : Hid (∀ X, Below w.heap.size w X → Calls Tryz.prog 40 #[.agg #[.string (str e.1), .slice AT e.2.1.length cT, .int .i64 e.2.2], .slice A l.length c] X (RptQ X e l)) := Lib.hid fun X hX => reported_any ((h0.below hX).more hX.size) hs ((hb.below hX).more hX.size) c hc hcm hA hl (hT.below hX hT.lt) (hG.below hX hG.lt)
  unfold RepP
  clear hTx hs hT hG hA h0 hb hc1
  generalize str e.1 = sf at *
  generalize e.2.1.length = n at *
  generalize e.2.2 = v at *
  generalize l.length = ln at *
  have k0 : BlkIs (w.alloc (.cells #[.string sf, .slice AT n cT, .int .i64 v] 34)) w.heap.size 34 #[.string sf, .slice AT n cT, .int .i64 v] := BlkIs.new w _ _
  have k1 := BlkIs.new (w.alloc (.cells #[.string sf, .slice AT n cT, .int .i64 v] 34)) 22 #[.slice A ln c]
  have k2 := BlkIs.new ((w.alloc (.cells #[.string sf, .slice AT n cT, .int .i64 v] 34)).alloc (.cells #[.slice A ln c] 22)) 22 #[.slice none 0 0]
  rw [World.size_alloc] at k1
  rw [World.size_alloc, World.size_alloc] at k2
  have kB : Below w.heap.size w (((w.alloc (.cells #[.string sf, .slice AT n cT, .int .i64 v] 34)).alloc (.cells #[.slice A ln c] 22)).alloc (.cells #[.slice none 0 0] 22)) := (((Below.refl _ w).alloc (Nat.le_refl _) _).alloc (by simp) _).alloc (by simp; omega) _
  have kz : (((w.alloc (.cells #[.string sf, .slice AT n cT, .int .i64 v] 34)).alloc (.cells #[.slice A ln c] 22)).alloc (.cells #[.slice none 0 0] 22)).heap.size = w.heap.size + 3 := by simp
  have HKB := Lib.hid (And.intro kB (And.intro ((k0.alloc (.cells #[.slice A ln c] 22)).alloc (.cells #[.slice none 0 0] 22)) (And.intro (k1.alloc (.cells #[.slice none 0 0] 22)) (And.intro k2 kz))))
  have HAT : Hid (∀ w2, Below w.heap.size w w2 → BlkIs w2 w.heap.size 34 #[.string sf, .slice AT n cT, .int .i64 v] → BlkIs w2 (w.heap.size + 1) 22 #[.slice A ln c] → BlkIs w2 (w.heap.size + 1 + 1) 22 #[.slice none 0 0] → w2.heap.size = w.heap.size + 3 →
      Calls Tryz.prog 14 #[.func (.func 39) #[] #[.pointer (some ⟨w.heap.size, 0, none⟩), .pointer (some ⟨w.heap.size + 1, 0, none⟩), .pointer (some ⟨w.heap.size + 1 + 1, 0, none⟩)]] w2 fun r w' => ∃ x, r = .returned (.int .i64 x) ∧ Rq (w2.alloc (.cells #[.int .i64 0] 25)) w.heap.size (w.heap.size + 1 + 1) e l x w') := Lib.hid fun w2 g1 g2 g3 g4 g5 => by
    refine Fa.attempt_c 39 _ w2 _ (enters_of Tryz.func39 (by kernel_rfl) rfl _) ?_
    have ga : Below w2.heap.size w2 (w2.alloc (.cells #[.int .i64 0] 25)) := (Below.refl _ _).alloc (Nat.le_refl _) _
    have gb := g1.trans (ga.mono (by omega))
    exact report1_any (HRP.out _ gb) (by omega) (by omega) (by omega) (BlkIs.new w2 _ _) (g2.alloc _) (g3.alloc _) (g4.alloc _)
  clear k0 k1 k2 kB kz HRP
  go_enter Tryz.func21, Tryz.ntmps21
  go_wp2_with fail
  refine (HAT.out _ HKB.out.1 HKB.out.2.1 HKB.out.2.2.1 HKB.out.2.2.2.1 HKB.out.2.2.2.2).mono ?_
  rintro r w3 ⟨x, rfl, hbel, hx, hq⟩
  have HB3 : Below w.heap.size w w3 := (HKB.out.1.alloc (by simp; omega) _).trans hbel
  have HBH := Lib.hid HB3
  subst hx
  clear hbel HB3 HAT HKB
  rcases hq with ⟨h1, v4, h3, h4⟩ | ⟨h1, h3⟩
  · have y0 := (h3.cell 0).trans (rfl : _ = some v4)
    obtain ⟨A6, c6, rfl, _, _⟩ := own_slice h4
    have HF := Lib.hid (And.intro h1 (Own5.bts h4))
    clear h1 h3 h4
    generalize hrn : (repS e l).length = rn at *
    have HRN := Lib.hid hrn
    clear hrn
    go_wp2_with fail
    refine bodyPost_ret (results_tmp2 rfl _ _ _) rfl ?_
    exact ⟨HBH.out, _, rfl, .inl ⟨HF.out.1, A6, c6, by rw [HRN.out]; rfl, HF.out.2⟩⟩
  · have y0 := (h3.cell 0).trans (rfl : _ = some (Value.slice none 0 0))
    have HF := Lib.hid h1
    clear h1 h3
    go_wp2_with fail
    refine bodyPost_ret (results_tmp2 rfl _ _ _) rfl ?_
    exact ⟨HBH.out, _, rfl, .inr ⟨HF.out, rfl⟩⟩
end Mi
end Go.Proofs.YtamekflgidfnfaaGreatDoor
