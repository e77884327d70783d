/- mime.Read; letters alike. Conditions: as stated at each. -/
import Derived.Test.YtamekflgidfnfaaGreatDoorMiRead
namespace Go.Proofs.YtamekflgidfnfaaGreatDoor
set_option maxRecDepth 100000
namespace Mi
open Go.RowKit Go Go.Proofs.YtamekflgidfnfaaGreatDoor.Pa
attribute [local go_sem] Oper.semAt_some
/-- behind the closure of Read. -/
def RcQ (w : World) (N bE bB bS : Nat) (r : L) (x : Int) (X : World) : Prop :=
  Below N w X ∧ BlkIs X bS 34 #[.string ⟨#[]⟩, .slice none 0 0, .int .i64 0] ∧ ((x = 0 ∧ ∃ en b A c v, readM r = some (en, b) ∧ BlkIs X bE 34 #[.string (str en.1), .slice A en.2.1.length c, .int .i64 en.2.2] ∧ (Tx X X.heap.size A en.2.1 ∧ (en.2.1.length ≤ c ∧ c ≤ maxLen) ∧ ∀ ad, A = some ad → N + 4 ≤ ad.block) ∧ BlkIs X bB 22 #[v] ∧ Own5 X (N + 4) v b) ∨
    (x = 110 ∧ readM r = none ∧ BlkIs X bE 34 #[.string ⟨#[]⟩, .slice none 0 0, .int .i64 0] ∧ BlkIs X bB 22 #[.slice none 0 0]))
set_option maxHeartbeats 3200000 in
theorem read1_any {W : World} {N E bR bE bB bS ln c : Nat} {A : Option Addr} {r : L} (hS : Calls Tryz.prog 24 #[.slice A ln c] W (ReadIQ W r))
    (hNE : N ≤ E) (hNe : N ≤ bE) (hNb : N ≤ bB) (hEe : E ≠ bE) (hEb : E ≠ bB) (heb : bE ≠ bB) (hN4 : N + 4 ≤ W.heap.size) (hE4 : E < W.heap.size) (he4 : bE < N + 4) (hb4 : bB < N + 4) (hSE : bS ≠ E) (hSe : bS ≠ bE) (hSb : bS ≠ bB) (hSs : BlkIs W bS 34 #[.string ⟨#[]⟩, .slice none 0 0, .int .i64 0])
    (hE : BlkIs W E 25 #[.int .i64 0]) (hR : BlkIs W bR 22 #[.slice A ln c]) (hEn : BlkIs W bE 34 #[.string ⟨#[]⟩, .slice none 0 0, .int .i64 0]) (hB : BlkIs W bB 22 #[.slice none 0 0]) :
    Calls Tryz.prog 23 #[.pointer (some ⟨bR, 0, none⟩), .pointer (some ⟨bE, 0, none⟩), .pointer (some ⟨bB, 0, none⟩)] W fun e w' => BlkIs w' E 25 #[.int .i64 0] ∧ ((e = .returned (.tuple #[]) ∧ RcQ W N bE bB bS r 0 w') ∨ ∃ x, e = Fa.bad x ∧ RcQ W N bE bB bS r x (w'.setCell ⟨E, 0, none⟩ (.int .i64 x))) := by
  have HS := Lib.hid hS
  have HSS := Lib.hid (And.intro hSE (And.intro hSe (And.intro hSb hSs)))
  have HK := Lib.hid (And.intro hE (And.intro hEn hB))
  have HNN := Lib.hid (And.intro hNE (And.intro hNe (And.intro hNb (And.intro hEe (And.intro hEb (And.intro heb (And.intro hN4 (And.intro hE4 (And.intro he4 hb4)))))))))
  have x1 := (hR.cell 0).trans (rfl : _ = some (Value.slice A ln c))
  clear hSE hSe hSb hSs hE hR hEn hB hNE hNe hNb hEe hEb heb hN4 hE4 he4 hb4 hS
  unfold RcQ
  go_enter Tryz.func23, Tryz.ntmps23
  go_wp2_with fail
  refine HS.out.mono ?_
  rintro e w' ⟨hb, ⟨hm, rfl⟩ | ⟨en, b, hm, x, v, rfl, hx, hv⟩⟩
  · have hE' : BlkIs w' E 25 #[.int .i64 0] := (hb.block _ HK.out.1.lt).trans HK.out.1
    have he' : BlkIs w' bE 34 #[.string ⟨#[]⟩, .slice none 0 0, .int .i64 0] := (hb.block _ HK.out.2.1.lt).trans HK.out.2.1
    have hb' : BlkIs w' bB 22 #[.slice none 0 0] := (hb.block _ HK.out.2.2.lt).trans HK.out.2.2
    obtain ⟨g1, g2, g3, g4, g5, g6, g7, g8, g9, g10⟩ := HNN.out
    have hs' : BlkIs w' bS 34 #[.string ⟨#[]⟩, .slice none 0 0, .int .i64 0] := (hb.block _ HSS.out.2.2.2.lt).trans HSS.out.2.2.2
    exact ⟨rfl, hE', .inr ⟨110, rfl, (hb.mono (by omega)).setCell g1 _, hs'.far HSS.out.1 _, .inr ⟨rfl, hm, he'.far (fun e => g4 e.symm) _, hb'.far (fun e => g5 e.symm) _⟩⟩⟩
  · obtain ⟨A2, c2, rfl, hx2, hx3, hx4⟩ := hx
    obtain ⟨A6, c6, rfl, _, _⟩ := own_slice hv
    have HM := Lib.hid hm
    have HX := Lib.hid (And.intro hx2 (And.intro hx3 hx4))
    have HV := Lib.hid hv
    have HBW := Lib.hid hb
    have HE1 : Hid (BlkIs w' E 25 #[.int .i64 0]) := Lib.hid ((hb.block _ HK.out.1.lt).trans HK.out.1)
    have he' : BlkIs w' bE 34 #[.string ⟨#[]⟩, .slice none 0 0, .int .i64 0] := (hb.block _ HK.out.2.1.lt).trans HK.out.2.1
    have hb' : BlkIs w' bB 22 #[.slice none 0 0] := (hb.block _ HK.out.2.2.lt).trans HK.out.2.2
    have z0 := (he'.cell 0).trans (rfl : _ = some (Value.string ⟨#[]⟩))
    have z1 := (he'.cell 1).trans (rfl : _ = some (Value.slice none 0 0))
    have z2 := (he'.cell 2).trans (rfl : _ = some (Value.int .i64 0))
    have zf0 := he'.froz 0
    have zf1 := he'.froz 1
    have zf2 := he'.froz 2
    generalize hsf : str en.1 = sf at *
    have HSF := Lib.hid hsf
    generalize htn : en.2.1.length = tn at *
    have HTN := Lib.hid htn
    generalize hev : en.2.2 = nv at *
    have HEV := Lib.hid hev
    generalize hbl : b.length = bl at *
    have HBL := Lib.hid hbl
    obtain ⟨g1, g2, g3, g4, g5, g6, g7, g8, g9, g10⟩ := HNN.out
    have hs' : BlkIs w' bS 34 #[.string ⟨#[]⟩, .slice none 0 0, .int .i64 0] := (hb.block _ HSS.out.2.2.2.lt).trans HSS.out.2.2.2
    have HSF2 := Lib.hid ((((hs'.far (x := ⟨bE, 0, none⟩) HSS.out.2.1 (.string sf)).far (x := ⟨bE, 1, none⟩) HSS.out.2.1 (.slice A2 tn c2)).far (x := ⟨bE, 2, none⟩) HSS.out.2.1 (.int .i64 nv)).far (x := ⟨bB, 0, none⟩) HSS.out.2.2.1 (.slice A6 bl c6))
    have hb2 := (((hb'.far (x := ⟨bE, 0, none⟩) (fun e => g6 e.symm) (.string sf)).far (x := ⟨bE, 1, none⟩) (fun e => g6 e.symm) (.slice A2 tn c2)).far (x := ⟨bE, 2, none⟩) (fun e => g6 e.symm) (.int .i64 nv))
    have y0 := (hb2.cell 0).trans (rfl : _ = some (Value.slice none 0 0))
    have yf := hb2.froz 0
    have HEF := Lib.hid ((((he'.put 0 (.string sf)).put 1 (.slice A2 tn c2)).put 2 (.int .i64 nv)).far (x := ⟨bB, 0, none⟩) g6 (.slice A6 bl c6))
    have HBF := Lib.hid ((((hb'.far (x := ⟨bE, 0, none⟩) (fun e => g6 e.symm) (.string sf)).far (x := ⟨bE, 1, none⟩) (fun e => g6 e.symm) (.slice A2 tn c2)).far (x := ⟨bE, 2, none⟩) (fun e => g6 e.symm) (.int .i64 nv)).put 0 (.slice A6 bl c6))
    have HEE := Lib.hid ((((HE1.out.far (x := ⟨bE, 0, none⟩) g4 (.string sf)).far (x := ⟨bE, 1, none⟩) g4 (.slice A2 tn c2)).far (x := ⟨bE, 2, none⟩) g4 (.int .i64 nv)).far (x := ⟨bB, 0, none⟩) g5 (.slice A6 bl c6))
    have ht0 : Tn (fun k => k = bE ∨ k = bB) w' ((((w'.setCell ⟨bE, 0, none⟩ (.string sf)).setCell ⟨bE, 1, none⟩ (.slice A2 tn c2)).setCell ⟨bE, 2, none⟩ (.int .i64 nv)).setCell ⟨bB, 0, none⟩ (.slice A6 bl c6)) := ((((Tn.refl _ w').setCell (x := ⟨bE, 0, none⟩) (.inl (.inl rfl)) _).setCell (x := ⟨bE, 1, none⟩) (.inl (.inl rfl)) _).setCell (x := ⟨bE, 2, none⟩) (.inl (.inl rfl)) _).setCell (x := ⟨bB, 0, none⟩) (.inl (.inr rfl)) _
    have HT := Lib.hid ht0
    have HNB := Lib.hid (And.intro g2 (And.intro g3 (And.intro g7 (And.intro g9 g10))))
    clear hs' hm hx2 hx3 hx4 hv hb he' hb' hb2 hsf htn hev hbl ht0 g1 g2 g3 g4 g5 g6 g7 g8 g9 g10
    go_wp2_with fail
    go_end0
    obtain ⟨g2, g3, g7, g9, g10⟩ := HNB.out
    refine ⟨HEE.out, .inl ⟨rfl, (HBW.out.mono (by omega)).trans (HT.out.below (by have := HBW.out.size; omega) (fun i hi e => by omega)), HSF2.out, .inl ⟨trivial, en, b, A2, c2, .slice A6 bl c6, HM.out, by rw [HSF.out, HTN.out, HEV.out]; exact HEF.out, ⟨HX.out.1.tn HT.out (fun ad e => by have := HX.out.2.2 ad e; omega), by rw [HTN.out]; exact HX.out.2.1, fun ad e => by have := HX.out.2.2 ad e; omega⟩, HBF.out, ?_⟩⟩⟩
    have h1 := HV.out
    refine own_more (own_tn h1 HT.out (fun i hi e => by omega)) (by omega)
theorem results_cell_tmp2 {fn : Func} {p u v : Tmp} {ty : TypeId} (h : fn.results = #[.cell p ty, .tmp u, .tmp v]) (tmps : Array Value) (P : Program) (w : World) :
    (results fn tmps).run P w =
      ((asAddr (tmps.getD p undef)).run P w).andThen fun a w₁ => ((loadVar ty a).run P w₁).andThen fun x w₂ => .ok (.tuple #[x, tmps.getD u undef, tmps.getD v undef]) w₂ := by
  simp only [results, h]
  simp [Sem.run_bind, Result.andThen]
theorem res_Read {w : World} {g : Nat} {x0 x1 x2 : Value} (tmps : Array Value) (hB : BlkIs w g 34 #[x0, x1, x2]) (h2 : tmps.getD 2 undef = .pointer (some ⟨g, 0, none⟩)) :
    (results Tryz.f10 tmps).run Tryz.prog w = .ok (.tuple #[.agg #[x0, x1, x2], tmps.getD 3 undef, tmps.getD 4 undef]) w := by
  rw [results_cell_tmp2 rfl, h2]
  have hl := run_loadVar_row (P := Tryz.prog) w g 34 34 #[x0, x1, x2] (0, 0) _ hB Tryz.underlying34 rfl (by kernel_rfl)
  simp only [asAddr, Result.andThen, Sem.run_pure]
  rw [hl]
/-- what Read answers, of the world behind it. -/
def ReadR (w' : World) (r : L) (e : Ending) : Prop :=
  (readM r = none ∧ e = .returned (.tuple #[.agg #[.string ⟨#[]⟩, .slice none 0 0, .int .i64 0], .slice none 0 0, .int .i64 110])) ∨
    ∃ en b x A c, readM r = some (en, b) ∧ e = .returned (.tuple #[x, .slice A b.length c, .int .i64 0]) ∧ EnvAt w' w'.heap.size x en ∧ Bts w' w'.heap.size A b
/-- what Read answers. -/
def ReadP (w : World) (r : L) (e : Ending) (w' : World) : Prop := Below w.heap.size w w' ∧ ReadR w' r e
theorem rc_norm {w X : World} {N bE bB bS : Nat} {r : L} {x : Int} (h : RcQ w N bE bB bS r x X) : ∃ s0 A2 n2 c2 u2 A6 n6 c6, BlkIs X bE 34 #[.string s0, .slice A2 n2 c2, .int .i64 u2] ∧ BlkIs X bB 22 #[.slice A6 n6 c6] ∧ BlkIs X bS 34 #[.string ⟨#[]⟩, .slice none 0 0, .int .i64 0] ∧ Below N w X ∧
    ∀ Y, Tn (fun k => k = N + 1) X Y → ReadR Y r (.returned (.tuple #[.agg #[.string s0, .slice A2 n2 c2, .int .i64 u2], .slice A6 n6 c6, .int .i64 x])) := by
  obtain ⟨h1, h2, ⟨rfl, en, b, A, c, v, hm, hE, ⟨hx1, hx2, hx3⟩, hB, hv⟩ | ⟨rfl, hm, hE, hB⟩⟩ := h
  · obtain ⟨A6, c6, rfl, _, _⟩ := own_slice hv
    exact ⟨_, _, _, _, _, _, _, _, hE, hB, h2, h1, fun Y hY => .inr ⟨en, b, _, A6, c6, hm, rfl, ⟨A, c, rfl, hx1.tn hY (fun ad e g => by have := hx3 ad e; omega), hx2⟩, Own5.bts (own_tn hv hY (fun i hi e => by omega))⟩⟩
  · exact ⟨_, _, _, _, _, _, _, _, hE, hB, h2, h1, fun Y hY => .inl ⟨hm, rfl⟩⟩
set_option maxHeartbeats 3200000 in
theorem Read_any {w : World} {A : Option Addr} {r : L} (h : Bts w w.heap.size A r) (c : Nat) (hc : r.length ≤ c) (hm : c ≤ maxLen) (hA : A = none → c = 0) (hl : r.length ≤ 100000) (hG : GlM w) (hT : GlT w) (hE : GlE w) :
    Calls Tryz.prog 10 #[.slice A r.length c] w (ReadP w r) := by
  have HRI : Hid (∀ X, Below w.heap.size w X → Calls Tryz.prog 24 #[.slice A r.length c] X (ReadIQ X r)) := Lib.hid fun X hX => read_any ((h.below hX).more hX.size) c hc hm hA hl (hG.below hX hG.lt) (hT.below hX hT.lt) (hE.below hX hE.lt)
  clear h hA hG hT hE hl
  generalize r.length = ln at *
  have n0 := BlkIs.new w 22 #[.slice A ln c]
  have n1 := BlkIs.new (w.alloc (.cells #[.slice A ln c] 22)) 34 #[.string ⟨#[]⟩, .slice none 0 0, .int .i64 0]
  have n2 := BlkIs.new ((w.alloc (.cells #[.slice A ln c] 22)).alloc (.cells #[.string ⟨#[]⟩, .slice none 0 0, .int .i64 0] 34)) 34 #[.string ⟨#[]⟩, .slice none 0 0, .int .i64 0]
  have n3 := BlkIs.new (((w.alloc (.cells #[.slice A ln c] 22)).alloc (.cells #[.string ⟨#[]⟩, .slice none 0 0, .int .i64 0] 34)).alloc (.cells #[.string ⟨#[]⟩, .slice none 0 0, .int .i64 0] 34)) 22 #[.slice none 0 0]
  simp only [World.size_alloc] at n1 n2 n3
  have HN := Lib.hid (And.intro (((n0.alloc (.cells #[.string ⟨#[]⟩, .slice none 0 0, .int .i64 0] 34)).alloc (.cells #[.string ⟨#[]⟩, .slice none 0 0, .int .i64 0] 34)).alloc (.cells #[.slice none 0 0] 22)) (And.intro ((n1.alloc (.cells #[.string ⟨#[]⟩, .slice none 0 0, .int .i64 0] 34)).alloc (.cells #[.slice none 0 0] 22)) (And.intro (n2.alloc (.cells #[.slice none 0 0] 22)) n3)))
  have HBW : Hid (Below w.heap.size w ((((w.alloc (.cells #[.slice A ln c] 22)).alloc (.cells #[.string ⟨#[]⟩, .slice none 0 0, .int .i64 0] 34)).alloc (.cells #[.string ⟨#[]⟩, .slice none 0 0, .int .i64 0] 34)).alloc (.cells #[.slice none 0 0] 22)) ∧ ((((w.alloc (.cells #[.slice A ln c] 22)).alloc (.cells #[.string ⟨#[]⟩, .slice none 0 0, .int .i64 0] 34)).alloc (.cells #[.string ⟨#[]⟩, .slice none 0 0, .int .i64 0] 34)).alloc (.cells #[.slice none 0 0] 22)).heap.size = w.heap.size + 4) := Lib.hid ⟨((((Below.refl _ w).alloc (Nat.le_refl _) _).alloc (by simp) _).alloc (by simp; omega) _).alloc (by simp; omega) _, by simp⟩
  clear n0 n1 n2 n3
  have HAT : Hid (∀ w2, Below w.heap.size w w2 → w2.heap.size = w.heap.size + 4 → BlkIs w2 w.heap.size 22 #[.slice A ln c] → BlkIs w2 (w.heap.size + 1) 34 #[.string ⟨#[]⟩, .slice none 0 0, .int .i64 0] → BlkIs w2 (w.heap.size + 1 + 1) 34 #[.string ⟨#[]⟩, .slice none 0 0, .int .i64 0] → BlkIs w2 (w.heap.size + 1 + 1 + 1) 22 #[.slice none 0 0] →
      Calls Tryz.prog 14 #[.func (.func 23) #[] #[.pointer (some ⟨w.heap.size, 0, none⟩), .pointer (some ⟨w.heap.size + 1 + 1, 0, none⟩), .pointer (some ⟨w.heap.size + 1 + 1 + 1, 0, none⟩)]] w2 fun e w' => ∃ x, e = .returned (.int .i64 x) ∧ RcQ (w2.alloc (.cells #[.int .i64 0] 25)) w.heap.size (w.heap.size + 1 + 1) (w.heap.size + 1 + 1 + 1) (w.heap.size + 1) r x w') := Lib.hid fun w2 g1 g2 g3 g4 g5 g6 => by
    refine Fa.attempt_c 23 _ w2 _ (enters_of Tryz.func23 (by kernel_rfl) rfl _) ?_
    have ga : Below w2.heap.size w2 (w2.alloc (.cells #[.int .i64 0] 25)) := (Below.refl _ _).alloc (Nat.le_refl _) _
    have gb := g1.trans (ga.mono (by omega))
    have gz := ga.size
    have gy : w2.heap.size < (w2.alloc (.cells #[.int .i64 0] 25)).heap.size := by simp
    exact read1_any (HRI.out _ gb) (by omega) (by omega) (by omega) (by omega) (by omega) (by omega) (by omega) gy (by omega) (by omega) (by omega) (by omega) (by omega) (g4.alloc _) (BlkIs.new w2 _ _) (g3.alloc _) (g5.alloc _) (g6.alloc _)
  clear HRI
  unfold ReadP
  go_enter Tryz.func10, Tryz.ntmps10
  go_wp2_with fail
  refine (HAT.out _ HBW.out.1 HBW.out.2 HN.out.1 HN.out.2.1 HN.out.2.2.1 HN.out.2.2.2).mono ?_
  rintro e w' ⟨x, rfl, hq⟩
  obtain ⟨s0, A2, n2, c2, u2, A6, n6, c6, hE, hB, hS, hbel, hrel⟩ := rc_norm hq
  have HB3 : Hid (Below w.heap.size w w') := Lib.hid ((HBW.out.1.alloc (by have := HBW.out.1.size; omega) _).trans hbel)
  have HREL := Lib.hid hrel
  have HD : Hid (Below w'.heap.size w' w'.drew) := Lib.hid (below_drewN (Below.refl _ _) 1)
  have HE2 : Hid (BlkIs w'.drew (w.heap.size + 1 + 1) 34 #[.string s0, .slice A2 n2 c2, .int .i64 u2]) := Lib.hid ((HD.out.block _ hE.lt).trans hE)
  have HM2 : Hid (BlkIs w'.drew (w.heap.size + 1 + 1 + 1) 22 #[.slice A6 n6 c6]) := Lib.hid ((HD.out.block _ hB.lt).trans hB)
  have HS2 : Hid (BlkIs w'.drew (w.heap.size + 1) 34 #[.string ⟨#[]⟩, .slice none 0 0, .int .i64 0]) := Lib.hid ((HD.out.block _ hS.lt).trans hS)
  have hz4 := HD.out.size
  clear hE hB hS hbel hrel hq HAT HBW HN
  go_wp2_with fail
  refine wp_region_held_drew (S := (fun Y => BlkIs Y (w.heap.size + 1 + 1) 34 #[.string s0, .slice A2 n2 c2, .int .i64 u2] ∧ BlkIs Y (w.heap.size + 1 + 1 + 1) 22 #[.slice A6 n6 c6])) (by kernel_rfl) (⟨HE2.out, HM2.out⟩) (fun hHeld => ?_)
  generalize w'.drew = w4 at *
  refine wpAnyH_take (i := 0) (v := .agg #[.string s0, .slice A2 n2 c2, .int .i64 u2]) rfl (by kernel_rfl) (by kernel_rfl) (by kernel_rfl) (fun _ _ _ h => h) (Or.inl ⟨by rfl, fun w hS => by (have c0 := (BlkIs.cell hS.1 0).trans (rfl : _ = some (Value.string s0)); have c1 := (BlkIs.cell hS.1 1).trans (rfl : _ = some (Value.slice A2 n2 c2)); have c2 := (BlkIs.cell hS.1 2).trans (rfl : _ = some (Value.int .i64 u2)); go_simp)⟩) hHeld ?_
  try simp only [Act.put, List.getElem_toArray, List.getElem_cons_zero, List.setIfInBounds_toArray, List.set_cons_zero, List.set_cons_succ]
  refine wpAnyH_take (i := 1) (v := .slice A6 n6 c6) rfl (by kernel_rfl) (by kernel_rfl) (by kernel_rfl) (fun _ _ _ h => h) (Or.inl ⟨by rfl, fun w hS => by (have c0 := (BlkIs.cell hS.2 0).trans (rfl : _ = some (Value.slice A6 n6 c6)); go_simp)⟩) hHeld ?_
  try simp only [Act.put, List.getElem_toArray, List.getElem_cons_zero, List.getElem_cons_succ, List.setIfInBounds_toArray, List.set_cons_zero, List.set_cons_succ]
  refine wpAnyH_take (i := 2) (v := .int .i64 x) rfl (by kernel_rfl) (by kernel_rfl) (by kernel_rfl) (fun _ _ _ h => h) (Or.inl ⟨by rfl, fun w hS => by first | (go_simp; done) | (go_simp; with_reducible rfl)⟩) hHeld ?_
  try simp only [Act.put, List.getElem_toArray, List.getElem_cons_zero, List.getElem_cons_succ, List.setIfInBounds_toArray, List.set_cons_zero, List.set_cons_succ]
  have z0c := (BlkIs.cell HS2.out 0).trans (rfl : _ = some (Value.string ⟨#[]⟩))
  have z1c := (BlkIs.cell HS2.out 1).trans (rfl : _ = some (Value.slice none 0 0))
  have z2c := (BlkIs.cell HS2.out 2).trans (rfl : _ = some (Value.int .i64 0))
  have zf0 := HS2.out.froz 0
  have zf1 := HS2.out.froz 1
  have zf2 := HS2.out.froz 2
  have HZF := Lib.hid (((HS2.out.put 0 (.string s0)).put 1 (.slice A2 n2 c2)).put 2 (.int .i64 u2))
  have HEF := Lib.hid (((HE2.out.far (x := ⟨w.heap.size + 1, 0, none⟩) (by show w.heap.size + 1 + 1 ≠ w.heap.size + 1; omega) (.string s0)).far (x := ⟨w.heap.size + 1, 1, none⟩) (by show w.heap.size + 1 + 1 ≠ w.heap.size + 1; omega) (.slice A2 n2 c2)).far (x := ⟨w.heap.size + 1, 2, none⟩) (by show w.heap.size + 1 + 1 ≠ w.heap.size + 1; omega) (.int .i64 u2))
  have HMF := Lib.hid (((HM2.out.far (x := ⟨w.heap.size + 1, 0, none⟩) (by show w.heap.size + 1 + 1 + 1 ≠ w.heap.size + 1; omega) (.string s0)).far (x := ⟨w.heap.size + 1, 1, none⟩) (by show w.heap.size + 1 + 1 + 1 ≠ w.heap.size + 1; omega) (.slice A2 n2 c2)).far (x := ⟨w.heap.size + 1, 2, none⟩) (by show w.heap.size + 1 + 1 + 1 ≠ w.heap.size + 1; omega) (.int .i64 u2))
  have HTF := Lib.hid ((((Tn.of_below (p := fun k => k = w.heap.size + 1) HD.out).setCell (x := ⟨w.heap.size + 1, 0, none⟩) (.inl rfl) (.string s0)).setCell (x := ⟨w.heap.size + 1, 1, none⟩) (.inl rfl) (.slice A2 n2 c2)).setCell (x := ⟨w.heap.size + 1, 2, none⟩) (.inl rfl) (.int .i64 u2))
  have HBF := Lib.hid (HB3.out.trans (HTF.out.below HB3.out.size (fun i hi e => by omega)))
  refine wpAnyH_ready (rs := [3]) (by kernel_rfl) (by simp) ?_
  refine AllReadyH.cons rfl (fun K hK => ?_) AllReadyH.nil
  go_simp
  refine hK.out _ _ ?_ (fun hHeld => ?_)
  · exact ⟨HEF.out, HMF.out⟩
  clear hK K
  try simp only [Act.put, List.getElem_toArray, List.getElem_cons_zero, List.getElem_cons_succ, List.setIfInBounds_toArray, List.set_cons_zero, List.set_cons_succ]
  refine wpAnyH_take (i := 4) (v := .slice A6 n6 c6) rfl (by kernel_rfl) (by kernel_rfl) (by kernel_rfl) (fun _ _ _ h => h) (Or.inl ⟨by rfl, fun w hS => by first | (go_simp; done) | (go_simp; with_reducible rfl)⟩) hHeld ?_
  try simp only [Act.put, List.getElem_toArray, List.getElem_cons_zero, List.getElem_cons_succ, List.setIfInBounds_toArray, List.set_cons_zero, List.set_cons_succ]
  refine wpAnyH_take (i := 5) (v := .int .i64 x) rfl (by kernel_rfl) (by kernel_rfl) (by kernel_rfl) (fun _ _ _ h => h) (Or.inl ⟨by rfl, fun w hS => by first | (go_simp; done) | (go_simp; with_reducible rfl)⟩) hHeld ?_
  try simp only [Act.put, List.getElem_toArray, List.getElem_cons_zero, List.getElem_cons_succ, List.setIfInBounds_toArray, List.set_cons_zero, List.set_cons_succ]
  refine wpAnyH_done (by kernel_rfl) ?_ _
  go_wp2_with fail
  refine bodyPost_ret (res_Read _ HZF.out rfl) rfl ?_
  exact ⟨HBF.out, HREL.out _ HTF.out⟩
end Mi
end Go.Proofs.YtamekflgidfnfaaGreatDoor
