/- entry.Encode. Conditions: as stated at each. -/
import Derived.Test.YtpfonpjcnpfipaaGreatDoorEnEncd
namespace Go.Proofs.YtpfonpjcnpfipaaGreatDoor
set_option maxRecDepth 100000
namespace En
open Go.RowKit Go Go.Proofs.YtpfonpjcnpfipaaGreatDoor.Pa
attribute [local go_sem] Oper.semAt_some
theorem own_far {w : World} {N n sz : Nat} {e : TypeId} {v : Value} {xs : List Value} (h : w.ownsRow N e sz v n xs) {x : Addr} (hx : ∀ g, v.ownBlock = some g → g ≠ x.block) (u : Value) : (w.setCell x u).ownsRow N e sz v n xs := by
  refine ⟨h.1, ?_⟩
  rcases h.2 with h0 | ⟨g, cap, cur, rfl, hn, hh, rest⟩
  · exact .inl h0
  · exact .inr ⟨g, cap, cur, rfl, hn, (Below.heap_setCell w x u g (hx g rfl)).trans hh, rest⟩
/-- behind the closure of Encode. -/
def EncQ (w : World) (N R : Nat) (m : M) (x : Int) (X : World) : Prop :=
  Below N w X ∧ x = numE (okB m) ∧ ((okB m = true ∧ ∃ v, BlkIs X R 22 #[v] ∧ Own5 X N v (putS (fldS m))) ∨ (okB m = false ∧ BlkIs X R 22 #[.slice none 0 0]))
set_option maxHeartbeats 1600000 in
theorem encode1_any {W : World} {N R E V : Nat} {x0 x1 x2 x3 x4 x5 : Value} {m : M}
    (hS : Calls Tryz.prog 43 #[.agg #[x0, x1, x2, x3, x4, x5]] W (EncP W m))
    (hNR : N ≤ R) (hNE : N ≤ E) (hRE : R ≠ E) (hE : BlkIs W E 29 #[.int .i64 0]) (hV : BlkIs W V 28 #[x0, x1, x2, x3, x4, x5]) (hR : BlkIs W R 22 #[.slice none 0 0]) :
    Calls Tryz.prog 42 #[.pointer (some ⟨V, 0, none⟩), .pointer (some ⟨R, 0, none⟩)] W fun r w' => BlkIs w' E 29 #[.int .i64 0] ∧ ((r = .returned (.tuple #[]) ∧ EncQ W N R m 0 w') ∨ ∃ x, r = Fa.bad x ∧ EncQ W N R m x (w'.setCell ⟨E, 0, none⟩ (.int .i64 x))) := by
  have HS := Lib.hid hS
  have HE := Lib.hid (And.intro hE (And.intro hR (And.intro hNR (And.intro hNE hRE))))
  have y0 := (hV.cell 0).trans (rfl : _ = some x0)
  have y1 := (hV.cell 1).trans (rfl : _ = some x1)
  have y2 := (hV.cell 2).trans (rfl : _ = some x2)
  have y3 := (hV.cell 3).trans (rfl : _ = some x3)
  have y4 := (hV.cell 4).trans (rfl : _ = some x4)
  have y5 := (hV.cell 5).trans (rfl : _ = some x5)
  have hRlt : R < W.heap.size := hR.lt
  clear hE hV hR hNR hNE hRE hS
  unfold EncQ
  go_enter Tryz.func42, Tryz.ntmps42
  go_wp2_with fail
  refine HS.out.mono ?_
  rintro r w' ⟨hb, ⟨h1, v3, rfl, h3⟩ | ⟨h1, rfl⟩⟩
  · obtain ⟨A6, c6, rfl, _, _⟩ := own_slice h3
    have hR' : BlkIs w' R 22 #[.slice none 0 0] := (hb.block _ hRlt).trans HE.out.2.1
    have hE' : BlkIs w' E 29 #[.int .i64 0] := (hb.block _ HE.out.1.lt).trans HE.out.1
    have z0 := (hR'.cell 0).trans (rfl : _ = some (Value.slice none 0 0))
    have zf := hR'.froz 0
    have hNW : N ≤ W.heap.size := by have := HE.out.2.2.1; omega
    have hO : Own5 (w'.setCell ⟨R, 0, none⟩ (.slice A6 (putS (fldS m)).length c6)) N (.slice A6 (putS (fldS m)).length c6) (putS (fldS m)) := own_more (own_far h3 (fun g hg => by have := (h3.lt g hg).1; show g ≠ R; omega) _) hNW
    have HF : Hid (BlkIs (w'.setCell ⟨R, 0, none⟩ (.slice A6 (putS (fldS m)).length c6)) E 29 #[.int .i64 0] ∧ (Below N W (w'.setCell ⟨R, 0, none⟩ (.slice A6 (putS (fldS m)).length c6)) ∧ (0 : Int) = numE (okB m) ∧ ((okB m = true ∧ ∃ v, BlkIs (w'.setCell ⟨R, 0, none⟩ (.slice A6 (putS (fldS m)).length c6)) R 22 #[v] ∧ Own5 (w'.setCell ⟨R, 0, none⟩ (.slice A6 (putS (fldS m)).length c6)) N v (putS (fldS m))) ∨ (okB m = false ∧ BlkIs (w'.setCell ⟨R, 0, none⟩ (.slice A6 (putS (fldS m)).length c6)) R 22 #[.slice none 0 0])))) :=
      Lib.hid ⟨hE'.far (fun e => HE.out.2.2.2.2 e.symm) _, (hb.mono hNW).setCell HE.out.2.2.1 _, by rw [h1]; rfl, .inl ⟨h1, _, hR'.put 0 _, hO⟩⟩
    clear hb h1 h3 hO hR' hE'
    generalize (putS (fldS m)).length = m9 at *
    go_wp2_with fail
    go_end0
    exact ⟨HF.out.1, .inl ⟨rfl, HF.out.2⟩⟩
  · have hR' : BlkIs w' R 22 #[.slice none 0 0] := (hb.block _ hRlt).trans HE.out.2.1
    have hE' : BlkIs w' E 29 #[.int .i64 0] := (hb.block _ HE.out.1.lt).trans HE.out.1
    have hNW : N ≤ W.heap.size := by have := HE.out.2.2.1; omega
    exact ⟨rfl, hE', .inr ⟨_, rfl, (hb.mono hNW).setCell HE.out.2.2.2.1 _, by rw [h1]; rfl, .inr ⟨h1, hR'.far (fun e => HE.out.2.2.2.2 e) _⟩⟩⟩
/-- what Encode answers. -/
def EncodeP (w : World) (m : M) (e : Ending) (w' : World) : Prop := Below w.heap.size w w' ∧ ∃ v, e = .returned (.tuple #[v, .int .i64 (numE (okB m))]) ∧ ((okB m = true ∧ Own5 w' w.heap.size v (putS (fldS m))) ∨ (okB m = false ∧ v = .slice none 0 0))
set_option maxHeartbeats 1600000 in
theorem encode_any {w : World} {x : Value} {m : M} (h : MsgAt w w.heap.size x m) (hs : SmallM m) (hG : GlT w) :
    Calls Tryz.prog 28 #[x] w (EncodeP w m) := by
  have h0 := h
  obtain ⟨A, c, Ab, cb, rfl, _⟩ := h
  have HRP := Lib.hid (fun X (hX : Below w.heap.size w X) => encoded_any ((h0.below hX).more hX.size) hs (hG.below hX hG.lt))
  unfold EncodeP
  clear h0 hs hG
  generalize str m.cls = sc at *
  generalize str m.fr = sf at *
  generalize m.tos.length = n at *
  generalize m.body.length = bn at *
  generalize m.at_ = t at *
  generalize m.id = id at *
  have k0 : BlkIs (w.alloc (.cells #[.int .i64 id, .string sc, .string sf, .slice A n c, .int .i64 t, .slice Ab bn cb] 28)) w.heap.size 28 #[.int .i64 id, .string sc, .string sf, .slice A n c, .int .i64 t, .slice Ab bn cb] := BlkIs.new w _ _
  have k1 := BlkIs.new (w.alloc (.cells #[.int .i64 id, .string sc, .string sf, .slice A n c, .int .i64 t, .slice Ab bn cb] 28)) 22 #[.slice none 0 0]
  rw [World.size_alloc] at k1
  have kB : Below w.heap.size w ((w.alloc (.cells #[.int .i64 id, .string sc, .string sf, .slice A n c, .int .i64 t, .slice Ab bn cb] 28)).alloc (.cells #[.slice none 0 0] 22)) := ((Below.refl _ w).alloc (Nat.le_refl _) _).alloc (by simp) _
  have kz : ((w.alloc (.cells #[.int .i64 id, .string sc, .string sf, .slice A n c, .int .i64 t, .slice Ab bn cb] 28)).alloc (.cells #[.slice none 0 0] 22)).heap.size = w.heap.size + 2 := by simp
  have HKB := Lib.hid (And.intro kB (And.intro (k0.alloc (.cells #[.slice none 0 0] 22)) (And.intro k1 kz)))
  have HAT : Hid (∀ w2, Below w.heap.size w w2 → BlkIs w2 w.heap.size 28 #[.int .i64 id, .string sc, .string sf, .slice A n c, .int .i64 t, .slice Ab bn cb] → BlkIs w2 (w.heap.size + 1) 22 #[.slice none 0 0] → w2.heap.size = w.heap.size + 2 →
      Calls Tryz.prog 10 #[.func (.func 42) #[] #[.pointer (some ⟨w.heap.size, 0, none⟩), .pointer (some ⟨w.heap.size + 1, 0, none⟩)]] w2 fun r w' => ∃ x, r = .returned (.int .i64 x) ∧ EncQ (w2.alloc (.cells #[.int .i64 0] 29)) w.heap.size (w.heap.size + 1) m x w') := Lib.hid fun w2 g1 g2 g3 g4 => by
    refine Fa.attempt_c 42 _ w2 _ (enters_of Tryz.func42 (by kernel_rfl) rfl _) ?_
    have ga : Below w2.heap.size w2 (w2.alloc (.cells #[.int .i64 0] 29)) := (Below.refl _ _).alloc (Nat.le_refl _) _
    have gb := g1.trans (ga.mono g1.size)
    exact encode1_any (HRP.out _ gb) (by omega) (by omega) (by omega) (BlkIs.new w2 _ _) (g2.alloc _) (g3.alloc _)
  clear k0 k1 kB kz HRP
  go_enter Tryz.func28, Tryz.ntmps28
  go_wp2_with fail
  refine (HAT.out _ HKB.out.1 HKB.out.2.1 HKB.out.2.2.1 HKB.out.2.2.2).mono ?_
  rintro r w3 ⟨x, rfl, hbel, rfl, hq⟩
  have HB3 : Hid (Below w.heap.size w w3) := Lib.hid ((HKB.out.1.alloc HKB.out.1.size _).trans hbel)
  clear hbel HAT HKB
  rcases hq with ⟨h1, v4, h3, h4⟩ | ⟨h1, h3⟩
  · have y0 := (h3.cell 0).trans (rfl : _ = some v4)
    have HF := Lib.hid (And.intro h1 h4)
    clear h1 h3 h4
    generalize hne : numE (okB m) = ne at *
    have HNE := Lib.hid hne
    clear hne
    go_wp2_with fail
    refine bodyPost_ret (results_tmp2 rfl _ _ _) rfl ?_
    exact ⟨HB3.out, _, by rw [HNE.out]; rfl, .inl ⟨HF.out.1, HF.out.2⟩⟩
  · have y0 := (h3.cell 0).trans (rfl : _ = some (Value.slice none 0 0))
    have HF := Lib.hid h1
    clear h1 h3
    generalize hne : numE (okB m) = ne at *
    have HNE := Lib.hid hne
    clear hne
    go_wp2_with fail
    refine bodyPost_ret (results_tmp2 rfl _ _ _) rfl ?_
    exact ⟨HB3.out, _, by rw [HNE.out]; rfl, .inr ⟨HF.out, rfl⟩⟩
end En
end Go.Proofs.YtpfonpjcnpfipaaGreatDoor
