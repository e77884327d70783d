/- entry.Decode. Conditions: as stated at each. -/
import Derived.Test.YtpfonpjcnpfipaaGreatDoorEnDcd
namespace Go.Proofs.YtpfonpjcnpfipaaGreatDoor
set_option maxRecDepth 100000
namespace En
open Go.RowKit Go Go.Proofs.YtpfonpjcnpfipaaGreatDoor.Pa
attribute [local go_sem] Oper.semAt_some
theorem MsgO.set {w : World} {N : Nat} {x : Value} {m : M} (h : MsgO w N x m) {a : Addr} (ha : a.block < N) (u : Value) : MsgO (w.setCell a u) N x m := by
  obtain ⟨v1, v2, rfl, h1, h2⟩ := h
  exact ⟨v1, v2, rfl, own_far h1 (fun g hg => by have := (h1.lt g hg).1; omega) u, own_far h2 (fun g hg => by have := (h2.lt g hg).1; omega) u⟩
theorem MsgO.on {w w' : World} {N : Nat} {x : Value} {m : M} (h : MsgO w N x m) (hb : Below w.heap.size w w') : MsgO w' N x m := by
  obtain ⟨v1, v2, rfl, h1, h2⟩ := h
  exact ⟨v1, v2, rfl, own_kept h1 hb (Nat.le_refl _), own_kept h2 hb (Nat.le_refl _)⟩
theorem MsgO.less {w : World} {N N' : Nat} {x : Value} {m : M} (h : MsgO w N x m) (hN : N' ≤ N) : MsgO w N' x m := by
  obtain ⟨v1, v2, rfl, h1, h2⟩ := h
  exact ⟨v1, v2, rfl, own_more h1 hN, own_more h2 hN⟩
/-- a struct's six cells set. -/
def six (w : World) (g : Nat) (x0 x1 x2 x3 x4 x5 : Value) : World := (((((w.setCell ⟨g, 0, none⟩ x0).setCell ⟨g, 1, none⟩ x1).setCell ⟨g, 2, none⟩ x2).setCell ⟨g, 3, none⟩ x3).setCell ⟨g, 4, none⟩ x4).setCell ⟨g, 5, none⟩ x5
theorem six_blk {w : World} {g : Nat} {y0 y1 y2 y3 y4 y5 : Value} (h : BlkIs w g 28 #[y0, y1, y2, y3, y4, y5]) (x0 x1 x2 x3 x4 x5 : Value) : BlkIs (six w g x0 x1 x2 x3 x4 x5) g 28 #[x0, x1, x2, x3, x4, x5] :=
  (((((h.put 0 x0).put 1 x1).put 2 x2).put 3 x3).put 4 x4).put 5 x5
theorem six_far {w : World} {g k : Nat} {t : TypeId} {cs : Array Value} (h : BlkIs w k t cs) (hk : k ≠ g) (x0 x1 x2 x3 x4 x5 : Value) : BlkIs (six w g x0 x1 x2 x3 x4 x5) k t cs :=
  (((((h.far (x := ⟨g, 0, none⟩) hk x0).far (x := ⟨g, 1, none⟩) hk x1).far (x := ⟨g, 2, none⟩) hk x2).far (x := ⟨g, 3, none⟩) hk x3).far (x := ⟨g, 4, none⟩) hk x4).far (x := ⟨g, 5, none⟩) hk x5
theorem six_below {w0 w : World} {N g : Nat} (h : Below N w0 w) (hg : N ≤ g) (x0 x1 x2 x3 x4 x5 : Value) : Below N w0 (six w g x0 x1 x2 x3 x4 x5) :=
  (((((h.setCell (p := ⟨g, 0, none⟩) hg x0).setCell (p := ⟨g, 1, none⟩) hg x1).setCell (p := ⟨g, 2, none⟩) hg x2).setCell (p := ⟨g, 3, none⟩) hg x3).setCell (p := ⟨g, 4, none⟩) hg x4).setCell (p := ⟨g, 5, none⟩) hg x5
theorem six_msg {w : World} {N g : Nat} {x : Value} {m : M} (h : MsgO w N x m) (hg : g < N) (x0 x1 x2 x3 x4 x5 : Value) : MsgO (six w g x0 x1 x2 x3 x4 x5) N x m :=
  (((((h.set (a := ⟨g, 0, none⟩) hg x0).set (a := ⟨g, 1, none⟩) hg x1).set (a := ⟨g, 2, none⟩) hg x2).set (a := ⟨g, 3, none⟩) hg x3).set (a := ⟨g, 4, none⟩) hg x4).set (a := ⟨g, 5, none⟩) hg x5
/-- behind the closure of Decode. -/
def DecQ (w : World) (N R : Nat) (b : L) (x : Int) (X : World) : Prop := Below N w X ∧
  ((decS b = none ∧ x = 150 ∧ BlkIs X R 28 #[.int .i64 0, .string ⟨#[]⟩, .string ⟨#[]⟩, .slice none 0 0, .int .i64 0, .slice none 0 0]) ∨ ∃ m x0 x1 x2 x3 x4 x5, decS b = some m ∧ x = 0 ∧ BlkIs X R 28 #[x0, x1, x2, x3, x4, x5] ∧ MsgO X w.heap.size (.agg #[x0, x1, x2, x3, x4, x5]) m)
set_option maxHeartbeats 3200000 in
theorem decode1_any {W : World} {N R E V D : Nat} {A : Option Addr} {bn c : Nat} {b : L}
    (hS : Calls Tryz.prog 12 #[.slice A bn c] W (DecP W b))
    (hNR : N ≤ R) (hNE : N ≤ E) (hRE : R ≠ E) (hDR : D ≠ R) (hDE : D ≠ E) (hD : BlkIs W D 28 #[.int .i64 0, .string ⟨#[]⟩, .string ⟨#[]⟩, .slice none 0 0, .int .i64 0, .slice none 0 0]) (hE : BlkIs W E 29 #[.int .i64 0]) (hV : BlkIs W V 22 #[.slice A bn c]) (hR : BlkIs W R 28 #[.int .i64 0, .string ⟨#[]⟩, .string ⟨#[]⟩, .slice none 0 0, .int .i64 0, .slice none 0 0]) :
    Calls Tryz.prog 11 #[.pointer (some ⟨V, 0, none⟩), .pointer (some ⟨R, 0, none⟩)] W fun r w' => BlkIs w' E 29 #[.int .i64 0] ∧ ((r = .returned (.tuple #[]) ∧ DecQ W N R b 0 w' ∧ BlkIs w' D 28 #[.int .i64 0, .string ⟨#[]⟩, .string ⟨#[]⟩, .slice none 0 0, .int .i64 0, .slice none 0 0]) ∨ ∃ x, r = Fa.bad x ∧ DecQ W N R b x (w'.setCell ⟨E, 0, none⟩ (.int .i64 x)) ∧ BlkIs (w'.setCell ⟨E, 0, none⟩ (.int .i64 x)) D 28 #[.int .i64 0, .string ⟨#[]⟩, .string ⟨#[]⟩, .slice none 0 0, .int .i64 0, .slice none 0 0]) := by
  unfold DecP at hS
  have HS := Lib.hid hS
  have HE := Lib.hid (And.intro hE (And.intro hR (And.intro hNR (And.intro hNE hRE))))
  have y0 := (hV.cell 0).trans (rfl : _ = some (Value.slice A bn c))
  have hRlt : R < W.heap.size := hR.lt
  have HD0 := Lib.hid (And.intro hD (And.intro hDR hDE))
  clear hE hV hR hNR hNE hRE hS hD hDR hDE
  unfold DecQ
  go_enter Tryz.func11, Tryz.ntmps11
  go_wp2_with fail
  refine HS.out.mono ?_
  rintro r w' ⟨hb, ⟨h1, rfl⟩ | ⟨m, h1, x, rfl, h3⟩⟩
  · have hR' : BlkIs w' R 28 #[.int .i64 0, .string ⟨#[]⟩, .string ⟨#[]⟩, .slice none 0 0, .int .i64 0, .slice none 0 0] := (hb.block _ hRlt).trans HE.out.2.1
    have hE' : BlkIs w' E 29 #[.int .i64 0] := (hb.block _ HE.out.1.lt).trans HE.out.1
    have hNW : N ≤ W.heap.size := by have := HE.out.2.2.1; omega
    have hD' : BlkIs w' D 28 #[.int .i64 0, .string ⟨#[]⟩, .string ⟨#[]⟩, .slice none 0 0, .int .i64 0, .slice none 0 0] := (hb.block _ HD0.out.1.lt).trans HD0.out.1
    exact ⟨rfl, hE', .inr ⟨_, rfl, ⟨(hb.mono hNW).setCell HE.out.2.2.2.1 _, .inl ⟨h1, rfl, hR'.far (fun e => HE.out.2.2.2.2 e) _⟩⟩, hD'.far (fun e => HD0.out.2.2 e) _⟩⟩
  · obtain ⟨v1, v2, rfl, g1, g2⟩ := h3
    have h3 : MsgO w' W.heap.size (.agg #[.int .i64 m.id, .string (str m.cls), .string (str m.fr), v1, .int .i64 m.at_, v2]) m := ⟨v1, v2, rfl, g1, g2⟩
    obtain ⟨A1, c1, rfl, _, _⟩ := OwnT.slice g1
    obtain ⟨A2, c2, rfl, _, _⟩ := own_slice g2
    have hR' : BlkIs w' R 28 #[.int .i64 0, .string ⟨#[]⟩, .string ⟨#[]⟩, .slice none 0 0, .int .i64 0, .slice none 0 0] := (hb.block _ hRlt).trans HE.out.2.1
    have hE' : BlkIs w' E 29 #[.int .i64 0] := (hb.block _ HE.out.1.lt).trans HE.out.1
    have x0 := (hR'.cell 0).trans (rfl : _ = some (Value.int .i64 0))
    have x1 := (hR'.cell 1).trans (rfl : _ = some (Value.string ⟨#[]⟩))
    have x2 := (hR'.cell 2).trans (rfl : _ = some (Value.string ⟨#[]⟩))
    have x3 := (hR'.cell 3).trans (rfl : _ = some (Value.slice none 0 0))
    have x4 := (hR'.cell 4).trans (rfl : _ = some (Value.int .i64 0))
    have x5 := (hR'.cell 5).trans (rfl : _ = some (Value.slice none 0 0))
    have f0 := hR'.froz 0
    have f1 := hR'.froz 1
    have f2 := hR'.froz 2
    have f3 := hR'.froz 3
    have f4 := hR'.froz 4
    have f5 := hR'.froz 5
    have hNW : N ≤ W.heap.size := by have := HE.out.2.2.1; omega
    have HF := Lib.hid (And.intro (six_far hE' (fun e => HE.out.2.2.2.2 e.symm) (.int .i64 m.id) (.string (str m.cls)) (.string (str m.fr)) (.slice A1 m.tos.length c1) (.int .i64 m.at_) (.slice A2 m.body.length c2)) (And.intro (six_below (hb.mono hNW) HE.out.2.2.1 (.int .i64 m.id) (.string (str m.cls)) (.string (str m.fr)) (.slice A1 m.tos.length c1) (.int .i64 m.at_) (.slice A2 m.body.length c2)) (And.intro (six_blk hR' (.int .i64 m.id) (.string (str m.cls)) (.string (str m.fr)) (.slice A1 m.tos.length c1) (.int .i64 m.at_) (.slice A2 m.body.length c2)) (six_msg h3 hRlt (.int .i64 m.id) (.string (str m.cls)) (.string (str m.fr)) (.slice A1 m.tos.length c1) (.int .i64 m.at_) (.slice A2 m.body.length c2)))))
    have HD := Lib.hid h1
    have HDF := Lib.hid (six_far ((hb.block _ HD0.out.1.lt).trans HD0.out.1 : BlkIs w' D 28 #[.int .i64 0, .string ⟨#[]⟩, .string ⟨#[]⟩, .slice none 0 0, .int .i64 0, .slice none 0 0]) HD0.out.2.1 (.int .i64 m.id) (.string (str m.cls)) (.string (str m.fr)) (.slice A1 m.tos.length c1) (.int .i64 m.at_) (.slice A2 m.body.length c2))
    unfold six at HF HDF
    clear hb h1 h3 g1 g2 hR' hE' HS
    generalize str m.cls = sc at *
    generalize str m.fr = sf at *
    generalize m.tos.length = n at *
    generalize m.body.length = bn' at *
    generalize m.at_ = t at *
    generalize m.id = id at *
    go_wp2_with fail
    go_end0
    exact ⟨HF.out.1, .inl ⟨rfl, ⟨HF.out.2.1, .inr ⟨m, _, _, _, _, _, _, HD.out, by first | rfl | trivial, HF.out.2.2.1, HF.out.2.2.2⟩⟩, HDF.out⟩⟩
theorem res_Decode {w : World} {g : Nat} {x0 x1 x2 x3 x4 x5 : Value} (tmps : Array Value) (hB : BlkIs w g 28 #[x0, x1, x2, x3, x4, x5]) (h2 : tmps.getD 2 undef = .pointer (some ⟨g, 0, none⟩)) :
    (results Tryz.f5 tmps).run Tryz.prog w = .ok (.tuple #[.agg #[x0, x1, x2, x3, x4, x5], tmps.getD 3 undef]) w := by
  rw [results_cell_tmp rfl, h2]
  have hl := run_loadVar_row (P := Tryz.prog) w g 28 28 #[x0, x1, x2, x3, x4, x5] (0, 0) _ hB Tryz.underlying28 rfl (by kernel_rfl)
  simp only [asAddr, Result.andThen, Sem.run_pure]
  rw [hl]
/-- what Decode answers. -/
def DecodeP (w : World) (b : L) (e : Ending) (w' : World) : Prop := Below w.heap.size w w' ∧
  ((decS b = none ∧ e = .returned (.tuple #[.agg #[.int .i64 0, .string ⟨#[]⟩, .string ⟨#[]⟩, .slice none 0 0, .int .i64 0, .slice none 0 0], .int .i64 150])) ∨ ∃ m x, decS b = some m ∧ e = .returned (.tuple #[x, .int .i64 0]) ∧ MsgO w' w.heap.size x m)
set_option maxHeartbeats 3200000 in
theorem decode_any {w : World} {A : Option Addr} {b : L} {c : Nat} (hb : Bts w w.heap.size A b) (hc : b.length ≤ c) (hm : c ≤ maxLen) (hA : A = none → c = 0) (hl : b.length ≤ 10000) (hG : GlT w) (hE : GlE w) :
    Calls Tryz.prog 5 #[.slice A b.length c] w (DecodeP w b) := by
  have HRI := Lib.hid (fun X (hX : Below w.heap.size w X) => decoded_any ((hb.below hX).more hX.size) hc hm hA hl (hG.below hX hG.lt) (hE.below hX hE.lt))
  clear hb hA hG hE hl
  generalize b.length = ln at *
  have n0 := BlkIs.new w 22 #[.slice A ln c]
  have n1 := BlkIs.new (w.alloc (.cells #[.slice A ln c] 22)) 28 #[.int .i64 0, .string ⟨#[]⟩, .string ⟨#[]⟩, .slice none 0 0, .int .i64 0, .slice none 0 0]
  have n2 := BlkIs.new ((w.alloc (.cells #[.slice A ln c] 22)).alloc (.cells #[.int .i64 0, .string ⟨#[]⟩, .string ⟨#[]⟩, .slice none 0 0, .int .i64 0, .slice none 0 0] 28)) 28 #[.int .i64 0, .string ⟨#[]⟩, .string ⟨#[]⟩, .slice none 0 0, .int .i64 0, .slice none 0 0]
  simp only [World.size_alloc] at n1 n2
  have kB : Below w.heap.size w (((w.alloc (.cells #[.slice A ln c] 22)).alloc (.cells #[.int .i64 0, .string ⟨#[]⟩, .string ⟨#[]⟩, .slice none 0 0, .int .i64 0, .slice none 0 0] 28)).alloc (.cells #[.int .i64 0, .string ⟨#[]⟩, .string ⟨#[]⟩, .slice none 0 0, .int .i64 0, .slice none 0 0] 28)) := (((Below.refl _ w).alloc (Nat.le_refl _) _).alloc (by simp) _).alloc (by simp; omega) _
  have kz : (((w.alloc (.cells #[.slice A ln c] 22)).alloc (.cells #[.int .i64 0, .string ⟨#[]⟩, .string ⟨#[]⟩, .slice none 0 0, .int .i64 0, .slice none 0 0] 28)).alloc (.cells #[.int .i64 0, .string ⟨#[]⟩, .string ⟨#[]⟩, .slice none 0 0, .int .i64 0, .slice none 0 0] 28)).heap.size = w.heap.size + 3 := by simp
  have HN := Lib.hid (And.intro kB (And.intro kz (And.intro ((n0.alloc (.cells #[.int .i64 0, .string ⟨#[]⟩, .string ⟨#[]⟩, .slice none 0 0, .int .i64 0, .slice none 0 0] 28)).alloc (.cells #[.int .i64 0, .string ⟨#[]⟩, .string ⟨#[]⟩, .slice none 0 0, .int .i64 0, .slice none 0 0] 28)) (And.intro (n1.alloc (.cells #[.int .i64 0, .string ⟨#[]⟩, .string ⟨#[]⟩, .slice none 0 0, .int .i64 0, .slice none 0 0] 28)) n2))))
  clear n0 n1 n2 kB kz
  have HAT : Hid (∀ w2, Below w.heap.size w w2 → w2.heap.size = w.heap.size + 3 → BlkIs w2 w.heap.size 22 #[.slice A ln c] → BlkIs w2 (w.heap.size + 1) 28 #[.int .i64 0, .string ⟨#[]⟩, .string ⟨#[]⟩, .slice none 0 0, .int .i64 0, .slice none 0 0] → BlkIs w2 (w.heap.size + 1 + 1) 28 #[.int .i64 0, .string ⟨#[]⟩, .string ⟨#[]⟩, .slice none 0 0, .int .i64 0, .slice none 0 0] →
      Calls Tryz.prog 10 #[.func (.func 11) #[] #[.pointer (some ⟨w.heap.size, 0, none⟩), .pointer (some ⟨w.heap.size + 1 + 1, 0, none⟩)]] w2 fun e w' => ∃ x, e = .returned (.int .i64 x) ∧ DecQ (w2.alloc (.cells #[.int .i64 0] 29)) w.heap.size (w.heap.size + 1 + 1) b x w' ∧ BlkIs w' (w.heap.size + 1) 28 #[.int .i64 0, .string ⟨#[]⟩, .string ⟨#[]⟩, .slice none 0 0, .int .i64 0, .slice none 0 0]) := Lib.hid fun w2 g1 g2 g3 g4 g5 => by
    refine Fa.attempt_c 11 _ w2 (fun x w' => DecQ (w2.alloc (.cells #[.int .i64 0] 29)) w.heap.size (w.heap.size + 1 + 1) b x w' ∧ BlkIs w' (w.heap.size + 1) 28 #[.int .i64 0, .string ⟨#[]⟩, .string ⟨#[]⟩, .slice none 0 0, .int .i64 0, .slice none 0 0]) (enters_of Tryz.func11 (by kernel_rfl) rfl _) ?_
    have ga : Below w2.heap.size w2 (w2.alloc (.cells #[.int .i64 0] 29)) := (Below.refl _ _).alloc (Nat.le_refl _) _
    have gb := g1.trans (ga.mono g1.size)
    exact decode1_any (HRI.out _ gb) (by omega) (by omega) (by omega) (by omega) (by omega) (g4.alloc _) (BlkIs.new w2 _ _) (g3.alloc _) (g5.alloc _)
  clear HRI
  unfold DecodeP
  go_enter Tryz.func5, Tryz.ntmps5
  go_wp2_with fail
  refine (HAT.out _ HN.out.1 HN.out.2.1 HN.out.2.2.1 HN.out.2.2.2.1 HN.out.2.2.2.2).mono ?_
  rintro e w' ⟨x, rfl, ⟨hbel, hq⟩, hD⟩
  have HB3 : Hid (Below w.heap.size w w') := Lib.hid ((HN.out.1.alloc HN.out.1.size _).trans hbel)
  rcases hq with ⟨h1, rfl, h3⟩ | ⟨m, x0, x1, x2, x3, x4, x5, h1, rfl, h3, h4⟩
  · have HF := Lib.hid (And.intro (six_below HB3.out (by omega : w.heap.size ≤ w.heap.size + 1) (.int .i64 0) (.string ⟨#[]⟩) (.string ⟨#[]⟩) (.slice none 0 0) (.int .i64 0) (.slice none 0 0)) (six_blk hD (.int .i64 0) (.string ⟨#[]⟩) (.string ⟨#[]⟩) (.slice none 0 0) (.int .i64 0) (.slice none 0 0)))
    unfold six at HF
    have y0 := (h3.cell 0).trans (rfl : _ = some (Value.int .i64 0))
    have y1 := (h3.cell 1).trans (rfl : _ = some (Value.string ⟨#[]⟩))
    have y2 := (h3.cell 2).trans (rfl : _ = some (Value.string ⟨#[]⟩))
    have y3 := (h3.cell 3).trans (rfl : _ = some (Value.slice none 0 0))
    have y4 := (h3.cell 4).trans (rfl : _ = some (Value.int .i64 0))
    have y5 := (h3.cell 5).trans (rfl : _ = some (Value.slice none 0 0))
    have z0 := (hD.cell 0).trans (rfl : _ = some (Value.int .i64 0))
    have z1 := (hD.cell 1).trans (rfl : _ = some (Value.string ⟨#[]⟩))
    have z2 := (hD.cell 2).trans (rfl : _ = some (Value.string ⟨#[]⟩))
    have z3 := (hD.cell 3).trans (rfl : _ = some (Value.slice none 0 0))
    have z4 := (hD.cell 4).trans (rfl : _ = some (Value.int .i64 0))
    have z5 := (hD.cell 5).trans (rfl : _ = some (Value.slice none 0 0))
    have f0 := hD.froz 0
    have f1 := hD.froz 1
    have f2 := hD.froz 2
    have f3 := hD.froz 3
    have f4 := hD.froz 4
    have f5 := hD.froz 5
    clear hbel h3 hD HAT HN HB3
    go_wp2_with fail
    refine bodyPost_ret (res_Decode _ HF.out.2 rfl) rfl ⟨HF.out.1, .inl ⟨h1, rfl⟩⟩
  · have h5 : MsgO w' (w.heap.size + 2) (.agg #[x0, x1, x2, x3, x4, x5]) m := h4.less (by rw [World.size_alloc, HN.out.2.1]; omega)
    have h6 := h5
    obtain ⟨v1, v2, e, g1, g2⟩ := h6
    obtain ⟨A1, c1, rfl, _, _⟩ := OwnT.slice g1
    obtain ⟨A2, c2, rfl, _, _⟩ := own_slice g2
    simp only [Value.agg.injEq, Array.mk.injEq, List.cons.injEq, and_true] at e
    obtain ⟨rfl, rfl, rfl, rfl, rfl, rfl⟩ := e
    clear g1 g2
    generalize str m.cls = sc at *
    generalize str m.fr = sf at *
    generalize m.tos.length = n at *
    generalize m.body.length = n2 at *
    generalize m.at_ = t at *
    generalize m.id = id at *
    have HF := Lib.hid (And.intro (six_below HB3.out (by omega : w.heap.size ≤ w.heap.size + 1) (.int .i64 id) (.string sc) (.string sf) (.slice A1 n c1) (.int .i64 t) (.slice A2 n2 c2)) (And.intro (six_blk hD (.int .i64 id) (.string sc) (.string sf) (.slice A1 n c1) (.int .i64 t) (.slice A2 n2 c2)) (six_msg h5 (by omega : w.heap.size + 1 < w.heap.size + 2) (.int .i64 id) (.string sc) (.string sf) (.slice A1 n c1) (.int .i64 t) (.slice A2 n2 c2))))
    unfold six at HF
    have y0 := (h3.cell 0).trans (rfl : _ = some (Value.int .i64 id))
    have y1 := (h3.cell 1).trans (rfl : _ = some (Value.string sc))
    have y2 := (h3.cell 2).trans (rfl : _ = some (Value.string sf))
    have y3 := (h3.cell 3).trans (rfl : _ = some (Value.slice A1 n c1))
    have y4 := (h3.cell 4).trans (rfl : _ = some (Value.int .i64 t))
    have y5 := (h3.cell 5).trans (rfl : _ = some (Value.slice A2 n2 c2))
    have z0 := (hD.cell 0).trans (rfl : _ = some (Value.int .i64 0))
    have z1 := (hD.cell 1).trans (rfl : _ = some (Value.string ⟨#[]⟩))
    have z2 := (hD.cell 2).trans (rfl : _ = some (Value.string ⟨#[]⟩))
    have z3 := (hD.cell 3).trans (rfl : _ = some (Value.slice none 0 0))
    have z4 := (hD.cell 4).trans (rfl : _ = some (Value.int .i64 0))
    have z5 := (hD.cell 5).trans (rfl : _ = some (Value.slice none 0 0))
    have f0 := hD.froz 0
    have f1 := hD.froz 1
    have f2 := hD.froz 2
    have f3 := hD.froz 3
    have f4 := hD.froz 4
    have f5 := hD.froz 5
    clear hbel h3 h4 h5 hD HAT HN HB3
    go_wp2_with fail
    refine bodyPost_ret (res_Decode _ HF.out.2.1 rfl) rfl ⟨HF.out.1, .inr ⟨m, _, h1, rfl, HF.out.2.2.less (by omega)⟩⟩
end En
end Go.Proofs.YtpfonpjcnpfipaaGreatDoor
