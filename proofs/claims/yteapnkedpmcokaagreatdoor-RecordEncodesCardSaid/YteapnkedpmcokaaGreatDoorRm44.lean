/- EnDcd EnDec. Conditions: as stated at each. -/
import Derived.Test.YteapnkedpmcokaaGreatDoorRm43
import Derived.Test.YteapnkedpmcokaaGreatDoorRm30
import Derived.Deep.CutBlock
/- entry.decoded. Conditions: as stated at each. -/
namespace Go.Proofs.YteapnkedpmcokaaGreatDoor
set_option maxRecDepth 100000
namespace En
open Go.RowKit Go Go.Proofs.YteapnkedpmcokaaGreatDoor.Pa
attribute [local go_sem] Oper.semAt_some
/-- a message of the call's own. -/
def MsgO (w : World) (N : Nat) (x : Value) (m : M) : Prop := ∃ v1 v2, x = .agg #[.int .i64 m.id, .string (str m.cls), .string (str m.fr), v1, .int .i64 m.at_, v2] ∧ OwnT w N v1 m.tos ∧ Own5 w N v2 m.body
theorem MsgO.at_ {w : World} {N : Nat} {x : Value} {m : M} (h : MsgO w N x m) : MsgAt w w.heap.size x m := by
  obtain ⟨v1, v2, rfl, h1, h2⟩ := h
  obtain ⟨A, c, rfl, h3, h4⟩ := OwnT.slice h1
  obtain ⟨A', c', rfl, h5, h6⟩ := own_slice h2
  exact ⟨A, c, A', c', rfl, h1.tx, h3, h4, h2.bts, h5, h6, trivial⟩
/-- the variables of decoded: what is left, the closures, the message under way, the result. -/
structure DS (w0 X : World) (N R P T D M : Nat) (rest : L) (C : Array Value) : Prop where
  bel : Below N w0 X
  rd : RdS X N R rest
  pa : BlkIs X P 185 #[partV R]
  te : BlkIs X T 129 #[textV P]
  ms : BlkIs X M 27 C
  re : BlkIs X D 27 #[.int .i64 0, .string ⟨#[]⟩, .string ⟨#[]⟩, .slice none 0 0, .int .i64 0, .slice none 0 0]
  ne : (N ≤ R ∧ N ≤ M ∧ N ≤ D) ∧ (P ≠ R ∧ T ≠ R ∧ M ≠ R ∧ D ≠ R) ∧ (R ≠ M ∧ P ≠ M ∧ T ≠ M ∧ D ≠ M)
theorem DS.lo {w0 X : World} {N R P T D M : Nat} {rest : L} {C : Array Value} (h : DS w0 X N R P T D M rest C) : N ≤ X.heap.size := by
  have := h.ms.lt
  have := h.ne.1.2.1
  omega
theorem DS.step {w0 X Y : World} {N R P T D M : Nat} {rest rest' : L} {C : Array Value} (h : DS w0 X N R P T D M rest C) (ht : Tn (fun k => k = R) X Y) (hr : RdS Y N R rest') : DS w0 Y N R P T D M rest' C :=
  ⟨h.bel.trans (ht.below h.lo (fun i hi e => by have := h.ne.1.1; omega)), hr, h.pa.tn ht h.ne.2.1.1, h.te.tn ht h.ne.2.1.2.1, h.ms.tn ht h.ne.2.1.2.2.1, h.re.tn ht h.ne.2.1.2.2.2, h.ne⟩
theorem DS.on {w0 X Y : World} {N R P T D M : Nat} {rest : L} {C : Array Value} (h : DS w0 X N R P T D M rest C) (hb : Below X.heap.size X Y) : DS w0 Y N R P T D M rest C :=
  h.step (Tn.of_below hb) (h.rd.tn (p := fun _ => False) (Tn.of_below hb) (fun e => e) h.lo (fun _ _ e => e))
theorem DS.set {w0 X : World} {N R P T D M : Nat} {rest : L} {C : Array Value} (h : DS w0 X N R P T D M rest C) (i : Nat) (u : Value) : DS w0 (X.setCell ⟨M, i, none⟩ u) N R P T D M rest (C.setIfInBounds i u) := by
  have ht : Tn (fun k => k = M) X (X.setCell ⟨M, i, none⟩ u) := (Tn.refl (fun k => k = M) X).setCell (x := ⟨M, i, none⟩) (.inl rfl) u
  exact ⟨h.bel.setCell h.ne.1.2.1 u, h.rd.tn ht h.ne.2.2.1 h.lo (fun i hi e => by have := h.ne.1.2.1; omega), h.pa.tn ht h.ne.2.2.2.1, h.te.tn ht h.ne.2.2.2.2.1, h.ms.put i u, h.re.tn ht h.ne.2.2.2.2.2, h.ne⟩
theorem DS.belT {w0 X Y : World} {N R P T D M : Nat} {rest : L} {C : Array Value} (h : DS w0 X N R P T D M rest C) (ht : Tn (fun k => k = R) X Y) : Below N w0 Y :=
  h.bel.trans (ht.below h.lo (fun i hi e => by have := h.ne.1.1; omega))
theorem store_new {W : World} {g : Nat} {t : TypeId} {v : Value} (h : BlkIs W g t #[v]) (u : Value) (hu : u.oneCell' = true) : (store ⟨g, 0, none⟩ u).run Tryz.prog W = .ok () (W.setCell ⟨g, 0, none⟩ u) := by
  have h1 := h.cell 0
  have h2 := h.froz 0
  have h3 : W.cell? ⟨g, 0, none⟩ = some v := h1
  rw [run_store _ _ _ _ _ hu]
  go_simp
abbrev zM : Array Value := #[.int .i64 0, .string ⟨#[]⟩, .string ⟨#[]⟩, .slice none 0 0, .int .i64 0, .slice none 0 0]
theorem res_decoded {w : World} {g : Nat} {x0 x1 x2 x3 x4 x5 : Value} (tmps : Array Value) (hB : BlkIs w g 27 #[x0, x1, x2, x3, x4, x5]) (h2 : tmps.getD 2 undef = .pointer (some ⟨g, 0, none⟩)) :
    (results Tryz.f170 tmps).run Tryz.prog w = .ok (.agg #[x0, x1, x2, x3, x4, x5]) w :=
  results_cell_row rfl tmps w g 27 #[x0, x1, x2, x3, x4, x5] (0, 0) _ h2 hB Tryz.underlying27 rfl (by kernel_rfl)
/-- a text more, in a region that draws its order. -/
theorem stepTx {w : World} {ops : Array Oper} {o : Oper} {a : Act} {K : Act → World → Prop} {Q : Exit → Act → World → Prop} {E : Prop} (s x : Operand)
    (ho : o.op = .call { callee := .builtin .append, args := #[s, x], argTypes := #[22, 22] }) (hgd : o.guard = none)
    {N : Nat} {v : Value} {ps : List L} {p : L} (hs : a.eval s = v) (hown : w.ownsRow N 9 1 v ps.length (tv ps))
    {B : Nat} {A : Option Addr} {c : Nat} (hx : a.eval x = .slice A 1 c) (hr : Tx w B A [p]) (h63 : ps.length + 1 ≤ 1000000000) (hN : N ≤ w.heap.size)
    (h : ∀ v' w', w'.ownsRow N 9 1 v' (ps ++ [p]).length (tv (ps ++ [p])) → w.grownBy w' v.ownBlock → K (a.put o.dst v') w') : if Region.wanted o (yielded ops a.tmps) = true then Oper.wp Tryz.prog o a w K Q else E := by
  have hw : Region.wanted o (yielded ops a.tmps) = true := by simp [Region.wanted, hgd]
  rw [if_pos hw]
  obtain ⟨i, hi, hz, h0, h1⟩ := info_parts info9
  refine wp_app s x ho Tryz.underlying22 hi hz h0 h1 rfl hs hown hx hr (by rw [tv_length]; rfl) (tv_one [p]) h63 (by decide) hN fun v' w' h2 h3 => h v' w' ?_ h3
  rw [List.length_append, show tv (ps ++ [p]) = tv ps ++ tv [p] by simp [tv]]
  exact h2
theorem DS.hi {w0 X Y : World} {N R P T D M : Nat} {rest : L} {C : Array Value} (h : DS w0 X N R P T D M rest C) (ho : R ≤ M ∧ P ≤ M ∧ T ≤ M ∧ D ≤ M) (ht : Tn (fun k => M < k) X Y) : DS w0 Y N R P T D M rest C :=
  ⟨h.bel.trans (ht.below h.lo (fun i hi e => by have := h.ne.1.2.1; omega)), h.rd.tn ht (by omega) h.lo (fun i hi e => by have := h.ne.1.2.1; omega), h.pa.tn ht (by omega), h.te.tn ht (by omega), h.ms.tn ht (by omega), h.re.tn ht (by omega), h.ne⟩
def DecP (w : World) (b : L) (e : Ending) (w' : World) : Prop := Below w.heap.size w w' ∧ ((decS b = none ∧ e = Fa.bad 150) ∨ ∃ m, decS b = some m ∧ ∃ x, e = .returned x ∧ MsgO w' w.heap.size x m)
set_option maxHeartbeats 12800000 in
theorem decoded_any {w0 : World} {A : Option Addr} {b : L} {c : Nat} (hb : Bts w0 w0.heap.size A b) (hc : b.length ≤ c) (hm : c ≤ maxLen) (hA : A = none → c = 0) (hl : b.length ≤ 10000) (hG : GlT w0) (hE : GlE w0) :
    Calls Tryz.prog 170 #[.slice A b.length c] w0 (DecP w0 b) := by
  have hmf : ∀ (fn : Fn) (first cap : Array Value) (w : World), (Instr.makeFunc fn first cap).run Tryz.prog w = .ok (.func fn first cap) w := fun _ _ _ _ => rfl
  have HTN : Hid (∀ ps rest, Took ps rest b → rest.length ≤ 10000 ∧ ∀ p ∈ ps, p.length ≤ 10000) := Lib.hid fun ps rest h => by
    obtain ⟨h1, h2⟩ := took_len h
    exact ⟨by omega, fun p hp => by have := h2 p hp; omega⟩
  have HNUM : Hid (∀ X R P T D M rest C, DS w0 X w0.heap.size R P T D M rest C → rest.length ≤ 10000 → Calls Tryz.prog 175 #[.pointer (some ⟨T, 0, none⟩)] X (NumQ X w0.heap.size R rest)) := Lib.hid fun X R P T D M rest C h hr => num_any h.rd h.pa h.te h.ne.1.1 (by omega) (hG.below h.bel hG.lt) (hE.below h.bel hE.lt) hE.lt
  have HTEX : Hid (∀ X R P T D M rest C, DS w0 X w0.heap.size R P T D M rest C → rest.length ≤ 10000 → Calls Tryz.prog 174 #[.pointer (some ⟨P, 0, none⟩)] X (TextQ X w0.heap.size R rest)) := Lib.hid fun X R P T D M rest C h hr => text_any h.rd h.pa h.ne.1.1 (by omega) (hG.below h.bel hG.lt) (hE.below h.bel hE.lt)
  have HPAR : Hid (∀ X R P T D M rest C, DS w0 X w0.heap.size R P T D M rest C → rest.length ≤ 10000 → Calls Tryz.prog 173 #[.pointer (some ⟨R, 0, none⟩)] X (PartQ X w0.heap.size R rest)) := Lib.hid fun X R P T D M rest C h hr => part_any h.rd h.ne.1.1 (by omega) (hG.below h.bel hG.lt) (hE.below h.bel hE.lt)
  have HENC : Hid (∀ X x m, Below w0.heap.size w0 X → MsgAt X X.heap.size x m → SmallM m → Calls Tryz.prog 108 #[x] X (EncodeP X m)) := Lib.hid fun X x m h1 h2 h3 => encode_any h2 h3 (hG.below h1 hG.lt)
  unfold NumQ at HNUM
  unfold TextQ at HTEX
  unfold PartQ at HPAR
  unfold EncodeP at HENC
  have HBB := Lib.hid hb
  have HT0 := Lib.hid (Took.nil b)
  unfold DecP
  -- the worlds of the variables
  have n0 := BlkIs.new w0 27 #[.int .i64 0, .string ⟨#[]⟩, .string ⟨#[]⟩, .slice none 0 0, .int .i64 0, .slice none 0 0]
  have n1 := BlkIs.new (w0.alloc (.cells #[.int .i64 0, .string ⟨#[]⟩, .string ⟨#[]⟩, .slice none 0 0, .int .i64 0, .slice none 0 0] 27)) 25 #[.slice A b.length c]
  simp only [World.size_alloc] at n1
  have n2 := BlkIs.new ((w0.alloc (.cells #[.int .i64 0, .string ⟨#[]⟩, .string ⟨#[]⟩, .slice none 0 0, .int .i64 0, .slice none 0 0] 27)).alloc (.cells #[.slice A b.length c] 25)) 185 #[.nilFunc]
  have m2 := BlkIs.new ((w0.alloc (.cells #[.int .i64 0, .string ⟨#[]⟩, .string ⟨#[]⟩, .slice none 0 0, .int .i64 0, .slice none 0 0] 27)).alloc (.cells #[.slice A b.length c] 25)) 185 #[partV (w0.heap.size + 1)]
  simp only [World.size_alloc] at n2 m2
  have n3 := BlkIs.new (((w0.alloc (.cells #[.int .i64 0, .string ⟨#[]⟩, .string ⟨#[]⟩, .slice none 0 0, .int .i64 0, .slice none 0 0] 27)).alloc (.cells #[.slice A b.length c] 25)).alloc (.cells #[partV (w0.heap.size + 1)] 185)) 129 #[.nilFunc]
  have m3 := BlkIs.new (((w0.alloc (.cells #[.int .i64 0, .string ⟨#[]⟩, .string ⟨#[]⟩, .slice none 0 0, .int .i64 0, .slice none 0 0] 27)).alloc (.cells #[.slice A b.length c] 25)).alloc (.cells #[partV (w0.heap.size + 1)] 185)) 129 #[textV (w0.heap.size + 1 + 1)]
  simp only [World.size_alloc] at n3 m3
  have n4 := BlkIs.new ((((w0.alloc (.cells #[.int .i64 0, .string ⟨#[]⟩, .string ⟨#[]⟩, .slice none 0 0, .int .i64 0, .slice none 0 0] 27)).alloc (.cells #[.slice A b.length c] 25)).alloc (.cells #[partV (w0.heap.size + 1)] 185)).alloc (.cells #[textV (w0.heap.size + 1 + 1)] 129)) 27 #[.int .i64 0, .string ⟨#[]⟩, .string ⟨#[]⟩, .slice none 0 0, .int .i64 0, .slice none 0 0]
  simp only [World.size_alloc] at n4
  have hst2 := store_new n2 (partV (w0.heap.size + 1)) rfl
  have hst3 := store_new n3 (textV (w0.heap.size + 1 + 1)) rfl
  have kB : Below w0.heap.size w0 (((((w0.alloc (.cells #[.int .i64 0, .string ⟨#[]⟩, .string ⟨#[]⟩, .slice none 0 0, .int .i64 0, .slice none 0 0] 27)).alloc (.cells #[.slice A b.length c] 25)).alloc (.cells #[partV (w0.heap.size + 1)] 185)).alloc (.cells #[textV (w0.heap.size + 1 + 1)] 129)).alloc (.cells #[.int .i64 0, .string ⟨#[]⟩, .string ⟨#[]⟩, .slice none 0 0, .int .i64 0, .slice none 0 0] 27)) := (((((Below.refl _ w0).alloc (Nat.le_refl _) _).alloc (by simp) _).alloc (by simp; omega) _).alloc (by simp; omega) _).alloc (by simp; omega) _
  have kz : (((((w0.alloc (.cells #[.int .i64 0, .string ⟨#[]⟩, .string ⟨#[]⟩, .slice none 0 0, .int .i64 0, .slice none 0 0] 27)).alloc (.cells #[.slice A b.length c] 25)).alloc (.cells #[partV (w0.heap.size + 1)] 185)).alloc (.cells #[textV (w0.heap.size + 1 + 1)] 129)).alloc (.cells #[.int .i64 0, .string ⟨#[]⟩, .string ⟨#[]⟩, .slice none 0 0, .int .i64 0, .slice none 0 0] 27)).heap.size = w0.heap.size + 1 + 1 + 1 + 1 + 1 := by simp
  have HD0 : Hid (DS w0 (((((w0.alloc (.cells #[.int .i64 0, .string ⟨#[]⟩, .string ⟨#[]⟩, .slice none 0 0, .int .i64 0, .slice none 0 0] 27)).alloc (.cells #[.slice A b.length c] 25)).alloc (.cells #[partV (w0.heap.size + 1)] 185)).alloc (.cells #[textV (w0.heap.size + 1 + 1)] 129)).alloc (.cells #[.int .i64 0, .string ⟨#[]⟩, .string ⟨#[]⟩, .slice none 0 0, .int .i64 0, .slice none 0 0] 27)) w0.heap.size (w0.heap.size + 1) (w0.heap.size + 1 + 1) (w0.heap.size + 1 + 1 + 1) w0.heap.size (w0.heap.size + 1 + 1 + 1 + 1) b #[.int .i64 0, .string ⟨#[]⟩, .string ⟨#[]⟩, .slice none 0 0, .int .i64 0, .slice none 0 0]) :=
    Lib.hid ⟨kB, ⟨A, c, ((n1.alloc _).alloc _).alloc _, hb.below kB, hc, hm, hA⟩, (m2.alloc _).alloc _, m3.alloc _, n4, (((n0.alloc _).alloc _).alloc _).alloc _, by omega⟩
  have HKZ := Lib.hid kz
  clear n0 n1 n2 n3 n4 m2 m3 kB kz hb hG hE
  generalize hbl : b.length = bn at *
  have HBN := Lib.hid hbl
  clear hbl
  go_enter Tryz.func170, Tryz.ntmps170
  go_upto_region 6 with fail
  have HDq := HD0.out
  have hkz := HKZ.out
  clear hst2 hst3 HD0 HKZ
  generalize (((((w0.alloc (.cells #[.int .i64 0, .string ⟨#[]⟩, .string ⟨#[]⟩, .slice none 0 0, .int .i64 0, .slice none 0 0] 27)).alloc (.cells #[.slice A bn c] 25)).alloc (.cells #[partV (w0.heap.size + 1)] 185)).alloc (.cells #[textV (w0.heap.size + 1 + 1)] 129)).alloc (.cells #[.int .i64 0, .string ⟨#[]⟩, .string ⟨#[]⟩, .slice none 0 0, .int .i64 0, .slice none 0 0] 27)) = wa at *
  generalize hb1 : w0.heap.size + 1 = bR at *
  generalize hb2 : bR + 1 = bP at *
  generalize hb3 : bP + 1 = bT at *
  generalize hb4 : bT + 1 = bM at *
  have hRM : bR < bM ∧ bP < bM ∧ bT < bM := by omega
  have hD0 : w0.heap.size < bM := by omega
  have HRM := Lib.hid (And.intro hRM (And.intro hD0 hkz))
  have HDa := Lib.hid HDq
  clear HDq hb1 hb2 hb3 hb4 hRM hD0 hkz
  have HC1 := Lib.hid (HNUM.out _ _ _ _ _ _ _ _ HDa.out (HTN.out _ _ HT0.out).1)
  go_wp2_with fail
  refine HC1.out.mono ?_
  rintro e w1 ⟨ht, ⟨hn, rfl⟩ | ⟨p1, r1, hs, ⟨hv, rfl⟩ | ⟨v1, hv, hr, rfl⟩⟩⟩
  · have HN := Lib.hid (dn_take HT0.out hn (by simp))
    have hbb := HDa.out.belT ht
    first | exact ⟨rfl, hbb, .inl ⟨HN.out, rfl⟩⟩ | exact ⟨hbb, .inl ⟨HN.out, rfl⟩⟩ | exact ⟨rfl, hbb, .inl ⟨HN.out, rfl, rfl⟩⟩
  · have HT1 := Lib.hid (HT0.out.snoc hs)
    have HN := Lib.hid (dn_num0 HT1.out hv)
    have hbb := HDa.out.belT ht
    first | exact ⟨rfl, hbb, .inl ⟨HN.out, rfl⟩⟩ | exact ⟨hbb, .inl ⟨HN.out, rfl⟩⟩ | exact ⟨rfl, hbb, .inl ⟨HN.out, rfl, rfl⟩⟩
  have HT1 : Hid (Took [p1] r1 b) := Lib.hid (HT0.out.snoc hs)
  have HV1 := Lib.hid hv
  have HE1 := Lib.hid (HDa.out.step ht hr)
  clear ht hs hr HC1 hv HDa
  have z1 := (HE1.out.ms.cell 0).trans (rfl : _ = some (Value.int .i64 0))
  have zf1 := HE1.out.ms.froz 0
  have HD1 : Hid (DS w0 (w1.setCell ⟨bM, 0, none⟩ (.int .i64 v1)) w0.heap.size bR bP bT w0.heap.size bM r1 #[.int .i64 v1, .string ⟨#[]⟩, .string ⟨#[]⟩, .slice none 0 0, .int .i64 0, .slice none 0 0]) := Lib.hid (HE1.out.set 0 (.int .i64 v1))
  clear HE1
  have HC2 := Lib.hid (HTEX.out _ _ _ _ _ _ _ _ HD1.out (HTN.out _ _ HT1.out).1)
  have yt2 := (HD1.out.te.cell 0).trans (rfl : _ = some (textV bP))
  go_wp2_with fail
  refine HC2.out.mono ?_
  rintro e w2 ⟨ht, ⟨hn, rfl⟩ | ⟨p2, r2, hs, hr, rfl⟩⟩
  · have HN := Lib.hid (dn_take HT1.out hn (by simp))
    have hbb := HD1.out.belT ht
    first | exact ⟨rfl, hbb, .inl ⟨HN.out, rfl⟩⟩ | exact ⟨hbb, .inl ⟨HN.out, rfl⟩⟩ | exact ⟨rfl, hbb, .inl ⟨HN.out, rfl, rfl⟩⟩
  have HT2 : Hid (Took [p1, p2] r2 b) := Lib.hid (HT1.out.snoc hs)
  have HE2 := Lib.hid (HD1.out.step ht hr)
  clear ht hs hr HC2 yt2 HD1
  generalize hss2 : str p2 = s2 at *
  have HS2 := Lib.hid hss2
  clear hss2
  have z2 := (HE2.out.ms.cell 1).trans (rfl : _ = some (Value.string ⟨#[]⟩))
  have zf2 := HE2.out.ms.froz 1
  have HD2 : Hid (DS w0 (w2.setCell ⟨bM, 1, none⟩ (.string s2)) w0.heap.size bR bP bT w0.heap.size bM r2 #[.int .i64 v1, .string s2, .string ⟨#[]⟩, .slice none 0 0, .int .i64 0, .slice none 0 0]) := Lib.hid (HE2.out.set 1 (.string s2))
  clear HE2
  have HC3 := Lib.hid (HTEX.out _ _ _ _ _ _ _ _ HD2.out (HTN.out _ _ HT2.out).1)
  have yt3 := (HD2.out.te.cell 0).trans (rfl : _ = some (textV bP))
  go_wp2_with fail
  refine HC3.out.mono ?_
  rintro e w3 ⟨ht, ⟨hn, rfl⟩ | ⟨p3, r3, hs, hr, rfl⟩⟩
  · have HN := Lib.hid (dn_take HT2.out hn (by simp))
    have hbb := HD2.out.belT ht
    first | exact ⟨rfl, hbb, .inl ⟨HN.out, rfl⟩⟩ | exact ⟨hbb, .inl ⟨HN.out, rfl⟩⟩ | exact ⟨rfl, hbb, .inl ⟨HN.out, rfl, rfl⟩⟩
  have HT3 : Hid (Took [p1, p2, p3] r3 b) := Lib.hid (HT2.out.snoc hs)
  have HE3 := Lib.hid (HD2.out.step ht hr)
  clear ht hs hr HC3 yt3 HD2
  generalize hss3 : str p3 = s3 at *
  have HS3 := Lib.hid hss3
  clear hss3
  have z3 := (HE3.out.ms.cell 2).trans (rfl : _ = some (Value.string ⟨#[]⟩))
  have zf3 := HE3.out.ms.froz 2
  have HD3 : Hid (DS w0 (w3.setCell ⟨bM, 2, none⟩ (.string s3)) w0.heap.size bR bP bT w0.heap.size bM r3 #[.int .i64 v1, .string s2, .string s3, .slice none 0 0, .int .i64 0, .slice none 0 0]) := Lib.hid (HE3.out.set 2 (.string s3))
  clear HE3
  have HC4 := Lib.hid (HNUM.out _ _ _ _ _ _ _ _ HD3.out (HTN.out _ _ HT3.out).1)
  go_wp2_with fail
  refine HC4.out.mono ?_
  rintro e w4 ⟨ht, ⟨hn, rfl⟩ | ⟨p4, r4, hs, ⟨hv, rfl⟩ | ⟨v4, hv, hr, rfl⟩⟩⟩
  · have HN := Lib.hid (dn_take HT3.out hn (by simp))
    have hbb := HD3.out.belT ht
    first | exact ⟨rfl, hbb, .inl ⟨HN.out, rfl⟩⟩ | exact ⟨hbb, .inl ⟨HN.out, rfl⟩⟩ | exact ⟨rfl, hbb, .inl ⟨HN.out, rfl, rfl⟩⟩
  · have HT4 := Lib.hid (HT3.out.snoc hs)
    have HN := Lib.hid (dn_num3 HT4.out hv)
    have hbb := HD3.out.belT ht
    first | exact ⟨rfl, hbb, .inl ⟨HN.out, rfl⟩⟩ | exact ⟨hbb, .inl ⟨HN.out, rfl⟩⟩ | exact ⟨rfl, hbb, .inl ⟨HN.out, rfl, rfl⟩⟩
  have HT4 : Hid (Took [p1, p2, p3, p4] r4 b) := Lib.hid (HT3.out.snoc hs)
  have HV4 := Lib.hid hv
  have HE4 := Lib.hid (HD3.out.step ht hr)
  clear ht hs hr HC4 hv HD3
  have z4 := (HE4.out.ms.cell 4).trans (rfl : _ = some (Value.int .i64 0))
  have zf4 := HE4.out.ms.froz 4
  have HD4 : Hid (DS w0 (w4.setCell ⟨bM, 4, none⟩ (.int .i64 v4)) w0.heap.size bR bP bT w0.heap.size bM r4 #[.int .i64 v1, .string s2, .string s3, .slice none 0 0, .int .i64 v4, .slice none 0 0]) := Lib.hid (HE4.out.set 4 (.int .i64 v4))
  clear HE4
  have HC5 := Lib.hid (HNUM.out _ _ _ _ _ _ _ _ HD4.out (HTN.out _ _ HT4.out).1)
  go_wp2_with fail
  refine HC5.out.mono ?_
  rintro e w5 ⟨ht, ⟨hn, rfl⟩ | ⟨p5, r5, hs, ⟨hv, rfl⟩ | ⟨v5, hv, hr, rfl⟩⟩⟩
  · have HN := Lib.hid (dn_take HT4.out hn (by simp))
    have hbb := HD4.out.belT ht
    first | exact ⟨rfl, hbb, .inl ⟨HN.out, rfl⟩⟩ | exact ⟨hbb, .inl ⟨HN.out, rfl⟩⟩ | exact ⟨rfl, hbb, .inl ⟨HN.out, rfl, rfl⟩⟩
  · have HT5 := Lib.hid (HT4.out.snoc hs)
    have HN := Lib.hid (dn_num4 HT5.out hv)
    have hbb := HD4.out.belT ht
    first | exact ⟨rfl, hbb, .inl ⟨HN.out, rfl⟩⟩ | exact ⟨hbb, .inl ⟨HN.out, rfl⟩⟩ | exact ⟨rfl, hbb, .inl ⟨HN.out, rfl, rfl⟩⟩
  have HT5 : Hid (Took [p1, p2, p3, p4, p5] r5 b) := Lib.hid (HT4.out.snoc hs)
  have HV5 := Lib.hid hv
  have HE5 := Lib.hid (HD4.out.step ht hr)
  clear ht hs hr HC5 hv HD4
  by_cases h100 : v5 ≤ 100
  · go_wp2_with (first
      | (go_at_call 126; refine (ned_t (by first | rfl | (simp; done) | (simp; omega)) _).mono ?_; rintro e w' ⟨rfl, rfl⟩)
      | fail)
    have HBM5 : Hid (bM < w5.heap.size) := Lib.hid HE5.out.ms.lt
    go_loopw [35] (fun i wr => ∃ (acc : List L) (rest : L) (va : Value) (k : Nat), i = .int .i64 (k : Nat) ∧ k = acc.length ∧ k ≤ 100 ∧ k ≤ v5.toNat ∧ Hid (Took (p1 :: p2 :: p3 :: p4 :: p5 :: acc) rest b) ∧ Hid (DS w0 wr w0.heap.size bR bP bT w0.heap.size bM rest #[.int .i64 v1, .string s2, .string s3, va, .int .i64 v4, .slice none 0 0]) ∧ Hid (OwnT wr (bM + 1) va acc)) (fun i _ => (101 - intOf i).toNat)
    case atStart => exact ⟨[], r5, .slice none 0 0, 0, rfl, rfl, by omega, by omega, HT5, HE5, Lib.hid (OwnT.nil _ _)⟩
    case round =>
      obtain ⟨acc, rest, va, k, rfl, hka, hk100, hkv, HTK, HDK, HOK⟩ := hrel
      have HKA := Lib.hid hka
      clear hka HE5 HT5 HBM5
      have hrl := (HTN.out _ _ HTK.out).1
      by_cases hlt : (k : Int) < v5
      · have HDd := Lib.hid (HDK.out.on ((Below.refl wr.heap.size wr).drew))
        have HOd := Lib.hid (HOK.out.below ((Below.refl wr.heap.size wr).drew))
        have HCk := Lib.hid (HTEX.out _ _ _ _ _ _ _ _ HDd.out hrl)
        clear HDK HOK
        go_wp2_with fail
        refine wp_region_key ((fun Y => BlkIs Y bM 27 #[.int .i64 v1, .string s2, .string s3, va, .int .i64 v4, .slice none 0 0] ∧ BlkIs Y bT 129 #[textV bP])) 9 (by kernel_rfl) (⟨HDd.out.ms, HDd.out.te⟩) (fun hHeld => ?_)
        generalize wr.drew = w9 at *
        refine wpAnyK_take (i := 0) (v := .pointer (some ⟨bM, 2, none⟩)) rfl (by kernel_rfl) (by kernel_rfl) (by kernel_rfl) (by kernel_rfl) (fun _ _ _ h => h) (Or.inl ⟨by rfl, fun w hS => by first | (go_simp; done) | (go_simp; with_reducible rfl)⟩) hHeld ?_
        try simp only [Act.put, List.getElem_toArray, List.getElem_cons_zero, List.setIfInBounds_toArray, List.set_cons_zero, List.set_cons_succ]
        refine wpAnyK_take (i := 1) (v := .pointer (some ⟨bM, 3, none⟩)) rfl (by kernel_rfl) (by kernel_rfl) (by kernel_rfl) (by kernel_rfl) (fun _ _ _ h => h) (Or.inl ⟨by rfl, fun w hS => by first | (go_simp; done) | (go_simp; with_reducible rfl)⟩) hHeld ?_
        try simp only [Act.put, List.getElem_toArray, List.getElem_cons_zero, List.getElem_cons_succ, List.setIfInBounds_toArray, List.set_cons_zero, List.set_cons_succ]
        refine wpAnyK_take (i := 2) (v := va) rfl (by kernel_rfl) (by kernel_rfl) (by kernel_rfl) (by kernel_rfl) (fun _ _ _ h => h) (Or.inl ⟨by rfl, fun w hS => by (have c0 := (BlkIs.cell hS.1 3).trans (rfl : _ = some va); first | (go_simp; done) | (go_simp; with_reducible rfl))⟩) hHeld ?_
        try simp only [Act.put, List.getElem_toArray, List.getElem_cons_zero, List.getElem_cons_succ, List.setIfInBounds_toArray, List.set_cons_zero, List.set_cons_succ]
        refine wpAnyK_take (i := 3) (v := textV bP) rfl (by kernel_rfl) (by kernel_rfl) (by kernel_rfl) (by kernel_rfl) (fun _ _ _ h => h) (Or.inl ⟨by rfl, fun w hS => by (have c0 := (BlkIs.cell hS.2 0).trans (rfl : _ = some (textV bP)); first | (go_simp; done) | (go_simp; with_reducible rfl))⟩) hHeld ?_
        try simp only [Act.put, List.getElem_toArray, List.getElem_cons_zero, List.getElem_cons_succ, List.setIfInBounds_toArray, List.set_cons_zero, List.set_cons_succ]
        refine wpAnyK_ready (rs := [4]) (by kernel_rfl) (by simp) ?_
        refine AllReadyK.cons rfl (fun K hK => ?_) AllReadyK.nil
        go_simp
        go_wp2_with (first | (refine HCk.out.mono ?_; rintro e w10 ⟨ht, ⟨hn, rfl⟩ | ⟨pa, ra, hs, hr, rfl⟩⟩) | fail)
        · have HN := Lib.hid (dn_more HTK.out HV5.out (by rw [← HKA.out]; omega) hn)
          have hbb := HDd.out.belT ht
          first | exact ⟨rfl, hbb, .inl ⟨HN.out, rfl⟩⟩ | exact ⟨hbb, .inl ⟨HN.out, rfl⟩⟩ | exact ⟨rfl, hbb, .inl ⟨HN.out, rfl, rfl⟩⟩ | exact ⟨rfl, rfl, hbb, .inl ⟨HN.out, rfl⟩⟩
        have HT10 : Hid (Took (p1 :: p2 :: p3 :: p4 :: p5 :: (acc ++ [pa])) ra b) := Lib.hid (HTK.out.snoc hs)
        have HE10 := Lib.hid (HDd.out.step ht hr)
        have HO10 : Hid (OwnT w10 (bM + 1) va acc) := Lib.hid (own_tn HOd.out ht (fun i hi e => by have := HRM.out.1.1; omega))
        refine hK.out _ _ ?_ (fun hHeld => ?_)
        · exact ⟨HE10.out.ms, HE10.out.te⟩
        clear hK K ht hs hr HCk HDd HOd
        try simp only [Act.put, List.getElem_toArray, List.getElem_cons_zero, List.getElem_cons_succ, List.setIfInBounds_toArray, List.set_cons_zero, List.set_cons_succ]
        generalize hsp : str pa = sp at *
        have HBA : Hid (Below w10.heap.size w10 (w10.alloc (.cells #[.string sp] 9))) := Lib.hid ((Below.refl _ w10).alloc (Nat.le_refl _) _)
        have HDA := Lib.hid (HE10.out.on HBA.out)
        have HOA := Lib.hid (HO10.out.below HBA.out)
        have HTX : Hid (Tx (w10.alloc (.cells #[.string sp] 9)) (w10.heap.size + 1) (some ⟨w10.heap.size, 0, none⟩) [pa]) := Lib.hid (tx_lit w10 #[.string sp] [pa] (by rw [← hsp]; rfl) (0, 0))
        have hzA : bM + 1 ≤ (w10.alloc (.cells #[.string sp] 9)).heap.size := by have := HE10.out.ms.lt; simp; omega
        clear hsp HE10 HO10
        refine wpAnyK_ready (rs := [5]) (by kernel_rfl) (by simp) ?_
        refine AllReadyK.cons rfl (fun K hK => ?_) AllReadyK.nil
        go_simp
        refine hK.out _ _ ?_ (fun hHeld => ?_)
        · exact ⟨HDA.out.ms, HDA.out.te⟩
        clear hK K
        try simp only [Act.put, List.getElem_toArray, List.getElem_cons_zero, List.getElem_cons_succ, List.setIfInBounds_toArray, List.set_cons_zero, List.set_cons_succ]
        refine wpAnyK_ready (rs := [6]) (by kernel_rfl) (by simp) ?_
        refine AllReadyK.cons rfl (fun K hK => ?_) AllReadyK.nil
        (refine stepTx (.tmp 39) (.tmp 42) (by rfl) (by rfl) (by rfl) HOA.out (A := some ⟨w10.heap.size, 0, none⟩) (c := 1) (by rfl) HTX.out (by rw [← HKA.out]; omega) hzA ?_; intro v11 w11 h1 h2; have HO11 : Hid (OwnT w11 (bM + 1) v11 (acc ++ [pa])) := Lib.hid h1; have HD11 := Lib.hid (HDA.out.hi (by have := HRM.out; omega) ((Tn.refl (fun k => bM < k) _).grown h2 (fun g hg => .inl (by have := (HOA.out.lt g hg).1; omega)))); clear h1 h2)
        refine hK.out _ _ ?_ (fun hHeld => ?_)
        · exact ⟨HD11.out.ms, HD11.out.te⟩
        clear hK K
        try simp only [Act.put, List.getElem_toArray, List.getElem_cons_zero, List.getElem_cons_succ, List.setIfInBounds_toArray, List.set_cons_zero, List.set_cons_succ]
        refine wpAnyK_take (i := 7) (v := .pointer (some ⟨bM, 2, none⟩)) rfl (by kernel_rfl) (by kernel_rfl) (by kernel_rfl) (by kernel_rfl) (fun _ _ _ h => h) (Or.inl ⟨by rfl, fun w hS => by first | (go_simp; done) | (go_simp; with_reducible rfl)⟩) hHeld ?_
        try simp only [Act.put, List.getElem_toArray, List.getElem_cons_zero, List.getElem_cons_succ, List.setIfInBounds_toArray, List.set_cons_zero, List.set_cons_succ]
        refine wpAnyK_take (i := 8) (v := .pointer (some ⟨bM, 3, none⟩)) rfl (by kernel_rfl) (by kernel_rfl) (by kernel_rfl) (by kernel_rfl) (fun _ _ _ h => h) (Or.inl ⟨by rfl, fun w hS => by first | (go_simp; done) | (go_simp; with_reducible rfl)⟩) hHeld ?_
        try simp only [Act.put, List.getElem_toArray, List.getElem_cons_zero, List.getElem_cons_succ, List.setIfInBounds_toArray, List.set_cons_zero, List.set_cons_succ]
        have zc := (BlkIs.cell HD11.out.ms 3).trans (rfl : _ = some va)
        have zf := HD11.out.ms.froz 3
        have HD12 : Hid (DS w0 (w11.setCell ⟨bM, 3, none⟩ v11) w0.heap.size bR bP bT w0.heap.size bM ra #[.int .i64 v1, .string s2, .string s3, v11, .int .i64 v4, .slice none 0 0]) := Lib.hid (HD11.out.set 3 v11)
        have HO12 : Hid (OwnT (w11.setCell ⟨bM, 3, none⟩ v11) (bM + 1) v11 (acc ++ [pa])) := Lib.hid (own_far HO11.out (fun g hg => by have := (HO11.out.lt g hg).1; show g ≠ bM; omega) v11)
        obtain ⟨Av, cv, rfl, _, _⟩ := OwnT.slice HO11.out
        generalize hq : (acc ++ [pa]).length = k11 at *
        clear hq
        refine wpAnyK_ready (rs := [9]) (by kernel_rfl) (by simp) ?_
        refine AllReadyK.late rfl (by kernel_rfl) (fun K hK => ?_) AllReadyK.nil
        go_simp
        refine hK.out _ _ ?_ (fun _ => ?_)
        · trivial
        clear hK K
        try simp only [Act.put, List.getElem_toArray, List.getElem_cons_zero, List.getElem_cons_succ, List.setIfInBounds_toArray, List.set_cons_zero, List.set_cons_succ]
        refine wpAnyK_done (by kernel_rfl) ?_ _
        go_wp2_with fail
        go_roundw
        case rel => exact ⟨acc ++ [pa], ra, _, k + 1, by go_num, by rw [List.length_append, ← HKA.out]; rfl, by omega, by omega, HT10, HD12, HO12⟩
        case measure => simp [intOf]; omega
      · have hkt : acc.length = v5.toNat := by rw [← HKA.out]; omega
        have hz : ¬ (k : Int) < v5 := hlt
        have HKT := Lib.hid hkt
        have yP := (HDK.out.pa.cell 0).trans (rfl : _ = some (partV bR))
        have HCp := Lib.hid (HPAR.out _ _ _ _ _ _ _ _ HDK.out hrl)
        clear hkt
        go_wp2_with fail
        refine HCp.out.mono ?_
        rintro e w10 ⟨ht, ⟨hn, rfl⟩ | ⟨body, ra, hs, hr, Ab, cb, rfl, hbt, hcb, hmb⟩⟩
        · have HN : Hid (decS b = none) := Lib.hid (by
            rcases Int.lt_or_le v5 0 with hneg | hpos
            · exact dn_take HTK.out hn (by simp only [List.length_cons]; rw [HKT.out]; omega)
            · exact dn_more HTK.out HV5.out (by rw [HKT.out]; omega) hn)
          have hbb := HDK.out.belT ht
          first | exact ⟨rfl, hbb, .inl ⟨HN.out, rfl⟩⟩ | exact ⟨hbb, .inl ⟨HN.out, rfl⟩⟩ | exact ⟨rfl, hbb, .inl ⟨HN.out, rfl, rfl⟩⟩
        have HTB : Hid (Took (p1 :: p2 :: p3 :: p4 :: p5 :: (acc ++ [body])) ra b) := Lib.hid (HTK.out.snoc hs)
        have HE10 := Lib.hid (HDK.out.step ht hr)
        have HO10 : Hid (OwnT w10 (bM + 1) va acc) := Lib.hid (own_tn HOK.out ht (fun i hi e => by have := HRM.out.1.1; omega))
        have hbl9 : body.length ≤ 1000000 := (take_iff.1 hs).2
        have HCL := Lib.hid (clone_any hbt cb hbl9)
        have HEND := Lib.hid (dn_end HTB.out HV1.out HV4.out HV5.out HKT.out)
        have HSMM : Hid (SmallM ⟨v1, p2, p3, acc, v4, body⟩) := Lib.hid (by
          have hb := (HTN.out _ _ HTB.out).2
          have b1 := Lib.parseIntB_bounds HV1.out
          have b4 := Lib.parseIntB_bounds HV4.out
          have e : ((2 ^ (64 - 1) : Nat) : Int) = 9223372036854775808 := by decide
          rw [e] at b1 b4
          have h2 := hb p2 (by simp)
          have h3 := hb p3 (by simp)
          have h6 := hb body (by simp)
          refine ⟨by show p2.length ≤ 100000; omega, by show p3.length ≤ 100000; omega, fun j => ?_, by show acc.length ≤ 1000; rw [HKT.out]; omega, b4.1, b4.2, b1.1, b1.2, by show body.length ≤ 1000000; omega⟩
          show (acc.getD j []).length ≤ _
          rcases Nat.lt_or_ge j acc.length with hj | hj
          · have := hb (acc.getD j []) (by simp [List.getD, hj])
            omega
          · simp [List.getD, List.getElem?_eq_none hj])
        clear ht hs hr hbt HCp HDK HOK yP hbl9
        generalize body.length = bl9 at *
        go_wp2_with fail
        refine HCL.out.mono ?_
        rintro e w11 ⟨v11, rfl, ho11, hb11⟩
        have HE11 := Lib.hid (HE10.out.on hb11)
        have HO11 := Lib.hid (HO10.out.below hb11)
        have HW11 : Hid (Own5 w11 (bM + 1) v11 body) := Lib.hid (own_more ho11 (by have := HE10.out.ms.lt; omega))
        clear ho11 hb11 HCL HE10 HO10
        have z5 := (HE11.out.ms.cell 5).trans (rfl : _ = some (Value.slice none 0 0))
        have zf5 := HE11.out.ms.froz 5
        have HD12 : Hid (DS w0 (w11.setCell ⟨bM, 5, none⟩ v11) w0.heap.size bR bP bT w0.heap.size bM ra #[.int .i64 v1, .string s2, .string s3, va, .int .i64 v4, v11]) := Lib.hid (HE11.out.set 5 v11)
        have HO12 : Hid (OwnT (w11.setCell ⟨bM, 5, none⟩ v11) (bM + 1) va acc) := Lib.hid (own_far HO11.out (fun g hg => by have := (HO11.out.lt g hg).1; show g ≠ bM; omega) v11)
        have HW12 : Hid (Own5 (w11.setCell ⟨bM, 5, none⟩ v11) (bM + 1) v11 body) := Lib.hid (own_far HW11.out (fun g hg => by have := (HW11.out.lt g hg).1; show g ≠ bM; omega) v11)
        have HENm : Hid (Calls Tryz.prog 108 #[.agg #[.int .i64 v1, .string s2, .string s3, va, .int .i64 v4, v11]] (w11.setCell ⟨bM, 5, none⟩ v11) fun e w' => Below (w11.setCell ⟨bM, 5, none⟩ v11).heap.size (w11.setCell ⟨bM, 5, none⟩ v11) w' ∧ ∃ v, e = .returned (.tuple #[v, .int .i64 (numE (okB ⟨v1, p2, p3, acc, v4, body⟩))]) ∧ ((okB ⟨v1, p2, p3, acc, v4, body⟩ = true ∧ Own5 w' (w11.setCell ⟨bM, 5, none⟩ v11).heap.size v (putS (fldS ⟨v1, p2, p3, acc, v4, body⟩))) ∨ (okB ⟨v1, p2, p3, acc, v4, body⟩ = false ∧ v = .slice none 0 0))) :=
          Lib.hid (HENC.out _ _ ⟨v1, p2, p3, acc, v4, body⟩ HD12.out.bel (MsgO.at_ (N := bM + 1) ⟨va, v11, by rw [← HS2.out, ← HS3.out], HO12.out, HW12.out⟩) HSMM.out)
        obtain ⟨Aw, cw, rfl, _, _⟩ := own_slice HW11.out
        generalize body.length = bl8 at *
        clear HE11 HO11 HW11
        go_upto_region 17 with fail
        generalize w11.setCell ⟨bM, 5, none⟩ (.slice Aw bl8 cw) = w12 at *
        clear z5 zf5
        have y0 := (HD12.out.ms.cell 0).trans (rfl : _ = some (Value.int .i64 v1))
        have y1 := (HD12.out.ms.cell 1).trans (rfl : _ = some (Value.string s2))
        have y2 := (HD12.out.ms.cell 2).trans (rfl : _ = some (Value.string s3))
        have y3 := (HD12.out.ms.cell 3).trans (rfl : _ = some va)
        have y4 := (HD12.out.ms.cell 4).trans (rfl : _ = some (Value.int .i64 v4))
        have y5 := (HD12.out.ms.cell 5).trans (rfl : _ = some (Value.slice Aw bl8 cw))
        have HM := Lib.hid (rfl : (⟨v1, p2, p3, acc, v4, body⟩ : M) = ⟨v1, p2, p3, acc, v4, body⟩)
        generalize hmm : (⟨v1, p2, p3, acc, v4, body⟩ : M) = mm at *
        have HMM := Lib.hid hmm
        clear hmm HM
        cases hok : okB mm with
        | false =>
          rw [hok] at HENm
          have en : numE false = 150 := rfl
          rw [en] at HENm
          have HN : Hid (decS b = none) := Lib.hid (by
            rw [HEND.out, if_neg]
            unfold encS
            rw [hok]
            simp)
          go_wp2_with fail
          refine HENm.out.mono ?_
          rintro e w13 ⟨hb13, v13, rfl, _⟩
          have hbb := HD12.out.bel.trans (hb13.mono HD12.out.lo)
          go_wp2_with (first
            | (go_at_call 126; refine (ned_f (by first | rfl | (simp; done) | (simp; omega)) _).mono ?_; rintro e w' ⟨rfl, rfl⟩)
            | fail)
          first | exact ⟨rfl, hbb, .inl ⟨HN.out, rfl⟩⟩ | exact ⟨hbb, .inl ⟨HN.out, rfl⟩⟩ | exact ⟨rfl, hbb, .inl ⟨HN.out, rfl, rfl⟩⟩
        | true =>
          rw [hok] at HENm
          have en : numE true = 0 := rfl
          rw [en] at HENm
          go_wp2_with fail
          refine HENm.out.mono ?_
          rintro e w13 ⟨hb13, v13, rfl, ⟨_, ho13⟩ | ⟨h, _⟩⟩
          · obtain ⟨A13, c13, rfl, _, _⟩ := own_slice ho13
            have HD13 := Lib.hid (HD12.out.on hb13)
            have HO13 := Lib.hid (HO12.out.below hb13)
            have HW13 := Lib.hid (own_kept HW12.out hb13 (Nat.le_refl _))
            have hbw := HBB.out.below HD13.out.bel
            have heq := equal_any ho13.bts hbw c13 c
            rw [HBN.out] at heq
            have HEQ := Lib.hid heq
            clear y0 y1 y2 y3 y4 y5 heq hbw hb13 ho13 HENm HD12 HO12 HW12 en
            generalize (putS (fldS mm)).length = pl at *
            cases hqq : (putS (fldS mm) == b) with
            | false =>
              rw [hqq] at HEQ
              have HN : Hid (decS b = none) := Lib.hid (by
                rw [HEND.out, if_neg]
                unfold encS
                rw [hok, if_pos rfl]
                intro e
                injection e with e
                rw [e] at hqq
                simp at hqq)
              go_wp2_with (first
                | (go_at_call 31; refine HEQ.out.mono ?_; rintro e w' ⟨rfl, rfl⟩)
                | (go_at_call 126; refine (ned_f (by first | rfl | (simp; done) | (simp; omega)) _).mono ?_; rintro e w' ⟨rfl, rfl⟩)
                | fail)
              have hbb := HD13.out.bel
              first | exact ⟨rfl, hbb, .inl ⟨HN.out, rfl⟩⟩ | exact ⟨hbb, .inl ⟨HN.out, rfl⟩⟩ | exact ⟨rfl, hbb, .inl ⟨HN.out, rfl, rfl⟩⟩
            | true =>
              rw [hqq] at HEQ
              have HY : Hid (decS b = some mm) := Lib.hid (by
                rw [HEND.out, if_pos]
                unfold encS
                rw [hok, if_pos rfl]
                rw [beq_iff_eq] at hqq
                rw [hqq])
              clear HEND hqq hok
              have y0 := (HD13.out.ms.cell 0).trans (rfl : _ = some (Value.int .i64 v1))
              have y1 := (HD13.out.ms.cell 1).trans (rfl : _ = some (Value.string s2))
              have y2 := (HD13.out.ms.cell 2).trans (rfl : _ = some (Value.string s3))
              have y3 := (HD13.out.ms.cell 3).trans (rfl : _ = some va)
              have y4 := (HD13.out.ms.cell 4).trans (rfl : _ = some (Value.int .i64 v4))
              have y5 := (HD13.out.ms.cell 5).trans (rfl : _ = some (Value.slice Aw bl8 cw))
              have x0 := (HD13.out.re.cell 0).trans (rfl : _ = some (Value.int .i64 0))
              have x1 := (HD13.out.re.cell 1).trans (rfl : _ = some (Value.string ⟨#[]⟩))
              have x2 := (HD13.out.re.cell 2).trans (rfl : _ = some (Value.string ⟨#[]⟩))
              have x3 := (HD13.out.re.cell 3).trans (rfl : _ = some (Value.slice none 0 0))
              have x4 := (HD13.out.re.cell 4).trans (rfl : _ = some (Value.int .i64 0))
              have x5 := (HD13.out.re.cell 5).trans (rfl : _ = some (Value.slice none 0 0))
              have f0 := HD13.out.re.froz 0
              have f1 := HD13.out.re.froz 1
              have f2 := HD13.out.re.froz 2
              have f3 := HD13.out.re.froz 3
              have f4 := HD13.out.re.froz 4
              have f5 := HD13.out.re.froz 5
              obtain ⟨At, ct, rfl, _, _⟩ := OwnT.slice HO13.out
              have HLO := Lib.hid (And.intro (fun g hg => (HO13.out.lt g hg).1) (fun g hg => (HW13.out.lt g hg).1))
              generalize acc.length = al at *
              have HQF := Lib.hid ((((((HD13.out.re.put 0 (.int .i64 v1)).put 1 (.string s2)).put 2 (.string s3)).put 3 (.slice At al ct)).put 4 (.int .i64 v4)).put 5 (.slice Aw bl8 cw))
              have HBF := Lib.hid ((((((HD13.out.bel.setCell (p := ⟨w0.heap.size, 0, none⟩) (Nat.le_refl _) (.int .i64 v1)).setCell (p := ⟨w0.heap.size, 1, none⟩) (Nat.le_refl _) (.string s2)).setCell (p := ⟨w0.heap.size, 2, none⟩) (Nat.le_refl _) (.string s3)).setCell (p := ⟨w0.heap.size, 3, none⟩) (Nat.le_refl _) (.slice At al ct)).setCell (p := ⟨w0.heap.size, 4, none⟩) (Nat.le_refl _) (.int .i64 v4)).setCell (p := ⟨w0.heap.size, 5, none⟩) (Nat.le_refl _) (.slice Aw bl8 cw))
              have hf1 : ∀ g, (Value.slice At al ct).ownBlock = some g → g ≠ w0.heap.size := fun g hg => by have h1 := HLO.out.1 g hg; have h2 := HRM.out.2.1; omega
              have hf2 : ∀ g, (Value.slice Aw bl8 cw).ownBlock = some g → g ≠ w0.heap.size := fun g hg => by have h1 := HLO.out.2 g hg; have h2 := HRM.out.2.1; omega
              have HOF := Lib.hid (own_far (x := ⟨w0.heap.size, 5, none⟩) (own_far (x := ⟨w0.heap.size, 4, none⟩) (own_far (x := ⟨w0.heap.size, 3, none⟩) (own_far (x := ⟨w0.heap.size, 2, none⟩) (own_far (x := ⟨w0.heap.size, 1, none⟩) (own_far (x := ⟨w0.heap.size, 0, none⟩) HO13.out hf1 (.int .i64 v1)) hf1 (.string s2)) hf1 (.string s3)) hf1 (.slice At al ct)) hf1 (.int .i64 v4)) hf1 (.slice Aw bl8 cw))
              have HWF := Lib.hid (own_far (x := ⟨w0.heap.size, 5, none⟩) (own_far (x := ⟨w0.heap.size, 4, none⟩) (own_far (x := ⟨w0.heap.size, 3, none⟩) (own_far (x := ⟨w0.heap.size, 2, none⟩) (own_far (x := ⟨w0.heap.size, 1, none⟩) (own_far (x := ⟨w0.heap.size, 0, none⟩) HW13.out hf2 (.int .i64 v1)) hf2 (.string s2)) hf2 (.string s3)) hf2 (.slice At al ct)) hf2 (.int .i64 v4)) hf2 (.slice Aw bl8 cw))
              clear hf1 hf2
              go_wp2_with (first
                | (go_at_call 31; refine HEQ.out.mono ?_; rintro e w' ⟨rfl, rfl⟩)
                | (go_at_call 126; refine (ned_t (by first | rfl | (simp; done) | (simp; omega)) _).mono ?_; rintro e w' ⟨rfl, rfl⟩)
                | fail)
              refine bodyPost_ret (res_decoded _ HQF.out rfl) rfl ⟨HBF.out, .inr ⟨mm, HY.out, _, rfl, .slice At al ct, .slice Aw bl8 cw, ?_, ?_, ?_⟩⟩
              · rw [← HMM.out, ← HS2.out, ← HS3.out]
              · rw [← HMM.out]
                exact own_more HOF.out (by have := HRM.out.2.1; omega)
              · rw [← HMM.out]
                exact own_more HWF.out (by have := HRM.out.2.1; omega)
          · cases h
  · have HN := Lib.hid (dn_cnt HT5.out HV5.out h100)
    go_wp2_with (first
      | (go_at_call 126; refine (ned_f (by first | rfl | (simp; done) | (simp; omega)) _).mono ?_; rintro e w' ⟨rfl, rfl⟩)
      | fail)
    first | exact ⟨rfl, HE5.out.bel, .inl ⟨HN.out, rfl⟩⟩ | exact ⟨HE5.out.bel, .inl ⟨HN.out, rfl⟩⟩ | exact ⟨rfl, HE5.out.bel, .inl ⟨HN.out, rfl, rfl⟩⟩
end En
end Go.Proofs.YteapnkedpmcokaaGreatDoor
/- entry.Decode. Conditions: as stated at each. -/
namespace Go.Proofs.YteapnkedpmcokaaGreatDoor
set_option maxRecDepth 100000
namespace En
open Go.RowKit Go Go.Proofs.YteapnkedpmcokaaGreatDoor.Pa
attribute [local go_sem] Oper.semAt_some
theorem MsgO.set {w : World} {N : Nat} {x : Value} {m : M} (h : MsgO w N x m) {a : Addr} (ha : a.block < N) (u : Value) : MsgO (w.setCell a u) N x m := by
  obtain ⟨v1, v2, rfl, h1, h2⟩ := h
  exact ⟨v1, v2, rfl, own_far h1 (fun g hg => by have := (h1.lt g hg).1; omega) u, own_far h2 (fun g hg => by have := (h2.lt g hg).1; omega) u⟩
theorem MsgO.on {w w' : World} {N : Nat} {x : Value} {m : M} (h : MsgO w N x m) (hb : Below w.heap.size w w') : MsgO w' N x m := by
  obtain ⟨v1, v2, rfl, h1, h2⟩ := h
  exact ⟨v1, v2, rfl, own_kept h1 hb (Nat.le_refl _), own_kept h2 hb (Nat.le_refl _)⟩
theorem MsgO.less {w : World} {N N' : Nat} {x : Value} {m : M} (h : MsgO w N x m) (hN : N' ≤ N) : MsgO w N' x m := by
  obtain ⟨v1, v2, rfl, h1, h2⟩ := h
  exact ⟨v1, v2, rfl, own_more h1 hN, own_more h2 hN⟩
/-- a struct's six cells set. -/
def six (w : World) (g : Nat) (x0 x1 x2 x3 x4 x5 : Value) : World := (((((w.setCell ⟨g, 0, none⟩ x0).setCell ⟨g, 1, none⟩ x1).setCell ⟨g, 2, none⟩ x2).setCell ⟨g, 3, none⟩ x3).setCell ⟨g, 4, none⟩ x4).setCell ⟨g, 5, none⟩ x5
theorem six_blk {w : World} {g : Nat} {y0 y1 y2 y3 y4 y5 : Value} (h : BlkIs w g 27 #[y0, y1, y2, y3, y4, y5]) (x0 x1 x2 x3 x4 x5 : Value) : BlkIs (six w g x0 x1 x2 x3 x4 x5) g 27 #[x0, x1, x2, x3, x4, x5] :=
  (((((h.put 0 x0).put 1 x1).put 2 x2).put 3 x3).put 4 x4).put 5 x5
theorem six_far {w : World} {g k : Nat} {t : TypeId} {cs : Array Value} (h : BlkIs w k t cs) (hk : k ≠ g) (x0 x1 x2 x3 x4 x5 : Value) : BlkIs (six w g x0 x1 x2 x3 x4 x5) k t cs :=
  (((((h.far (x := ⟨g, 0, none⟩) hk x0).far (x := ⟨g, 1, none⟩) hk x1).far (x := ⟨g, 2, none⟩) hk x2).far (x := ⟨g, 3, none⟩) hk x3).far (x := ⟨g, 4, none⟩) hk x4).far (x := ⟨g, 5, none⟩) hk x5
theorem six_below {w0 w : World} {N g : Nat} (h : Below N w0 w) (hg : N ≤ g) (x0 x1 x2 x3 x4 x5 : Value) : Below N w0 (six w g x0 x1 x2 x3 x4 x5) :=
  (((((h.setCell (p := ⟨g, 0, none⟩) hg x0).setCell (p := ⟨g, 1, none⟩) hg x1).setCell (p := ⟨g, 2, none⟩) hg x2).setCell (p := ⟨g, 3, none⟩) hg x3).setCell (p := ⟨g, 4, none⟩) hg x4).setCell (p := ⟨g, 5, none⟩) hg x5
theorem six_msg {w : World} {N g : Nat} {x : Value} {m : M} (h : MsgO w N x m) (hg : g < N) (x0 x1 x2 x3 x4 x5 : Value) : MsgO (six w g x0 x1 x2 x3 x4 x5) N x m :=
  (((((h.set (a := ⟨g, 0, none⟩) hg x0).set (a := ⟨g, 1, none⟩) hg x1).set (a := ⟨g, 2, none⟩) hg x2).set (a := ⟨g, 3, none⟩) hg x3).set (a := ⟨g, 4, none⟩) hg x4).set (a := ⟨g, 5, none⟩) hg x5
/-- behind the closure of Decode. -/
def DecQ (w : World) (N R : Nat) (b : L) (x : Int) (X : World) : Prop := Below N w X ∧
  ((decS b = none ∧ x = 150 ∧ BlkIs X R 27 #[.int .i64 0, .string ⟨#[]⟩, .string ⟨#[]⟩, .slice none 0 0, .int .i64 0, .slice none 0 0]) ∨ ∃ m x0 x1 x2 x3 x4 x5, decS b = some m ∧ x = 0 ∧ BlkIs X R 27 #[x0, x1, x2, x3, x4, x5] ∧ MsgO X w.heap.size (.agg #[x0, x1, x2, x3, x4, x5]) m)
set_option maxHeartbeats 3200000 in
theorem decode1_any {W : World} {N R E V D : Nat} {A : Option Addr} {bn c : Nat} {b : L}
    (hS : Calls Tryz.prog 170 #[.slice A bn c] W (DecP W b))
    (hNR : N ≤ R) (hNE : N ≤ E) (hRE : R ≠ E) (hDR : D ≠ R) (hDE : D ≠ E) (hD : BlkIs W D 27 #[.int .i64 0, .string ⟨#[]⟩, .string ⟨#[]⟩, .slice none 0 0, .int .i64 0, .slice none 0 0]) (hE : BlkIs W E 39 #[.int .i64 0]) (hV : BlkIs W V 25 #[.slice A bn c]) (hR : BlkIs W R 27 #[.int .i64 0, .string ⟨#[]⟩, .string ⟨#[]⟩, .slice none 0 0, .int .i64 0, .slice none 0 0]) :
    Calls Tryz.prog 169 #[.pointer (some ⟨V, 0, none⟩), .pointer (some ⟨R, 0, none⟩)] W fun r w' => BlkIs w' E 39 #[.int .i64 0] ∧ ((r = .returned (.tuple #[]) ∧ DecQ W N R b 0 w' ∧ BlkIs w' D 27 #[.int .i64 0, .string ⟨#[]⟩, .string ⟨#[]⟩, .slice none 0 0, .int .i64 0, .slice none 0 0]) ∨ ∃ x, r = Fa.bad x ∧ DecQ W N R b x (w'.setCell ⟨E, 0, none⟩ (.int .i64 x)) ∧ BlkIs (w'.setCell ⟨E, 0, none⟩ (.int .i64 x)) D 27 #[.int .i64 0, .string ⟨#[]⟩, .string ⟨#[]⟩, .slice none 0 0, .int .i64 0, .slice none 0 0]) := by
  unfold DecP at hS
  have HS := Lib.hid hS
  have HE := Lib.hid (And.intro hE (And.intro hR (And.intro hNR (And.intro hNE hRE))))
  have y0 := (hV.cell 0).trans (rfl : _ = some (Value.slice A bn c))
  have hRlt : R < W.heap.size := hR.lt
  have HD0 := Lib.hid (And.intro hD (And.intro hDR hDE))
  clear hE hV hR hNR hNE hRE hS hD hDR hDE
  unfold DecQ
  go_enter Tryz.func169, Tryz.ntmps169
  go_wp2_with fail
  refine HS.out.mono ?_
  rintro r w' ⟨hb, ⟨h1, rfl⟩ | ⟨m, h1, x, rfl, h3⟩⟩
  · have hR' : BlkIs w' R 27 #[.int .i64 0, .string ⟨#[]⟩, .string ⟨#[]⟩, .slice none 0 0, .int .i64 0, .slice none 0 0] := (hb.block _ hRlt).trans HE.out.2.1
    have hE' : BlkIs w' E 39 #[.int .i64 0] := (hb.block _ HE.out.1.lt).trans HE.out.1
    have hNW : N ≤ W.heap.size := by have := HE.out.2.2.1; omega
    have hD' : BlkIs w' D 27 #[.int .i64 0, .string ⟨#[]⟩, .string ⟨#[]⟩, .slice none 0 0, .int .i64 0, .slice none 0 0] := (hb.block _ HD0.out.1.lt).trans HD0.out.1
    exact ⟨rfl, hE', .inr ⟨_, rfl, ⟨(hb.mono hNW).setCell HE.out.2.2.2.1 _, .inl ⟨h1, rfl, hR'.far (fun e => HE.out.2.2.2.2 e) _⟩⟩, hD'.far (fun e => HD0.out.2.2 e) _⟩⟩
  · obtain ⟨v1, v2, rfl, g1, g2⟩ := h3
    have h3 : MsgO w' W.heap.size (.agg #[.int .i64 m.id, .string (str m.cls), .string (str m.fr), v1, .int .i64 m.at_, v2]) m := ⟨v1, v2, rfl, g1, g2⟩
    obtain ⟨A1, c1, rfl, _, _⟩ := OwnT.slice g1
    obtain ⟨A2, c2, rfl, _, _⟩ := own_slice g2
    have hR' : BlkIs w' R 27 #[.int .i64 0, .string ⟨#[]⟩, .string ⟨#[]⟩, .slice none 0 0, .int .i64 0, .slice none 0 0] := (hb.block _ hRlt).trans HE.out.2.1
    have hE' : BlkIs w' E 39 #[.int .i64 0] := (hb.block _ HE.out.1.lt).trans HE.out.1
    have x0 := (hR'.cell 0).trans (rfl : _ = some (Value.int .i64 0))
    have x1 := (hR'.cell 1).trans (rfl : _ = some (Value.string ⟨#[]⟩))
    have x2 := (hR'.cell 2).trans (rfl : _ = some (Value.string ⟨#[]⟩))
    have x3 := (hR'.cell 3).trans (rfl : _ = some (Value.slice none 0 0))
    have x4 := (hR'.cell 4).trans (rfl : _ = some (Value.int .i64 0))
    have x5 := (hR'.cell 5).trans (rfl : _ = some (Value.slice none 0 0))
    have f0 := hR'.froz 0
    have f1 := hR'.froz 1
    have f2 := hR'.froz 2
    have f3 := hR'.froz 3
    have f4 := hR'.froz 4
    have f5 := hR'.froz 5
    have hNW : N ≤ W.heap.size := by have := HE.out.2.2.1; omega
    have HF := Lib.hid (And.intro (six_far hE' (fun e => HE.out.2.2.2.2 e.symm) (.int .i64 m.id) (.string (str m.cls)) (.string (str m.fr)) (.slice A1 m.tos.length c1) (.int .i64 m.at_) (.slice A2 m.body.length c2)) (And.intro (six_below (hb.mono hNW) HE.out.2.2.1 (.int .i64 m.id) (.string (str m.cls)) (.string (str m.fr)) (.slice A1 m.tos.length c1) (.int .i64 m.at_) (.slice A2 m.body.length c2)) (And.intro (six_blk hR' (.int .i64 m.id) (.string (str m.cls)) (.string (str m.fr)) (.slice A1 m.tos.length c1) (.int .i64 m.at_) (.slice A2 m.body.length c2)) (six_msg h3 hRlt (.int .i64 m.id) (.string (str m.cls)) (.string (str m.fr)) (.slice A1 m.tos.length c1) (.int .i64 m.at_) (.slice A2 m.body.length c2)))))
    have HD := Lib.hid h1
    have HDF := Lib.hid (six_far ((hb.block _ HD0.out.1.lt).trans HD0.out.1 : BlkIs w' D 27 #[.int .i64 0, .string ⟨#[]⟩, .string ⟨#[]⟩, .slice none 0 0, .int .i64 0, .slice none 0 0]) HD0.out.2.1 (.int .i64 m.id) (.string (str m.cls)) (.string (str m.fr)) (.slice A1 m.tos.length c1) (.int .i64 m.at_) (.slice A2 m.body.length c2))
    unfold six at HF HDF
    clear hb h1 h3 g1 g2 hR' hE' HS
    generalize str m.cls = sc at *
    generalize str m.fr = sf at *
    generalize m.tos.length = n at *
    generalize m.body.length = bn' at *
    generalize m.at_ = t at *
    generalize m.id = id at *
    go_wp2_with fail
    go_end0
    exact ⟨HF.out.1, .inl ⟨rfl, ⟨HF.out.2.1, .inr ⟨m, _, _, _, _, _, _, HD.out, by first | rfl | trivial, HF.out.2.2.1, HF.out.2.2.2⟩⟩, HDF.out⟩⟩
theorem res_Decode {w : World} {g : Nat} {x0 x1 x2 x3 x4 x5 : Value} (tmps : Array Value) (hB : BlkIs w g 27 #[x0, x1, x2, x3, x4, x5]) (h2 : tmps.getD 2 undef = .pointer (some ⟨g, 0, none⟩)) :
    (results Tryz.f166 tmps).run Tryz.prog w = .ok (.tuple #[.agg #[x0, x1, x2, x3, x4, x5], tmps.getD 3 undef]) w := by
  rw [results_cell_tmp rfl, h2]
  have hl := run_loadVar_row (P := Tryz.prog) w g 27 27 #[x0, x1, x2, x3, x4, x5] (0, 0) _ hB Tryz.underlying27 rfl (by kernel_rfl)
  simp only [asAddr, Result.andThen, Sem.run_pure]
  rw [hl]
/-- what Decode answers. -/
def DecodeP (w : World) (b : L) (e : Ending) (w' : World) : Prop := Below w.heap.size w w' ∧
  ((decS b = none ∧ e = .returned (.tuple #[.agg #[.int .i64 0, .string ⟨#[]⟩, .string ⟨#[]⟩, .slice none 0 0, .int .i64 0, .slice none 0 0], .int .i64 150])) ∨ ∃ m x, decS b = some m ∧ e = .returned (.tuple #[x, .int .i64 0]) ∧ MsgO w' w.heap.size x m)
set_option maxHeartbeats 3200000 in
theorem decode_any {w : World} {A : Option Addr} {b : L} {c : Nat} (hb : Bts w w.heap.size A b) (hc : b.length ≤ c) (hm : c ≤ maxLen) (hA : A = none → c = 0) (hl : b.length ≤ 10000) (hG : GlT w) (hE : GlE w) :
    Calls Tryz.prog 166 #[.slice A b.length c] w (DecodeP w b) := by
  have HRI := Lib.hid (fun X (hX : Below w.heap.size w X) => decoded_any ((hb.below hX).more hX.size) hc hm hA hl (hG.below hX hG.lt) (hE.below hX hE.lt))
  clear hb hA hG hE hl
  generalize b.length = ln at *
  have n0 := BlkIs.new w 25 #[.slice A ln c]
  have n1 := BlkIs.new (w.alloc (.cells #[.slice A ln c] 25)) 27 #[.int .i64 0, .string ⟨#[]⟩, .string ⟨#[]⟩, .slice none 0 0, .int .i64 0, .slice none 0 0]
  have n2 := BlkIs.new ((w.alloc (.cells #[.slice A ln c] 25)).alloc (.cells #[.int .i64 0, .string ⟨#[]⟩, .string ⟨#[]⟩, .slice none 0 0, .int .i64 0, .slice none 0 0] 27)) 27 #[.int .i64 0, .string ⟨#[]⟩, .string ⟨#[]⟩, .slice none 0 0, .int .i64 0, .slice none 0 0]
  simp only [World.size_alloc] at n1 n2
  have kB : Below w.heap.size w (((w.alloc (.cells #[.slice A ln c] 25)).alloc (.cells #[.int .i64 0, .string ⟨#[]⟩, .string ⟨#[]⟩, .slice none 0 0, .int .i64 0, .slice none 0 0] 27)).alloc (.cells #[.int .i64 0, .string ⟨#[]⟩, .string ⟨#[]⟩, .slice none 0 0, .int .i64 0, .slice none 0 0] 27)) := (((Below.refl _ w).alloc (Nat.le_refl _) _).alloc (by simp) _).alloc (by simp; omega) _
  have kz : (((w.alloc (.cells #[.slice A ln c] 25)).alloc (.cells #[.int .i64 0, .string ⟨#[]⟩, .string ⟨#[]⟩, .slice none 0 0, .int .i64 0, .slice none 0 0] 27)).alloc (.cells #[.int .i64 0, .string ⟨#[]⟩, .string ⟨#[]⟩, .slice none 0 0, .int .i64 0, .slice none 0 0] 27)).heap.size = w.heap.size + 3 := by simp
  have HN := Lib.hid (And.intro kB (And.intro kz (And.intro ((n0.alloc (.cells #[.int .i64 0, .string ⟨#[]⟩, .string ⟨#[]⟩, .slice none 0 0, .int .i64 0, .slice none 0 0] 27)).alloc (.cells #[.int .i64 0, .string ⟨#[]⟩, .string ⟨#[]⟩, .slice none 0 0, .int .i64 0, .slice none 0 0] 27)) (And.intro (n1.alloc (.cells #[.int .i64 0, .string ⟨#[]⟩, .string ⟨#[]⟩, .slice none 0 0, .int .i64 0, .slice none 0 0] 27)) n2))))
  clear n0 n1 n2 kB kz
  have HAT : Hid (∀ w2, Below w.heap.size w w2 → w2.heap.size = w.heap.size + 3 → BlkIs w2 w.heap.size 25 #[.slice A ln c] → BlkIs w2 (w.heap.size + 1) 27 #[.int .i64 0, .string ⟨#[]⟩, .string ⟨#[]⟩, .slice none 0 0, .int .i64 0, .slice none 0 0] → BlkIs w2 (w.heap.size + 1 + 1) 27 #[.int .i64 0, .string ⟨#[]⟩, .string ⟨#[]⟩, .slice none 0 0, .int .i64 0, .slice none 0 0] →
      Calls Tryz.prog 22 #[.func (.func 169) #[] #[.pointer (some ⟨w.heap.size, 0, none⟩), .pointer (some ⟨w.heap.size + 1 + 1, 0, none⟩)]] w2 fun e w' => ∃ x, e = .returned (.int .i64 x) ∧ DecQ (w2.alloc (.cells #[.int .i64 0] 39)) w.heap.size (w.heap.size + 1 + 1) b x w' ∧ BlkIs w' (w.heap.size + 1) 27 #[.int .i64 0, .string ⟨#[]⟩, .string ⟨#[]⟩, .slice none 0 0, .int .i64 0, .slice none 0 0]) := Lib.hid fun w2 g1 g2 g3 g4 g5 => by
    refine Fa.attempt_c 169 _ w2 (fun x w' => DecQ (w2.alloc (.cells #[.int .i64 0] 39)) w.heap.size (w.heap.size + 1 + 1) b x w' ∧ BlkIs w' (w.heap.size + 1) 27 #[.int .i64 0, .string ⟨#[]⟩, .string ⟨#[]⟩, .slice none 0 0, .int .i64 0, .slice none 0 0]) (enters_of Tryz.func169 (by kernel_rfl) rfl _) ?_
    have ga : Below w2.heap.size w2 (w2.alloc (.cells #[.int .i64 0] 39)) := (Below.refl _ _).alloc (Nat.le_refl _) _
    have gb := g1.trans (ga.mono g1.size)
    exact decode1_any (HRI.out _ gb) (by omega) (by omega) (by omega) (by omega) (by omega) (g4.alloc _) (BlkIs.new w2 _ _) (g3.alloc _) (g5.alloc _)
  clear HRI
  unfold DecodeP
  go_enter Tryz.func166, Tryz.ntmps166
  go_wp2_with fail
  refine (HAT.out _ HN.out.1 HN.out.2.1 HN.out.2.2.1 HN.out.2.2.2.1 HN.out.2.2.2.2).mono ?_
  rintro e w' ⟨x, rfl, ⟨hbel, hq⟩, hD⟩
  have HB3 : Hid (Below w.heap.size w w') := Lib.hid ((HN.out.1.alloc HN.out.1.size _).trans hbel)
  rcases hq with ⟨h1, rfl, h3⟩ | ⟨m, x0, x1, x2, x3, x4, x5, h1, rfl, h3, h4⟩
  · have HF := Lib.hid (And.intro (six_below HB3.out (by omega : w.heap.size ≤ w.heap.size + 1) (.int .i64 0) (.string ⟨#[]⟩) (.string ⟨#[]⟩) (.slice none 0 0) (.int .i64 0) (.slice none 0 0)) (six_blk hD (.int .i64 0) (.string ⟨#[]⟩) (.string ⟨#[]⟩) (.slice none 0 0) (.int .i64 0) (.slice none 0 0)))
    unfold six at HF
    have y0 := (h3.cell 0).trans (rfl : _ = some (Value.int .i64 0))
    have y1 := (h3.cell 1).trans (rfl : _ = some (Value.string ⟨#[]⟩))
    have y2 := (h3.cell 2).trans (rfl : _ = some (Value.string ⟨#[]⟩))
    have y3 := (h3.cell 3).trans (rfl : _ = some (Value.slice none 0 0))
    have y4 := (h3.cell 4).trans (rfl : _ = some (Value.int .i64 0))
    have y5 := (h3.cell 5).trans (rfl : _ = some (Value.slice none 0 0))
    have z0 := (hD.cell 0).trans (rfl : _ = some (Value.int .i64 0))
    have z1 := (hD.cell 1).trans (rfl : _ = some (Value.string ⟨#[]⟩))
    have z2 := (hD.cell 2).trans (rfl : _ = some (Value.string ⟨#[]⟩))
    have z3 := (hD.cell 3).trans (rfl : _ = some (Value.slice none 0 0))
    have z4 := (hD.cell 4).trans (rfl : _ = some (Value.int .i64 0))
    have z5 := (hD.cell 5).trans (rfl : _ = some (Value.slice none 0 0))
    have f0 := hD.froz 0
    have f1 := hD.froz 1
    have f2 := hD.froz 2
    have f3 := hD.froz 3
    have f4 := hD.froz 4
    have f5 := hD.froz 5
    clear hbel h3 hD HAT HN HB3
    go_wp2_with fail
    refine bodyPost_ret (res_Decode _ HF.out.2 rfl) rfl ⟨HF.out.1, .inl ⟨h1, rfl⟩⟩
  · have h5 : MsgO w' (w.heap.size + 2) (.agg #[x0, x1, x2, x3, x4, x5]) m := h4.less (by rw [World.size_alloc, HN.out.2.1]; omega)
    have h6 := h5
    obtain ⟨v1, v2, e, g1, g2⟩ := h6
    obtain ⟨A1, c1, rfl, _, _⟩ := OwnT.slice g1
    obtain ⟨A2, c2, rfl, _, _⟩ := own_slice g2
    simp only [Value.agg.injEq, Array.mk.injEq, List.cons.injEq, and_true] at e
    obtain ⟨rfl, rfl, rfl, rfl, rfl, rfl⟩ := e
    clear g1 g2
    generalize str m.cls = sc at *
    generalize str m.fr = sf at *
    generalize m.tos.length = n at *
    generalize m.body.length = n2 at *
    generalize m.at_ = t at *
    generalize m.id = id at *
    have HF := Lib.hid (And.intro (six_below HB3.out (by omega : w.heap.size ≤ w.heap.size + 1) (.int .i64 id) (.string sc) (.string sf) (.slice A1 n c1) (.int .i64 t) (.slice A2 n2 c2)) (And.intro (six_blk hD (.int .i64 id) (.string sc) (.string sf) (.slice A1 n c1) (.int .i64 t) (.slice A2 n2 c2)) (six_msg h5 (by omega : w.heap.size + 1 < w.heap.size + 2) (.int .i64 id) (.string sc) (.string sf) (.slice A1 n c1) (.int .i64 t) (.slice A2 n2 c2))))
    unfold six at HF
    have y0 := (h3.cell 0).trans (rfl : _ = some (Value.int .i64 id))
    have y1 := (h3.cell 1).trans (rfl : _ = some (Value.string sc))
    have y2 := (h3.cell 2).trans (rfl : _ = some (Value.string sf))
    have y3 := (h3.cell 3).trans (rfl : _ = some (Value.slice A1 n c1))
    have y4 := (h3.cell 4).trans (rfl : _ = some (Value.int .i64 t))
    have y5 := (h3.cell 5).trans (rfl : _ = some (Value.slice A2 n2 c2))
    have z0 := (hD.cell 0).trans (rfl : _ = some (Value.int .i64 0))
    have z1 := (hD.cell 1).trans (rfl : _ = some (Value.string ⟨#[]⟩))
    have z2 := (hD.cell 2).trans (rfl : _ = some (Value.string ⟨#[]⟩))
    have z3 := (hD.cell 3).trans (rfl : _ = some (Value.slice none 0 0))
    have z4 := (hD.cell 4).trans (rfl : _ = some (Value.int .i64 0))
    have z5 := (hD.cell 5).trans (rfl : _ = some (Value.slice none 0 0))
    have f0 := hD.froz 0
    have f1 := hD.froz 1
    have f2 := hD.froz 2
    have f3 := hD.froz 3
    have f4 := hD.froz 4
    have f5 := hD.froz 5
    clear hbel h3 h4 h5 hD HAT HN HB3
    go_wp2_with fail
    refine bodyPost_ret (res_Decode _ HF.out.2.1 rfl) rfl ⟨HF.out.1, .inr ⟨m, _, h1, rfl, HF.out.2.2.less (by omega)⟩⟩
end En
end Go.Proofs.YteapnkedpmcokaaGreatDoor
