/- SlLoadP SlOpenP. Conditions: as stated at each. -/
import Derived.Test.YtidadjlhnlmfkaaGreatDoorKt25
import Derived.Test.YtidadjlhnlmfkaaGreatDoorKt36
import Derived.Test.YtidadjlhnlmfkaaGreatDoorKt23
import Derived.Test.YtidadjlhnlmfkaaGreatDoorKt22
/- A log's load over the first segment's file and its spare. Conditions: as stated at each. -/
namespace Go.Proofs.YtidadjlhnlmfkaaGreatDoor
open Go.RowKit Go.Shelf Go Go.Maps
attribute [local go_sem] Oper.semAt_some
theorem EG.sm {w w' : World} {p : Nat → Prop} (h : EG w) (hs : Sm p w w') (hp : p 0) : EG w' := by
  obtain ⟨ev, h1, h2⟩ := h
  exact ⟨ev, hs.cell (a := ⟨0, 0, none⟩) hp h1, h2⟩
theorem Tn.cellq {p : Nat → Prop} {w w' : World} (h : Tn p w w') {b : Nat} (hb : ¬ p b) (hl : b < w.heap.size) {o : Nat} : w'.cell? ⟨b, o, none⟩ = w.cell? ⟨b, o, none⟩ := by
  simp only [World.cell?, h.block b hl hb]
theorem LogS.disk0 {W w' : World} {N Dk k k' L G : Nat} {Ft : Nat → Prop} {F F' : Files} {rm x x' lf lf' : Int} {b b' : Bool} {nm : ByteArray} {sz : Int} {g : List (Nat × Nat)} {dead : Bool} (h : LogS W N Ft Dk k F rm x lf b L G nm sz g dead) (hD : DiskS w' N Ft Dk k' F' rm x' lf' b') (hT : Tn Ft W w') (hk : k ≤ k') : LogS w' N Ft Dk k' F' rm x' lf' b' L G nm sz g dead :=
  ⟨hD, (hT.block L h.ltL h.2.2.2.1).trans h.2.1, (h.2.2.1.same (hT.block G h.ltG h.2.2.2.2)).mono hk, h.2.2.2.1, h.2.2.2.2⟩
theorem delete_S0 (W : World) (N : Nat) (Ft : Nat → Prop) (Dk k : Nat) (F : Files) (s : ByteArray) (rm x lf : Int) (bs : List UInt8) (z : Nat)
    (hS : DiskS W N Ft Dk k F rm x lf false) (hb : nameB s = true) (hf : F s = some (bs, z)) (hx : (bs.length : Int) ≤ x) (hx2 : x ≤ 100000000) (hlf : ¬ 1 ≤ lf) :
    Calls Tryz.prog 53 #[.pointer (some ⟨Dk, 0, none⟩), .string s] W fun e w' => e = .returned (.int .i64 0) ∧ DiskS w' N Ft Dk k (F.upd s none) rm (x - bs.length) lf false ∧ Tn Ft W w' := by
  obtain ⟨M, D, hD, hM, f1, f2, hF⟩ := hS
  obtain ⟨a, c, e1, e2, e3, e4⟩ := hF.2.1 s bs z hf
  refine (delete_zero W Dk M k D s _ x lf a bs.length c z hD hM (nameB_size hb) hb e1 (by omega) (by omega) (by omega) hlf).mono ?_
  rintro e w' ⟨rfl, p1, p2, p3⟩
  have hFi := files_del (s := s) hF hM hD (by decide) p3
  refine ⟨rfl, ⟨M, _, p1, p2, f1, f2, hFi⟩, p3.mono fun i _ hi => ?_⟩
  rcases hi with rfl | rfl
  · exact f1
  · exact f2
set_option maxRecDepth 100000 in
set_option maxHeartbeats 4000000 in
theorem load_P (W : World) (N : Nat) (Ft : Nat → Prop) (Dk k : Nat) (F : Files) (rm x lf : Int) (L G : Nat) (nm : ByteArray) (sz : Int) (bl : List (List UInt8)) (sb : List UInt8) (zs : Nat)
    (h : LogS W N Ft Dk k F rm x lf false L G nm sz [] false) (hlow : Low W Ft) (hE : EG W) (hgE : ¬ OwnL Ft L G 0) (hF : ∀ t, F t ≠ none ↔ t = fileN nm 1 ∨ t = spN nm)
    (hB : ∀ j b, bl[j]? = some b → (∃ z, F (fileN nm (j + 1)) = some (b, z)) ∧ b.length ≤ 1000000 ∧ took (recs b) ≤ b.length ∧ (j + 1 < bl.length → b.length = took (recs b)))
    (h1b : bl.length = 1) (hn : nmOk nm) (hk : k ≤ 100000) (hx2 : x ≤ 10000000) (hlf : ¬ 1 ≤ lf) (hwh : (lastB bl bl.length).length = took (recs (lastB bl bl.length))) (hsp : F (spN nm) = some (sb, zs)) (hsx : (sb.length : Int) ≤ x) :
    CallsIn Fence.wide 5 Tryz.prog 23 #[.pointer (some ⟨L, 0, none⟩)] W fun e w' => e = .returned (.tuple #[]) ∧
      LgPost W N Ft Dk (k + bl.length + 4) (F.upd (spN nm) none) rm (x - sb.length) lf false L G nm sz (gOf bl) false w' := by
  have hm : bl.length ≤ 100000 := by omega
  have h1m : 1 ≤ bl.length := by omega
  have hW0 := hE.lt
  have e73 : ∀ args w, (callFunc 74 args).run Tryz.prog w = .ok (.enter 74 args) w := enters_of Tryz.func74 (by kernel_rfl) rfl
  have hn6 : nm.size ≤ 1000000 := by have := hn.1; omega
  obtain ⟨m0, m1, m2, mT⟩ := three_new W 32 26 3 #[.pointer (some ⟨L, 0, none⟩)] #[.slice none 0 0] #[.int .i64 0] (fun _ => False)
  have mB := three_below W 32 26 3 #[.pointer (some ⟨L, 0, none⟩)] #[.slice none 0 0] #[.int .i64 0]
  have hlL := h.ltL
  have hlG := h.ltG
  have HE := Lib.hid e73
  refine calls_of_wpF Tryz.func23 rfl ?_
  simp only [Tryz.ntmps23, List.size_toArray, List.length_cons, List.length_nil, Nat.reduceAdd, Nat.reduceSub, Array.replicate_succ, Array.replicate_zero, List.push_toArray, List.append_toArray, List.nil_append, List.cons_append]
  refine wpF_seq (n := 5) ?_
  gi_wp2_with fail
  refine wpF_seq (n := 5) ?_
  gi_wp2_with fail
  refine wpF_seq (n := 5) ?_
  gi_wp2_with fail
  generalize hW3 : (((W.alloc (Obj.cells #[Value.pointer (some { block := L, off := 0 })] 32)).alloc (Obj.cells #[Value.slice none 0 0] 26)).alloc (Obj.cells #[Value.int IntKind.i64 0] 3)) = W3 at *
  have z3 : W3.heap.size = W.heap.size + 3 := by rw [← hW3]; simp
  clear hW3
  have c0 := m0.cell 0
  refine wpF_seqF ?_
  refine wpF_seq (n := 5) ?_
  gi_wp2_with fail
  refine ⟨trivial, ?_⟩
  refine (callsIn_wide.2 (files_any W3 L _)).mono ?_
  rintro e W5 ⟨rfl, hW5⟩
  have nB : Below W3.heap.size W3 W5 := by rw [hW5]; exact ((Below.refl _ W3).alloc (Nat.le_refl _) _).alloc (by simp) _
  have n0 : BlkIs W5 W3.heap.size 32 #[.pointer (some ⟨L, 0, none⟩)] := by rw [hW5]; exact (BlkIs.new W3 32 _).alloc _
  have n1 : BlkIs W5 (W3.heap.size + 1) 9 #[.string ⟨#[]⟩] := by
    rw [hW5]
    have := BlkIs.new (W3.alloc (.cells #[.pointer (some ⟨L, 0, none⟩)] 32)) 9 #[.string ⟨#[]⟩]
    rwa [World.size_alloc] at this
  have z5 : W5.heap.size = W.heap.size + 5 := by rw [hW5]; simp; omega
  have B5 : Below W.heap.size W W5 := mB.trans (nB.mono (by omega))
  have h5 := h.below B5
  have i0 : BlkIs W5 W.heap.size 32 _ := (nB.block _ m0.lt).trans m0
  have i1 : BlkIs W5 (W.heap.size + 1) 26 _ := (nB.block _ m1.lt).trans m1
  have i2 : BlkIs W5 (W.heap.size + 2) 3 _ := (nB.block _ m2.lt).trans m2
  clear c0 hW5 m0 m1 m2 mT mB nB
  have T5 : Tn (OwnL Ft L G) W W5 := Tn.of_below B5
  have Z35 := Lib.hid (And.intro z3 z5)
  clear z3 z5
  gi_wp2_with fail
  refine wpF_block ?_
  have i2' : BlkIs W5 (W.heap.size + 1 + 1) 3 #[.int .i64 0] := i2
  clear i2
  have z3 := Z35.out.1
  have z5 := Z35.out.2
  have NB := Lib.hid (And.intro n0 n1)
  have IB := Lib.hid (And.intro i0 (And.intro i1 i2'))
  clear n0 n1 i0 i1 i2'
  obtain ⟨b2, hb2⟩ : ∃ b2, b2 = W.heap.size + 1 + 1 := ⟨_, rfl⟩
  obtain ⟨b1, hb1⟩ : ∃ b1, b1 = W.heap.size + 1 := ⟨_, rfl⟩
  obtain ⟨b0, hb0⟩ : ∃ b0, b0 = W.heap.size := ⟨_, rfl⟩
  obtain ⟨B1, hB1⟩ : ∃ B1, B1 = W3.heap.size + 1 := ⟨_, rfl⟩
  obtain ⟨B0, hB0⟩ : ∃ B0, B0 = W3.heap.size := ⟨_, rfl⟩
  have NB2 : BlkIs W5 B0 32 #[.pointer (some ⟨L, 0, none⟩)] ∧ BlkIs W5 B1 9 #[.string ⟨#[]⟩] := by rw [hB0, hB1]; exact NB.out
  have IB2 : BlkIs W5 b0 32 #[.pointer (some ⟨L, 0, none⟩)] ∧ BlkIs W5 b1 26 #[.slice none 0 0] ∧ BlkIs W5 b2 3 #[.int .i64 0] := by rw [hb0, hb1, hb2]; exact IB.out
  rw [← hb2, ← hb1, ← hB1, ← hB0, ← hb0]
  have ZZ := Lib.hid (And.intro hb0 (And.intro hb1 (And.intro hb2 (And.intro hB0 (And.intro hB1 (And.intro z3 z5))))))
  clear hb0 hb1 hb2 hB0 hB1 z3 z5 NB IB Z35
  have hlast0 : datB (lastB bl 0) = [] := by simp [datB, lastB]
  refine wpF_rangeK (n := 5) Tryz.func23 (S := Nat) (α := Nat) (gf := 74) (lb := #[.pointer (some ⟨B0, 0, none⟩), .pointer (some ⟨B1, 0, none⟩)]) rfl HE.out
    encI (fun _ => rfl) (KpL (pL L G b1 b2) L Dk nm sz G) (fun a b => KpL.trans a b) (fun X l o o' _ hl ho _ => KpL.put hl ho o') (stepL true 1) (finL true 1) 0
    ?seq (LdI W N Ft Dk k F rm x lf L G nm sz bl b0 b1 b2) (fun _ => False) (fun _ _ => False) (fun r X Y h hg => h.grown hg) ?hIp (fun _ _ _ _ h => h.elim) (fun r y r' X l o o' h _ _ _ => h) ?h0
    (fun x => { tmps := #[.pointer (some ⟨L, 0, none⟩), .pointer (some ⟨b0, 0, none⟩), .pointer (some ⟨b1, 0, none⟩), .pointer (some ⟨b2, 0, none⟩), .int .i64 (x : Nat), undef, undef, undef, undef, .pointer (some ⟨L, 0, none⟩), .func (.func 74) #[] #[.pointer (some ⟨B0, 0, none⟩), .pointer (some ⟨B1, 0, none⟩)], .int .i64 (x : Nat), undef, undef, undef, undef, undef, undef, undef, undef, undef, undef, undef, undef, undef, undef, undef, undef, undef, undef, undef, undef, undef, undef, undef, undef, undef, undef, undef, undef, undef, undef, undef, undef, undef, undef, undef, undef, undef, undef, undef, undef, undef, undef, undef, undef, undef, undef, undef, undef, undef, undef, undef, undef, undef, undef, undef, undef, undef, undef, undef, undef, undef], defers := [] }) ?assign ?body ?done ?stop ?pan
  case seq =>
    intro lp J Jx Jp W' hW hJ hY h0
    obtain ⟨e0, e1, e2, e3, e4, e5, e6⟩ := ZZ.out
    have hE5 := hE.below B5
    exact files_seqP 5 (by omega) true W5 B0 B1 L Dk G k N Ft F rm x lf nm sz [] (pL L G b1 b2) NB2.1 NB2.2 h5 (by omega) hn6 hF (by unfold pL; omega) (by unfold pL; omega) (fun i hi => by unfold pL; omega) (fun X hX => hE5.sm hX (by
      have q1 : 0 ≠ L := fun e => hgE (.inr (.inl e))
      have q2 : 0 ≠ G := fun e => hgE (.inr (.inr e))
      unfold pL
      omega)) lp J Jx Jp W' hW hJ hY h0
  case hIp =>
    intro r X l o o' hh hl ho hc
    obtain ⟨e0, e1, e2, e3, e4, e5, e6⟩ := ZZ.out
    exact hh.put hlow hlL hlG (by omega) ho hc o'
  case h0 =>
    refine ⟨h5, IB2.1, ⟨none, 0, 0, IB2.2.1, by rw [hlast0]; rfl, Nat.le_refl _, Nat.zero_le _, by rw [hlast0]; exact ⟨fun j u hj => (by simp [bv] at hj), fun ad e => by cases e⟩⟩, ⟨0, IB2.2.2, ?_⟩, T5⟩
    have : took (recs ([] : List UInt8)) = 0 := Nat.le_zero.1 (took_le [])
    show (0 : Int) = ((lastB bl 0).length : Int) - (took (recs (lastB bl 0)) : Nat)
    have e : lastB bl 0 = [] := rfl
    rw [e, this]
    rfl
  case assign =>
    intro lp y X K' hK'
    unfold encI
    gi_wp2
    exact hK'
  case stop => exact fun _ _ _ h => h.elim
  case pan => exact fun _ _ _ _ h => h.elim
  case body =>
    rintro lp r y r' X ⟨hLg, x0, ⟨A0, n9, c9, x1, hn9, hc9, hc9m, hwb⟩, ⟨v, x2, hv⟩, hT⟩ ⟨_, hrm, hy, rfl⟩
    replace hrm : r < bl.length := by omega
    obtain ⟨b, hb⟩ : ∃ b, bl[r]? = some b := ⟨_, List.getElem?_eq_getElem hrm⟩
    obtain ⟨⟨z, hFb⟩, hbl, htk, _⟩ := hB r b hb
    have hv0 : v = 0 := by
      rw [hv]
      cases r with
      | zero =>
        have : took (recs ([] : List UInt8)) = 0 := Nat.le_zero.1 (took_le [])
        have e : lastB bl 0 = [] := rfl
        rw [e, this]
        rfl
      | succ q =>
        obtain ⟨b', hb'⟩ : ∃ b', bl[q]? = some b' := ⟨_, List.getElem?_eq_getElem (by omega)⟩
        rw [lastB_one hb']
        have := (hB q b' hb').2.2.2 (by omega)
        omega
    subst hv0
    have hr0 := read_there X N Ft Dk (k + r) F rm x lf L G nm sz _ false (r + 1) b z hLg.1 hLg.2.1 (by omega) hn hFb (by omega)
    rw [← hy] at hr0
    have HR := Lib.hid hr0
    have HY := Lib.hid hy
    have HX := Lib.hid (And.intro hLg (And.intro x0 (And.intro x1 (And.intro x2 hT))))
    have c0 := x0.cell 0
    have c2 := x2.cell 0
    have HBR := Lib.hid hb
    clear hr0 hy hLg hn9 hc9 hc9m hwb hv hFb hb NB2 IB2 h5 T5 h hF hB x1
    clear x0 x2
    gi_wp2_with fail
    refine ⟨trivial, CallsIn.inRound lp (callsIn_wide.2 ((need_ok _ _).mono ?_))⟩
    rintro e w' ⟨rfl, rfl⟩
    gi_wp2_with fail
    refine ⟨trivial, CallsIn.inRound lp (callsIn_wide.2 (HR.out.mono ?_))⟩
    rintro e w1 ⟨v1, rfl, ho, hq1⟩
    obtain ⟨A1, c1, rfl, hc1, hc1m⟩ := own_slice ho
    have hall := all_any A1 c1 b w1 ho.bts hc1 hc1m (by omega)
    have HO := Lib.hid ho
    clear ho
    generalize hbn : b.length = n at *
    generalize htn : took (recs b) = tk at *
    have HALL := Lib.hid hall
    clear hall
    gi_wp2_with fail
    refine ⟨trivial, CallsIn.inRound lp (callsIn_wide.2 (HALL.out.mono ?_))⟩
    rintro e w2 ⟨v2, rfl, ⟨vs, ho2, _⟩, hq2⟩
    generalize hrl : (recs b).length = rl at *
    have HRL := Lib.hid hrl
    obtain ⟨A2, cc2, rfl, hc2, hc2m⟩ := own_slice ho2
    have BX2 : Below X.heap.size X w2 := hq1.trans (hq2.mono hq1.size)
    have hLg2 := HX.out.1.below BX2
    have x0 : BlkIs w2 b0 32 _ := (BX2.block _ HX.out.2.1.lt).trans HX.out.2.1
    have x1 : BlkIs w2 b1 26 _ := (BX2.block _ HX.out.2.2.1.lt).trans HX.out.2.2.1
    have x2 : BlkIs w2 b2 3 _ := (BX2.block _ HX.out.2.2.2.1.lt).trans HX.out.2.2.2.1
    have x1c := x1.cell 0
    have x1f := x1.froz 0
    have x2c := x2.cell 0
    have x2f := x2.froz 0
    have hsl := slice_hi A1 n c1 tk htk hc1
    have htn2 : took (recs b) = tk := htn
    rw [htn2]
    obtain ⟨e0, e1, e2, e3, e4, e5, e6⟩ := ZZ.out
    have hXz := HX.out.2.2.2.1.lt
    have hXw := hq1.size
    have HWB : Hid (WB w2 (b2 + 1) A1 (datB b)) := Lib.hid (by
      have hd : datB b = b.take tk := by unfold datB; rw [htn2]
      rw [hd]
      have ho := HO.out
      rw [← hbn] at ho
      refine ⟨((ho.bts.below hq2).more hq2.size).take tk, fun ad e => ?_⟩
      subst e
      have := Own5.blk_lt ho (g := ad.block) rfl
      omega)
    have HL2 : Hid (rl ≤ 1000000) := Lib.hid (by have := recs_len b; rw [hrl] at this; omega)
    have hG2 : G < w2.heap.size := hLg2.ltG
    have qn : ∀ i, OwnL Ft L G i → ¬ (i = b1 ∨ i = b2) := fun i hi e => by
      rcases hi with hi | hi | hi
      · have := hlow _ hi
        omega
      · omega
      · omega
    obtain ⟨wA, hwA⟩ : ∃ wA, wA = w2.setCell ⟨b1, 0, none⟩ (.slice A1 tk c1) := ⟨_, rfl⟩
    obtain ⟨w3, hw3⟩ : ∃ w3, w3 = wA.setCell ⟨b2, 0, none⟩ (.int .i64 ((n : Int) - tk)) := ⟨_, rfl⟩
    have uA : BlkIs wA b2 3 #[.int .i64 0] := by rw [hwA]; exact x2.far (x := ⟨b1, 0, none⟩) (by show b2 ≠ b1; omega) _
    have T3 : Tn (fun i => i = b1 ∨ i = b2) w2 w3 := by
      rw [hw3, hwA]
      exact ((Tn.refl _ w2).setCell (x := ⟨b1, 0, none⟩) (.inl (.inl rfl)) _).setCell (x := ⟨b2, 0, none⟩) (.inl (.inr rfl)) _
    have hLg3 := hLg2.keep T3 qn
    have v0 : BlkIs w3 b0 32 _ := x0.tn T3 (by omega)
    have v1 : BlkIs w3 b1 26 #[.slice A1 tk c1] := by
      rw [hw3, hwA]
      exact (x1.put 0 (.slice A1 tk c1)).far (by show b1 ≠ b2; omega) _
    have v2 : BlkIs w3 b2 3 #[.int .i64 ((n : Int) - tk)] := by
      rw [hw3]
      exact uA.put 0 _
    have hgl : (gOf (bl.take r)).length = r := by rw [gOf_length, List.length_take]; omega
    obtain ⟨w4, hrun, hM4, hg4⟩ := hLg3.2.2.1.put (by unfold maxLen; omega) (y : Int) (by unfold Ok64; have := HY.out; omega) rl tk (fun D h1 h2 => by
      have := segD_push h1 h2 rl tk
      rw [hgl] at this
      rw [HY.out]
      exact this)
    have hone := gOf_one HBR.out
    rw [HRL.out, htn2] at hone
    obtain ⟨w5, hw5⟩ : ∃ w5, w5 = w4.setCell ⟨L, 4, none⟩ (.int .i64 y) := ⟨_, rfl⟩
    have hgl5 : (gOf (bl.take (r + 1))).length = y := by rw [gOf_length, List.length_take, HY.out]; omega
    have hLg5 : LogS w5 N Ft Dk (k + (r + 1)) F rm x lf false L G nm sz (gOf (bl.take (r + 1))) false := by
      have := hLg3.last (g' := gOf (bl.take (r + 1))) hg4 (by rw [hone]; exact hM4) (Nat.le_succ _)
      rw [hgl5] at this
      rw [hw5]
      exact this
    have T4 : Tn (fun i => i = L ∨ i = G ∨ i = b1 ∨ i = b2) w2 w4 := ((T3.mono (fun i _ hi => Or.inr (Or.inr hi))).grown hg4 (fun g e => .inl (.inr (.inl (by injection e with e; exact e.symm)))))
    have T25 : Tn (fun i => i = L ∨ i = G ∨ i = b1 ∨ i = b2) w2 w5 := by
      rw [hw5]
      exact T4.setCell (x := ⟨L, 4, none⟩) (.inl (.inl rfl)) _
    have pq : ∀ i, pL L G b1 b2 i → ¬ (i = L ∨ i = G ∨ i = b1 ∨ i = b2) := fun i hi e => by unfold pL at hi; omega
    have INV : Hid (LdI W N Ft Dk k F rm x lf L G nm sz bl b0 b1 b2 (r + 1) w5) := Lib.hid (by
      have hd : lastB bl (r + 1) = b := lastB_one HBR.out
      have u1 : BlkIs w5 b1 26 #[.slice A1 tk c1] := by
        rw [hw5]
        exact ((v1.grown hg4 (fun e => by injection e with e; omega)).far (by show b1 ≠ L; omega) _)
      have u2 : BlkIs w5 b2 3 #[.int .i64 ((n : Int) - tk)] := by
        rw [hw5]
        exact ((v2.grown hg4 (fun e => by injection e with e; omega)).far (by show b2 ≠ L; omega) _)
      refine ⟨hLg5, x0.tn T25 (by omega), ⟨A1, tk, c1, u1, ?_, by omega, hc1m, ?_⟩, ⟨_, u2, ?_⟩, ?_⟩
      · rw [hd, datB_length b (by omega), htn2]
      · rw [hd]
        exact HWB.out.sm (Sm.of_tn T25 pq) (fun i hi => by unfold pL; omega)
      · rw [hd, htn2, hbn]
      · have ht2 := hT.trans (Tn.of_below BX2)
        have ht3 : Tn (OwnL Ft L G) W w3 := by
          rw [hw3, hwA]
          exact (ht2.setCell (x := ⟨b1, 0, none⟩) (.inr (by show W.heap.size ≤ b1; omega)) _).setCell (x := ⟨b2, 0, none⟩) (.inr (by show W.heap.size ≤ b2; omega)) _
        have ht4 := ht3.grown hg4 (fun g e => .inl (.inr (.inr (by injection e with e; exact e.symm))))
        rw [hw5]
        exact ht4.setCell (x := ⟨L, 4, none⟩) (.inl (.inr (.inl rfl))) _)
    have KF : Hid (KeepsFrom W5.heap.size X w5) := Lib.hid (by
      have k1 : KeepsFrom W5.heap.size X w2 := ⟨BX2.size, fun i o _ hi _ => (BX2.block i (Array.getElem?_eq_some_iff.1 hi).1).trans hi⟩
      have k2 : KeepsFrom W5.heap.size w2 w3 := by
        rw [hw3, hwA]
        exact ((KeepsOthers.setCell _ _ _).from _).trans ((KeepsOthers.setCell _ _ _).from _)
      have k3 : KeepsFrom W5.heap.size w3 w4 := KeepsFrom.of_grownBy hg4 (fun j e => by injection e with e; omega)
      have k4 : KeepsFrom W5.heap.size w4 w5 := by
        rw [hw5]
        exact (KeepsOthers.setCell _ _ _).from _
      exact k1.trans (k2.trans (k3.trans k4)))
    have KP : Hid (KpL (pL L G b1 b2) L Dk nm sz G X w5) := Lib.hid ⟨(Sm.of_below BX2).trans (Sm.of_tn T25 pq), fun _ => ⟨_, hLg5.2.1⟩⟩
    have s0 : w3.cell? ⟨b0, 0, none⟩ = some (.pointer (some ⟨L, 0, none⟩)) := v0.cell 0
    have s3 : w3.cell? ⟨L, 3, none⟩ = some (.map (some G)) := BlkIs.cell hLg3.2.1 3
    have hL4 := BlkIs.grown hLg3.2.1 hg4 (fun e => by injection e with e; exact hLg3.ne e)
    have t0 : w4.cell? ⟨b0, 0, none⟩ = some (.pointer (some ⟨L, 0, none⟩)) := (x0.tn T4 (by omega)).cell 0
    have t4 := BlkIs.cell hL4 4
    have t4f := BlkIs.froz hL4 4
    have uAc := uA.cell 0
    have uAf := uA.froz 0
    unfold segV at hrun
    have hw3' := hw3.symm
    have hwA' := hwA.symm
    have hw5' := hw5.symm
    clear hw3 hwA hw5 hL4 hLg3 hLg5 T3 T4 T25 pq v0 v1 v2 uA hone hM4 hg4 hgl hgl5 qn hG2 e0 e1 e2 e3 e4 e5 e6 hXz hXw ho2 hq1 hq2 BX2 hLg2 x0 x1 x2 HR HALL htn htn2
    gi_wp2_with fail
    exact ⟨KF.out, KP.out, INV.out⟩
  case done =>
    rintro D1 r X hD1 hfin hI hK1
    obtain rfl : r = bl.length := by rw [h1b]; exact hfin rfl
    show WpF Tryz.prog 23 _ _ _ _
    refine wpF_seqF ?_
    refine wpF_seq (n := 5) ?_
    have c0 := hI.2.1.cell 0
    obtain ⟨e0, e1, e2, e3, e4, e5, e6⟩ := ZZ.out
    have hD1l : D1 < X.heap.size := (Array.getElem?_eq_some_iff.1 hK1).1
    have ZD := Lib.hid (show W.heap.size ≤ D1 by omega)
    have HI := Lib.hid hI
    clear e0 e1 e2 e3 e4 e5 e6 NB2 IB2 B5 T5 h5
    gi_wp2_with fail
    refine ⟨trivial, ?_⟩
    refine (callsIn_wide.2 (files_any X L _)).mono ?_
    rintro e X5 ⟨rfl, hX5⟩
    have pB : Below X.heap.size X X5 := by rw [hX5]; exact ((Below.refl _ X).alloc (Nat.le_refl _) _).alloc (by simp) _
    have p0 : BlkIs X5 X.heap.size 32 #[.pointer (some ⟨L, 0, none⟩)] := by rw [hX5]; exact (BlkIs.new X 32 _).alloc _
    have p1 : BlkIs X5 (X.heap.size + 1) 9 #[.string ⟨#[46, 110, 101, 119]⟩] := by
      rw [hX5]
      have := BlkIs.new (X.alloc (.cells #[.pointer (some ⟨L, 0, none⟩)] 32)) 9 #[.string ⟨#[46, 110, 101, 119]⟩]
      rwa [World.size_alloc] at this
    have hI5 : LdI W N Ft Dk k F rm x lf L G nm sz bl b0 b1 b2 bl.length X5 := by
      rw [hX5]
      exact (HI.out.grown (World.grownBy_alloc _ _ none)).grown (World.grownBy_alloc _ _ none)
    have hK15 : X5.heap[D1]? = some (.deferred (some [])) := (pB.block _ hD1l).trans hK1
    have hXs := pB.size
    clear hX5 c0 HI
    gi_wp2_with fail
    refine wpF_block ?_
    obtain ⟨E1, hE1⟩ : ∃ E1, E1 = X.heap.size + 1 := ⟨_, rfl⟩
    obtain ⟨E0, hE0⟩ : ∃ E0, E0 = X.heap.size := ⟨_, rfl⟩
    rw [← hE0] at p0
    rw [← hE1] at p1
    rw [← hE1, ← hE0]
    have ZE := Lib.hid (And.intro hE0 hE1)
    have zW : W.heap.size ≤ X5.heap.size := by have := ZD.out; omega
    clear hE0 hE1
    have noF0 : ∀ i, W.heap.size ≤ i → ¬ Ft i := fun i hi e => by have := hlow i e; omega
    refine wpF_rangeK (n := 5) Tryz.func23 (S := Nat) (α := Nat) (gf := 74) (lb := #[.pointer (some ⟨E0, 0, none⟩), .pointer (some ⟨E1, 0, none⟩)]) rfl HE.out
      encI (fun _ => rfl) (KpL (fun i => ¬ Ft i) L Dk nm sz G) (fun a b => KpL.trans a b) (fun X l o o' _ hl ho _ => KpL.put hl ho o') (stepL true 1) (finL true 1) 0
      ?seq2 (fun r Y => LdI W N Ft Dk k (if r = 0 then F else F.upd (spN nm) none) rm (if r = 0 then x else x - sb.length) lf L G nm sz bl b0 b1 b2 bl.length Y ∧ Y.heap[D1]? = some (.deferred (some []))) (fun _ => False) (fun _ _ => False) (fun r Y Z h hg => ⟨h.1.grown hg, (hg.block _ (Array.getElem?_eq_some_iff.1 h.2).1 (fun e => by cases e)).trans h.2⟩) ?hIp2 (fun _ _ _ _ h => h.elim) (fun r y r' X l o o' h _ _ _ => h) ⟨hI5, hK15⟩
      (fun x => { tmps := #[.pointer (some ⟨L, 0, none⟩), .pointer (some ⟨b0, 0, none⟩), .pointer (some ⟨b1, 0, none⟩), .pointer (some ⟨b2, 0, none⟩), undef, undef, undef, undef, .int .i64 (x : Nat), .pointer (some ⟨L, 0, none⟩), .func (.func 74) #[] #[.pointer (some ⟨B0, 0, none⟩), .pointer (some ⟨B1, 0, none⟩)], undef, undef, undef, undef, undef, undef, undef, undef, undef, undef, undef, undef, undef, undef, undef, undef, undef, undef, undef, undef, undef, undef, undef, undef, undef, undef, undef, undef, undef, undef, undef, undef, .pointer (some ⟨L, 0, none⟩), .func (.func 74) #[] #[.pointer (some ⟨E0, 0, none⟩), .pointer (some ⟨E1, 0, none⟩)], .int .i64 (x : Nat), undef, undef, undef, undef, undef, undef, undef, undef, undef, undef, undef, undef, undef, undef, undef, undef, undef, undef, undef, undef, undef, undef, undef, undef, undef, undef, undef], defers := [] }) ?assign2 ?body2 ?done2 ?stop2 ?pan2
    case seq2 =>
      intro lp J Jx Jp W' hW hJ hY h0
      have hE5 : EG X5 := hE.tn hI5.2.2.2.2 hgE
      have zE := ZE.out
      have hXW := hI.2.2.2.2.size
      exact files_seqP 5 (by omega) false X5 E0 E1 L Dk G (k + bl.length) N Ft F rm x lf nm sz _ (fun i => ¬ Ft i) p0 p1 hI5.1 (by omega) hn6 hF (noF0 _ (by omega)) (noF0 _ (by omega)) (fun i hi => noF0 i (by omega)) (fun Y hY => hE5.sm hY (fun e => hgE (.inl e))) lp J Jx Jp W' hW hJ hY h0
    case hIp2 =>
      rintro r Y l o o' ⟨hh, hk⟩ hl ho hc
      exact ⟨hh.put hlow hlL hlG (by omega) ho hc o', (World.putObj_heap_other (by have := (Array.getElem?_eq_some_iff.1 hK15).1; omega)).trans hk⟩
    case assign2 =>
      intro lp y X K' hK'
      unfold encI
      gi_wp2
      exact hK'
    case stop2 => exact fun _ _ _ h => h.elim
    case pan2 => exact fun _ _ _ _ h => h.elim
    case body2 =>
      rintro lp r y r' X ⟨hI9, hK9⟩ ⟨_, hr0, hy, hr1⟩
      obtain rfl : r = 0 := by omega
      obtain rfl : y = 1 := hy
      obtain rfl : r' = 1 := hr1
      rw [if_pos rfl, if_pos rfl] at hI9
      obtain ⟨hLg, x0, ⟨A, n, c, x1, hn9, hc9, hcm, hwb⟩, ⟨v, x2, hv⟩, hT⟩ := hI9
      have hA : Below X.heap.size X X.drew := (Below.refl _ X).drew
      have hLd := hLg.below hA
      have y0 : X.drew.cell? ⟨b0, 0, none⟩ = some (.pointer (some ⟨L, 0, none⟩)) := x0.cell 0
      have yL : X.drew.cell? ⟨L, 0, none⟩ = some (.pointer (some ⟨Dk, 0, none⟩)) := BlkIs.cell hLg.2.1 0
      have hlfi := lfile_any X.drew L Dk nm sz G _ false 1 hLd.2.1 (by omega) hn6
      have hfs := fileN_size nm 1
      have hcat : ¬ 9223372036854775807 < (fileN nm 1).size + 4 := by omega
      have hlL9 := hLg.ltL
      have hb09 := x0.lt
      have hspb : nameB (fileN nm 1 ++ (⟨#[46, 110, 101, 119]⟩ : ByteArray)) = true := nameB_spare hn 1
      have HDEL : Hid (∀ w, Below X.drew.heap.size X.drew w → Calls Tryz.prog 53 #[.pointer (some ⟨Dk, 0, none⟩), .string (fileN nm 1 ++ ⟨#[46, 110, 101, 119]⟩)] w fun e w' => e = .returned (.int .i64 0) ∧ DiskS w' N Ft Dk (k + bl.length) (F.upd (spN nm) none) rm (x - sb.length) lf false ∧ Tn Ft w w') := Lib.hid fun w hw =>
        delete_S0 w N Ft Dk (k + bl.length) F (spN nm) rm x lf sb zs (hLd.below hw).1 hspb hsp hsx (by omega) (by omega)
      have HLFI := Lib.hid hlfi
      have zZ := ZZ.out
      have zW9 := hT.size
      have noL : ¬ Ft L := hLg.2.2.2.1
      have n0 : ¬ Ft b0 := noF0 _ (by omega)
      have n1 : ¬ Ft b1 := noF0 _ (by omega)
      have n2 : ¬ Ft b2 := noF0 _ (by omega)
      have FIN : Hid (∀ w1 w2, Below X.drew.heap.size X.drew w1 → DiskS w2 N Ft Dk (k + bl.length) (F.upd (spN nm) none) rm (x - sb.length) lf false → Tn Ft w1 w2 → KeepsFrom X5.heap.size X w2 ∧ KpL (fun i => ¬ Ft i) L Dk nm sz G X w2 ∧ LdI W N Ft Dk k (if 1 = 0 then F else F.upd (spN nm) none) rm (if 1 = 0 then x else x - sb.length) lf L G nm sz bl b0 b1 b2 bl.length w2 ∧ w2.heap[D1]? = some (.deferred (some []))) := Lib.hid (by
        intro w1 w2 hb1 hD hTd
        rw [if_neg (by decide), if_neg (by decide)]
        have hB1 : Below X.heap.size X w1 := hA.trans hb1
        have hT2 : Tn Ft X w2 := (Tn.of_below hB1).trans hTd
        have hL2 := (hLg.below hB1).disk0 hD hTd (Nat.le_refl _)
        have hz2 := hT2.size
        refine ⟨⟨hz2, fun i o hi ho _ => ?_⟩, ⟨Sm.of_tn hT2 (fun i hi => hi), fun _ => ⟨_, hL2.2.1⟩⟩, ⟨hL2, x0.tn hT2 n0, ⟨A, n, c, x1.tn hT2 n1, hn9, hc9, hcm, hwb.sm (Sm.of_tn (p := fun i => ¬ Ft i) hT2 (fun i hi => hi)) (fun i hi => noF0 i (by omega))⟩, ⟨v, x2.tn hT2 n2, hv⟩, hT.trans (OwnL.of hT2)⟩, ?_⟩
        · exact (hT2.block i (Array.getElem?_eq_some_iff.1 ho).1 (noF0 i (by omega))).trans ho
        · exact (hT2.block D1 (Array.getElem?_eq_some_iff.1 hK9).1 (noF0 _ (by have := ZD.out; omega))).trans hK9)
      clear hLg x0 x1 hn9 hc9 hcm hwb x2 hv hT hLd hlfi hK9 hI5 p0 p1 hK15 hF hB zZ zW9 hfs
      gi_wp2_with fail
      refine regionIn_held_drew (S := (fun Y => Y.cell? ⟨b0, 0, none⟩ = some (.pointer (some ⟨L, 0, none⟩)) ∧ Y.cell? ⟨L, 0, none⟩ = some (.pointer (some ⟨Dk, 0, none⟩)))) (Wide.round _ _ _) (by kernel_rfl) (by kernel_rfl) (⟨y0, yL⟩) (fun hHeld => ?_)
      refine wpAnyH_take (i := 0) (v := .pointer (some ⟨L, 0, none⟩)) rfl (by kernel_rfl) (by kernel_rfl) (by kernel_rfl) (fun _ _ _ h => h) (Or.inl ⟨by rfl, fun w hS => by obtain ⟨s1, s2⟩ := hS; (first | (go_simp; done) | (go_simp; with_reducible rfl))⟩) hHeld ?_
      try simp only [Act.put, List.getElem_toArray, List.getElem_cons_zero, List.setIfInBounds_toArray, List.set_cons_zero, List.set_cons_succ]
      refine wpAnyH_take (i := 1) (v := .pointer (some ⟨L, 0, none⟩)) rfl (by kernel_rfl) (by kernel_rfl) (by kernel_rfl) (fun _ _ _ h => h) (Or.inl ⟨by rfl, fun w hS => by first | (go_simp; done) | (go_simp; with_reducible rfl)⟩) hHeld ?_
      try simp only [Act.put, List.getElem_toArray, List.getElem_cons_zero, List.getElem_cons_succ, List.setIfInBounds_toArray, List.set_cons_zero, List.set_cons_succ]
      refine wpAnyH_take (i := 2) (v := .pointer (some ⟨L, 0, none⟩)) rfl (by kernel_rfl) (by kernel_rfl) (by kernel_rfl) (fun _ _ _ h => h) (Or.inl ⟨by rfl, fun w hS => by first | (go_simp; done) | (go_simp; with_reducible rfl)⟩) hHeld ?_
      try simp only [Act.put, List.getElem_toArray, List.getElem_cons_zero, List.getElem_cons_succ, List.setIfInBounds_toArray, List.set_cons_zero, List.set_cons_succ]
      refine wpAnyH_take (i := 3) (v := .pointer (some ⟨Dk, 0, none⟩)) rfl (by kernel_rfl) (by kernel_rfl) (by kernel_rfl) (fun _ _ _ h => h) (Or.inl ⟨by rfl, fun w hS => by obtain ⟨s1, s2⟩ := hS; (first | (go_simp; done) | (go_simp; with_reducible rfl))⟩) hHeld ?_
      try simp only [Act.put, List.getElem_toArray, List.getElem_cons_zero, List.getElem_cons_succ, List.setIfInBounds_toArray, List.set_cons_zero, List.set_cons_succ]
      refine wpAnyH_take (i := 4) (v := .pointer (some ⟨L, 0, none⟩)) rfl (by kernel_rfl) (by kernel_rfl) (by kernel_rfl) (fun _ _ _ h => h) (Or.inl ⟨by rfl, fun w hS => by obtain ⟨s1, s2⟩ := hS; (first | (go_simp; done) | (go_simp; with_reducible rfl))⟩) hHeld ?_
      try simp only [Act.put, List.getElem_toArray, List.getElem_cons_zero, List.getElem_cons_succ, List.setIfInBounds_toArray, List.set_cons_zero, List.set_cons_succ]
      refine wpAnyH_take (i := 5) (v := .int .i64 ((1 : Nat) : Int)) rfl (by kernel_rfl) (by kernel_rfl) (by kernel_rfl) (fun _ _ _ h => h) (Or.inl ⟨by rfl, fun w hS => by first | (go_simp; done) | (go_simp; with_reducible rfl)⟩) hHeld ?_
      try simp only [Act.put, List.getElem_toArray, List.getElem_cons_zero, List.getElem_cons_succ, List.setIfInBounds_toArray, List.set_cons_zero, List.set_cons_succ]
      refine wpAnyH_ready (rs := [6]) (by kernel_rfl) (by simp) ?_
      refine AllReadyH.cons rfl (fun K hK => ?_) AllReadyH.nil
      go_simp
      go_wp2_with ((refine HLFI.out.mono ?_; rintro e w1 ⟨rfl, hb1⟩))
      refine hK.out _ _ ?_ (fun hHeld => ?_)
      · exact ⟨(hb1.cell (p := ⟨b0, 0, none⟩) hb09).trans y0, (hb1.cell (p := ⟨L, 0, none⟩) hlL9).trans yL⟩
      clear hK K
      try simp only [Act.put, List.getElem_toArray, List.getElem_cons_zero, List.getElem_cons_succ, List.setIfInBounds_toArray, List.set_cons_zero, List.set_cons_succ]
      refine wpAnyH_take (i := 7) (v := .string (fileN nm 1 ++ ⟨#[46, 110, 101, 119]⟩)) rfl (by kernel_rfl) (by kernel_rfl) (by kernel_rfl) (fun _ _ _ h => h) (Or.inl ⟨by rfl, fun w hS => by first | (go_simp; done) | (go_simp; with_reducible rfl)⟩) hHeld ?_
      try simp only [Act.put, List.getElem_toArray, List.getElem_cons_zero, List.getElem_cons_succ, List.setIfInBounds_toArray, List.set_cons_zero, List.set_cons_succ]
      refine wpAnyH_ready (rs := [8]) (by kernel_rfl) (by simp) ?_
      refine AllReadyH.cons rfl (fun K hK => ?_) AllReadyH.nil
      go_simp
      go_wp2_with ((refine (HDEL.out w1 hb1).mono ?_; rintro e w2 ⟨rfl, hD2, hT2⟩))
      refine hK.out _ _ ?_ (fun hHeld => ?_)
      · exact ⟨by (rw [((Tn.of_below hb1).trans hT2).cellq n0 hb09]; exact y0), by (rw [((Tn.of_below hb1).trans hT2).cellq noL hlL9]; exact yL)⟩
      clear hK K
      try simp only [Act.put, List.getElem_toArray, List.getElem_cons_zero, List.getElem_cons_succ, List.setIfInBounds_toArray, List.set_cons_zero, List.set_cons_succ]
      refine wpAnyH_ready (rs := [9]) (by kernel_rfl) (by simp) ?_
      refine AllReadyH.cons rfl (fun K hK => ?_) AllReadyH.nil
      go_simp
      go_wp2_with ((refine (must_ok _).mono ?_; rintro e w3 ⟨rfl, rfl⟩))
      refine hK.out _ _ ?_ (fun hHeld => ?_)
      · exact hHeld
      clear hK K
      try simp only [Act.put, List.getElem_toArray, List.getElem_cons_zero, List.getElem_cons_succ, List.setIfInBounds_toArray, List.set_cons_zero, List.set_cons_succ]
      refine wpAnyH_done (by kernel_rfl) (NormalAt.mk ?_) _
      have hfin9 := FIN.out w1 w2 hb1 hD2 hT2
      have HF9 := Lib.hid hfin9
      clear hfin9 FIN HDEL HLFI
      gi_wp2_with fail
      exact HF9.out
    case done2 =>
      rintro D2 r2 Y hD2 hfin2 ⟨hI, yk1⟩ hK2
      obtain rfl : r2 = 1 := hfin2 rfl
      rw [if_neg (by decide), if_neg (by decide)] at hI
      show WpF Tryz.prog 23 _ _ _ _
      obtain ⟨hLg, x0, ⟨A, n, c, x1, hn9, hc9, hcm, hwb⟩, ⟨v, x2, hv⟩, hT⟩ := hI
      rw [List.take_length] at hLg
      have d1 : D1 < X5.heap.size := (Array.getElem?_eq_some_iff.1 hK15).1
      have d2 : D2 < Y.heap.size := (Array.getElem?_eq_some_iff.1 hK2).1
      have ZF := Lib.hid (And.intro d1 (And.intro d2 hD2))
      refine wpF_of (n := 5) ?_
      have c0 := x0.cell 0
      have c4 : Y.cell? ⟨L, 4, none⟩ = some (.int .i64 bl.length) := by have := BlkIs.cell hLg.2.1 4; rw [gOf_length] at this; exact this
      have cv := x2.cell 0
      have c1 := x1.cell 0
      obtain ⟨ml, hml⟩ : ∃ ml, ml = bl.length := ⟨_, rfl⟩
      rw [← hml] at c4
      have hz : ((ml : Int) == 0) = false := by rw [beq_eq_false_iff_ne]; omega
      obtain ⟨b, hb⟩ : ∃ b, bl[bl.length - 1]? = some b := ⟨_, List.getElem?_eq_getElem (by omega)⟩
      have hlb : lastB bl bl.length = b := by
        have := lastB_one hb
        rwa [show bl.length - 1 + 1 = bl.length by omega] at this
      obtain ⟨⟨zf, hFb⟩, hbl, htk, _⟩ := hB _ b hb
      rw [show bl.length - 1 + 1 = bl.length by omega] at hFb
      have HLB := Lib.hid hlb
      rw [hlb] at hv hn9 hwb
      have hdl := datB_length b htk
      have HF1 := Lib.hid hFb
      have HML := Lib.hid hml
      have HV := Lib.hid (And.intro hv (And.intro hn9 (And.intro hdl htk)))
      have HLG := Lib.hid hLg
      have HC := Lib.hid (And.intro x0 (And.intro x1 x2))
      have HW := Lib.hid (And.intro hc9 (And.intro hcm hwb))
      have HK := Lib.hid (And.intro yk1 hK2)
      have HTT := Lib.hid hT
      have HBL := Lib.hid hbl
      clear hFb hml hn9 hdl htk hLg x0 x1 x2 hc9 hcm hwb yk1 hK2 hT hb hlb hI5 p0 p1 hK15 hK1 d1 d2 hbl
      have hTY := HTT.out.size
      have zD := ZD.out
      have zF := ZF.out
      have hXY : X5.heap.size ≤ D2 := zF.2.2
      have noF : ∀ i, W.heap.size ≤ i → ¬ Ft i := fun i hi e => by have := hlow i e; omega
      have hD1Y : D1 < Y.heap.size := (Array.getElem?_eq_some_iff.1 HK.out.1).1
      · have hv0 : v = 0 := by have := HV.out; rw [HLB.out] at hwh; omega
        subst hv0
        clear hv
        gi_wp2_with fail
        refine ⟨by simp, .inl ⟨_, _, rfl, run_takeDeferred HK.out.2, ?_⟩⟩
        refine ⟨by simp, .inl ⟨_, _, rfl, run_takeDeferred ((World.putObj_heap_other (by omega)).trans HK.out.1), ?_⟩⟩
        refine ⟨_, results_none rfl _ _ _, rfl, ?_⟩
        exact load_end hlow h.2.2.2.1 hlL h.2.2.2.2 hlG (HLG.out.more (fun i hi => .inl hi) (by omega) (newFt_not h.2.2.2.1 (by omega)) (newFt_not h.2.2.2.2 (by omega))) HTT.out (Tn.refl Ft Y) (by omega) hD1Y (by omega) zF.2.1
end Go.Proofs.YtidadjlhnlmfkaaGreatDoor
/- seglog.Open over the first segment's file and its spare. Conditions: as stated at each. -/
namespace Go.Proofs.YtidadjlhnlmfkaaGreatDoor
open Go.RowKit Go.Shelf Go Go.Maps
/-- behind Open: the spare is gone. -/
def OpenPQ (W : World) (N : Nat) (Ft : Nat → Prop) (Dk k : Nat) (F : Files) (rm x lf : Int) (nm : ByteArray) (sz : Int) (bl : List (List UInt8)) (sb : List UInt8) (e : Ending) (w' : World) : Prop :=
  ∃ L G Ft', e = .returned (.tuple #[.pointer (some ⟨L, 0, none⟩), .int .i64 0]) ∧ LogS w' N Ft' Dk (k + bl.length + 4) (F.upd (spN nm) none) rm (x - sb.length) lf false L G nm sz (gOf bl) false ∧
    Low w' Ft' ∧ (∀ i, i < W.heap.size → Ft' i → Ft i) ∧ W.heap.size ≤ L ∧ W.heap.size ≤ G ∧ Tn Ft W w'
set_option maxRecDepth 20000 in
set_option maxHeartbeats 2000000 in
theorem open_P (W : World) (N : Nat) (Ft : Nat → Prop) (Dk k : Nat) (F : Files) (rm x lf : Int) (nm : ByteArray) (sz : Int) (bl : List (List UInt8)) (sb : List UInt8) (zs : Nat)
    (hS : DiskS W N Ft Dk k F rm x lf false) (hlow : Low W Ft) (hE : EG W) (hgE : ¬ Ft 0) (hF : ∀ t, F t ≠ none ↔ t = fileN nm 1 ∨ t = spN nm)
    (hB : ∀ j b, bl[j]? = some b → (∃ z, F (fileN nm (j + 1)) = some (b, z)) ∧ b.length ≤ 1000000 ∧ took (recs b) ≤ b.length ∧ (j + 1 < bl.length → b.length = took (recs b)))
    (h1b : bl.length = 1) (hn : nmOk nm) (hsz : 1 ≤ sz) (hk : k ≤ 100000) (hx2 : x ≤ 10000000) (hlf : ¬ 1 ≤ lf) (hwh : (lastB bl bl.length).length = took (recs (lastB bl bl.length))) (hsp : F (spN nm) = some (sb, zs)) (hsx : (sb.length : Int) ≤ x) :
    Calls Tryz.prog 9 #[.pointer (some ⟨Dk, 0, none⟩), .string nm, .int .i64 sz] W fun e w' => OpenPQ W N Ft Dk k F rm x lf nm sz bl sb e w' := by
  have hW0 := hE.lt
  have hmm := @run_makeMap Tryz.prog
  have hmf : ∀ (fn : Go.Fn) (first cap : Array Value) (w : World), (Instr.makeFunc fn first cap).run Tryz.prog w = .ok (.func fn first cap) w := fun _ _ _ _ => rfl
  have hen : ∀ args w, (callFunc 23 args).run Tryz.prog w = .ok (.enter 23 args) w := enters_of Tryz.func23 (by kernel_rfl) rfl
  have hn6 : nm.size ≤ 1000000 := by have := hn.1; omega
  have hfile : ∀ w, Calls Tryz.prog 19 #[.string nm, .int .i64 1] w fun e w' => e = .returned (.string (fileN nm 1)) ∧ Below w.heap.size w w' := fun w => file_any w nm 1 (by omega) hn6
  have hs1 := fileN_size nm 1
  have hs2 : (fileN nm 1 ++ spareB).size = nm.size + 11 := by rw [ByteArray.size_append, hs1]; rfl
  have hnm1 : ∀ w, Calls Tryz.prog 21 #[.string (fileN nm 1)] w fun e w' => e = .returned (.bool true) ∧ w = w' := fun w => by
    have := diskName_any (fileN nm 1) w (by unfold maxLen; omega)
    rwa [nameB_fileN hn 1] at this
  have hnm2 : ∀ w, Calls Tryz.prog 21 #[.string (fileN nm 1 ++ spareB)] w fun e w' => e = .returned (.bool true) ∧ w = w' := fun w => by
    have := diskName_any (fileN nm 1 ++ spareB) w (by unfold maxLen; omega)
    rwa [nameB_spare hn 1] at this
  have hcat : ¬ 9223372036854775807 < (fileN nm 1).size + 4 := by omega
  have hd := down_S W N Ft Dk k F rm x lf false hS
  unfold spareB at hnm2
  clear hs1 hs2
  have HFF := Lib.hid (And.intro hF hB)
  go_enter Tryz.func9, Tryz.ntmps9
  have hfileB := hfile
  go_wp2_with (first
    | (go_at_call 20; refine hd.mono ?_; rintro e w' ⟨rfl, rfl⟩)
    | (go_at_call 19; refine (hfile _).mono ?_; clear hfile; rintro e w1 ⟨rfl, hb1⟩)
    | (go_at_call 19; refine (hfileB _).mono ?_; clear hfileB; rintro e w2 ⟨rfl, hb2⟩)
    | (go_at_call 21; refine (hnm1 _).mono ?_; clear hnm1; rintro e w' ⟨rfl, rfl⟩)
    | (go_at_call 21; refine (hnm2 _).mono ?_; clear hnm2; rintro e w' ⟨rfl, rfl⟩))
  have B2 : Below W.heap.size W w2 := hb1.trans (hb2.mono hb1.size)
  have z2 := B2.size
  have hL0 := BlkIs.new (w2.alloc (.map #[] 0)) 59 #[.pointer (some ⟨Dk, 0, none⟩), .string nm, .int .i64 sz, .map (some w2.heap.size), .int .i64 0, .bool false]
  rw [World.size_alloc] at hL0
  have hM0 : Held ((w2.alloc (.map #[] 0)).alloc (.cells #[.pointer (some ⟨Dk, 0, none⟩), .string nm, .int .i64 sz, .map (some w2.heap.size), .int .i64 0, .bool false] 59)) Tryz.prog 3 w2.heap.size 0 (.map []) := World.ownsMap.alloc (World.ownsMap_made w2 Tryz.prog 3 rh) _
  have B4 : Below W.heap.size W ((w2.alloc (.map #[] 0)).alloc (.cells #[.pointer (some ⟨Dk, 0, none⟩), .string nm, .int .i64 sz, .map (some w2.heap.size), .int .i64 0, .bool false] 59)) := (B2.alloc z2 _).alloc (by simp; omega) _
  have z4 : ((w2.alloc (.map #[] 0)).alloc (.cells #[.pointer (some ⟨Dk, 0, none⟩), .string nm, .int .i64 sz, .map (some w2.heap.size), .int .i64 0, .bool false] 59)).heap.size = w2.heap.size + 2 := by simp
  generalize ((w2.alloc (.map #[] 0)).alloc (.cells #[.pointer (some ⟨Dk, 0, none⟩), .string nm, .int .i64 sz, .map (some w2.heap.size), .int .i64 0, .bool false] 59)) = W4 at *
  have hLog : LogS W4 N Ft Dk k F rm x lf false (w2.heap.size + 1) w2.heap.size nm sz [] false :=
    ⟨hS.below B4, hL0, ⟨_, World.ownsMap.mono hM0 (Nat.zero_le _), segD_nil⟩, fun e => by have := hlow _ e; omega, fun e => by have := hlow _ e; omega⟩
  have B5 : Below W4.heap.size W4 (W4.alloc (.cells #[.int .i64 0] 33)) := (Below.refl _ W4).alloc (Nat.le_refl _) _
  have n5 := BlkIs.new W4 33 #[.int .i64 0]
  have hload := callsIn_wide.1 (load_P (W4.alloc (.cells #[.int .i64 0] 33)) N Ft Dk k F rm x lf (w2.heap.size + 1) w2.heap.size nm sz bl sb zs (hLog.below B5) (hlow.up (by have := B4.size; have := B5.size; omega)) ((hE.below B4).below (B5.mono (Nat.le_refl _))) (fun e => by
    rcases e with e | e | e
    · exact hgE e
    · omega
    · omega) hF hB h1b hn hk hx2 (by omega) hwh hsp hsx)
  have hcall := Lib.hid (call_m 23 (.pointer (some ⟨w2.heap.size + 1, 0, none⟩)) W4 (w2.heap.size + 1) Dk nm sz w2.heap.size 0 (fun y w' => y = 0 ∧ LgPost (W4.alloc (.cells #[.int .i64 0] 33)) N Ft Dk (k + bl.length + 4) (F.upd (spN nm) none) rm (x - sb.length) lf false (w2.heap.size + 1) w2.heap.size nm sz (gOf bl) false w') hL0 (hen _) (fun w' hq => absurd hq.1 (by decide)) (hload.mono (by
    rintro e w' ⟨rfl, hq⟩
    refine ⟨n5.tn hq.2 (fun e => ?_), .inl ⟨rfl, rfl, hq⟩⟩
    rcases e with e | e | e
    · have := hlow _ e
      omega
    · omega
    · omega)))
  clear hload
  refine hcall.out.mono ?_
  rintro e w' ⟨y, rfl, ⟨_, rfl, hq⟩ | ⟨rfl, w1, ⟨hy, _⟩, _⟩⟩
  · have HQ := Lib.hid hq
    clear hq hcall
    go_wp2_with fail
    go_ret2
    have hs5 := B5.size
    refine ⟨_, _, NewFt Ft (W4.alloc (.cells #[.int .i64 0] 33)) w', rfl, HQ.out.1, (hlow.up (by omega)).new HQ.out.2.size, fun i hi e => e.elim id (fun e => by omega), by omega, by omega, ?_⟩
    refine Tn.from_new (B4.trans (B5.mono B4.size)) HQ.out.2 (fun i hi e => ?_)
    rcases e with e | rfl | rfl
    · exact e
    · omega
    · omega
  · exact absurd hy (by decide)
end Go.Proofs.YtidadjlhnlmfkaaGreatDoor
