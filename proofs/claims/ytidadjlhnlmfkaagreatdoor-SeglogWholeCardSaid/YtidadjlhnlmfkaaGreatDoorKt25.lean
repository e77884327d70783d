/- SlLoadS SlOpen. Conditions: as stated at each. -/
import Derived.Test.YtidadjlhnlmfkaaGreatDoorKt23
import Derived.Test.YtidadjlhnlmfkaaGreatDoorKt24
import Derived.Test.YtidadjlhnlmfkaaGreatDoorKt06
import Derived.Test.YtidadjlhnlmfkaaGreatDoorKt21
/- A log's load over a disk with files. Conditions: as stated at each. -/
namespace Go.Proofs.YtidadjlhnlmfkaaGreatDoor
open Go.RowKit Go.Shelf Go Go.Maps
attribute [local go_sem] Oper.semAt_some
theorem wpF_seqF {P : Program} {f : FuncId} {x y : Code} {Q : Exit → Act → World → Prop} {a : Act} {w : World} (h : WpF P f x (Exit.then (WpF P f y Q) Q) a w) : WpF P f (.seq x y) Q a w := by
  intro b k cs hro hb
  have s0 : StepsIn (Machine.fenced P Fence.wide) P (lone (b.atR a (.code (.seq x y) :: k)) cs w) (lone (b.atR a (.code x :: .code y :: k)) cs w) := StepsIn.one (calmW (b.atR a (.code (.seq x y) :: k)) cs w rfl) (stepR_seq (P := P))
  obtain ⟨e, a1, w1, hq, ha⟩ := h b (.code y :: k) cs hro hb
  cases e
  case normal =>
    obtain ⟨e2, a2, w2, hq2, ha2⟩ := hq b k cs hro hb
    exact ⟨e2, a2, w2, hq2, .of_steps (s0.trans ha) ha2⟩
  all_goals exact ⟨_, a1, w1, hq, .of_steps s0 (.pass (x := .code y) rfl (fun _ _ => .inl (by simp)) ha)⟩
/-- a file's row in the log's map. -/
def gOf (bl : List (List UInt8)) : List (Nat × Nat) := bl.map fun b => ((recs b).length, took (recs b))
/-- the last of the first r files. -/
def lastB (bl : List (List UInt8)) (r : Nat) : List UInt8 := (bl.take r).getLast?.getD []
/-- what is whole of it. -/
def datB (b : List UInt8) : List UInt8 := b.take (took (recs b))
theorem gOf_length (bl : List (List UInt8)) : (gOf bl).length = bl.length := by simp [gOf]
theorem take_one {bl : List (List UInt8)} {r : Nat} {b : List UInt8} (h : bl[r]? = some b) : bl.take (r + 1) = bl.take r ++ [b] := by
  rw [List.take_add_one, h]; rfl
theorem gOf_one {bl : List (List UInt8)} {r : Nat} {b : List UInt8} (h : bl[r]? = some b) : gOf (bl.take (r + 1)) = gOf (bl.take r) ++ [((recs b).length, took (recs b))] := by
  rw [take_one h]; simp [gOf]
theorem lastB_one {bl : List (List UInt8)} {r : Nat} {b : List UInt8} (h : bl[r]? = some b) : lastB bl (r + 1) = b := by
  unfold lastB; rw [take_one h]; simp
theorem datB_length (b : List UInt8) (h : took (recs b) ≤ b.length) : (datB b).length = took (recs b) := by
  unfold datB; rw [List.length_take]; omega
theorem slice_hi (A : Option Addr) (n c k : Nat) (hk : k ≤ n) (hc : n ≤ c) (w' : World) : (Instr.slice 26 (.slice A n c) none (some (.int .i64 k)) none).run Tryz.prog w' = .ok (.slice A k c) w' := by
  obtain ⟨i, hi, hz, h0, h1⟩ := info_parts info5
  have e1 : (k : Int) ≤ (c : Int) := by omega
  have e2 : k ≤ c := by omega
  simp [Instr.slice, run_underlying Tryz.underlying26, Instr.sliceBounds, Instr.sliceBound, asIntOf, Sem.run_bind, e2, sizeOf, typeInfo, hi, add_0]
/-- bytes in blocks from Z on. -/
def WB (X : World) (Z : Nat) (A : Option Addr) (l : List UInt8) : Prop := Bts X X.heap.size A l ∧ ∀ ad, A = some ad → Z ≤ ad.block
theorem WB.sm {X Y : World} {Z : Nat} {A : Option Addr} {l : List UInt8} (h : WB X Z A l) {p : Nat → Prop} (hs : Sm p X Y) (hp : ∀ k, Z ≤ k → p k) : WB Y Z A l := by
  refine ⟨fun j u hj => ?_, h.2⟩
  obtain ⟨ad, e, h1, h2⟩ := h.1 j u hj
  refine ⟨ad, e, Nat.lt_of_lt_of_le h1 hs.1, hs.cell ?_ h2⟩
  have e2 : (ad.add j).block = ad.block := by unfold Addr.add; split <;> rfl
  rw [e2]
  exact hp _ (h.2 ad e)
theorem WB.bts {X W' w' : World} {Z : Nat} {A : Option Addr} {l : List UInt8} {Ft : Nat → Prop} (h : WB X Z A l) (hb : Below X.heap.size X W') (hT : Tn (UpFt Ft W'.heap.size) W' w') (hF : ∀ i, Ft i → i < Z) : Bts w' w'.heap.size A l := fun j u hj => by
  obtain ⟨ad, e, h1, h2⟩ := h.1 j u hj
  have h3 := h.2 ad e
  have e2 : (ad.add j).block = ad.block := by unfold Addr.add; split <;> rfl
  have h4 : W'.cell? (ad.add j) = some u := (hb.cell (p := ad.add j) (by rw [e2]; exact h1)).trans h2
  refine ⟨ad, e, Nat.lt_of_lt_of_le h1 (Nat.le_trans hb.size hT.size), ?_⟩
  rw [← h4]
  have hz := hb.size
  have := hT.block ad.block (by omega) (fun hu => by
    rcases hu with hu | hu
    · have := hF _ hu
      omega
    · omega)
  unfold World.cell?
  rw [e2, this]
/-- behind r files: what the log and the boxes hold. -/
def LdI (W : World) (N : Nat) (Ft : Nat → Prop) (Dk k : Nat) (F : Files) (rm x lf : Int) (L G : Nat) (nm : ByteArray) (sz : Int) (bl : List (List UInt8)) (b0 b1 b2 : Nat) (r : Nat) (X : World) : Prop :=
  LogS X N Ft Dk (k + r) F rm x lf false L G nm sz (gOf (bl.take r)) false ∧ BlkIs X b0 32 #[.pointer (some ⟨L, 0, none⟩)] ∧
    (∃ A n c, BlkIs X b1 26 #[.slice A n c] ∧ n = (datB (lastB bl r)).length ∧ n ≤ c ∧ c ≤ maxLen ∧ WB X (b2 + 1) A (datB (lastB bl r))) ∧
    (∃ v : Int, BlkIs X b2 3 #[.int .i64 v] ∧ v = (lastB bl r).length - (took (recs (lastB bl r)) : Nat)) ∧ Tn (OwnL Ft L G) W X
def pL (L G b1 b2 : Nat) (k : Nat) : Prop := k ≠ L ∧ k ≠ G ∧ k ≠ b1 ∧ k ≠ b2
theorem KpL.put {p : Nat → Prop} {L Dk : Nat} {nm : ByteArray} {sz : Int} {G : Nat} {X : World} {l : Nat} {o : Obj} (hl : X.heap[l]? = some o) (ho : o.isCells = false) (o' : Obj) : KpL p L Dk nm sz G X (X.putObj l o') :=
  ⟨Sm.put hl ho o', fun ⟨la, hla⟩ => ⟨la, (Sm.put (p := fun _ => True) hl ho o').blk hla trivial⟩⟩
section
variable {W : World} {N : Nat} {Ft : Nat → Prop} {Dk k : Nat} {F : Files} {rm x lf : Int} {L G : Nat} {nm : ByteArray} {sz : Int} {bl : List (List UInt8)} {b0 b1 b2 r : Nat} {X Y : World}
theorem LdI.grown (h : LdI W N Ft Dk k F rm x lf L G nm sz bl b0 b1 b2 r X) (hg : X.grownBy Y none) : LdI W N Ft Dk k F rm x lf L G nm sz bl b0 b1 b2 r Y := by
  obtain ⟨h1, h2, ⟨A, n, c, h3, h4, h5, h6, h7⟩, ⟨v, h8, h9⟩, h10⟩ := h
  have hB : Below X.heap.size X Y := (Below.refl _ X).grown hg (Nat.le_refl _) (fun k e => by cases e)
  exact ⟨h1.below hB, h2.grown hg (by simp), ⟨A, n, c, h3.grown hg (by simp), h4, h5, h6, h7.sm (Sm.of_below (p := fun _ => True) hB) (fun _ _ => trivial)⟩, ⟨v, h8.grown hg (by simp), h9⟩, h10.grown hg (fun g e => by cases e)⟩
theorem LdI.put (h : LdI W N Ft Dk k F rm x lf L G nm sz bl b0 b1 b2 r X) (hlow : Low W Ft) (hL : L < W.heap.size) (hG : G < W.heap.size) {l : Nat} {o : Obj} (hl : W.heap.size ≤ l) (ho : X.heap[l]? = some o) (hc : o.isCells = false) (o' : Obj) : LdI W N Ft Dk k F rm x lf L G nm sz bl b0 b1 b2 r (X.putObj l o') := by
  obtain ⟨h1, h2, ⟨A, n, c, h3, h4, h5, h6, h7⟩, ⟨v, h8, h9⟩, h10⟩ := h
  have hS : Sm (fun _ => True) X (X.putObj l o') := Sm.put ho hc o'
  refine ⟨h1.keep ((Tn.refl (fun i => i = l) X).grown (grownBy_putObj' X l o') (fun g e => .inl (by injection e with e; exact e.symm))) (fun i hi e => ?_), hS.blk h2 trivial, ⟨A, n, c, hS.blk h3 trivial, h4, h5, h6, h7.sm hS (fun _ _ => trivial)⟩, ⟨v, hS.blk h8 trivial, h9⟩, h10.grown (grownBy_putObj' X l o') (fun g e => .inr (by injection e with e; omega))⟩
  subst e
  rcases hi with hi | hi | hi
  · have := hlow _ hi
    omega
  · omega
  · omega
end
theorem load_end {W Y Z : World} {N Dk k L G D1 D2 : Nat} {Ft : Nat → Prop} {F : Files} {rm x lf : Int} {nm : ByteArray} {sz : Int} {g : List (Nat × Nat)} (hlow : Low W Ft) (hL : ¬ Ft L) (hlL : L < W.heap.size) (hG : ¬ Ft G) (hlG : G < W.heap.size)
    (hE : LogS Z N (NewFt Ft Y Z) Dk k F rm x lf false L G nm sz g false) (hWY : Tn (OwnL Ft L G) W Y) (hT : Tn Ft Y Z) (h1 : W.heap.size ≤ D1) (h1' : D1 < Y.heap.size) (h2 : W.heap.size ≤ D2) (h2' : D2 < Y.heap.size) :
    LgPost W N Ft Dk k F rm x lf false L G nm sz g false ((Z.putObj D2 (.deferred none)).putObj D1 (.deferred none)) := by
  have Tf := ((Tn.refl (fun i => i = D2 ∨ i = D1) Z).putObj (.inl (.inl rfl)) (.deferred none)).putObj (.inl (.inr rfl)) (.deferred none)
  have hE2 := hE.keep Tf (fun i hi e => by
    have hno : ∀ j, W.heap.size ≤ j → j < Y.heap.size → ¬ OwnL (NewFt Ft Y Z) L G j := fun j h1 h2 e => by
      rcases e with (e | ⟨e, _⟩) | e | e
      · have := hlow _ e
        omega
      · omega
      · omega
      · omega
    rcases e with rfl | rfl
    · exact hno _ h2 h2' hi
    · exact hno _ h1 h1' hi)
  exact LgPost.up hL hlL hG hlG hWY.size Tf.size hE2 (((hWY.trans (OwnL.of hT)).putObj (.inr h2) _).putObj (.inr h1) _)
set_option maxRecDepth 100000 in
set_option maxHeartbeats 4000000 in
theorem load_S (W : World) (N : Nat) (Ft : Nat → Prop) (Dk k : Nat) (F : Files) (rm x lf : Int) (L G : Nat) (nm : ByteArray) (sz : Int) (bl : List (List UInt8))
    (h : LogS W N Ft Dk k F rm x lf false L G nm sz [] false) (hlow : Low W Ft) (hN : N ≤ W.heap.size) (hF : ∀ t, F t ≠ none ↔ ∃ j, 1 ≤ j ∧ j ≤ bl.length ∧ t = fileN nm j)
    (hB : ∀ j b, bl[j]? = some b → (∃ z, F (fileN nm (j + 1)) = some (b, z)) ∧ b.length ≤ 1000000 ∧ took (recs b) ≤ b.length ∧ (j + 1 < bl.length → b.length = took (recs b)))
    (h1m : 1 ≤ bl.length) (hm : bl.length ≤ 100000) (hn : nmOk nm) (hk : k ≤ 100000) (hx : 0 ≤ x) (hx2 : x ≤ 10000000) (hr : x + 1000000 ≤ rm) (hlf : lf = 0 ∨ (lastB bl bl.length).length = took (recs (lastB bl bl.length))) :
    CallsIn Fence.wide 5 Tryz.prog 23 #[.pointer (some ⟨L, 0, none⟩)] W fun e w' => e = .returned (.tuple #[]) ∧
      ∃ F', (∀ t, t ≠ fileN nm bl.length → F' t = F t) ∧ (∃ z, F' (fileN nm bl.length) = some (datB (lastB bl bl.length), z)) ∧
        LgPost W N Ft Dk (k + bl.length + 4) F' rm (x - (lastB bl bl.length).length + (datB (lastB bl bl.length)).length) lf false L G nm sz (gOf bl) false w' := by
  have e73 : ∀ args w, (callFunc 74 args).run Tryz.prog w = .ok (.enter 74 args) w := enters_of Tryz.func74 (by kernel_rfl) rfl
  have hn6 : nm.size ≤ 1000000 := by have := hn.1; omega
  obtain ⟨m0, m1, m2, mT⟩ := three_new W 32 26 3 #[.pointer (some ⟨L, 0, none⟩)] #[.slice none 0 0] #[.int .i64 0] (fun _ => False)
  have mB := three_below W 32 26 3 #[.pointer (some ⟨L, 0, none⟩)] #[.slice none 0 0] #[.int .i64 0]
  have hlL := h.ltL
  have hlG := h.ltG
  have HE := Lib.hid e73
  refine calls_of_wpF Tryz.func23 rfl ?_
  simp only [Tryz.ntmps23, List.size_toArray, List.length_cons, List.length_nil, Nat.reduceAdd, Nat.reduceSub, Array.replicate_succ, Array.replicate_zero, List.push_toArray, List.append_toArray, List.nil_append, List.cons_append]
  refine wpF_seq (n := 5) ?_
  gi_wp2_with fail
  refine wpF_seq (n := 5) ?_
  gi_wp2_with fail
  refine wpF_seq (n := 5) ?_
  gi_wp2_with fail
  generalize hW3 : (((W.alloc (Obj.cells #[Value.pointer (some { block := L, off := 0 })] 32)).alloc (Obj.cells #[Value.slice none 0 0] 26)).alloc (Obj.cells #[Value.int IntKind.i64 0] 3)) = W3 at *
  have z3 : W3.heap.size = W.heap.size + 3 := by rw [← hW3]; simp
  clear hW3
  have c0 := m0.cell 0
  refine wpF_seqF ?_
  refine wpF_seq (n := 5) ?_
  gi_wp2_with fail
  refine ⟨trivial, ?_⟩
  refine (callsIn_wide.2 (files_any W3 L _)).mono ?_
  rintro e W5 ⟨rfl, hW5⟩
  have nB : Below W3.heap.size W3 W5 := by rw [hW5]; exact ((Below.refl _ W3).alloc (Nat.le_refl _) _).alloc (by simp) _
  have n0 : BlkIs W5 W3.heap.size 32 #[.pointer (some ⟨L, 0, none⟩)] := by rw [hW5]; exact (BlkIs.new W3 32 _).alloc _
  have n1 : BlkIs W5 (W3.heap.size + 1) 9 #[.string ⟨#[]⟩] := by
    rw [hW5]
    have := BlkIs.new (W3.alloc (.cells #[.pointer (some ⟨L, 0, none⟩)] 32)) 9 #[.string ⟨#[]⟩]
    rwa [World.size_alloc] at this
  have z5 : W5.heap.size = W.heap.size + 5 := by rw [hW5]; simp; omega
  have B5 : Below W.heap.size W W5 := mB.trans (nB.mono (by omega))
  have h5 := h.below B5
  have i0 : BlkIs W5 W.heap.size 32 _ := (nB.block _ m0.lt).trans m0
  have i1 : BlkIs W5 (W.heap.size + 1) 26 _ := (nB.block _ m1.lt).trans m1
  have i2 : BlkIs W5 (W.heap.size + 2) 3 _ := (nB.block _ m2.lt).trans m2
  clear c0 hW5 m0 m1 m2 mT mB nB
  have T5 : Tn (OwnL Ft L G) W W5 := Tn.of_below B5
  have Z35 := Lib.hid (And.intro z3 z5)
  clear z3 z5
  gi_wp2_with fail
  refine wpF_block ?_
  have i2' : BlkIs W5 (W.heap.size + 1 + 1) 3 #[.int .i64 0] := i2
  clear i2
  have z3 := Z35.out.1
  have z5 := Z35.out.2
  have NB := Lib.hid (And.intro n0 n1)
  have IB := Lib.hid (And.intro i0 (And.intro i1 i2'))
  clear n0 n1 i0 i1 i2'
  obtain ⟨b2, hb2⟩ : ∃ b2, b2 = W.heap.size + 1 + 1 := ⟨_, rfl⟩
  obtain ⟨b1, hb1⟩ : ∃ b1, b1 = W.heap.size + 1 := ⟨_, rfl⟩
  obtain ⟨b0, hb0⟩ : ∃ b0, b0 = W.heap.size := ⟨_, rfl⟩
  obtain ⟨B1, hB1⟩ : ∃ B1, B1 = W3.heap.size + 1 := ⟨_, rfl⟩
  obtain ⟨B0, hB0⟩ : ∃ B0, B0 = W3.heap.size := ⟨_, rfl⟩
  have NB2 : BlkIs W5 B0 32 #[.pointer (some ⟨L, 0, none⟩)] ∧ BlkIs W5 B1 9 #[.string ⟨#[]⟩] := by rw [hB0, hB1]; exact NB.out
  have IB2 : BlkIs W5 b0 32 #[.pointer (some ⟨L, 0, none⟩)] ∧ BlkIs W5 b1 26 #[.slice none 0 0] ∧ BlkIs W5 b2 3 #[.int .i64 0] := by rw [hb0, hb1, hb2]; exact IB.out
  rw [← hb2, ← hb1, ← hB1, ← hB0, ← hb0]
  have ZZ := Lib.hid (And.intro hb0 (And.intro hb1 (And.intro hb2 (And.intro hB0 (And.intro hB1 (And.intro z3 z5))))))
  clear hb0 hb1 hb2 hB0 hB1 z3 z5 NB IB Z35
  have hlast0 : datB (lastB bl 0) = [] := by simp [datB, lastB]
  refine wpF_rangeK (n := 5) Tryz.func23 (S := Nat) (α := Nat) (gf := 74) (lb := #[.pointer (some ⟨B0, 0, none⟩), .pointer (some ⟨B1, 0, none⟩)]) rfl HE.out
    encI (fun _ => rfl) (KpL (pL L G b1 b2) L Dk nm sz G) (fun a b => KpL.trans a b) (fun X l o o' _ hl ho _ => KpL.put hl ho o') (stepL true bl.length) (finL true bl.length) 0
    ?seq (LdI W N Ft Dk k F rm x lf L G nm sz bl b0 b1 b2) (fun _ => False) (fun _ _ => False) (fun r X Y h hg => h.grown hg) ?hIp (fun _ _ _ _ h => h.elim) (fun r y r' X l o o' h _ _ _ => h) ?h0
    (fun x => { tmps := #[.pointer (some ⟨L, 0, none⟩), .pointer (some ⟨b0, 0, none⟩), .pointer (some ⟨b1, 0, none⟩), .pointer (some ⟨b2, 0, none⟩), .int .i64 (x : Nat), undef, undef, undef, undef, .pointer (some ⟨L, 0, none⟩), .func (.func 74) #[] #[.pointer (some ⟨B0, 0, none⟩), .pointer (some ⟨B1, 0, none⟩)], .int .i64 (x : Nat), undef, undef, undef, undef, undef, undef, undef, undef, undef, undef, undef, undef, undef, undef, undef, undef, undef, undef, undef, undef, undef, undef, undef, undef, undef, undef, undef, undef, undef, undef, undef, undef, undef, undef, undef, undef, undef, undef, undef, undef, undef, undef, undef, undef, undef, undef, undef, undef, undef, undef, undef, undef, undef, undef, undef, undef, undef, undef, undef, undef, undef], defers := [] }) ?assign ?body ?done ?stop ?pan
  case seq =>
    intro lp J Jx Jp W' hW hJ hY h0
    obtain ⟨e0, e1, e2, e3, e4, e5, e6⟩ := ZZ.out
    exact files_seq 5 (by omega) true bl.length W5 B0 B1 L Dk G k N Ft F rm x lf nm sz [] (pL L G b1 b2) NB2.1 NB2.2 h5 (by omega) hn6 hF (by omega) (by unfold pL; omega) (by unfold pL; omega) (fun i hi => by unfold pL; omega) lp J Jx Jp W' hW hJ hY h0
  case hIp =>
    intro r X l o o' hh hl ho hc
    obtain ⟨e0, e1, e2, e3, e4, e5, e6⟩ := ZZ.out
    exact hh.put hlow hlL hlG (by omega) ho hc o'
  case h0 =>
    refine ⟨h5, IB2.1, ⟨none, 0, 0, IB2.2.1, by rw [hlast0]; rfl, Nat.le_refl _, Nat.zero_le _, by rw [hlast0]; exact ⟨fun j u hj => (by simp [bv] at hj), fun ad e => by cases e⟩⟩, ⟨0, IB2.2.2, ?_⟩, T5⟩
    have : took (recs ([] : List UInt8)) = 0 := Nat.le_zero.1 (took_le [])
    show (0 : Int) = ((lastB bl 0).length : Int) - (took (recs (lastB bl 0)) : Nat)
    have e : lastB bl 0 = [] := rfl
    rw [e, this]
    rfl
  case assign =>
    intro lp y X K' hK'
    unfold encI
    gi_wp2
    exact hK'
  case stop => exact fun _ _ _ h => h.elim
  case pan => exact fun _ _ _ _ h => h.elim
  case body =>
    rintro lp r y r' X ⟨hLg, x0, ⟨A0, n9, c9, x1, hn9, hc9, hc9m, hwb⟩, ⟨v, x2, hv⟩, hT⟩ ⟨_, hrm, hy, rfl⟩
    obtain ⟨b, hb⟩ : ∃ b, bl[r]? = some b := ⟨_, List.getElem?_eq_getElem hrm⟩
    obtain ⟨⟨z, hFb⟩, hbl, htk, _⟩ := hB r b hb
    have hv0 : v = 0 := by
      rw [hv]
      cases r with
      | zero =>
        have : took (recs ([] : List UInt8)) = 0 := Nat.le_zero.1 (took_le [])
        have e : lastB bl 0 = [] := rfl
        rw [e, this]
        rfl
      | succ q =>
        obtain ⟨b', hb'⟩ : ∃ b', bl[q]? = some b' := ⟨_, List.getElem?_eq_getElem (by omega)⟩
        rw [lastB_one hb']
        have := (hB q b' hb').2.2.2 (by omega)
        omega
    subst hv0
    have hr0 := read_there X N Ft Dk (k + r) F rm x lf L G nm sz _ false (r + 1) b z hLg.1 hLg.2.1 (by omega) hn hFb (by omega)
    rw [← hy] at hr0
    have HR := Lib.hid hr0
    have HY := Lib.hid hy
    have HX := Lib.hid (And.intro hLg (And.intro x0 (And.intro x1 (And.intro x2 hT))))
    have c0 := x0.cell 0
    have c2 := x2.cell 0
    have HBR := Lib.hid hb
    clear hr0 hy hLg hn9 hc9 hc9m hwb hv hFb hb NB2 IB2 h5 T5 h hF hB x1
    clear x0 x2
    gi_wp2_with fail
    refine ⟨trivial, CallsIn.inRound lp (callsIn_wide.2 ((need_ok _ _).mono ?_))⟩
    rintro e w' ⟨rfl, rfl⟩
    gi_wp2_with fail
    refine ⟨trivial, CallsIn.inRound lp (callsIn_wide.2 (HR.out.mono ?_))⟩
    rintro e w1 ⟨v1, rfl, ho, hq1⟩
    obtain ⟨A1, c1, rfl, hc1, hc1m⟩ := own_slice ho
    have hall := all_any A1 c1 b w1 ho.bts hc1 hc1m (by omega)
    have HO := Lib.hid ho
    clear ho
    generalize hbn : b.length = n at *
    generalize htn : took (recs b) = tk at *
    have HALL := Lib.hid hall
    clear hall
    gi_wp2_with fail
    refine ⟨trivial, CallsIn.inRound lp (callsIn_wide.2 (HALL.out.mono ?_))⟩
    rintro e w2 ⟨v2, rfl, ⟨vs, ho2, _⟩, hq2⟩
    generalize hrl : (recs b).length = rl at *
    have HRL := Lib.hid hrl
    obtain ⟨A2, cc2, rfl, hc2, hc2m⟩ := own_slice ho2
    have BX2 : Below X.heap.size X w2 := hq1.trans (hq2.mono hq1.size)
    have hLg2 := HX.out.1.below BX2
    have x0 : BlkIs w2 b0 32 _ := (BX2.block _ HX.out.2.1.lt).trans HX.out.2.1
    have x1 : BlkIs w2 b1 26 _ := (BX2.block _ HX.out.2.2.1.lt).trans HX.out.2.2.1
    have x2 : BlkIs w2 b2 3 _ := (BX2.block _ HX.out.2.2.2.1.lt).trans HX.out.2.2.2.1
    have x1c := x1.cell 0
    have x1f := x1.froz 0
    have x2c := x2.cell 0
    have x2f := x2.froz 0
    have hsl := slice_hi A1 n c1 tk htk hc1
    have htn2 : took (recs b) = tk := htn
    rw [htn2]
    obtain ⟨e0, e1, e2, e3, e4, e5, e6⟩ := ZZ.out
    have hXz := HX.out.2.2.2.1.lt
    have hXw := hq1.size
    have HWB : Hid (WB w2 (b2 + 1) A1 (datB b)) := Lib.hid (by
      have hd : datB b = b.take tk := by unfold datB; rw [htn2]
      rw [hd]
      have ho := HO.out
      rw [← hbn] at ho
      refine ⟨((ho.bts.below hq2).more hq2.size).take tk, fun ad e => ?_⟩
      subst e
      have := Own5.blk_lt ho (g := ad.block) rfl
      omega)
    have HL2 : Hid (rl ≤ 1000000) := Lib.hid (by have := recs_len b; rw [hrl] at this; omega)
    have hG2 : G < w2.heap.size := hLg2.ltG
    have qn : ∀ i, OwnL Ft L G i → ¬ (i = b1 ∨ i = b2) := fun i hi e => by
      rcases hi with hi | hi | hi
      · have := hlow _ hi
        omega
      · omega
      · omega
    obtain ⟨wA, hwA⟩ : ∃ wA, wA = w2.setCell ⟨b1, 0, none⟩ (.slice A1 tk c1) := ⟨_, rfl⟩
    obtain ⟨w3, hw3⟩ : ∃ w3, w3 = wA.setCell ⟨b2, 0, none⟩ (.int .i64 ((n : Int) - tk)) := ⟨_, rfl⟩
    have uA : BlkIs wA b2 3 #[.int .i64 0] := by rw [hwA]; exact x2.far (x := ⟨b1, 0, none⟩) (by show b2 ≠ b1; omega) _
    have T3 : Tn (fun i => i = b1 ∨ i = b2) w2 w3 := by
      rw [hw3, hwA]
      exact ((Tn.refl _ w2).setCell (x := ⟨b1, 0, none⟩) (.inl (.inl rfl)) _).setCell (x := ⟨b2, 0, none⟩) (.inl (.inr rfl)) _
    have hLg3 := hLg2.keep T3 qn
    have v0 : BlkIs w3 b0 32 _ := x0.tn T3 (by omega)
    have v1 : BlkIs w3 b1 26 #[.slice A1 tk c1] := by
      rw [hw3, hwA]
      exact (x1.put 0 (.slice A1 tk c1)).far (by show b1 ≠ b2; omega) _
    have v2 : BlkIs w3 b2 3 #[.int .i64 ((n : Int) - tk)] := by
      rw [hw3]
      exact uA.put 0 _
    have hgl : (gOf (bl.take r)).length = r := by rw [gOf_length, List.length_take]; omega
    obtain ⟨w4, hrun, hM4, hg4⟩ := hLg3.2.2.1.put (by unfold maxLen; omega) (y : Int) (by unfold Ok64; have := HY.out; omega) rl tk (fun D h1 h2 => by
      have := segD_push h1 h2 rl tk
      rw [hgl] at this
      rw [HY.out]
      exact this)
    have hone := gOf_one HBR.out
    rw [HRL.out, htn2] at hone
    obtain ⟨w5, hw5⟩ : ∃ w5, w5 = w4.setCell ⟨L, 4, none⟩ (.int .i64 y) := ⟨_, rfl⟩
    have hgl5 : (gOf (bl.take (r + 1))).length = y := by rw [gOf_length, List.length_take, HY.out]; omega
    have hLg5 : LogS w5 N Ft Dk (k + (r + 1)) F rm x lf false L G nm sz (gOf (bl.take (r + 1))) false := by
      have := hLg3.last (g' := gOf (bl.take (r + 1))) hg4 (by rw [hone]; exact hM4) (Nat.le_succ _)
      rw [hgl5] at this
      rw [hw5]
      exact this
    have T4 : Tn (fun i => i = L ∨ i = G ∨ i = b1 ∨ i = b2) w2 w4 := ((T3.mono (fun i _ hi => Or.inr (Or.inr hi))).grown hg4 (fun g e => .inl (.inr (.inl (by injection e with e; exact e.symm)))))
    have T25 : Tn (fun i => i = L ∨ i = G ∨ i = b1 ∨ i = b2) w2 w5 := by
      rw [hw5]
      exact T4.setCell (x := ⟨L, 4, none⟩) (.inl (.inl rfl)) _
    have pq : ∀ i, pL L G b1 b2 i → ¬ (i = L ∨ i = G ∨ i = b1 ∨ i = b2) := fun i hi e => by unfold pL at hi; omega
    have INV : Hid (LdI W N Ft Dk k F rm x lf L G nm sz bl b0 b1 b2 (r + 1) w5) := Lib.hid (by
      have hd : lastB bl (r + 1) = b := lastB_one HBR.out
      have u1 : BlkIs w5 b1 26 #[.slice A1 tk c1] := by
        rw [hw5]
        exact ((v1.grown hg4 (fun e => by injection e with e; omega)).far (by show b1 ≠ L; omega) _)
      have u2 : BlkIs w5 b2 3 #[.int .i64 ((n : Int) - tk)] := by
        rw [hw5]
        exact ((v2.grown hg4 (fun e => by injection e with e; omega)).far (by show b2 ≠ L; omega) _)
      refine ⟨hLg5, x0.tn T25 (by omega), ⟨A1, tk, c1, u1, ?_, by omega, hc1m, ?_⟩, ⟨_, u2, ?_⟩, ?_⟩
      · rw [hd, datB_length b (by omega), htn2]
      · rw [hd]
        exact HWB.out.sm (Sm.of_tn T25 pq) (fun i hi => by unfold pL; omega)
      · rw [hd, htn2, hbn]
      · have ht2 := hT.trans (Tn.of_below BX2)
        have ht3 : Tn (OwnL Ft L G) W w3 := by
          rw [hw3, hwA]
          exact (ht2.setCell (x := ⟨b1, 0, none⟩) (.inr (by show W.heap.size ≤ b1; omega)) _).setCell (x := ⟨b2, 0, none⟩) (.inr (by show W.heap.size ≤ b2; omega)) _
        have ht4 := ht3.grown hg4 (fun g e => .inl (.inr (.inr (by injection e with e; exact e.symm))))
        rw [hw5]
        exact ht4.setCell (x := ⟨L, 4, none⟩) (.inl (.inr (.inl rfl))) _)
    have KF : Hid (KeepsFrom W5.heap.size X w5) := Lib.hid (by
      have k1 : KeepsFrom W5.heap.size X w2 := ⟨BX2.size, fun i o _ hi _ => (BX2.block i (Array.getElem?_eq_some_iff.1 hi).1).trans hi⟩
      have k2 : KeepsFrom W5.heap.size w2 w3 := by
        rw [hw3, hwA]
        exact ((KeepsOthers.setCell _ _ _).from _).trans ((KeepsOthers.setCell _ _ _).from _)
      have k3 : KeepsFrom W5.heap.size w3 w4 := KeepsFrom.of_grownBy hg4 (fun j e => by injection e with e; omega)
      have k4 : KeepsFrom W5.heap.size w4 w5 := by
        rw [hw5]
        exact (KeepsOthers.setCell _ _ _).from _
      exact k1.trans (k2.trans (k3.trans k4)))
    have KP : Hid (KpL (pL L G b1 b2) L Dk nm sz G X w5) := Lib.hid ⟨(Sm.of_below BX2).trans (Sm.of_tn T25 pq), fun _ => ⟨_, hLg5.2.1⟩⟩
    have s0 : w3.cell? ⟨b0, 0, none⟩ = some (.pointer (some ⟨L, 0, none⟩)) := v0.cell 0
    have s3 : w3.cell? ⟨L, 3, none⟩ = some (.map (some G)) := BlkIs.cell hLg3.2.1 3
    have hL4 := BlkIs.grown hLg3.2.1 hg4 (fun e => by injection e with e; exact hLg3.ne e)
    have t0 : w4.cell? ⟨b0, 0, none⟩ = some (.pointer (some ⟨L, 0, none⟩)) := (x0.tn T4 (by omega)).cell 0
    have t4 := BlkIs.cell hL4 4
    have t4f := BlkIs.froz hL4 4
    have uAc := uA.cell 0
    have uAf := uA.froz 0
    unfold segV at hrun
    have hw3' := hw3.symm
    have hwA' := hwA.symm
    have hw5' := hw5.symm
    clear hw3 hwA hw5 hL4 hLg3 hLg5 T3 T4 T25 pq v0 v1 v2 uA hone hM4 hg4 hgl hgl5 qn hG2 e0 e1 e2 e3 e4 e5 e6 hXz hXw ho2 hq1 hq2 BX2 hLg2 x0 x1 x2 HR HALL htn htn2
    gi_wp2_with fail
    exact ⟨KF.out, KP.out, INV.out⟩
  case done =>
    rintro D1 r X hD1 hfin hI hK1
    obtain rfl : r = bl.length := hfin rfl
    show WpF Tryz.prog 23 _ _ _ _
    refine wpF_seqF ?_
    refine wpF_seq (n := 5) ?_
    have c0 := hI.2.1.cell 0
    obtain ⟨e0, e1, e2, e3, e4, e5, e6⟩ := ZZ.out
    have hD1l : D1 < X.heap.size := (Array.getElem?_eq_some_iff.1 hK1).1
    have ZD := Lib.hid (show W.heap.size ≤ D1 by omega)
    have HI := Lib.hid hI
    clear e0 e1 e2 e3 e4 e5 e6 hI NB2 IB2 B5 T5 h5
    gi_wp2_with fail
    refine ⟨trivial, ?_⟩
    refine (callsIn_wide.2 (files_any X L _)).mono ?_
    rintro e X5 ⟨rfl, hX5⟩
    have pB : Below X.heap.size X X5 := by rw [hX5]; exact ((Below.refl _ X).alloc (Nat.le_refl _) _).alloc (by simp) _
    have p0 : BlkIs X5 X.heap.size 32 #[.pointer (some ⟨L, 0, none⟩)] := by rw [hX5]; exact (BlkIs.new X 32 _).alloc _
    have p1 : BlkIs X5 (X.heap.size + 1) 9 #[.string ⟨#[46, 110, 101, 119]⟩] := by
      rw [hX5]
      have := BlkIs.new (X.alloc (.cells #[.pointer (some ⟨L, 0, none⟩)] 32)) 9 #[.string ⟨#[46, 110, 101, 119]⟩]
      rwa [World.size_alloc] at this
    have hI5 : LdI W N Ft Dk k F rm x lf L G nm sz bl b0 b1 b2 bl.length X5 := by
      rw [hX5]
      exact (HI.out.grown (World.grownBy_alloc _ _ none)).grown (World.grownBy_alloc _ _ none)
    have hK15 : X5.heap[D1]? = some (.deferred (some [])) := (pB.block _ hD1l).trans hK1
    have hXs := pB.size
    clear hX5 c0 HI
    gi_wp2_with fail
    refine wpF_block ?_
    obtain ⟨E1, hE1⟩ : ∃ E1, E1 = X.heap.size + 1 := ⟨_, rfl⟩
    obtain ⟨E0, hE0⟩ : ∃ E0, E0 = X.heap.size := ⟨_, rfl⟩
    rw [← hE0] at p0
    rw [← hE1] at p1
    rw [← hE1, ← hE0]
    have ZE := Lib.hid (And.intro hE0 hE1)
    have zW : W.heap.size ≤ X5.heap.size := by have := ZD.out; omega
    clear hE0 hE1
    refine wpF_rangeK (n := 5) Tryz.func23 (S := Nat) (α := Nat) (gf := 74) (lb := #[.pointer (some ⟨E0, 0, none⟩), .pointer (some ⟨E1, 0, none⟩)]) rfl HE.out
      encI (fun _ => rfl) (KpL (fun _ => True) L Dk nm sz G) (fun a b => KpL.trans a b) (fun X l o o' _ hl ho _ => KpL.put hl ho o') (stepL false bl.length) (finL false bl.length) 0
      ?seq2 (fun _ Y => LdI W N Ft Dk k F rm x lf L G nm sz bl b0 b1 b2 bl.length Y ∧ Y.heap[D1]? = some (.deferred (some []))) (fun _ => False) (fun _ _ => False) (fun r Y Z h hg => ⟨h.1.grown hg, (hg.block _ (Array.getElem?_eq_some_iff.1 h.2).1 (fun e => by cases e)).trans h.2⟩) ?hIp2 (fun _ _ _ _ h => h.elim) (fun r y r' X l o o' h _ _ _ => h) ⟨hI5, hK15⟩
      (fun x => { tmps := #[.pointer (some ⟨L, 0, none⟩), .pointer (some ⟨b0, 0, none⟩), .pointer (some ⟨b1, 0, none⟩), .pointer (some ⟨b2, 0, none⟩), undef, undef, undef, undef, .int .i64 (x : Nat), .pointer (some ⟨L, 0, none⟩), .func (.func 74) #[] #[.pointer (some ⟨B0, 0, none⟩), .pointer (some ⟨B1, 0, none⟩)], undef, undef, undef, undef, undef, undef, undef, undef, undef, undef, undef, undef, undef, undef, undef, undef, undef, undef, undef, undef, undef, undef, undef, undef, undef, undef, undef, undef, undef, undef, undef, undef, .pointer (some ⟨L, 0, none⟩), .func (.func 74) #[] #[.pointer (some ⟨E0, 0, none⟩), .pointer (some ⟨E1, 0, none⟩)], .int .i64 (x : Nat), undef, undef, undef, undef, undef, undef, undef, undef, undef, undef, undef, undef, undef, undef, undef, undef, undef, undef, undef, undef, undef, undef, undef, undef, undef, undef, undef], defers := [] }) ?assign2 ?body2 ?done2 ?stop2 ?pan2
    case seq2 =>
      intro lp J Jx Jp W' hW hJ hY h0
      exact files_seq 5 (by omega) false bl.length X5 E0 E1 L Dk G (k + bl.length) N Ft F rm x lf nm sz _ (fun _ => True) p0 p1 hI5.1 (by omega) hn6 hF (by omega) trivial trivial (fun _ _ => trivial) lp J Jx Jp W' hW hJ hY h0
    case hIp2 =>
      rintro r Y l o o' ⟨hh, hk⟩ hl ho hc
      exact ⟨hh.put hlow hlL hlG (by omega) ho hc o', (World.putObj_heap_other (by have := (Array.getElem?_eq_some_iff.1 hK15).1; omega)).trans hk⟩
    case assign2 =>
      intro lp y X K' hK'
      unfold encI
      gi_wp2
      exact hK'
    case stop2 => exact fun _ _ _ h => h.elim
    case pan2 => exact fun _ _ _ _ h => h.elim
    case body2 => exact fun lp r y r' X _ hs => absurd hs.1 (by decide)
    case done2 =>
      rintro D2 r2 Y hD2 _ ⟨hI, yk1⟩ hK2
      show WpF Tryz.prog 23 _ _ _ _
      obtain ⟨hLg, x0, ⟨A, n, c, x1, hn9, hc9, hcm, hwb⟩, ⟨v, x2, hv⟩, hT⟩ := hI
      rw [List.take_length] at hLg
      have d1 : D1 < X5.heap.size := (Array.getElem?_eq_some_iff.1 hK15).1
      have d2 : D2 < Y.heap.size := (Array.getElem?_eq_some_iff.1 hK2).1
      have ZF := Lib.hid (And.intro d1 (And.intro d2 hD2))
      refine wpF_of (n := 5) ?_
      have c0 := x0.cell 0
      have c4 : Y.cell? ⟨L, 4, none⟩ = some (.int .i64 bl.length) := by have := BlkIs.cell hLg.2.1 4; rw [gOf_length] at this; exact this
      have cv := x2.cell 0
      have c1 := x1.cell 0
      obtain ⟨ml, hml⟩ : ∃ ml, ml = bl.length := ⟨_, rfl⟩
      rw [← hml] at c4
      have hz : ((ml : Int) == 0) = false := by rw [beq_eq_false_iff_ne]; omega
      obtain ⟨b, hb⟩ : ∃ b, bl[bl.length - 1]? = some b := ⟨_, List.getElem?_eq_getElem (by omega)⟩
      have hlb : lastB bl bl.length = b := by
        have := lastB_one hb
        rwa [show bl.length - 1 + 1 = bl.length by omega] at this
      obtain ⟨⟨zf, hFb⟩, hbl, htk, _⟩ := hB _ b hb
      rw [show bl.length - 1 + 1 = bl.length by omega] at hFb
      have HLB := Lib.hid hlb
      rw [hlb] at hv hn9 hwb
      rw [hlb]
      have hdl := datB_length b htk
      have HF1 := Lib.hid hFb
      have HML := Lib.hid hml
      have HV := Lib.hid (And.intro hv (And.intro hn9 (And.intro hdl htk)))
      have HLG := Lib.hid hLg
      have HC := Lib.hid (And.intro x0 (And.intro x1 x2))
      have HW := Lib.hid (And.intro hc9 (And.intro hcm hwb))
      have HK := Lib.hid (And.intro yk1 hK2)
      have HTT := Lib.hid hT
      have HBL := Lib.hid hbl
      clear hFb hml hn9 hdl htk hLg x0 x1 x2 hc9 hcm hwb yk1 hK2 hT hb hlb hI5 p0 p1 hK15 hK1 d1 d2 hbl
      have hTY := HTT.out.size
      have zD := ZD.out
      have zF := ZF.out
      have hXY : X5.heap.size ≤ D2 := zF.2.2
      have noF : ∀ i, W.heap.size ≤ i → ¬ Ft i := fun i hi e => by have := hlow i e; omega
      have hD1Y : D1 < Y.heap.size := (Array.getElem?_eq_some_iff.1 HK.out.1).1
      by_cases hvp : 0 < v
      · have hl0 : lf = 0 := by
          rcases hlf with e | e
          · exact e
          · rw [HLB.out] at e
            omega
        subst hl0
        clear hv
        have hsp : F (fileN nm bl.length ++ ⟨#[46, 110, 101, 119]⟩) = none := by
          cases hFs : F (fileN nm bl.length ++ ⟨#[46, 110, 101, 119]⟩) with
          | none => rfl
          | some q =>
            obtain ⟨j, _, _, hj⟩ := (hF (fileN nm bl.length ++ ⟨#[46, 110, 101, 119]⟩)).1 (by rw [hFs]; simp)
            have := congrArg ByteArray.size hj
            rw [ByteArray.size_append, fileN_size, fileN_size] at this
            have h4 : (⟨#[46, 110, 101, 119]⟩ : ByteArray).size = 4 := rfl
            omega
        have hlen : lenOf F (fileN nm bl.length) = b.length := by unfold lenOf; rw [HF1.out]; rfl
        have hv9 := HV.out
        have hbl := HBL.out
        have hA : Below Y.heap.size Y Y.drew := (Below.refl _ Y).drew
        have hW2 : WB Y.drew (b2 + 1) A (datB b) := HW.out.2.2.sm (Sm.of_below (p := fun _ => True) hA) (fun _ _ => trivial)
        have zZ := ZZ.out
        have hrep := replace_ok Y.drew N Ft Dk (k + bl.length) F rm x L G nm sz (gOf bl) bl.length A c (datB b) (HLG.out.below hA) (fun i hi => by have := hlow i hi; have := hA.size; omega) (by omega) hn hsp (by unfold maxLen; omega) hx (by omega) (by omega) (by omega) (by have := hA.size; omega)
          (fun W' w' hb hT => hW2.bts hb hT (fun i hi => by have := hlow i hi; omega))
        rw [hlen, ← hv9.2.1, ← HML.out] at hrep
        obtain ⟨F9, hF9⟩ : ∃ F9, F9 = (((((F.upd (fileN nm ml ++ ⟨#[46, 110, 101, 119]⟩) (some ([], 0))).upd (fileN nm ml ++ ⟨#[46, 110, 101, 119]⟩) (some ([] ++ datB b, 0))).upd (fileN nm ml ++ ⟨#[46, 110, 101, 119]⟩) (some ([] ++ datB b, ([] ++ datB b).length))).upd (fileN nm ml ++ ⟨#[46, 110, 101, 119]⟩) none).upd (fileN nm ml) (some ([] ++ datB b, ([] ++ datB b).length))) := ⟨_, rfl⟩
        rw [← hF9] at hrep
        have HREP := Lib.hid hrep
        have HSP := Lib.hid hsp
        have HF9 := Lib.hid hF9
        clear hrep hsp hF9 hlen hv9 hbl hW2 zZ hF hB
        refine (wpIn_wide (n := 5)).2 ?_
        go_wp2_with fail
        go_region_held3 (fun w' => w'.cell? ⟨b0, 0, none⟩ = some (.pointer (some ⟨L, 0, none⟩)) ∧ w'.cell? ⟨b1, 0, none⟩ = some (.slice A n c) ∧ w'.cell? ⟨L, 4, none⟩ = some (.int .i64 ml))
          (first
            | go_keep
            | exact ⟨y0, y1, y4⟩)
          (first
            | (go_at_call 46; refine HREP.out.mono ?_; rintro e w1 ⟨rfl, hE, hT1⟩; have y0 := (HC.out.1.tn ((Tn.of_below hA).trans hT1) (noF _ (by have := ZZ.out; omega))).cell 0; have y1 := (HC.out.2.1.tn ((Tn.of_below hA).trans hT1) (noF _ (by have := ZZ.out; omega))).cell 0; have y4 : w1.cell? ⟨L, 4, none⟩ = some (.int .i64 ml) := by have := BlkIs.cell hE.2.1 4; rw [gOf_length, ← HML.out] at this; exact this)
            | (go_at_call 26; refine (must_ok _).mono ?_; rintro e w3 ⟨rfl, rfl⟩))
        show bodyPostM Fence.wide 5 Tryz.prog Tryz.f23 _ _ _ _
        have hv9 := HV.out
        have t2 : Tn Ft Y w1 := (Tn.of_below hA).trans hT1
        rw [HML.out, show x + (n : Int) - (b.length : Int) = x - b.length + (datB b).length by omega] at hE
        refine ⟨by simp, .inl ⟨_, _, rfl, run_takeDeferred (w := w1) ((t2.block D2 zF.2.1 (noF _ (by omega))).trans HK.out.2), ?_⟩⟩
        refine ⟨by simp, .inl ⟨_, _, rfl, run_takeDeferred (w := w1.putObj D2 (.deferred none)) ((World.putObj_heap_other (by omega)).trans ((t2.block D1 hD1Y (noF _ (by omega))).trans HK.out.1)), ?_⟩⟩
        refine ⟨_, results_none rfl _ _ _, rfl, F9, fun t ht => ?_, ⟨([] ++ datB b).length, ?_⟩, ?_⟩
        · rw [HF9.out, HML.out]
          unfold Files.upd
          rw [if_neg ht]
          by_cases e : t = fileN nm bl.length ++ ⟨#[46, 110, 101, 119]⟩
          · rw [if_pos e, e, HSP.out]
          · simp only [if_neg e]
        · rw [HF9.out, HML.out]
          unfold Files.upd
          rw [if_pos rfl, List.nil_append]
        · exact load_end (Y := Y) hlow h.2.2.2.1 hlL h.2.2.2.2 hlG hE HTT.out t2 (by omega) hD1Y (by omega) zF.2.1
      · have hv0 : v = 0 := by have := HV.out; omega
        subst hv0
        clear hv hvp
        gi_wp2_with fail
        refine ⟨by simp, .inl ⟨_, _, rfl, run_takeDeferred HK.out.2, ?_⟩⟩
        refine ⟨by simp, .inl ⟨_, _, rfl, run_takeDeferred ((World.putObj_heap_other (by omega)).trans HK.out.1), ?_⟩⟩
        have hv9 := HV.out
        have hbt : datB b = b := by unfold datB; rw [List.take_of_length_le (by omega)]
        refine ⟨_, results_none rfl _ _ _, rfl, F, fun t _ => rfl, ⟨zf, by rw [HF1.out, hbt]⟩, ?_⟩
        rw [hbt, show x - (b.length : Int) + (b.length : Int) = x by omega]
        exact load_end hlow h.2.2.2.1 hlL h.2.2.2.2 hlG (HLG.out.more (fun i hi => .inl hi) (by omega) (newFt_not h.2.2.2.1 (by omega)) (newFt_not h.2.2.2.2 (by omega))) HTT.out (Tn.refl Ft Y) (by omega) hD1Y (by omega) zF.2.1
end Go.Proofs.YtidadjlhnlmfkaaGreatDoor
/- seglog.Open over a disk without files. Conditions: as stated at each. -/
namespace Go.Proofs.YtidadjlhnlmfkaaGreatDoor
open Go.RowKit Go.Shelf Go Go.Maps
theorem segD_nil : SegD (.map []) [] := ⟨fun i => by simp [has]; omega, fun j c z hj => by simp at hj⟩
/-- behind Open: a log with one segment, which is empty. -/
def OpenP (W : World) (N : Nat) (Ft : Nat → Prop) (Dk k : Nat) (F : Files) (rm x lf : Int) (nm : ByteArray) (sz : Int) (e : Ending) (w' : World) : Prop :=
  ∃ L G Ft', e = .returned (.tuple #[.pointer (some ⟨L, 0, none⟩), .int .i64 0]) ∧ LogS w' N Ft' Dk (k + 2) (F.upd (fileN nm 1) (some ([], 0))) rm x (lfA lf) false L G nm sz [(0, 0)] false ∧
    Low w' Ft' ∧ (∀ i, i < W.heap.size → Ft' i → Ft i) ∧ W.heap.size ≤ L ∧ W.heap.size ≤ G ∧ Tn Ft W w'
set_option maxRecDepth 20000 in
set_option maxHeartbeats 2000000 in
theorem open_new (W : World) (N : Nat) (Ft : Nat → Prop) (Dk k : Nat) (F : Files) (rm x lf : Int) (nm : ByteArray) (sz : Int)
    (hS : DiskS W N Ft Dk k F rm x lf false) (hlow : Low W Ft) (hF : ∀ s, F s = none) (hn : nmOk nm) (hsz : 1 ≤ sz) (hk : k + 1 < maxLen) (hx : 0 ≤ x) (hx2 : x ≤ 100000000) (hlf : lf ≤ 9223372036854775807) (h1 : lf ≠ 1) :
    Calls Tryz.prog 9 #[.pointer (some ⟨Dk, 0, none⟩), .string nm, .int .i64 sz] W fun e w' => OpenP W N Ft Dk k F rm x lf nm sz e w' := by
  have hmm := @run_makeMap Tryz.prog
  have hmf : ∀ (fn : Fn) (first cap : Array Value) (w : World), (Instr.makeFunc fn first cap).run Tryz.prog w = .ok (.func fn first cap) w := fun _ _ _ _ => rfl
  have hen : ∀ args w, (callFunc 23 args).run Tryz.prog w = .ok (.enter 23 args) w := enters_of Tryz.func23 (by kernel_rfl) rfl
  have hn6 : nm.size ≤ 1000000 := by have := hn.1; omega
  have hfile : ∀ w, Calls Tryz.prog 19 #[.string nm, .int .i64 1] w fun e w' => e = .returned (.string (fileN nm 1)) ∧ Below w.heap.size w w' := fun w => file_any w nm 1 (by omega) hn6
  have hs1 := fileN_size nm 1
  have hs2 : (fileN nm 1 ++ spareB).size = nm.size + 11 := by rw [ByteArray.size_append, hs1]; rfl
  have hnm1 : ∀ w, Calls Tryz.prog 21 #[.string (fileN nm 1)] w fun e w' => e = .returned (.bool true) ∧ w = w' := fun w => by
    have := diskName_any (fileN nm 1) w (by unfold maxLen; omega)
    rwa [nameB_fileN hn 1] at this
  have hnm2 : ∀ w, Calls Tryz.prog 21 #[.string (fileN nm 1 ++ spareB)] w fun e w' => e = .returned (.bool true) ∧ w = w' := fun w => by
    have := diskName_any (fileN nm 1 ++ spareB) w (by unfold maxLen; omega)
    rwa [nameB_spare hn 1] at this
  have hcat : ¬ 9223372036854775807 < (fileN nm 1).size + 4 := by omega
  have hd := down_S W N Ft Dk k F rm x lf false hS
  unfold spareB at hnm2
  clear hs1 hs2
  go_enter Tryz.func9, Tryz.ntmps9
  have hfileB := hfile
  go_wp2_with (first
    | (go_at_call 20; refine hd.mono ?_; rintro e w' ⟨rfl, rfl⟩)
    | (go_at_call 19; refine (hfile _).mono ?_; clear hfile; rintro e w1 ⟨rfl, hb1⟩)
    | (go_at_call 19; refine (hfileB _).mono ?_; clear hfileB; rintro e w2 ⟨rfl, hb2⟩)
    | (go_at_call 21; refine (hnm1 _).mono ?_; clear hnm1; rintro e w' ⟨rfl, rfl⟩)
    | (go_at_call 21; refine (hnm2 _).mono ?_; clear hnm2; rintro e w' ⟨rfl, rfl⟩))
  have B2 : Below W.heap.size W w2 := hb1.trans (hb2.mono hb1.size)
  have z2 := B2.size
  have hL0 := BlkIs.new (w2.alloc (.map #[] 0)) 59 #[.pointer (some ⟨Dk, 0, none⟩), .string nm, .int .i64 sz, .map (some w2.heap.size), .int .i64 0, .bool false]
  rw [World.size_alloc] at hL0
  have hM0 : Held ((w2.alloc (.map #[] 0)).alloc (.cells #[.pointer (some ⟨Dk, 0, none⟩), .string nm, .int .i64 sz, .map (some w2.heap.size), .int .i64 0, .bool false] 59)) Tryz.prog 3 w2.heap.size 0 (.map []) := World.ownsMap.alloc (World.ownsMap_made w2 Tryz.prog 3 rh) _
  have B4 : Below W.heap.size W ((w2.alloc (.map #[] 0)).alloc (.cells #[.pointer (some ⟨Dk, 0, none⟩), .string nm, .int .i64 sz, .map (some w2.heap.size), .int .i64 0, .bool false] 59)) := (B2.alloc z2 _).alloc (by simp; omega) _
  have z4 : ((w2.alloc (.map #[] 0)).alloc (.cells #[.pointer (some ⟨Dk, 0, none⟩), .string nm, .int .i64 sz, .map (some w2.heap.size), .int .i64 0, .bool false] 59)).heap.size = w2.heap.size + 2 := by simp
  generalize ((w2.alloc (.map #[] 0)).alloc (.cells #[.pointer (some ⟨Dk, 0, none⟩), .string nm, .int .i64 sz, .map (some w2.heap.size), .int .i64 0, .bool false] 59)) = W4 at *
  have hLog : LogS W4 N Ft Dk k F rm x lf false (w2.heap.size + 1) w2.heap.size nm sz [] false :=
    ⟨hS.below B4, hL0, ⟨_, World.ownsMap.mono hM0 (Nat.zero_le _), segD_nil⟩, fun e => by have := hlow _ e; omega, fun e => by have := hlow _ e; omega⟩
  have B5 : Below W4.heap.size W4 (W4.alloc (.cells #[.int .i64 0] 33)) := (Below.refl _ W4).alloc (Nat.le_refl _) _
  have n5 := BlkIs.new W4 33 #[.int .i64 0]
  have hload := callsIn_wide.1 (load_none (W4.alloc (.cells #[.int .i64 0] 33)) N Ft Dk k F rm x lf (w2.heap.size + 1) w2.heap.size nm sz (hLog.below B5) (hlow.up (by have := B4.size; have := B5.size; omega)) hF hn hk hx hx2 hlf h1)
  have hcall := Lib.hid (call_m 23 (.pointer (some ⟨w2.heap.size + 1, 0, none⟩)) W4 (w2.heap.size + 1) Dk nm sz w2.heap.size 0 (fun y w' => y = 0 ∧ LgPost (W4.alloc (.cells #[.int .i64 0] 33)) N Ft Dk (k + 2) (F.upd (fileN nm 1) (some ([], 0))) rm x (lfA lf) false (w2.heap.size + 1) w2.heap.size nm sz [(0, 0)] false w') hL0 (hen _) (fun w' hq => absurd hq.1 (by decide)) (hload.mono (by
    rintro e w' ⟨rfl, hq⟩
    refine ⟨n5.tn hq.2 (fun e => ?_), .inl ⟨rfl, rfl, hq⟩⟩
    rcases e with e | e | e
    · have := hlow _ e
      omega
    · omega
    · omega)))
  clear hload
  refine hcall.out.mono ?_
  rintro e w' ⟨y, rfl, ⟨_, rfl, hq⟩ | ⟨rfl, w1, ⟨hy, _⟩, _⟩⟩
  · have HQ := Lib.hid hq
    clear hq hcall
    go_wp2_with fail
    go_ret2
    have hs5 := B5.size
    refine ⟨_, _, NewFt Ft (W4.alloc (.cells #[.int .i64 0] 33)) w', rfl, HQ.out.1, (hlow.up (by omega)).new HQ.out.2.size, fun i hi e => e.elim id (fun e => by omega), by omega, by omega, ?_⟩
    refine Tn.from_new (B4.trans (B5.mono B4.size)) HQ.out.2 (fun i hi e => ?_)
    rcases e with e | rfl | rfl
    · exact e
    · omega
    · omega
  · exact absurd hy (by decide)
end Go.Proofs.YtidadjlhnlmfkaaGreatDoor
