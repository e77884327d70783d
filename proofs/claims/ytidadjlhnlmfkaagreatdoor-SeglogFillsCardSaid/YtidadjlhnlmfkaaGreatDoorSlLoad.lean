/- A log's load over a disk without files. Conditions: as stated at each. -/
import Derived.Test.YtidadjlhnlmfkaaGreatDoorSlKeys
import Derived.Test.YtidadjlhnlmfkaaGreatDoorSlAppend
namespace Go.Proofs.YtidadjlhnlmfkaaGreatDoor
open Go.RowKit Go.Shelf Go Go.Maps
attribute [local go_sem] Oper.semAt_some
theorem files_any (W : World) (L : Nat) (s : ByteArray) :
    Calls Tryz.prog 51 #[.pointer (some ⟨L, 0, none⟩), .string s] W fun e w' => e = .returned (.func (.func 74) #[] #[.pointer (some ⟨W.heap.size, 0, none⟩), .pointer (some ⟨W.heap.size + 1, 0, none⟩)]) ∧ w' = (W.alloc (.cells #[.pointer (some ⟨L, 0, none⟩)] 32)).alloc (.cells #[.string s] 9) := by
  have hmf : ∀ (fn : Fn) (first cap : Array Value) (w : World), (Instr.makeFunc fn first cap).run Tryz.prog w = .ok (.func fn first cap) w := fun _ _ _ _ => rfl
  go_enter Tryz.func51, Tryz.ntmps51
  go_wp2_with fail
  go_ret
  exact ⟨rfl, rfl⟩
theorem Below.grownNone {W W' : World} (h : Below W.heap.size W W') : W.grownBy W' none := ⟨h.os, h.tape, h.output, h.size, fun i hi _ => h.block i hi⟩
set_option maxRecDepth 100000 in
set_option maxHeartbeats 1000000 in
theorem files_none (n : Nat) (h1n : 1 ≤ n) (w : World) (B0 B1 L Dk G k : Nat) (N : Nat) (Ft : Nat → Prop) (F : Files) (rm x lf : Int) (nm : ByteArray) (sz : Int) (g : List (Nat × Nat)) (dead : Bool) (s : ByteArray) (Kp : World → World → Prop)
    (h0 : BlkIs w B0 32 #[.pointer (some ⟨L, 0, none⟩)]) (_ : BlkIs w B1 9 #[.string s]) (h : LogS w N Ft Dk k F rm x lf false L G nm sz g dead) (hF : ∀ s, F s = none) :
    SeqStopsK Fence.wide n Tryz.prog 74 #[.pointer (some ⟨B0, 0, none⟩), .pointer (some ⟨B1, 0, none⟩)] (fun x : Empty => x.elim) Kp (fun _ => True) (fun _ => False) 0 w := fun l J Jx W hW hJ _ _ hj => by
  refine callsIn_of_wp Tryz.func74 rfl trivial ?_ rfl
  have c0 := (hW.cell (p := ⟨B0, 0, none⟩) h0.lt).trans (h0.cell 0)
  have hl := h.below hW
  have cL := BlkIs.cell hl.2.1 0
  have hn := Lib.hid (names_none W N Ft Dk k F rm x lf hl.1 hF)
  simp only [Tryz.ntmps74, List.size_toArray, List.length_cons, List.length_nil, Nat.reduceAdd, Nat.reduceSub, Array.replicate_succ, Array.replicate_zero, List.push_toArray, List.append_toArray, List.nil_append, List.cons_append]
  gi_wp2_with fail
  refine ⟨trivial, ?_⟩
  refine (callsIn_wide.2 hn.out).mono ?_
  rintro e w1 ⟨⟨A, cc, rfl⟩, hb⟩
  have HJ := Lib.hid (hJ _ _ _ _ hj (Below.grownNone hb) (fun r e => by cases e))
  clear hj
  gi_wp2_with fail
  gi_loopw [13] (fun i wr => i = .int .i64 0 ∧ J [] wr) (fun _ _ => 0)
  case atStart => exact ⟨rfl, HJ.out⟩
  case round =>
    obtain ⟨rfl, hJs⟩ := hrel
    gi_wp2_with fail
    go_end0
    exact ⟨⟨_, rfl⟩, .inl ⟨[], trivial, hJs⟩⟩
theorem Tn.putObj {p : Nat → Prop} {a b : World} (h : Tn p a b) {D : Nat} (hD : p D ∨ a.heap.size ≤ D) (o : Obj) : Tn p a (b.putObj D o) :=
  ⟨h.os, h.tape, h.output, by rw [show (b.putObj D o).heap.size = b.heap.size from by simp]; exact h.size, fun i hi hp => (World.putObj_heap_other (fun e => by
    rcases hD with hD | hD
    · exact hp (e ▸ hD)
    · omega)).trans (h.block i hi hp)⟩
theorem size_putObj (W : World) (D : Nat) (o : Obj) : (W.putObj D o).heap.size = W.heap.size := by simp
set_option maxRecDepth 100000 in
set_option maxHeartbeats 2000000 in
theorem load_none (W : World) (N : Nat) (Ft : Nat → Prop) (Dk k : Nat) (F : Files) (rm x lf : Int) (L G : Nat) (nm : ByteArray) (sz : Int)
    (h : LogS W N Ft Dk k F rm x lf false L G nm sz [] false) (hlow : Low W Ft) (hF : ∀ s, F s = none) (hn : nmOk nm) (hk : k + 1 < maxLen) (hx : 0 ≤ x) (hx2 : x ≤ 100000000) (hlf : lf ≤ 9223372036854775807) (h1 : lf ≠ 1) :
    CallsIn Fence.wide 5 Tryz.prog 23 #[.pointer (some ⟨L, 0, none⟩)] W fun e w' => e = .returned (.tuple #[]) ∧ LgPost W N Ft Dk (k + 2) (F.upd (fileN nm 1) (some ([], 0))) rm x (lfA lf) false L G nm sz [(0, 0)] false w' := by
  refine callsIn_of_wp_marks Tryz.func23 rfl trivial ?_ rfl
  simp only [Tryz.ntmps23, List.size_toArray, List.length_cons, List.length_nil, Nat.reduceAdd, Nat.reduceSub, Array.replicate_succ, Array.replicate_zero, List.push_toArray, List.append_toArray, List.nil_append, List.cons_append]
  obtain ⟨m0, m1, m2, mT⟩ := three_new W 32 26 3 #[.pointer (some ⟨L, 0, none⟩)] #[.slice none 0 0] #[.int .i64 0] (fun _ => False)
  have mB := three_below W 32 26 3 #[.pointer (some ⟨L, 0, none⟩)] #[.slice none 0 0] #[.int .i64 0]
  have hlL := h.ltL
  have hlG := h.ltG
  have e73 : ∀ args w, (callFunc 74 args).run Tryz.prog w = .ok (.enter 74 args) w := enters_of Tryz.func74 (by kernel_rfl) rfl
  gi_wp2_with fail
  generalize hW3 : (((W.alloc (Obj.cells #[Value.pointer (some { block := L, off := 0 })] 32)).alloc (Obj.cells #[Value.slice none 0 0] 26)).alloc (Obj.cells #[Value.int IntKind.i64 0] 3)) = W3 at *
  have z3 : W3.heap.size = W.heap.size + 3 := by rw [← hW3]; simp
  clear hW3
  refine ⟨trivial, ?_⟩
  refine (callsIn_wide.2 (files_any W3 L _)).mono ?_
  rintro e W5 ⟨rfl, hW5⟩
  have nB : Below W3.heap.size W3 W5 := by rw [hW5]; exact ((Below.refl _ W3).alloc (Nat.le_refl _) _).alloc (by simp) _
  have n0 : BlkIs W5 W3.heap.size 32 #[.pointer (some ⟨L, 0, none⟩)] := by rw [hW5]; exact (BlkIs.new W3 32 _).alloc _
  have n1 : BlkIs W5 (W3.heap.size + 1) 9 #[.string ⟨#[]⟩] := by
    rw [hW5]
    have := BlkIs.new (W3.alloc (.cells #[.pointer (some ⟨L, 0, none⟩)] 32)) 9 #[.string ⟨#[]⟩]
    rwa [World.size_alloc] at this
  have B5 : Below W.heap.size W W5 := mB.trans (nB.mono (by omega))
  have h5 := h.below B5
  clear hW5
  rw [z3] at n0 n1
  gi_wp2_with fail
  refine wpIn_rangeFunc_ownG (α := Empty) rfl (by omega) (gf := 74) rfl trivial e73 (files_none 4 (by omega) W5 _ _ L Dk G k N Ft F rm x lf nm sz [] false _ (Below W5.heap.size) n0 n1 h5 hF) belowK_t (belowK_b (Nat.le_refl _)) (Below.refl _ _) (fun x => x.elim)
    (fun _ X => Below W5.heap.size W5 X) (fun _ _ _ => False) (ownFrom_below (Nat.le_refl _) (Nat.le_refl _)) (fun _ _ _ _ _ hs _ _ => hs) (Below.refl _ _) (fun x => x.elim) ?assign ?body ?done ?stop
  case assign => exact fun l x => x.elim
  case body => exact fun l pre x => x.elim
  case stop =>
    rintro D c pre X _ hh
    exact hh.elim
  case done =>
    rintro D1 xs X hD1 _ hX hK1
    have BX : Below W.heap.size W X := B5.trans (hX.mono B5.size)
    have x0 : BlkIs X W.heap.size 32 _ := ((nB.trans (hX.mono nB.size)).block _ m0.lt).trans m0
    have x2 : BlkIs X (W.heap.size + 1 + 1) 3 _ := ((nB.trans (hX.mono nB.size)).block _ m2.lt).trans m2
    have xc := x0.cell 0
    have hXs := hX.size
    have hK1l : D1 < X.heap.size := (Array.getElem?_eq_some_iff.1 hK1).1
    gi_wp2_with fail
    refine ⟨trivial, ?_⟩
    refine (callsIn_wide.2 (files_any X L _)).mono ?_
    rintro e X5 ⟨rfl, hX5⟩
    have pB : Below X.heap.size X X5 := by rw [hX5]; exact ((Below.refl _ X).alloc (Nat.le_refl _) _).alloc (by simp) _
    have p0 : BlkIs X5 X.heap.size 32 #[.pointer (some ⟨L, 0, none⟩)] := by rw [hX5]; exact (BlkIs.new X 32 _).alloc _
    have p1 : BlkIs X5 (X.heap.size + 1) 9 #[.string ⟨#[46, 110, 101, 119]⟩] := by
      rw [hX5]
      have := BlkIs.new (X.alloc (.cells #[.pointer (some ⟨L, 0, none⟩)] 32)) 9 #[.string ⟨#[46, 110, 101, 119]⟩]
      rwa [World.size_alloc] at this
    have BX5 : Below W.heap.size W X5 := BX.trans (pB.mono BX.size)
    clear hX5
    gi_wp2_with fail
    refine wpIn_rangeFunc_ownG (α := Empty) rfl (by omega) (gf := 74) rfl trivial e73 (files_none 4 (by omega) X5 _ _ L Dk G k N Ft F rm x lf nm sz [] false _ (Below X5.heap.size) p0 p1 (h.below BX5) hF) belowK_t (belowK_b (Nat.le_refl _)) (Below.refl _ _) (fun x => x.elim)
      (fun _ Y => Below X5.heap.size X5 Y) (fun _ _ _ => False) (ownFrom_below (Nat.le_refl _) (Nat.le_refl _)) (fun _ _ _ _ _ hs _ _ => hs) (Below.refl _ _) (fun x => x.elim) ?assign2 ?body2 ?done2 ?stop2
    case assign2 => exact fun l x => x.elim
    case body2 => exact fun l pre x => x.elim
    case stop2 =>
      rintro D c pre Y _ hh
      exact hh.elim
    case done2 =>
      rintro D2 _ Y hD2 _ hY hK2
      have BXY : Below X.heap.size X Y := pB.trans (hY.mono pB.size)
      have BY : Below W.heap.size W Y := BX.trans (BXY.mono BX.size)
      have y0 : BlkIs Y W.heap.size 32 _ := (BXY.block _ x0.lt).trans x0
      have y2 : BlkIs Y (W.heap.size + 1 + 1) 3 _ := (BXY.block _ x2.lt).trans x2
      have yk1 : Y.heap[D1]? = some (.deferred (some [])) := (BXY.block _ hK1l).trans hK1
      have yc := y0.cell 0
      have yE := h.below BY
      have yL4 : Y.cell? ⟨L, 4, none⟩ = some (.int .i64 0) := BlkIs.cell yE.2.1 4
      have hbeg : Calls Tryz.prog 54 #[.pointer (some ⟨L, 0, none⟩), .int .i64 1] Y fun e w' => e = .returned (.tuple #[]) ∧ LgPost Y N Ft Dk (k + 2) (F.upd (fileN nm 1) (some ([], 0))) rm x (lfA lf) false L G nm sz [(0, 0)] false w' :=
        begin_ok Y N Ft Dk k F rm x lf L G nm sz [] yE (by simp) hn (hF _) hk hx hx2 hlf h1
      have HB := Lib.hid hbeg
      clear hbeg
      gi_wp2_with fail
      refine ⟨trivial, ?_⟩
      refine (callsIn_wide.2 HB.out).mono ?_
      rintro e Z ⟨rfl, hZ⟩
      have zl := hY.size
      have z5 := pB.size
      have out : ∀ j, W.heap.size ≤ j → ¬ OwnL Ft L G j := fun j hj e => by
        rcases e with e | rfl | rfl
        · have := hlow j e
          omega
        · omega
        · omega
      have z2 : BlkIs Z (W.heap.size + 1 + 1) 3 _ := y2.tn hZ.2 (out _ (by omega))
      have zc := z2.cell 0
      have HZ := Lib.hid hZ
      clear hZ
      gi_wp2_with fail
      have hK2l : D2 < Y.heap.size := (Array.getElem?_eq_some_iff.1 hK2).1
      have sX := BX.size
      have sXY := BXY.size
      have s5 := B5.size
      have zK2 : Z.heap[D2]? = some (.deferred (some [])) := (HZ.out.2.block D2 hK2l (out _ (by omega))).trans hK2
      have zK1 : (Z.putObj D2 (.deferred none)).heap[D1]? = some (.deferred (some [])) := (World.putObj_heap_other (by omega)).trans ((HZ.out.2.block D1 (by omega) (out _ (by omega))).trans yk1)
      refine ⟨by simp, .inl ⟨_, _, rfl, run_takeDeferred zK2, ?_⟩⟩
      refine ⟨by simp, .inl ⟨_, _, rfl, run_takeDeferred zK1, ?_⟩⟩
      have Tf := ((Tn.refl (fun i => i = D2 ∨ i = D1) Z).putObj (.inl (.inl rfl)) (.deferred none)).putObj (.inl (.inr rfl)) (.deferred none)
      have hE := HZ.out.1.keep Tf (fun i hi e => by
        have hno : ∀ j, W.heap.size ≤ j → j < Y.heap.size → ¬ OwnL (NewFt Ft Y Z) L G j := fun j h1 h2 e => by
          rcases e with (e | ⟨e, _⟩) | e
          · exact out j h1 (.inl e)
          · omega
          · exact out j h1 (.inr e)
        rcases e with rfl | rfl
        · exact hno _ (by omega) hK2l hi
        · exact hno _ (by omega) (by omega) hi)
      exact ⟨_, results_none rfl _ _ _, rfl, LgPost.up h.2.2.2.1 hlL h.2.2.2.2 hlG BY.size Tf.size hE ((((Tn.of_below BY).trans HZ.out.2).putObj (.inr (by omega)) _).putObj (.inr (by omega)) _)⟩
end Go.Proofs.YtidadjlhnlmfkaaGreatDoor
