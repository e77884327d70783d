/- frame.All. Conditions: as stated. -/
import Derived.Test.YtidadjlhnlmfkaaGreatDoorFlAllParts
import Derived.Test.YtidadjlhnlmfkaaGreatDoorFlClone
namespace Go.Proofs.YtidadjlhnlmfkaaGreatDoor
set_option maxRecDepth 100000
open Go.RowKit Go.Shelf Go
attribute [local go_sem] Oper.semAt_some
theorem records_any (W : World) (A : Option Addr) (n c : Nat) :
    Calls Tryz.prog 67 #[.slice A n c] W fun e w' => e = .returned (.func (.func 88) #[] #[.pointer (some ⟨W.heap.size, 0, none⟩)]) ∧ w' = W.alloc (.cells #[.slice A n c] 26) := by
  go_enter Tryz.func67, Tryz.ntmps67
  go_wp2_with fail
  go_ret
  exact ⟨rfl, rfl⟩
/-- where the region of the clone and the append stands. -/
def RegA (X : World) (N n0 : Nat) (done : List (List UInt8)) (r : List UInt8) (z : Value) (A2 : Option Addr) (c2 g : Nat) (v' : Value) (b2 b3 b4 b5 : Bool) (w : World) : Prop :=
  (b4 = false ∧ b5 = false ∧ Below X.heap.size X w ∧ (b2 = true → Own5 w X.heap.size (.slice A2 r.length c2) r) ∧ (b3 = true → w.cell? ⟨g, 0, none⟩ = some (.slice A2 r.length c2))) ∨
  (b4 = true ∧ OwnR w n0 v' (done ++ [r]) ∧ KeepsFrom n0 X w ∧ Below N X w ∧ Boxed w (N + 1) 3 z ∧ ∃ t, Boxed w N 22 t ∧ (b5 = true → t = v'))
def OrdA (b0 b1 b2 b3 b4 b5 : Bool) : Prop := (b2 = true → b1 = true) ∧ (b3 = true → b2 = true) ∧ (b4 = true → b0 = true ∧ b3 = true) ∧ (b5 = true → b4 = true)
set_option maxHeartbeats 1600000 in
theorem all_in (A : Option Addr) (c : Nat) (l : List UInt8) (W : World) (hbt : Bts W W.heap.size A l) (hl : l.length ≤ c) (hc : c ≤ maxLen) (hm : l.length ≤ 100000000) :
    CallsIn Fence.wide 8 Tryz.prog 42 #[.slice A l.length c] W fun e w' => Alls W l e w' := by
  refine callsIn_of_wp_marks Tryz.func42 rfl trivial ?_ rfl
  simp only [Tryz.ntmps42, List.size_toArray, List.length_cons, List.length_nil, Nat.reduceAdd, Nat.reduceSub, Array.replicate_succ, Array.replicate_zero, List.push_toArray, List.append_toArray, List.nil_append, List.cons_append]
  gi_wp2_with fail
  refine ⟨trivial, ?_⟩
  refine (callsIn_wide.2 (records_any _ _ _ _)).mono ?_
  rintro e w' ⟨rfl, rfl⟩
  gi_wp2_with fail
  have k1 := ((Boxed.new W 22 (.slice none 0 0)).alloc (.cells #[.int .i64 0] 3)).alloc (.cells #[.slice A l.length c] 26)
  have k2 : Boxed (((W.alloc (.cells #[.slice none 0 0] 22)).alloc (.cells #[.int .i64 0] 3)).alloc (.cells #[.slice A l.length c] 26)) (W.heap.size + 1) 3 (.int .i64 0) := by
    have := (Boxed.new (W.alloc (.cells #[.slice none 0 0] 22)) 3 (.int .i64 0)).alloc (.cells #[.slice A l.length c] 26)
    rwa [World.size_alloc] at this
  have k3 : Boxed (((W.alloc (.cells #[.slice none 0 0] 22)).alloc (.cells #[.int .i64 0] 3)).alloc (.cells #[.slice A l.length c] 26)) (W.heap.size + 2) 26 (.slice A l.length c) := by
    have := Boxed.new ((W.alloc (.cells #[.slice none 0 0] 22)).alloc (.cells #[.int .i64 0] 3)) 26 (.slice A l.length c)
    rwa [World.size_alloc, World.size_alloc] at this
  have kB : Below W.heap.size W (((W.alloc (.cells #[.slice none 0 0] 22)).alloc (.cells #[.int .i64 0] 3)).alloc (.cells #[.slice A l.length c] 26)) := (((Below.refl _ W).alloc (Nat.le_refl _) _).alloc (by simp) _).alloc (by simp; omega) _
  have kz : W.heap.size + 3 = (((W.alloc (.cells #[.slice none 0 0] 22)).alloc (.cells #[.int .i64 0] 3)).alloc (.cells #[.slice A l.length c] 26)).heap.size := by simp
  generalize ((W.alloc (.cells #[.slice none 0 0] 22)).alloc (.cells #[.int .i64 0] 3)).alloc (.cells #[.slice A l.length c] 26) = W3 at *
  have kb := hbt.below kB
  have hmx : Tryz.prog.follows .mixedOrders = true := by kernel_rfl
  refine wpIn_rangeFunc_ownG rfl (by omega) (gf := 88) (lb := #[.pointer (some ⟨W.heap.size + 2, 0, none⟩)]) rfl trivial (enters_of Tryz.func88 (by kernel_rfl) rfl)
    (recs_stops 7 (by omega) W3 (W.heap.size + 2) W.heap.size c A l k3 kb (by omega) hl hc hm) belowK_t (belowK_b (by omega)) (Below.refl _ _) (fun _ => rfl)
    (AllI W3 W W.heap.size) (fun _ _ _ => False) (allI_own W3 W W.heap.size (by omega)) (fun _ _ _ _ _ hs _ _ => hs) (allI_nil W3 W W.heap.size k1 k2 kB)
    (fun x => { tmps := #[.slice A l.length c, undef, .slice none 0 0, .int .i64 0, .pointer (some ⟨W.heap.size, 0, none⟩), .pointer (some ⟨W.heap.size + 1, 0, none⟩), .slice x.1.1 x.1.2.2.length x.1.2.1, .slice A l.length c, .func (.func 88) #[] #[.pointer (some ⟨W.heap.size + 2, 0, none⟩)], .slice x.1.1 x.1.2.2.length x.1.2.1, undef, undef, undef, undef, undef, undef, undef, undef, undef, undef, undef, undef], defers := [] }) ?assign ?body ?done ?stop
  case assign =>
    intro lp x X K' hK'
    dsimp only [encR]
    gi_wp2
    exact hK'
  case body =>
    rintro lp pre ⟨⟨A1, c1, r⟩, g1, g2, g3, g4⟩ X ⟨v, b1, o1, b2, ht, hb, hz⟩ hlen
    dsimp only at g1 g2 g3 g4
    have hbX : Below W.heap.size W3 X := ⟨hb.os.trans kB.os.symm, hb.tape.trans kB.tape.symm, hb.output.trans kB.output.symm, hz, fun k hk => (hb.block k hk).trans (kB.block k hk).symm⟩
    have hx := g1.below hbX
    have hNX : W.heap.size ≤ X.heap.size := hb.size
    have l1 := b1.lt
    have l2 := b2.lt
    generalize hdone : pre.map byR = done at *
    have hdl : done.length ≤ 100000000 := by rw [← hdone]; simp; omega
    have HD := Lib.hid hdone
    have HT := Lib.hid ht
    have HO := Lib.hid o1
    clear hdone ht o1 k1 k2 k3 kb hbt
    generalize htk : took done = tk at *
    have HTK := Lib.hid htk
    clear htk
    gi_wp2_with fail
    refine region_inv hmx (fun L a w => ∃ (b0 b1 b2 b3 b4 b5 : Bool) (A2 : Option Addr) (c2 g : Nat) (v' : Value), L = #[b0, b1, b2, b3, b4, b5] ∧ a = { tmps := #[.slice A l.length c, undef, .slice none 0 0, .int .i64 0, .pointer (some ⟨W.heap.size, 0, none⟩), .pointer (some ⟨W.heap.size + 1, 0, none⟩), .slice A1 r.length c1, .slice A l.length c, .func (.func 88) #[] #[.pointer (some ⟨W.heap.size + 2, 0, none⟩)], .slice A1 r.length c1, (bif b0 then v else undef), (bif b1 then .slice A1 r.length c1 else undef), (bif b2 then .slice A2 r.length c2 else undef), (bif b3 then .slice (some ⟨g, 0, none⟩) 1 1 else undef), (bif b4 then v' else undef), undef, undef, undef, undef, undef, undef, undef], defers := [] } ∧ RegA X W.heap.size W3.heap.size done r (.int .i64 tk) A2 c2 g v' b2 b3 b4 b5 w ∧ OrdA b0 b1 b2 b3 b4 b5) ?start ?step ?fin
    case start =>
      intro w1 h1 h2 h3 h4
      exact ⟨false, false, false, false, false, false, none, 0, 0, undef, rfl, rfl, .inl ⟨rfl, rfl, ⟨h2, h3, h4, by rw [h1]; exact Nat.le_refl _, fun k _ => by rw [h1]⟩, fun h => (by cases h), fun h => (by cases h)⟩, by simp [OrdA]⟩
    case fin =>
      rintro L a w ⟨a0, a1, a2, a3, a4, a5, A2, c2, g, v', rfl, rfl, hw, _⟩ _ hr
      obtain rfl : a0 = true := not_ready hr 0 _ rfl (by simp)
      obtain rfl : a1 = true := not_ready hr 1 _ rfl (by simp)
      obtain rfl : a2 = true := not_ready hr 2 _ rfl (by simp)
      obtain rfl : a3 = true := not_ready hr 3 _ rfl (by simp)
      obtain rfl : a4 = true := not_ready hr 4 _ rfl (by simp)
      obtain rfl : a5 = true := not_ready hr 5 _ rfl (by simp)
      rcases hw with ⟨h, _⟩ | ⟨_, y1, y2, y3, y4, t, y5, y6⟩
      · cases h
      · obtain rfl := y6 rfl
        have cZ := y4.cell
        have fZ := y4.frozen
        have ht2 : (tk : Int) ≤ 200000000000000 := by have := HT.out; omega
        have hr2 : (r.length : Int) ≤ 1000000 := by omega
        gi_wp2_with fail
        have e1 : (tk : Int) + (8 + (r.length : Int)) = ((took (done ++ [r]) : Nat) : Int) := by
          rw [took_append, HTK.out, took_cons, took_nil]
          omega
        rw [e1]
        refine ⟨y2.trans ((KeepsOthers.setCell _ _ _).from _), y3.setCell (by show W.heap.size ≤ W.heap.size + 1; omega) _, ?_⟩
        have e2 : (pre ++ [(⟨(A1, c1, r), g1, g2, g3, g4⟩ : RecAt W3 W.heap.size)]).map byR = done ++ [r] := by
          rw [List.map_append, HD.out]; rfl
        refine ⟨_, Boxed.far y5 (by omega) _, ?_, ?_, ?_, hb.trans (y3.setCell (by show W.heap.size ≤ W.heap.size + 1; omega) _), ?_⟩
        · rw [e2]; exact y1.set y4 (by decide) (by decide)
        · rw [e2]; exact y4.set _
        · rw [e2, took_append, HTK.out, took_cons, took_nil, List.length_append]
          have := HT.out
          simp only [List.length_cons, List.length_nil]
          omega
        · have := y2.size
          simp only [World.setCell, Array.size_modify]
          omega
    case step =>
      rintro L a w i o ⟨a0, a1, a2, a3, a4, a5, A2, c2, g, v', rfl, rfl, hw, hord⟩ ho h1 h2
      have hi : i < 6 := (Array.getElem?_eq_some_iff.1 ho).1
      obtain rfl | rfl | rfl | rfl | rfl | rfl : i = 0 ∨ i = 1 ∨ i = 2 ∨ i = 3 ∨ i = 4 ∨ i = 5 := by omega
      · obtain rfl : a0 = false := h1
        obtain rfl := Option.some.inj ho
        obtain rfl : a4 = false := by cases a4 with | false => rfl | true => (have := (hord.2.2.1 rfl).1; cases this)
        rcases hw with ⟨_, rfl, hB, y1, y2⟩ | ⟨h, _⟩
        · have cR := (hB.cell (p := ⟨W.heap.size, 0, none⟩) l1).trans b1.cell
          refine wpOpIn_step rfl (fun K' hK' => ?_)
          go_simp
          exact hK' _ _ ⟨true, a1, a2, a3, false, false, A2, c2, g, v', rfl, rfl, .inl ⟨rfl, rfl, hB, y1, y2⟩, ⟨hord.1, hord.2.1, fun h => (by cases h), fun h => (by cases h)⟩⟩
        · cases h
      · obtain rfl : a1 = false := h1
        obtain rfl := Option.some.inj ho
        obtain rfl : a2 = false := by cases a2 with | false => rfl | true => (have := hord.1 rfl; cases this)
        obtain rfl : a3 = false := by cases a3 with | false => rfl | true => (have := hord.2.1 rfl; cases this)
        obtain rfl : a4 = false := by cases a4 with | false => rfl | true => (have := (hord.2.2.1 rfl).2; cases this)
        rcases hw with ⟨_, rfl, hB, y1, y2⟩ | ⟨h, _⟩
        · refine wpOpIn_step rfl (fun K' hK' => ?_)
          go_simp
          exact hK' _ _ ⟨a0, true, false, false, false, false, A2, c2, g, v', rfl, rfl, .inl ⟨rfl, rfl, hB, y1, y2⟩, ⟨fun _ => rfl, fun h => (by cases h), fun h => (by cases h), fun h => (by cases h)⟩⟩
        · cases h
      · obtain rfl : a2 = false := h1
        obtain rfl := Option.some.inj ho
        obtain rfl : a1 = true := h2 { on := 1, ground := .data } (by simp) rfl
        obtain rfl : a3 = false := by cases a3 with | false => rfl | true => (have := hord.2.1 rfl; cases this)
        obtain rfl : a4 = false := by cases a4 with | false => rfl | true => (have := (hord.2.2.1 rfl).2; cases this)
        rcases hw with ⟨_, rfl, hB, y1, y2⟩ | ⟨h, _⟩
        · refine wpOpIn_step rfl (fun K' hK' => ?_)
          go_simp
          refine ⟨trivial, ?_⟩
          refine (CallsIn.inRound lp (callsIn_wide.2 (clone_any _ _ _ _ w (hx.below (hB.mono hNX)) (Nat.le_trans hNX hB.size) (by omega)))).mono ?_
          rintro e w2 ⟨u, rfl, ou, hb2⟩
          obtain ⟨A3, c3, rfl, _⟩ := own_slice ou
          exact hK' _ _ ⟨a0, true, true, false, false, false, A3, c3, g, v', rfl, rfl, .inl ⟨rfl, rfl, hB.trans (hb2.mono hB.size), fun _ => own_more ou hB.size, fun h => (by cases h)⟩, ⟨fun _ => rfl, fun h => (by cases h), fun h => (by cases h), fun h => (by cases h)⟩⟩
        · cases h
      · obtain rfl : a3 = false := h1
        obtain rfl := Option.some.inj ho
        obtain rfl : a2 = true := h2 { on := 2, ground := .data } (by simp) rfl
        obtain rfl : a1 = true := hord.1 rfl
        obtain rfl : a4 = false := by cases a4 with | false => rfl | true => (have := (hord.2.2.1 rfl).2; cases this)
        rcases hw with ⟨_, rfl, hB, y1, y2⟩ | ⟨h, _⟩
        · refine wpOpIn_step rfl (fun K' hK' => ?_)
          go_simp
          have hal := (Below.refl w.heap.size w).alloc (Nat.le_refl _) (.cells #[.slice A2 r.length c2] 26)
          exact hK' _ _ ⟨a0, true, true, true, false, false, A2, c2, w.heap.size, v', rfl, rfl, .inl ⟨rfl, rfl, hB.trans (hal.mono hB.size), fun _ => own_kept (y1 rfl) hal (Nat.le_refl _), fun _ => (cell_of_row _ w.heap.size 0 #[.slice A2 r.length c2] 26 (0, 0) (heap_alloc_new w _)).trans rfl⟩, ⟨fun _ => rfl, fun _ => rfl, fun h => (by cases h), fun h => (by cases h)⟩⟩
        · cases h
      · obtain rfl : a4 = false := h1
        obtain rfl := Option.some.inj ho
        obtain rfl : a0 = true := h2 { on := 0, ground := .data } (by simp) rfl
        obtain rfl : a3 = true := h2 { on := 3, ground := .data } (by simp) rfl
        obtain rfl : a2 = true := hord.2.1 rfl
        obtain rfl : a1 = true := hord.1 rfl
        rcases hw with ⟨_, rfl, hB, y1, y2⟩ | ⟨h, _⟩
        · refine wpOpIn_step rfl (fun K' hK' => ?_)
          rw [if_pos (by simp [Region.wanted])]
          have oX := HO.out.kept hB (Nat.le_refl _)
          refine wpIn_app22 (.tmp 10) (.tmp 13) rfl W3.heap.size v done rfl oX g 1 _ r rfl (y2 rfl) (own_more (y1 rfl) hz) (by omega) (Nat.le_trans hz hB.size) ?_
          intro v9 w9 o9 g9
          have bX := (b1.kept (row := none) ⟨hB.os, hB.tape, hB.output, hB.size, fun k hk _ => hB.block k hk⟩ (by simp)).kept g9 (oX.not_box (b1.kept (row := none) ⟨hB.os, hB.tape, hB.output, hB.size, fun k hk _ => hB.block k hk⟩ (by simp)) (by decide))
          have bZ := (b2.kept (row := none) ⟨hB.os, hB.tape, hB.output, hB.size, fun k hk _ => hB.block k hk⟩ (by simp)).kept g9 (oX.not_box (b2.kept (row := none) ⟨hB.os, hB.tape, hB.output, hB.size, fun k hk _ => hB.block k hk⟩ (by simp)) (by decide))
          refine hK' _ _ ⟨true, true, true, true, true, false, A2, c2, g, v9, rfl, rfl, .inr ⟨rfl, o9, (keeps_below hB).trans ((KeepsOthers.of_grownBy g9 oX.cells).from _), (hB.mono hNX).grown g9 (Nat.le_trans hNX hB.size) (fun k hk => Nat.le_trans (by omega) (oX.low k hk)), bZ, v, bX, fun h => (by cases h)⟩, ⟨fun _ => rfl, fun _ => rfl, fun _ => ⟨rfl, rfl⟩, fun _ => rfl⟩⟩
        · cases h
      · obtain rfl : a5 = false := h1
        obtain rfl := Option.some.inj ho
        obtain rfl : a4 = true := h2 { on := 4, ground := .data } (by simp) rfl
        obtain rfl : a0 = true := (hord.2.2.1 rfl).1
        obtain rfl : a3 = true := (hord.2.2.1 rfl).2
        obtain rfl : a2 = true := hord.2.1 rfl
        obtain rfl : a1 = true := hord.1 rfl
        rcases hw with ⟨h, _⟩ | ⟨_, y1, y2, y3, y4, t, y5, y6⟩
        · cases h
        · refine wpOpIn_step rfl (fun K' hK' => ?_)
          have cR := y5.cell
          have fR := y5.frozen
          obtain ⟨A9, c9, rfl, _⟩ := y1.slice
          have e9 : (done ++ [r]).length = done.length + 1 := by simp
          rw [e9] at y1
          clear e9
          go_simp
          refine hK' _ _ ⟨true, true, true, true, true, true, A2, c2, g, _, rfl, rfl, .inr ⟨rfl, y1.set y5 (by decide) (by decide), y2.trans ((KeepsOthers.setCell _ _ _).from _), y3.setCell (Nat.le_refl _) _, Boxed.far y4 (by omega) _, _, y5.set _, fun _ => rfl⟩, ⟨fun _ => rfl, fun _ => rfl, fun _ => ⟨rfl, rfl⟩, fun _ => rfl⟩⟩
  case done =>
    rintro D xs X hD hS ⟨v, b1, o1, b2, _, hb, hz⟩ hKd
    rw [hS] at o1 b2
    have c1 := b1.cell
    have c2 := b2.cell
    have hcells := hKd
    gi_wp2
    gi_region
    all_goals gi_wp2
    refine ⟨by simp, .inl ⟨_, _, rfl, run_takeDeferred (w := X.drew) hKd, ?_⟩⟩
    have hg := grownBy_putObj' X.drew D (.deferred none)
    have hD2 : D < X.drew.heap.size := (Array.getElem?_eq_some_iff.1 hKd).1
    refine ⟨.tuple #[v, .int .i64 (took (recs l) : Nat)], by simp [results, Tryz.results42, go_sem], v, rfl, ?_, ?_⟩
    · exact (OwnR.row (w := X.drew) o1 hg (fun r e => by cases e; exact ⟨_, hKd, rfl⟩)).more (by omega)
    · exact hb.drew.grown hg hb.size (fun k e => by cases e; omega)
  case stop =>
    rintro _ _ _ _ _ _ h _
    exact h.elim
theorem all_any (A : Option Addr) (c : Nat) (l : List UInt8) (W : World) (hbt : Bts W W.heap.size A l) (hl : l.length ≤ c) (hc : c ≤ maxLen) (hm : l.length ≤ 100000000) :
    Calls Tryz.prog 42 #[.slice A l.length c] W fun e w' => Alls W l e w' := callsIn_wide.1 (all_in A c l W hbt hl hc hm)
end Go.Proofs.YtidadjlhnlmfkaaGreatDoor
