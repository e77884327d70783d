/- Start at the example's state. Conditions: as stated at each. -/
import Derived.Test.YtlcnpddkppikgaaInv
import Derived.RangeFuncWrites
import Derived.RangeFuncFrom
namespace Go.Proofs.Ytlcnpddkppikgaa
open Go.RowKit Go.Shelf Go
attribute [local go_sem] Oper.semAt_some
def StartPost (W : World) (N D M : Nat) (xs : List Value) (w' : World) : Prop :=
  ∃ g c born clk, BlkIs w' D 38 #[.map (some M), .int .i64 100, .int .i64 7, .int .i64 0, .bool false] ∧ born < clk ∧ w'.heap[M]? = some (.map #[ent (.agg #[.slice (some ⟨g, 0, none⟩) 7 c, .int .i64 7]) born] clk) ∧
    w'.ownsRow N 5 1 (.slice (some ⟨g, 0, none⟩) 7 c) 7 (xs.take 7) ∧ Tn (fun i => i = D ∨ i = M) W w'
def After (W3 : World) (N D M B : Nat) (xs : List Value) (X : World) : Prop :=
  ∃ g c born clk, BlkIs X D 38 #[.map (some M), .int .i64 100, .int .i64 7, .int .i64 1, .bool true] ∧ born < clk ∧ X.heap[M]? = some (.map #[ent (.agg #[.slice (some ⟨g, 0, none⟩) 7 c, .int .i64 7]) born] clk) ∧
    X.ownsRow N 5 1 (.slice (some ⟨g, 0, none⟩) 7 c) 7 (xs.take 7) ∧ Tn (fun i => i = D ∨ i = M ∨ i = B) W3 X
def Inv (W3 : World) (N D M B : Nat) (xs : List Value) (pre : List Unit) (X : World) : Prop :=
  (pre = [] ∧ Below W3.heap.size W3 X) ∨ (pre = [()] ∧ After W3 N D M B xs X)
theorem inv_own (W3 : World) (N D M B : Nat) (xs : List Value) (hlt : D < W3.heap.size ∧ M < W3.heap.size) : OwnFrom W3.heap.size (Inv W3 N D M B xs) := by
  intro s X X' row hs hg hr
  have hrow : ∀ (g : Nat) (cs : Array Value) (t : TypeId) (fr : Nat × Nat), X.heap[g]? = some (.cells cs t fr) → row ≠ some g := fun g cs t fr hh e => by
    obtain ⟨_, o, ho, hn⟩ := hr g e
    rw [hh] at ho
    cases ho
    cases hn
  rcases hs with ⟨rfl, hb⟩ | ⟨rfl, g, c, born, clk, h1, h2, h3, h4, h5⟩
  · exact .inl ⟨rfl, hb.grown hg hb.size (fun k e => (hr k e).1)⟩
  · refine .inr ⟨rfl, g, c, born, clk, h1.grown_ hg (hrow D _ _ _ h1), h2, at_grown h3 hg (fun e => ?_), h4.kept hg (.inr (fun e => ?_)), h5.grown hg (fun k e => .inr (hr k e).1)⟩
    · have := (hr M e).1
      omega
    · rcases h4.2 with ⟨hv, _⟩ | ⟨g', cap', cur, hv, _, hh, _⟩
      · cases hv
      · injection hv with hv _ _
        injection hv with hv
        injection hv with hv
        subst hv
        exact hrow g _ _ _ hh (by rw [← e]; rfl)
theorem keeps_of_tn {n0 : Nat} {p : Nat → Prop} {X X' : World} (h : Tn p X X') (hp : ∀ i, p i → i < n0) : KeepsFrom n0 X X' :=
  ⟨h.size, fun k o hB hk _ => by rw [h.block k (Array.getElem?_eq_some_iff.1 hk).1 (fun hpk => by have := hp k hpk; omega)]; exact hk⟩
theorem bcell {W w1 : World} (hb : Below W.heap.size W w1) : (∀ b o, b < W.heap.size → w1.cell? ⟨b, o, none⟩ = W.cell? ⟨b, o, none⟩) ∧ (∀ b o, b < W.heap.size → w1.frozen? ⟨b, o, none⟩ = W.frozen? ⟨b, o, none⟩) :=
  ⟨fun b o h => hb.cell (p := ⟨b, o, none⟩) h, fun b o h => hb.frozen (p := ⟨b, o, none⟩) h⟩
theorem own_three {w : World} {base n D M B clk : Nat} {v : Value} {ds bs : Array Value} {es : Array MapEntry} {xs : List Value} (h : w.ownsRow base 5 1 v n xs) (hD : BlkIs w D 38 ds) (hM : w.heap[M]? = some (.map es clk)) (hB : BlkIs w B 32 bs) : ∀ j, v.ownBlock = some j → ¬ (j = D ∨ j = M ∨ j = B) := by
  intro j hj
  rintro (rfl | rfl | rfl)
  · exact own_ne h hD (by decide) hj
  · exact own_map h hM hj
  · exact own_ne h hB (by decide) hj
theorem settled_7 (W : World) (N g c : Nat) (xs : List Value) (hown : W.ownsRow N 5 1 (.slice (some ⟨g, 0, none⟩) 8 c) 8 xs) (h1 : ∀ u ∈ xs, u.oneCell' = true) :
    Calls Try.prog 24 #[.agg #[.slice (some ⟨g, 0, none⟩) 8 c, .int .i64 5], .int .i64 7] W fun e w' => ∃ g' c', e = .returned (.agg #[.slice (some ⟨g', 0, none⟩) 7 c', .int .i64 7]) ∧
      w'.ownsRow W.heap.size 5 1 (.slice (some ⟨g', 0, none⟩) 7 c') 7 (xs.take 7) ∧ Below W.heap.size W w' :=
  settled_any W N g 8 c 7 5 xs hown h1 (by decide) (by decide) (by decide)
theorem put_7 (W : World) (D M g g' c c' born clk : Nat)
    (hD : BlkIs W D 38 #[.map (some M), .int .i64 100, .int .i64 8, .int .i64 1, .bool true]) (hM : W.heap[M]? = some (.map #[ent (.agg #[.slice (some ⟨g, 0, none⟩) 8 c, .int .i64 5]) born] clk)) (hbc : born < clk) :
    Calls Try.prog 17 #[.pointer (some ⟨D, 0, none⟩), .string nA, .agg #[.slice (some ⟨g', 0, none⟩) 7 c', .int .i64 7]] W fun e w' => e = .returned (.tuple #[]) ∧ PutPost W D M (.int .i64 100) (.int .i64 1) (.bool true) 7 (some ⟨g', 0, none⟩) 7 c' 7 w' :=
  put_any W D M _ _ _ 8 _ clk 8 (some ⟨g', 0, none⟩) 7 c' 7 hD hM (.inr ⟨_, _, _, _, hbc, rfl⟩) (by decide) (by decide) (by decide) (by decide)
theorem own_two {w : World} {base n D M clk : Nat} {v : Value} {ds : Array Value} {es : Array MapEntry} {xs : List Value} (h : w.ownsRow base 5 1 v n xs) (hD : BlkIs w D 38 ds) (hM : w.heap[M]? = some (.map es clk)) : ∀ j, v.ownBlock = some j → ¬ (j = D ∨ j = M) := by
  intro j hj
  rintro (rfl | rfl)
  · exact own_ne h hD (by decide) hj
  · exact own_map h hM hj
theorem start_post {W W3 X : World} {N D M Dd g c born clk : Nat} {xs : List Value} {ds : Array Value} {em : Obj} (hD : BlkIs W D 38 ds) (hM : W.heap[M]? = some em) (jB : Below W.heap.size W W3) (hDd : W3.heap.size ≤ Dd) (hKd : X.heap[Dd]? = some (.deferred (some []))) (hDl : D < W3.heap.size)
    (a1 : BlkIs X D 38 #[.map (some M), .int .i64 100, .int .i64 7, .int .i64 1, .bool true]) (a2 : born < clk) (a3 : X.heap[M]? = some (.map #[ent (.agg #[.slice (some ⟨g, 0, none⟩) 7 c, .int .i64 7]) born] clk))
    (a4 : X.ownsRow N 5 1 (.slice (some ⟨g, 0, none⟩) 7 c) 7 (xs.take 7)) (a5 : Tn (fun i => i = D ∨ i = M ∨ i = W.heap.size + 1) W3 X) :
    StartPost W N D M xs (((X.setCell ⟨D, 4, none⟩ (.bool false)).setCell ⟨D, 3, none⟩ (.int .i64 0)).drew.putObj Dd (.deferred none)) := by
  have hMl : M < W.heap.size := (Array.getElem?_eq_some_iff.1 hM).1
  have hz := jB.size
  have hDW := hD.lt
  have hMD : M ≠ D := fun e => by subst e; unfold BlkIs at a1; rw [a3] at a1; cases a1
  have b1 := (a1.put 4 (.bool false)).put 3 (.int .i64 0)
  have hT0 := ((Tn.refl (fun i => i = D ∨ i = Dd) X).setCell (x := ⟨D, 4, none⟩) (.inl (.inl rfl)) (.bool false)).setCell (x := ⟨D, 3, none⟩) (.inl (.inl rfl)) (.int .i64 0)
  have hT1 : Tn (fun i => i = D ∨ i = Dd) X ((X.setCell ⟨D, 4, none⟩ (.bool false)).setCell ⟨D, 3, none⟩ (.int .i64 0)).drew := hT0.alk ⟨rfl, rfl, rfl, rfl⟩
  have hT : Tn (fun i => i = D ∨ i = Dd) X (((X.setCell ⟨D, 4, none⟩ (.bool false)).setCell ⟨D, 3, none⟩ (.int .i64 0)).drew.putObj Dd (.deferred none)) :=
    hT1.grown (grownBy_putObj' _ Dd _) (fun g e => .inl (.inr (by injection e with e; exact e.symm)))
  refine ⟨g, c, born, clk, ?_, a2, (hT.block M (Array.getElem?_eq_some_iff.1 a3).1 (by omega)).trans a3, ownsRow_tn a4 hT (fun j hj => ?_), ?_⟩
  · have b2 : BlkIs (((X.setCell ⟨D, 4, none⟩ (.bool false)).setCell ⟨D, 3, none⟩ (.int .i64 0)).drew) D 38 #[.map (some M), .int .i64 100, .int .i64 7, .int .i64 0, .bool false] := by
      have : #[Value.map (some M), .int .i64 100, .int .i64 7, .int .i64 0, .bool false] = ((#[Value.map (some M), .int .i64 100, .int .i64 7, .int .i64 1, .bool true].setIfInBounds 4 (.bool false)).setIfInBounds 3 (.int .i64 0)) := by simp
      rw [this]
      exact b1
    exact b2.grown_ (grownBy_putObj' _ Dd _) (fun e => by injection e with e; omega)
  · rintro (rfl | rfl)
    · exact own_ne a4 a1 (by decide) hj
    · rcases a4.2 with ⟨hv, _⟩ | ⟨g', cap', cur, hv, _, hh, _⟩
      · cases hv
      · injection hv with hv _ _
        injection hv with hv
        injection hv with hv
        simp [Value.ownBlock] at hj
        subst hj
        rw [hv, hh] at hKd
        cases hKd
  · have hW3 : Tn (fun i => i = D ∨ i = M) W W3 := Tn.of_below jB
    refine ⟨(hT.os.trans a5.os).trans hW3.os, (hT.tape.trans a5.tape).trans hW3.tape, (hT.output.trans a5.output).trans hW3.output, Nat.le_trans hz (Nat.le_trans a5.size hT.size), fun i hi hp => ?_⟩
    rw [hT.block i (by have := a5.size; omega) (by omega), a5.block i (by omega) (by omega)]
    exact hW3.block i hi hp
/-- where the region of the copy and the put stands: b7: the copy is made; b8: it is put. -/
def RegI (Y : World) (D M : Nat) (xs : List Value) (g' c' : Nat) (b7 b8 : Bool) (w : World) : Prop :=
  (b8 = false ∧ Below Y.heap.size Y w ∧ (b7 = true → w.ownsRow Y.heap.size 5 1 (.slice (some ⟨g', 0, none⟩) 7 c') 7 (xs.take 7))) ∨
  (b8 = true ∧ ∃ w1, Below Y.heap.size Y w1 ∧ w1.ownsRow Y.heap.size 5 1 (.slice (some ⟨g', 0, none⟩) 7 c') 7 (xs.take 7) ∧ PutPost w1 D M (.int .i64 100) (.int .i64 1) (.bool true) 7 (some ⟨g', 0, none⟩) 7 c' 7 w)
theorem RegI.below {Y : World} {D M : Nat} {xs : List Value} {g' c' : Nat} {b7 : Bool} {w : World} (h : RegI Y D M xs g' c' b7 false w) : Below Y.heap.size Y w := by
  rcases h with ⟨_, h, _⟩ | ⟨h, _⟩
  · exact h
  · cases h
def Ord (b0 b1 b2 b3 b4 b5 b6 b7 b8 : Bool) : Prop :=
  (b4 = true → b3 = true) ∧ (b6 = true → b4 = true ∧ b5 = true) ∧ (b7 = true → b2 = true ∧ b6 = true) ∧ (b8 = true → b0 = true ∧ b1 = true ∧ b7 = true)
theorem ord_all {b0 b1 b2 b3 b4 b5 b6 b7 : Bool} (h : Ord b0 b1 b2 b3 b4 b5 b6 b7 true) : b0 = true ∧ b1 = true ∧ b2 = true ∧ b3 = true ∧ b4 = true ∧ b5 = true ∧ b6 = true ∧ b7 = true := by
  obtain ⟨h1, h2, h3, h4⟩ := h
  obtain ⟨a, b, c⟩ := h4 rfl
  obtain ⟨d, e⟩ := h3 c
  obtain ⟨f, g⟩ := h2 e
  exact ⟨a, b, d, h1 f, f, g, e, c⟩
set_option maxRecDepth 100000 in
set_option maxHeartbeats 800000 in
theorem start_any (W : World) (N D M K g c clk born : Nat) (xs : List Value)
    (hD : BlkIs W D 38 #[.map (some M), .int .i64 100, .int .i64 8, .int .i64 1, .bool true]) (hM : W.heap[M]? = some (.map #[ent (.agg #[.slice (some ⟨g, 0, none⟩) 8 c, .int .i64 5]) born] clk)) (hbc : born < clk)
    (hown : W.ownsRow N 5 1 (.slice (some ⟨g, 0, none⟩) 8 c) 8 xs) (h1 : ∀ u ∈ xs, u.oneCell' = true) (hN : N ≤ W.heap.size) (hK : W.cell? ⟨K, 0, none⟩ = some (.int .i64 2)) :
    CallsIn Fence.wide 8 Try.prog 12 #[.pointer (some ⟨D, 0, none⟩), .slice (some ⟨K, 0, none⟩) 1 1] W fun e w' => e = .returned (.tuple #[]) ∧ StartPost W N D M xs w' := by
  have k0 := two_first W 24 32 #[.pointer (some ⟨D, 0, none⟩)] #[.slice (some ⟨K, 0, none⟩) 1 1]
  have k1 := two_new W 24 32 #[.pointer (some ⟨D, 0, none⟩)] #[.slice (some ⟨K, 0, none⟩) 1 1]
  have kB : Below W.heap.size W ((W.alloc (.cells #[.pointer (some ⟨D, 0, none⟩)] 24)).alloc (.cells #[.slice (some ⟨K, 0, none⟩) 1 1] 32)) := ((Below.refl _ W).alloc (Nat.le_refl _) _).alloc (by simp) _
  refine callsIn_of_wp_marks Try.func12 rfl trivial ?_ rfl
  simp only [Try.ntmps12, List.size_toArray, List.length_cons, List.length_nil, Nat.reduceAdd, Nat.reduceSub, Array.replicate_succ, Array.replicate_zero, List.push_toArray, List.append_toArray, List.nil_append, List.cons_append]
  gi_wp2_with fail
  obtain ⟨W2, hW2⟩ : ∃ W2, ((W.alloc (.cells #[.pointer (some ⟨D, 0, none⟩)] 24)).alloc (.cells #[.slice (some ⟨K, 0, none⟩) 1 1] 32)) = W2 := ⟨_, rfl⟩
  rw [hW2] at k0 k1 kB ⊢
  clear hW2
  have mlt : M < W.heap.size := (Array.getElem?_eq_some_iff.1 hM).1
  have kD : BlkIs W2 D 38 _ := (kB.block D hD.lt).trans hD
  have kM := (kB.block M mlt).trans hM
  have kK : W2.cell? ⟨K, 0, none⟩ = some (.int .i64 2) := (kB.cell (p := ⟨K, 0, none⟩) (World.block_lt_of_cell? W _ hK)).trans hK
  have kO := own_below hown kB
  have kz := kB.size
  have q0 := k0.cell 0
  have q1 := k1.cell 0
  have d4 := kD.cell 4
  refine ⟨trivial, ?_⟩
  refine (callsIn_wide.2 (made_any W2 D M (kD.cell 0))).mono ?_
  rintro e w' ⟨rfl, rfl⟩
  gi_wp2_with fail
  refine ⟨trivial, ?_⟩
  refine (callsIn_wide.2 (names_any W2 D M clk born _ _ _ _ _ kD kM hbc)).mono ?_
  rintro e W3 ⟨V, C, cap, rfl, hV, hC, bV, cC, hb⟩
  have j0 := (hb.block _ k0.lt).trans k0
  have j1 := (hb.block _ k1.lt).trans k1
  have jD : BlkIs W3 D 38 _ := (hb.block D (BlkIs.lt kD)).trans kD
  have jM := (hb.block M (by omega)).trans kM
  have jK := (hb.cell (p := ⟨K, 0, none⟩) (World.block_lt_of_cell? W2 _ kK)).trans kK
  have jO := own_below kO hb
  have jB := kB.trans (hb.mono kz)
  clear q0 q1 d4
  gi_wp2_with fail
  have hT0 : Tn (fun i => i = D ∨ i = M) W W3 := Tn.of_below jB
  refine wpIn_rangeFunc_ownG rfl (by omega) (gf := 29) (lb := #[.pointer (some ⟨V, 0, none⟩)]) rfl trivial (enters_of Try.func29 (by kernel_rfl) rfl)
    (vals_stops 7 (by omega) W3 W3.heap.size V C cap (fun i => i = D ∨ i = M ∨ i = W.heap.size + 1) bV cC) Kq.trans (Kq.book (Nat.le_refl _)) (Below.refl _ _) (fun _ => rfl)
    (Inv W3 N D M (W.heap.size + 1) xs) (fun _ _ _ => False) (inv_own W3 N D M (W.heap.size + 1) xs ?lt) (fun _ _ _ _ _ hs _ _ => hs) (.inl ⟨rfl, Below.refl _ _⟩)
    (fun _ => { tmps := #[.pointer (some ⟨D, 0, none⟩), .slice (some ⟨K, 0, none⟩) 1 1, .pointer (some ⟨W.heap.size, 0, none⟩), .pointer (some ⟨W.heap.size + 1, 0, none⟩), .string nA, undef, undef, undef, .pointer (some ⟨D, 0, none⟩), .bool true, .bool false, .bool false, .pointer (some ⟨D, 0, none⟩), .pointer (some ⟨D, 0, none⟩), .pointer (some ⟨D, 4, none⟩), .bool true, .bool false, .bool false, .pointer (some ⟨D, 0, none⟩), .func (.func 29) #[] #[.pointer (some ⟨V, 0, none⟩)], .string nA, undef, undef, undef, undef, undef, undef, undef, undef, undef, undef, undef, undef, undef, undef, undef, undef, undef, undef, undef, undef, undef, undef, undef, undef, undef, undef, undef, undef, undef, undef, undef, undef, undef, undef, undef, undef, undef, undef, undef, undef], defers := [] }) ?assign ?body ?done ?stop
  case lt => exact ⟨BlkIs.lt jD, (Array.getElem?_eq_some_iff.1 jM).1⟩
  case assign =>
    intro l x X K' hK'
    gi_wp2
    exact hK'
  case body =>
    rintro l pre x X hI hlen
    obtain rfl : pre = [] := List.eq_nil_of_length_eq_zero (by omega)
    rcases hI with ⟨_, hX⟩ | ⟨h, _⟩
    · have dlt := hD.lt
      have x0 : BlkIs X W.heap.size 24 #[.pointer (some ⟨D, 0, none⟩)] := (hX.block _ (BlkIs.lt (W := W3) j0)).trans j0
      have x1 : BlkIs X (W.heap.size + 1) 32 #[.slice (some ⟨K, 0, none⟩) 1 1] := (hX.block _ (BlkIs.lt (W := W3) j1)).trans j1
      have xD : BlkIs X D 38 #[.map (some M), .int .i64 100, .int .i64 8, .int .i64 1, .bool true] := (hX.block D (BlkIs.lt jD)).trans jD
      have xM := (hX.block M (Array.getElem?_eq_some_iff.1 jM).1).trans jM
      have xK := (hX.cell (p := ⟨K, 0, none⟩) (World.block_lt_of_cell? W3 _ jK)).trans jK
      have xO := own_below jO hX
      have xz := hX.size
      have q0 := x0.cell 0
      have q1 := x1.cell 0
      have f1 := x1.froz 0
      have d0 := xD.cell 0
      have hl := look_file X M clk _ _ 5 xM (.inr ⟨born, hbc, rfl⟩)
      have hmx : Try.prog.follows .mixedOrders = true := by kernel_rfl
      have y0 := x0.lt
      have y1 := x1.lt
      have yD := xD.lt
      have yK := World.block_lt_of_cell? X _ xK
      have yk : K < X.heap.size := yK
      have tX0 : Tn (fun i => i = D ∨ i = M ∨ i = W.heap.size + 1) W3 X := Tn.of_below hX
      have u3D := BlkIs.lt jD
      have u3M := (Array.getElem?_eq_some_iff.1 jM).1
      have u3B := BlkIs.lt (W := W3) j1
      have u3X := xz
      clear hX yK
      gi_wp2_with fail
      have tX := (Tn.refl (fun i => i = D ∨ i = M ∨ i = W.heap.size + 1) X).setCell (x := ⟨W.heap.size + 1, 0, none⟩) (.inl (.inr (.inr rfl))) (.slice (some ⟨K, 0, none⟩) 0 0)
      have tY := tX.alloc (.cells #[.slice (some ⟨g, 0, none⟩) 8 c, .int .i64 5] 41)
      have zF := BlkIs.new (X.setCell ⟨W.heap.size + 1, 0, none⟩ (.slice (some ⟨K, 0, none⟩) 0 0)) 41 #[.slice (some ⟨g, 0, none⟩) 8 c, .int .i64 5]
      have z0 := x0.tn (tY.mono (q := fun i => i = D ∨ i = M ∨ i = W.heap.size + 1) (fun _ _ h => h)) (by omega)
      have zD : BlkIs _ D 38 _ := ((xD.far (x := ⟨W.heap.size + 1, 0, none⟩) (by show D ≠ W.heap.size + 1; omega) (.slice (some ⟨K, 0, none⟩) 0 0))).alloc (.cells #[.slice (some ⟨g, 0, none⟩) 8 c, .int .i64 5] 41)
      have zM := (Below.heap_alloc (X.setCell ⟨W.heap.size + 1, 0, none⟩ (.slice (some ⟨K, 0, none⟩) 0 0)) (.cells #[.slice (some ⟨g, 0, none⟩) 8 c, .int .i64 5] 41) M (by simpa [World.setCell] using (Array.getElem?_eq_some_iff.1 xM).1)).trans ((Below.heap_setCell X ⟨W.heap.size + 1, 0, none⟩ (.slice (some ⟨K, 0, none⟩) 0 0) M (by show M ≠ W.heap.size + 1; omega)).trans xM)
      have zO := ownsRow_tn xO tY (own_three xO xD xM x1)
      have zsz : (X.setCell ⟨W.heap.size + 1, 0, none⟩ (.slice (some ⟨K, 0, none⟩) 0 0)).heap.size = X.heap.size := by simp [World.setCell]
      rw [zsz] at zF
      have zz := tY.size
      obtain ⟨Y, hY⟩ : ∃ Y, (X.setCell ⟨W.heap.size + 1, 0, none⟩ (.slice (some ⟨K, 0, none⟩) 0 0)).alloc (.cells #[.slice (some ⟨g, 0, none⟩) 8 c, .int .i64 5] 41) = Y := ⟨_, rfl⟩
      rw [hY] at tY zF z0 zD zM zO zz ⊢
      clear hY tX zsz hl
      have hNY : N ≤ Y.heap.size := by have := jB.size; omega
      rw [show min (max (2 : Int) 0) 3 = 2 from rfl]
      have p0 := z0.cell 0
      have pF0 := zF.cell 0
      have pF1 := zF.cell 1
      have l0 := z0.lt
      have lF := zF.lt
      have lD := BlkIs.lt zD
      have lM := (Array.getElem?_eq_some_iff.1 zM).1
      clear q0 q1 f1 d0 hD hM hown hN hK k0 k1 kB kD kM kK kO kz j0 j1 jD jM jK jO jB x0 x1 xD xM xO xK xz y0 y1 yD yk hb hT0 mlt dlt bV cC hV hC hmx zz
      have hmx : Try.prog.follows .mixedOrders = true := by kernel_rfl
      refine region_inv hmx (fun L a w => ∃ (b0 b1 b2 b3 b4 b5 b6 b7 b8 : Bool) (g' c' : Nat), L = #[b0, b1, b2, b3, b4, b5, b6, b7, b8] ∧ a = { tmps := #[.pointer (some ⟨D, 0, none⟩), .slice (some ⟨K, 0, none⟩) 1 1, .pointer (some ⟨W.heap.size, 0, none⟩), .pointer (some ⟨W.heap.size + 1, 0, none⟩), .string nA, .pointer (some ⟨X.heap.size, 0, none⟩), .int .i64 3, .int .i64 2, .pointer (some ⟨D, 0, none⟩), .bool true, .bool false, .bool false, .pointer (some ⟨D, 0, none⟩), .pointer (some ⟨D, 0, none⟩), .pointer (some ⟨D, 4, none⟩), .bool true, .bool false, .bool false, .pointer (some ⟨D, 0, none⟩), .func (.func 29) #[] #[.pointer (some ⟨V, 0, none⟩)], .string nA, .pointer (some ⟨D, 0, none⟩), .pointer (some ⟨D, 0, none⟩), .pointer (some ⟨D, 0, none⟩), .map (some M), .string nA, .agg #[.slice (some ⟨g, 0, none⟩) 8 c, .int .i64 5], .pointer (some ⟨X.heap.size, 0, none⟩), .slice (some ⟨g, 0, none⟩) 8 c, .int .i64 8, .pointer (some ⟨X.heap.size, 1, none⟩), .int .i64 5, .int .i64 3, .int .i64 3, .bool false, .slice (some ⟨K, 0, none⟩) 1 1, .int .i64 1, .bool true, .slice (some ⟨K, 0, none⟩) 1 1, .pointer (some ⟨K, 0, none⟩), .int .i64 2, .int .i64 (max 2 0), .int .i64 3, .int .i64 2, .slice (some ⟨K, 0, none⟩) 1 1, .slice (some ⟨K, 0, none⟩) 0 0, (bif b0 then .pointer (some ⟨D, 0, none⟩) else undef), (bif b1 then .string nA else undef), (bif b2 then .agg #[.slice (some ⟨g, 0, none⟩) 8 c, .int .i64 5] else undef), (bif b3 then .pointer (some ⟨X.heap.size, 1, none⟩) else undef), (bif b4 then .int .i64 5 else undef), (bif b5 then .int .i64 2 else undef), (bif b6 then .int .i64 7 else undef), (bif b7 then .agg #[.slice (some ⟨g', 0, none⟩) 7 c', .int .i64 7] else undef), (bif b8 then .tuple #[] else undef), undef, undef, undef, undef, undef, undef], defers := [] } ∧ RegI Y D M xs g' c' b7 b8 w ∧ Ord b0 b1 b2 b3 b4 b5 b6 b7 b8) ?start ?step ?fin
      case start =>
        intro w1 hk
        exact ⟨false, false, false, false, false, false, false, false, false, 0, 0, rfl, rfl, .inl ⟨rfl, ⟨hk.2.1, hk.2.2.1, hk.2.2.2, by rw [hk.1]; exact Nat.le_refl _, fun i _ => by rw [hk.1]⟩, fun h => by cases h⟩, by simp [Ord]⟩
      case fin =>
        rintro L a w ⟨b0, b1, b2, b3, b4, b5, b6, b7, b8, g', c', rfl, rfl, hw, _⟩ _ hr
        obtain rfl : b0 = true := not_ready hr 0 _ rfl (by simp)
        obtain rfl : b1 = true := not_ready hr 1 _ rfl (by simp)
        obtain rfl : b2 = true := not_ready hr 2 _ rfl (by simp)
        obtain rfl : b3 = true := not_ready hr 3 _ rfl (by simp)
        obtain rfl : b4 = true := not_ready hr 4 _ rfl (by simp)
        obtain rfl : b5 = true := not_ready hr 5 _ rfl (by simp)
        obtain rfl : b6 = true := not_ready hr 6 _ rfl (by simp)
        obtain rfl : b7 = true := not_ready hr 7 _ rfl (by simp)
        obtain rfl : b8 = true := not_ready hr 8 _ rfl (by simp)
        rcases hw with ⟨h, _⟩ | ⟨_, w1, hb1, hO1, hp⟩
        · cases h
        · have hTX := (tY.trans (Tn.of_below hb1)).trans (hp.2.2.mono (q := fun i => i = D ∨ i = M ∨ i = W.heap.size + 1) (fun i _ h => h.elim .inl (fun h => .inr (.inl h))))
          obtain ⟨hp1, ⟨born', clk', hbc', hp2⟩, hp3⟩ := hp
          have hO2 := ownsRow_tn hO1 hp3 (own_two hO1 ((hb1.block D lD).trans zD) ((hb1.block M lM).trans zM))
          gi_wp2
          exact ⟨keeps_of_tn hTX (fun i hi => by have hi' : i = D ∨ i = M ∨ i = W.heap.size + 1 := hi; omega), Kq.of_tn hTX u3X, .inr ⟨rfl, g', c', born', clk', hp1, hbc', hp2, own_base_le hO2 hNY, tX0.trans hTX⟩⟩
      case step =>
        have h1x := h1
        rintro L a w i o ⟨b0, b1, b2, b3, b4, b5, b6, b7, b8, g', c', rfl, rfl, hw, hord⟩ ho h1 h2
        have hi : i < 9 := (Array.getElem?_eq_some_iff.1 ho).1
        obtain rfl | rfl | rfl | rfl | rfl | rfl | rfl | rfl | rfl : i = 0 ∨ i = 1 ∨ i = 2 ∨ i = 3 ∨ i = 4 ∨ i = 5 ∨ i = 6 ∨ i = 7 ∨ i = 8 := by omega
        · obtain rfl : b0 = false := h1
          obtain rfl := Option.some.inj ho
          obtain rfl : b8 = false := by cases b8 with | false => rfl | true => (have := ord_all hord; simp at this)
          have hB := hw.below
          have c0 := (hB.cell (p := ⟨W.heap.size, 0, none⟩) l0).trans p0
          refine wpOpIn_step rfl (fun K' hK' => ?_)
          go_simp
          exact hK' _ _ ⟨true, b1, b2, b3, b4, b5, b6, b7, false, g', c', rfl, rfl, hw, ⟨hord.1, hord.2.1, hord.2.2.1, fun h => by cases h⟩⟩
        · obtain rfl : b1 = false := h1
          obtain rfl := Option.some.inj ho
          obtain rfl : b8 = false := by cases b8 with | false => rfl | true => (have := ord_all hord; simp at this)
          refine wpOpIn_step rfl (fun K' hK' => ?_)
          go_simp
          exact hK' _ _ ⟨b0, true, b2, b3, b4, b5, b6, b7, false, g', c', rfl, rfl, hw, ⟨hord.1, hord.2.1, hord.2.2.1, fun h => by cases h⟩⟩
        · obtain rfl : b2 = false := h1
          obtain rfl := Option.some.inj ho
          obtain rfl : b8 = false := by cases b8 with | false => rfl | true => (have := ord_all hord; simp at this)
          have hB := hw.below
          have c0 := (hB.cell (p := ⟨X.heap.size, 0, none⟩) lF).trans pF0
          have c1 := (hB.cell (p := ⟨X.heap.size, 1, none⟩) lF).trans pF1
          refine wpOpIn_step rfl (fun K' hK' => ?_)
          go_simp
          exact hK' _ _ ⟨b0, b1, true, b3, b4, b5, b6, b7, false, g', c', rfl, rfl, hw, ⟨hord.1, hord.2.1, fun h => ⟨rfl, (hord.2.2.1 h).2⟩, fun h => by cases h⟩⟩
        · obtain rfl : b3 = false := h1
          obtain rfl := Option.some.inj ho
          obtain rfl : b8 = false := by cases b8 with | false => rfl | true => (have := ord_all hord; simp at this)
          refine wpOpIn_step rfl (fun K' hK' => ?_)
          go_simp
          exact hK' _ _ ⟨b0, b1, b2, true, b4, b5, b6, b7, false, g', c', rfl, rfl, hw, ⟨fun _ => rfl, hord.2.1, hord.2.2.1, fun h => by cases h⟩⟩
        · obtain rfl : b4 = false := h1
          obtain rfl := Option.some.inj ho
          obtain rfl : b3 = true := h2 { on := 3, ground := .data } (by simp) rfl
          obtain rfl : b8 = false := by cases b8 with | false => rfl | true => (have := ord_all hord; simp at this)
          have hB := hw.below
          have c1 := (hB.cell (p := ⟨X.heap.size, 1, none⟩) lF).trans pF1
          refine wpOpIn_step rfl (fun K' hK' => ?_)
          go_simp
          exact hK' _ _ ⟨b0, b1, b2, true, true, b5, b6, b7, false, g', c', rfl, rfl, hw, ⟨fun _ => rfl, fun h => ⟨rfl, (hord.2.1 h).2⟩, hord.2.2.1, fun h => by cases h⟩⟩
        · obtain rfl : b5 = false := h1
          obtain rfl := Option.some.inj ho
          obtain rfl : b8 = false := by cases b8 with | false => rfl | true => (have := ord_all hord; simp at this)
          refine wpOpIn_step rfl (fun K' hK' => ?_)
          go_simp
          exact hK' _ _ ⟨b0, b1, b2, b3, b4, true, b6, b7, false, g', c', rfl, rfl, hw, ⟨hord.1, fun h => ⟨(hord.2.1 h).1, rfl⟩, hord.2.2.1, fun h => by cases h⟩⟩
        · obtain rfl : b6 = false := h1
          obtain rfl := Option.some.inj ho
          obtain rfl : b4 = true := h2 { on := 4, ground := .data } (by simp) rfl
          obtain rfl : b5 = true := h2 { on := 5, ground := .data } (by simp) rfl
          obtain rfl : b8 = false := by cases b8 with | false => rfl | true => (have := ord_all hord; simp at this)
          refine wpOpIn_step rfl (fun K' hK' => ?_)
          go_simp
          exact hK' _ _ ⟨b0, b1, b2, b3, true, true, true, b7, false, g', c', rfl, rfl, hw, ⟨hord.1, fun _ => ⟨rfl, rfl⟩, fun h => ⟨(hord.2.2.1 h).1, rfl⟩, fun h => by cases h⟩⟩
        · obtain rfl : b7 = false := h1
          obtain rfl := Option.some.inj ho
          obtain rfl : b2 = true := h2 { on := 2, ground := .data } (by simp) rfl
          obtain rfl : b6 = true := h2 { on := 6, ground := .data } (by simp) rfl
          obtain rfl : b8 = false := by cases b8 with | false => rfl | true => (have := ord_all hord; simp at this)
          refine wpOpIn_step rfl (fun K' hK' => ?_)
          go_simp
          refine ⟨trivial, ?_⟩
          have hB := hw.below
          refine (CallsIn.inRound l (callsIn_wide.2 (settled_7 w N g c xs (own_below zO hB) h1x))).mono ?_
          rintro e w1 ⟨g1, c1, rfl, hO1, hb1⟩
          exact hK' _ _ ⟨b0, b1, true, b3, b4, b5, true, true, false, g1, c1, rfl, rfl, .inl ⟨rfl, hB.trans (hb1.mono hB.size), fun _ => own_base_le hO1 hB.size⟩, ⟨hord.1, hord.2.1, fun _ => ⟨rfl, rfl⟩, fun h => by cases h⟩⟩
        · obtain rfl : b8 = false := h1
          obtain rfl := Option.some.inj ho
          obtain rfl : b0 = true := h2 { on := 0, ground := .data } (by simp) rfl
          obtain rfl : b1 = true := h2 { on := 1, ground := .data } (by simp) rfl
          obtain rfl : b7 = true := h2 { on := 7, ground := .data } (by simp) rfl
          refine wpOpIn_step rfl (fun K' hK' => ?_)
          rcases hw with ⟨_, hB, hO1⟩ | ⟨h, _⟩
          · go_simp
            refine ⟨trivial, ?_⟩
            refine (CallsIn.inRound l (callsIn_wide.2 (put_7 w D M g g' c c' born clk ((hB.block D lD).trans zD) ((hB.block M lM).trans zM) hbc))).mono ?_
            rintro e w2 ⟨rfl, hp⟩
            exact hK' _ _ ⟨true, true, b2, b3, b4, b5, b6, true, true, g', c', rfl, rfl, .inr ⟨rfl, w, hB, hO1 rfl, hp⟩, ⟨hord.1, hord.2.1, hord.2.2.1, fun _ => ⟨rfl, rfl, rfl⟩⟩⟩
          · cases h
    · cases h
  case done =>
    rintro Dd ys X hDd rfl hI hKd
    rcases hI with ⟨h, _⟩ | ⟨_, hA⟩
    · cases h
    · obtain ⟨g', c', born', clk', a1, a2, a3, a4, a5⟩ := hA
      have dlt := hD.lt
      have x0 : BlkIs X W.heap.size 24 #[.pointer (some ⟨D, 0, none⟩)] := BlkIs.tn (W := W3) j0 a5 (by omega)
      have q0 := x0.cell 0
      have c3 := a1.cell 3
      have c4 := a1.cell 4
      have f3 := a1.froz 3
      have f4 := a1.froz 4
      have hmx : Try.prog.follows .mixedOrders = true := by kernel_rfl
      gi_wp2
      gi_region
      all_goals gi_wp2
      have hDn : Dd ≠ D := by have := BlkIs.lt jD; omega
      have e1 : ((X.setCell ⟨D, 4, none⟩ (.bool false)).setCell ⟨D, 3, none⟩ (.int .i64 0)).drew.heap[Dd]? = some (.deferred (some [])) :=
        (Below.heap_setCell _ ⟨D, 3, none⟩ _ Dd hDn).trans ((Below.heap_setCell X ⟨D, 4, none⟩ _ Dd hDn).trans hKd)
      refine ⟨by simp, .inl ⟨_, _, rfl, run_takeDeferred e1, ?_⟩⟩
      exact ⟨_, results_none rfl _ _ _, rfl, start_post hD hM jB hDd hKd (BlkIs.lt jD) a1 a2 a3 a4 a5⟩
  case stop =>
    rintro _ _ _ _ _ _ h _
    exact h.elim
end Go.Proofs.Ytlcnpddkppikgaa
