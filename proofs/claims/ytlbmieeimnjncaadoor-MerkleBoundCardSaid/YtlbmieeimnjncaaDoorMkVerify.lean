/- The contract of Verify: the program's. Conditions: as stated. -/
import Derived.Test.YtlbmieeimnjncaaDoorMkApart
import Derived.Test.YtlbmieeimnjncaaDoorMkSide
namespace Go.Proofs.YtlbmieeimnjncaaDoor
set_option maxRecDepth 100000
open Go.RowKit Go.Shelf Go
attribute [local go_sem] Oper.semAt_some
theorem alone_any (n m : Nat) (w : World) : Calls Tryd.prog 13 #[.int .i64 (n : Nat), .int .i64 (m : Nat)] w fun e w' => e = .returned (.bool (decide (n = 1))) ∧ w = w' := by
  by_cases h : n = 1
  · subst h
    go_enter Tryd.func13, Tryd.ntmps13
    go_wp2_with fail
    go_ret
    exact ⟨rfl, rfl⟩
  · have h1 : ((n : Int) == 1) = false := by simp; omega
    have hd : decide (n = 1) = false := by simpa using h
    rw [hd]
    go_enter Tryd.func13, Tryd.ntmps13
    go_wp2_with fail
    go_ret
    exact ⟨rfl, rfl⟩
/-- what the loop has taken in. -/
def takenS (sd : List (List UInt8 × Bool)) (len : Nat) (leaf : List UInt8) (pre : List {i : Nat // i < len}) : List UInt8 := (pre.map fun x => sd.getD x.1 ([], false)).foldl (fun acc s => sideS s acc) leaf
theorem sideS_length (s : List UInt8 × Bool) (x : List UInt8) : (sideS s x).length = 32 := by
  unfold sideS
  split
  · exact nodeS_length _ _
  · exact nodeS_length _ _
theorem takenS_snoc (sd : List (List UInt8 × Bool)) (len : Nat) (leaf : List UInt8) (pre : List {i : Nat // i < len}) (x : {i : Nat // i < len}) : takenS sd len leaf (pre ++ [x]) = sideS (sd.getD x.1 ([], false)) (takenS sd len leaf pre) := by simp [takenS]
theorem takenS_length (sd : List (List UInt8 × Bool)) (len : Nat) {leaf : List UInt8} (h : leaf.length = 32) (pre : List {i : Nat // i < len}) : (takenS sd len leaf pre).length = 32 := by
  rcases List.eq_nil_or_concat pre with rfl | ⟨pre, x, rfl⟩
  · exact h
  · rw [List.concat_eq_append, takenS_snoc]; exact sideS_length _ _
theorem downs_sides {len : Nat} {L : List (List UInt8 × Bool)} (h : L.length = len) : (downs len).map (fun x => L.getD x.1 ([], false)) = L.reverse := by
  have e : (downs len).map (fun x => L.getD x.1 ([], false)) = ((downs len).map Subtype.val).map (fun i => L.getD i ([], false)) := by rw [List.map_map]; rfl
  rw [e, downs_val, List.map_reverse]
  congr 1
  apply List.ext_getElem
  · simp [h]
  · intro i h1 h2
    simp
    rw [List.getElem?_eq_getElem h2]
    rfl
theorem takenS_all {len : Nat} {sd : List (List UInt8 × Bool)} (h : sd.length = len) (leaf : List UInt8) : takenS sd len leaf (downs len) = sd.foldr sideS leaf := by
  unfold takenS
  rw [downs_sides h, List.foldl_reverse]
def VfI (N Sx B0 : Nat) (root : List UInt8) (sd : List (List UInt8 × Bool)) (len : Nat) (leaf : List UInt8) (W0 : World) (pre : List {i : Nat // i < len}) (W : World) : Prop :=
  BlkIs W N 22 (bv root).toArray ∧ BlkIs W Sx 22 (bv (takenS sd len leaf pre)).toArray ∧ Below N W0 W ∧ B0 ≤ W.heap.size
theorem vfI_own {N B Sx B0 : Nat} {root : List UInt8} {sd : List (List UInt8 × Bool)} {len : Nat} {leaf : List UInt8} {W0 : World} (hB : N ≤ B) : OwnFrom B (VfI N Sx B0 root sd len leaf W0) := fun s _ _ row ⟨h1, h2, h3, h4⟩ hg hr =>
  ⟨blk_grown h1 hg (fun r e => (hr r e).2), blk_grown h2 hg (fun r e => (hr r e).2), h3.grown hg (Nat.le_of_lt h1.lt) (fun k hk => by have := (hr k hk).1; omega), Nat.le_trans h4 hg.size⟩
def VfA (N Sx Bs : Nat) (root leaf : List UInt8) (A Av A2 : Option Addr) (p c n i sl cv c2 : Nat) (sd : List (List UInt8 × Bool)) (x : {i : Nat // i < sl}) (a' : Act) (W : World) : Prop := ∃ Bx, Sx < Bx ∧ BlkIs W Bx 46 (sv (sd.getD x.1 ([], false))).toArray ∧
  a' = { tmps := #[.agg (bv root).toArray, .int .i64 (n : Int), .int .i64 (i : Int), .agg (bv leaf).toArray, .slice A p c, .pointer (some ⟨N, 0, none⟩), undef, undef, .pointer (some ⟨N + 1, 0, none⟩), undef, .bool false, .func (.func 13) #[] #[], .slice Av sl cv, .slice A2 0 c2, .bool true, .pointer (some ⟨Sx, 0, none⟩), undef, .pointer (some ⟨Bx, 0, none⟩), .int .i64 (i : Int), .bool false, .bool false, .int .i64 (i : Int), .int .i64 (n : Int), .bool false, .bool false, .tuple #[.slice Av sl cv, .slice A2 0 c2, .bool true], .int .i64 (n : Int), .int .i64 (i : Int), .int .i64 ((i : Int) + 1), .slice A p c, .func (.func 13) #[] #[], .tuple #[.slice Av sl cv, .slice A2 0 c2, .bool true], .slice Av sl cv, .slice A2 0 c2, .bool true, .bool true, .bool false, .bool false, .slice A2 0 c2, .int .i64 0, .bool false, .bool false, .agg (bv leaf).toArray, .slice Av sl cv, .func (.func 23) #[] #[.pointer (some ⟨Bs, 0, none⟩)], .int .i64 (x.1 : Int), .agg (sv (sd.getD x.1 ([], false))).toArray, undef, undef, undef, undef, undef, undef, undef, undef, undef, undef, undef, undef, undef], defers := [] }
theorem vfA_own {B N Sx Bs : Nat} {root leaf : List UInt8} {A Av A2 : Option Addr} {p c n i sl cv c2 : Nat} {sd : List (List UInt8 × Bool)} (x : {i : Nat // i < sl}) (a' : Act) : OwnFrom B (fun (_ : Unit) W => VfA N Sx Bs root leaf A Av A2 p c n i sl cv c2 sd x a' W) := fun _ _ _ _ ⟨Bx, h1, h2, h3⟩ hg hr =>
  ⟨Bx, h1, blk_grown h2 hg (fun r e => (hr r e).2), h3⟩
theorem vf_done {N Sx B0 len : Nat} {root leaf acc : List UInt8} {sd : List (List UInt8 × Bool)} {W0 W w6 w7 : World} {pre : List {i : Nat // i < len}} (j1 : BlkIs W N 22 (bv root).toArray) (_ : BlkIs W Sx 22 (bv acc).toArray) (j3 : Below N W0 W) (j4 : B0 ≤ W.heap.size) (hSx : Sx < B0) (hN : N < Sx)
    (hb6 : Below W.heap.size W w6) (ht7 : Tn (fun i => i = Sx) w6 w7) (hb7 : BlkIs w7 Sx 22 (bv (takenS sd len leaf pre)).toArray) :
    KeepsFrom B0 W w7 ∧ Kq B0 (fun i => i = Sx) W w7 ∧ VfI N Sx B0 root sd len leaf W0 pre w7 := by
  have h6 := hb6.size
  have hlt := j1.lt
  refine ⟨(keeps_below hb6).trans (keeps_of_tn ht7 (fun i hi => by omega)), (Kq.of_below hb6 j4).trans (Kq.of_tn ht7 (by omega)), BlkIs.tn ((hb6.block _ hlt).trans j1) ht7 (by omega), hb7, (j3.trans (hb6.mono (by omega))).trans (ht7.below (by omega) (fun i hi h => by omega)), Nat.le_trans j4 (Nat.le_trans h6 ht7.size)⟩
theorem apartR_len (fin : Nat → Nat → Bool) : ∀ (R : List (List UInt8)) (n m : Nat), (apartR fin n m R).1.length ≤ R.length
  | [], _, _ => Nat.le_refl _
  | s :: R, n, m => by
    cases h : fin n m
    · by_cases hs : spl n < m
      · rw [apartR_left h hs]
        have := apartR_len fin R (n - spl n) (m - spl n)
        simp
        exact this
      · rw [apartR_right h (by omega)]
        have := apartR_len fin R (spl n) m
        simp
        exact this
    · rw [apartR_end h]
      simp
set_option maxRecDepth 100000 in
set_option maxHeartbeats 3200000 in
theorem verify_in (root leaf : List UInt8) (A : Option Addr) (p c n i : Nat) (L : List (List UInt8)) (w : World) (hr : root.length = 32) (hl : leaf.length = 32) (hp : L.length = p) (h9 : p ≤ 100000) (hc : p ≤ c) (hm : c ≤ maxLen) (h : Hs w w.heap.size A L) (hi : i < n) (h63 : n ≤ 9223372036854775807) (hg : Glob w) :
    CallsIn Fence.wide 3 Tryd.prog 6 #[.agg (bv root).toArray, .int .i64 n, .int .i64 i, .agg (bv leaf).toArray, .slice A p c] w fun e w' => e = .returned (.bool ((upR n i leaf L.reverse).2 && ((upR n i leaf L.reverse).1 == root))) ∧ Below w.heap.size w w' := by
  have h1 : 1 ≤ 3 := by omega
  have GS := Lib.hid hg.size
  have i1 : ¬ (i : Int) < 0 := by omega
  have i2 : ¬ (n : Int) ≤ (i : Int) := by omega
  have ei : IntKind.i64.wrap ((i : Int) + 1) = (i : Int) + 1 := IntWalk.i64_in _ (by omega)
  have HAP : Hid (∀ W, Below w.heap.size w W → Calls Tryd.prog 14 #[.int .i64 n, .int .i64 ((i : Int) + 1), .slice A p c, .func (.func 13) #[] #[]] W fun e w' => ∃ v1 A2 len2 c2 L2, e = .returned (.tuple #[v1, .slice A2 len2 c2, .bool (apartR (fun n _ => decide (n = 1)) n (i + 1) L.reverse).2.2]) ∧
      OwnD w' W.heap.size v1 (apartR (fun n _ => decide (n = 1)) n (i + 1) L.reverse).1 ∧ Hs w' w'.heap.size A2 L2 ∧ L2.length = len2 ∧ len2 ≤ c2 ∧ c2 ≤ maxLen ∧ L2.reverse = (apartR (fun n _ => decide (n = 1)) n (i + 1) L.reverse).2.1 ∧ Below W.heap.size W w') := Lib.hid fun W hb => by
    have := apart_calls 13 (fun n _ => decide (n = 1)) (enters_of Tryd.func13 (by kernel_rfl) rfl) (fun n m w _ _ _ => alone_any n m w) (fun n m a b hf => by
      have h2 : n ≠ 1 := by simpa using hf
      omega) A p c n (i + 1) L W hp h9 hc hm ((h.below hb).more hb.size) (by omega) (by omega) h63
    simpa using this
  obtain ⟨q1, q2⟩ := apart_up leaf L.reverse n i hi
  have hsd := apartR_len (fun n _ => decide (n = 1)) L.reverse n (i + 1)
  rw [List.length_reverse, hp] at hsd
  generalize apartR (fun n _ => decide (n = 1)) n (i + 1) L.reverse = ap at *
  obtain ⟨sd, rest, ok⟩ := ap
  dsimp only at q1 q2 HAP hsd
  have hul := upR_length hl L.reverse n i
  generalize upR n i leaf L.reverse = up at *
  obtain ⟨ux, ub⟩ := up
  dsimp only at q1 q2 hul ⊢
  refine callsIn_of_wp_marks Tryd.func6 rfl trivial ?_ rfl
  simp only [Tryd.ntmps6, List.size_toArray, List.length_cons, List.length_nil, Nat.reduceAdd, Nat.reduceSub, Array.replicate_succ, Array.replicate_zero, List.push_toArray, List.append_toArray, List.nil_append, List.cons_append]
  gi_wp2_with fail
  refine ⟨trivial, callsIn_wide.2 ((HAP.out _ (below2 w _ _)).mono ?_)⟩
  rintro e w2 ⟨v1, A2, len2, c2, L2, rfl, hov, hs2, hl2, hc2, hm2, hrev, hb2⟩
  have hsz2 := hb2.size
  have hbw : Below w.heap.size w w2 := (below2 w _ _).trans (hb2.mono (by simp; omega))
  have b0 : BlkIs w2 w.heap.size 22 (bv root).toArray := (hb2.block _ (by simp; omega)).trans (two_blocks w _ _).1
  have b1 : BlkIs w2 (w.heap.size + 1) 22 (bv leaf).toArray := (hb2.block _ (by simp)).trans (two_blocks w _ _).2
  obtain ⟨Av, cv, ev, hv1, hv2⟩ := hov.slice
  obtain ⟨sl, hsl⟩ : ∃ sl, sl = sd.length := ⟨_, rfl⟩
  rw [← hsl] at ev hsd
  subst ev
  have HSL := Lib.hid hsl
  have HOV := Lib.hid (hov.more (by simp; omega : w.heap.size ≤ _))
  have HB0 := Lib.hid b0
  have HB1 := Lib.hid b1
  have HBW := Lib.hid hbw
  have HUX := Lib.hid hul
  have HQ1 := Lib.hid q1
  have HQ2 := Lib.hid q2
  clear hsl hov b0 b1 hbw q1 q2 hul hs2 hb2 HAP hc2 hm2
  cases ok
  · have hub : Hid ((ub && (ux == root)) = false) := Lib.hid (by rw [HQ1.out]; rfl)
    gi_wp2_with fail
    exact ⟨_, results_tmp rfl _ _ _, by rw [hub.out]; rfl, HBW.out⟩
  · by_cases h0 : len2 = 0
    · subst h0
      have hrest : Hid (ub = true) := Lib.hid (by
        rw [HQ1.out, ← hrev, List.eq_nil_of_length_eq_zero hl2]
        rfl)
      clear hrev hl2
      have HLL := Lib.hid hl
      have HRR := Lib.hid hr
      have HZL : Hid ((bv (List.replicate 32 0)).toArray.size = (bv leaf).toArray.size) := Lib.hid (by rw [List.size_toArray, List.size_toArray, bv_length, bv_length, hl]; rfl)
      clear hl hr
      have hb1r := BlkIs.sum HB1.out
      gi_wp2_with (first
        | (refine lin_load_mid (Wide.wide _ _) rfl 22 (.tmp 8) rfl (w.heap.size + 1) 0 rfl (bv leaf) _ hb1r Tryd.underlying22 rfl (isz26s HLL.out) ?_)
        | (refine lin_store (Wide.wide _ _) (.tmp 15) (.tmp 42) 22 w2.heap.size 22 _ (bv leaf).toArray (BlkIs.new w2 _ _) rfl rfl rfl rfl rfl (isz26a HLL.out) HZL.out (bv_all _) ?_; intro w3 hb3 ht3; have k3 : Below w2.heap.size w2 w3 := (below1 w2 _).trans (ht3.below (by simp) (fun i hi h => by omega)); clear ht3 hb1r)
        | fail)
      refine ⟨trivial, callsIn_wide.2 ((back_D _ _ _ _).mono ?_)⟩
      rintro e w4 ⟨rfl, e4⟩
      have k4 : Below w3.heap.size w3 w4 := e4 ▸ below1 w3 _
      have b4 : BlkIs w4 w3.heap.size 39 #[.slice Av sl cv] := e4 ▸ BlkIs.new w3 _ _
      have hS4 : BlkIs w4 w2.heap.size 22 (bv leaf).toArray := (k4.block _ hb3.lt).trans hb3
      have hlt3 := hb3.lt
      have hlt4 := b4.lt
      have k24 : Below w2.heap.size w2 w4 := k3.trans (k4.mono k3.size)
      have hR4 : BlkIs w4 w.heap.size 22 (bv root).toArray := (k24.block _ HB0.out.lt).trans HB0.out
      have hW4 : Below w.heap.size w w4 := HBW.out.trans (k24.mono HBW.out.size)
      have hD4 : Ds w4 w2.heap.size Av sd := HOV.out.ds.below k24
      have hsdl : sd.length = sl := HSL.out.symm
      have c4 := b4.cell 0
      have HDS := Lib.hid hD4.1
      clear e4 k3 k4 hb3
      gi_wp2_with fail
      refine wpIn_rangeFunc_ownH rfl h1 (gf := 23) (lb := #[.pointer (some ⟨w3.heap.size, 0, none⟩)]) rfl trivial (enters_of Tryd.func23 (by kernel_rfl) rfl)
        (back_stops_D w3.heap.size w4.heap.size w2.heap.size sl cv (fun i => i = w2.heap.size) Av sd hsdl (by omega) w4 (by omega) (by omega) (Nat.le_refl _) (by omega) (fun i hi h => by omega) c4 hD4) Kq.trans (Kq.book (Nat.le_refl _)) (Below.refl _ _) (fun _ => rfl)
        (VfI w.heap.size w2.heap.size w4.heap.size root sd sl leaf w) (fun _ _ _ => False) (vfI_own (by have := HBW.out.size; omega)) (fun _ _ _ _ _ hs _ _ => hs) ⟨hR4, hS4, hW4, Nat.le_refl _⟩
        (VfA w.heap.size w2.heap.size w3.heap.size root leaf A Av A2 p c n i sl cv c2 sd) vfA_own ?assign ?body ?done ?stop
      case assign =>
        intro l pre x W K hi hK
        have hx32 := Ds.getD HDS.out (k := x.1) (by rw [hsdl]; exact x.2)
        dsimp only [encD]
        obtain ⟨sx, hsx⟩ : ∃ sx, sx = sd.getD x.1 ([], false) := ⟨_, rfl⟩
        rw [← hsx] at hx32 ⊢
        have hZ : (sv (List.replicate 32 0, false)).toArray.size = (sv sx).toArray.size := by rw [List.size_toArray, List.size_toArray, sv_length hx32]; rfl
        have HSX := Lib.hid hsx
        have HX := Lib.hid hx32
        have HZ := Lib.hid hZ
        clear hsx hx32 hZ
        gi_wp2_with (first
          | (refine lin_store (Wide.round _ _ _) (.tmp 17) (.tmp 46) 46 W.heap.size 46 _ (sv sx).toArray (BlkIs.new W _ _) rfl rfl rfl rfl rfl (isz56a HX.out) HZ.out (sv_all _) ?_; intro w5 hb5 ht5)
          | fail)
        have hb : Below W.heap.size W w5 := (below1 W _).trans (ht5.below (by simp) (fun i hi h => by omega))
        obtain ⟨j1, j2, j3, j4⟩ := hi
        have hlt := j2.lt
        exact hK _ _ (keeps_below hb) (Kq.of_below hb j4) ⟨(hb.block _ j1.lt).trans j1, (hb.block _ j2.lt).trans j2, j3.trans (hb.mono (by have := j1.lt; omega)), Nat.le_trans j4 hb.size⟩ ⟨W.heap.size, hlt, by rw [← HSX.out]; exact hb5, by rw [← HSX.out]⟩
      case body =>
        rintro l pre x a' W _ ⟨r, hr⟩ ⟨j1, j2, j3, j4⟩ ⟨Bx, hBx, bX, rfl⟩ hlt
        have hx32 := Ds.getD HDS.out (k := x.1) (by rw [hsdl]; exact x.2)
        have hsn := takenS_snoc sd sl leaf pre x
        have hacc := takenS_length sd sl HLL.out pre
        generalize sd.getD x.1 ([], false) = sx at *
        obtain ⟨s, b⟩ := sx
        dsimp only at hx32
        generalize takenS sd sl leaf pre = acc at *
        have HSN := Lib.hid hsn
        have HX := Lib.hid hx32
        have HAC := Lib.hid hacc
        have cb : W.cell? ⟨Bx, 32, none⟩ = some (.bool b) := bX.get (by simp [sv, bv_length, hx32])
        have rs : W.rangeAt Bx 0 (bv s) := range_sub (a := []) (n := 0) (c := [.bool b]) (by have := bX.rng; simpa [sv] using this) rfl
        have ra := BlkIs.sum j2
        have hlx := bX.lt
        have hgl : Glob W := hg.below j3 GS.out
        have hN2 := HBW.out.size
        have hlN := HB0.out.lt
        have HGL := Lib.hid hgl
        have J1 := Lib.hid j1
        have J2 := Lib.hid j2
        have J3 := Lib.hid j3
        clear hsn hx32 hacc bX hgl j1 j3
        cases b
        · have HN := Lib.hid (nodeS_length acc s)
          gi_wp2_with (first
            | (refine lin_load_mid (Wide.round _ _ _) rfl 22 (.tmp 15) rfl w2.heap.size 0 rfl (bv acc) _ ra Tryd.underlying22 rfl (isz26s HAC.out) ?_)
            | (refine lin_load_mid (Wide.round _ _ _) rfl 22 (.tmp 54) rfl Bx 0 rfl (bv s) _ rs Tryd.underlying22 rfl (isz26s HX.out) ?_)
            | (refine ⟨trivial, CallsIn.inRound l (callsIn_wide.2 ((node_any acc s W HAC.out HX.out HGL.out).mono ?_))⟩; rintro e w6 ⟨rfl, hb6⟩; have y2 : BlkIs w6 w2.heap.size 22 (bv acc).toArray := (hb6.block _ J2.out.lt).trans J2.out)
            | (refine lin_store (Wide.round _ _ _) (.tmp 15) (.tmp 56) 22 w2.heap.size 22 _ (bv (nodeS acc s)).toArray y2 rfl rfl rfl rfl rfl (isz26a HN.out) (by rw [List.size_toArray, List.size_toArray, bv_length, bv_length, HAC.out, HN.out]) (bv_all _) ?_; intro w7 hb7 ht7)
            | fail)
          exact vf_done J1.out J2.out J3.out j4 (by omega) (by omega) hb6 ht7 (by rw [HSN.out]; exact hb7)
        · have HN := Lib.hid (nodeS_length s acc)
          gi_wp2_with (first
            | (refine lin_load_mid (Wide.round _ _ _) rfl 22 (.tmp 15) rfl w2.heap.size 0 rfl (bv acc) _ ra Tryd.underlying22 rfl (isz26s HAC.out) ?_)
            | (refine lin_load_mid (Wide.round _ _ _) rfl 22 (.tmp 49) rfl Bx 0 rfl (bv s) _ rs Tryd.underlying22 rfl (isz26s HX.out) ?_)
            | (refine ⟨trivial, CallsIn.inRound l (callsIn_wide.2 ((node_any s acc W HX.out HAC.out HGL.out).mono ?_))⟩; rintro e w6 ⟨rfl, hb6⟩; have y2 : BlkIs w6 w2.heap.size 22 (bv acc).toArray := (hb6.block _ J2.out.lt).trans J2.out)
            | (refine lin_store (Wide.round _ _ _) (.tmp 15) (.tmp 52) 22 w2.heap.size 22 _ (bv (nodeS s acc)).toArray y2 rfl rfl rfl rfl rfl (isz26a HN.out) (by rw [List.size_toArray, List.size_toArray, bv_length, bv_length, HAC.out, HN.out]) (bv_all _) ?_; intro w7 hb7 ht7)
            | fail)
          exact vf_done J1.out J2.out J3.out j4 (by omega) (by omega) hb6 ht7 (by rw [HSN.out]; exact hb7)
      case done =>
        rintro D xs W hD rfl ⟨j1, j2, j3, j4⟩ hK
        rw [takenS_all hsdl leaf, ← HQ2.out hrest.out] at j2
        have rx := BlkIs.sum j2
        have rr := BlkIs.sum j1
        have heq := fun w => run_eq24 ux root HUX.out HRR.out w
        have hlN := j1.lt
        have hq := hW4.size
        gi_wp2_with (first
          | (refine lin_load_mid (Wide.wide _ _) rfl 22 (.tmp 15) rfl w2.heap.size 0 rfl (bv ux) _ rx Tryd.underlying22 rfl (isz26s HUX.out) ?_)
          | (refine lin_load_mid (Wide.wide _ _) rfl 22 (.tmp 5) rfl w.heap.size 0 rfl (bv root) _ rr Tryd.underlying22 rfl (isz26s HRR.out) ?_)
          | fail)
        refine ⟨by simp, .inl ⟨_, _, rfl, run_takeDeferred hK, ?_⟩⟩
        exact ⟨_, results_tmp rfl _ _ _, by rw [hrest.out]; rfl, j3.trans ((Below.refl w.heap.size W).grown (grownBy_putObj' W D (.deferred none)) (Nat.le_of_lt hlN) (fun k hk => by injection hk with hk; omega))⟩
      case stop =>
        rintro D cd pre W _ _ h _
        exact h.elim
    · have hub : Hid ((ub && (ux == root)) = false) := Lib.hid (by
        have : rest ≠ [] := by
          rw [← hrev]
          intro h
          have := congrArg List.length h
          simp at this
          rw [this] at hl2
          simp at hl2
          omega
        rw [HQ1.out]
        simp [this])
      have h0' : (0 : Int) < (len2 : Int) := by omega
      clear hrev hl2
      gi_wp2_with fail
      exact ⟨_, results_tmp rfl _ _ _, by rw [hub.out]; rfl, HBW.out⟩
end Go.Proofs.YtlbmieeimnjncaaDoor
