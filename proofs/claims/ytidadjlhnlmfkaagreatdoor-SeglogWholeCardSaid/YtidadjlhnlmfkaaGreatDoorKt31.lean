/- SlStart SlSum SlUp. Conditions: as stated at each. -/
import Derived.Test.YtidadjlhnlmfkaaGreatDoorKt30
import Derived.Test.YtidadjlhnlmfkaaGreatDoorKt29
/- Start at whatever files. Conditions: as stated at each. -/
namespace Go.Proofs.YtidadjlhnlmfkaaGreatDoor
open Go.RowKit Go.Shelf Go Go.Maps
attribute [local go_sem] Oper.semAt_some
set_option maxRecDepth 100000 in
set_option maxHeartbeats 4000000 in
theorem start_in (W : World) (N : Nat) (Ft : Nat → Prop) (Dk k : Nat) (F : Files) (rm x lf : Int) (A : Option Addr) (c : Nat) (ks : List Int)
    (hS : DiskS W N Ft Dk k F rm x lf true) (hk : k ≤ 100000) (hu : ∀ ns, NamesOf F ns → x = sumOf F ns) (hx2 : x ≤ 100000000) (hN : N ≤ W.heap.size) (hKc : ks.length ≤ c) (hK : IntsQ W Ft A ks) :
    CallsIn Fence.wide 8 Tryz.prog 13 #[.pointer (some ⟨Dk, 0, none⟩), .slice A ks.length c] W fun e w' => e = .returned (.tuple #[]) ∧ StartP W N Ft Dk k F rm x w' := by
  have hS0 := hS
  obtain ⟨M, D, hD, hM, f1, f2, hF⟩ := hS0
  have dlt := hD.lt
  have mlt := Held.lt hM
  have k0 := (BlkIs.new W 30 #[.pointer (some ⟨Dk, 0, none⟩)]).alloc (.cells #[.slice A ks.length c] 23)
  have k1 := BlkIs.new (W.alloc (.cells #[.pointer (some ⟨Dk, 0, none⟩)] 30)) 23 #[.slice A ks.length c]
  rw [World.size_alloc] at k1
  have kB : Below W.heap.size W ((W.alloc (.cells #[.pointer (some ⟨Dk, 0, none⟩)] 30)).alloc (.cells #[.slice A ks.length c] 23)) := ((Below.refl _ W).alloc (Nat.le_refl _) _).alloc (by simp) _
  refine callsIn_of_wp_marks Tryz.func13 rfl trivial ?_ rfl
  simp only [Tryz.ntmps13, List.size_toArray, List.length_cons, List.length_nil, Nat.reduceAdd, Nat.reduceSub, Array.replicate_succ, Array.replicate_zero, List.push_toArray, List.append_toArray, List.nil_append, List.cons_append]
  gi_wp2_with fail
  generalize (W.alloc (.cells #[.pointer (some ⟨Dk, 0, none⟩)] 30)).alloc (.cells #[.slice A ks.length c] 23) = W2 at *
  have kD : BlkIs W2 Dk 55 _ := (kB.block Dk dlt).trans hD
  have kS := hS.below kB
  have kM := Held.same hM (kB.block M mlt)
  have kK : IntsQ W2 Ft A ks := hK.tn (Tn.of_below (p := fun _ => False) kB) (fun _ _ h => h.elim)
  have kz := kB.size
  have q0 := k0.cell 0
  have q1 := k1.cell 0
  have d4 := kD.cell 4
  refine ⟨trivial, ?_⟩
  refine (callsIn_wide.2 (made_any W2 Dk M (kD.cell 0))).mono ?_
  rintro e w' ⟨rfl, rfl⟩
  gi_wp2_with fail
  refine ⟨trivial, ?_⟩
  refine (callsIn_wide.2 (dnames_any W2 N Ft Dk k F rm x lf true kS (by omega))).mono ?_
  rintro e W3 ⟨V, sv, ns, rfl, hV, hV2, cV, hHas, hNs, hnl, hb⟩
  have j0 : BlkIs W3 W.heap.size 30 #[.pointer (some ⟨Dk, 0, none⟩)] := (hb.block _ k0.lt).trans k0
  have j1 : BlkIs W3 (W.heap.size + 1) 23 #[.slice A ks.length c] := (hb.block _ k1.lt).trans k1
  have jD : BlkIs W3 Dk 55 #[.map (some M), .int .i64 rm, .int .i64 x, .int .i64 lf, .bool true] := (hb.block Dk (by omega)).trans kD
  have jM : MapIs W3 M k D := Held.same kM (hb.block M (by omega))
  have jB := kB.trans (hb.mono kz)
  have jz := jB.size
  have jF : FilesIs W3 N (Fn Ft W.heap.size) D F := files_keep hF (Tn.of_below (p := fun _ => False) jB) (fun _ h => .inl h) (fun _ _ _ _ _ h => h)
  have jK : IntsQ W3 (Pt Dk M (W.heap.size + 1)) A ks := fun j u hj => by
    obtain ⟨ad, a1, a2, a3, a4⟩ := hK j u hj
    refine ⟨ad, a1, by omega, ?_, (jB.cell (p := ad.add j) (by rw [blk_add]; exact a2)).trans a4⟩
    rintro (h | h | h)
    · exact a3 (by rw [h]; exact f1)
    · exact a3 (by rw [h]; exact f2)
    · omega
  have hQ := hasQ_of hHas jD (fun i s h => by
    rcases i with _ | _ | _ | _ | _ | i <;> simp at h) jM j1 (fun s h => by cases h)
  obtain rfl := hu ns hNs
  have jlt1 := jD.lt
  have jlt2 := Held.lt jM
  have jlt3 := j1.lt
  clear q0 q1 d4 hHas kD kM kS kK kB k0 k1 hb hD hM hF
  gi_wp2_with fail
  refine wpIn_rangeFunc_ownG rfl (by omega) (gf := 81) (lb := #[.pointer (some ⟨V, 0, none⟩)]) rfl trivial (enters_of Tryz.func81 (by kernel_rfl) rfl)
    (values_stops_Q Fence.wide 7 trivial rfl (by omega) V W3.heap.size (Pt Dk M (W.heap.size + 1)) sv ns (by omega) W3 hV2 (Nat.le_refl _) cV hQ) Kq.trans (Kq.book (Nat.le_refl _)) (Below.refl _ _) (fun _ => rfl)
    (fun pre => StI W3 N W.heap.size Ft Dk M (W.heap.size + 1) k rm lf (sumOf F ns : Nat) F ns (pre.map Subtype.val)) (fun _ _ _ => False) (stI_own W3 N W.heap.size Ft Dk M (W.heap.size + 1) k rm lf _ F ns jlt1 jlt2 jlt3) (fun _ _ _ _ _ hs _ _ => hs)
    ⟨F, D, k, A, c, ks, jD, jM, by simp, jF, Int.le_refl _, fun s => .inl ⟨rfl, by simp⟩, j1, hKc, jK, Tn.refl _ _⟩
    (fun s => { tmps := #[.pointer (some ⟨Dk, 0, none⟩), .slice A ks.length c, .pointer (some ⟨W.heap.size, 0, none⟩), .pointer (some ⟨W.heap.size + 1, 0, none⟩), .string s.1, undef, undef, undef, .pointer (some ⟨Dk, 0, none⟩), .bool true, .bool false, .bool false, .pointer (some ⟨Dk, 0, none⟩), .pointer (some ⟨Dk, 0, none⟩), .pointer (some ⟨Dk, 4, none⟩), .bool true, .bool false, .bool false, .pointer (some ⟨Dk, 0, none⟩), .func (.func 81) #[] #[.pointer (some ⟨V, 0, none⟩)], .string s.1, undef, undef, undef, undef, undef, undef, undef, undef, undef, undef, undef, undef, undef, undef, undef, undef, undef, undef, undef, undef, undef, undef, undef, undef, undef, undef, undef, undef, undef, undef, undef, undef, undef, undef, undef, undef, undef, undef, undef, undef], defers := [] }) ?assign ?body ?done ?stop
  case assign =>
    intro l s X K' hK'
    gi_wp2
    exact hK'
  case body =>
    rintro l pre s X hI hlen
    obtain ⟨F', D', k', A', c', ks', e1, e2, e3, e4, e5, e6, e7, e8, e9, e10⟩ := hI
    rw [List.length_map] at e3
    obtain ⟨a0, c0, o1, o2, o3, o4, o5⟩ := e4.old s.1
    have hsz : s.1.size ≤ maxLen := hNs.2.2.2 s.1 s.2
    have hl := o1.look hsz (w := X) e2
    have hle := lenOf_le F' hNs.1 s.2
    unfold lenOf at hle
    have hxl : sumOf F' ns ≤ 100000000 := by omega
    have x0 : BlkIs X W.heap.size 30 #[.pointer (some ⟨Dk, 0, none⟩)] := j0.tn e10 (by rintro (h | h | h) <;> omega)
    have q0 := x0.cell 0
    have q1 := e7.cell 0
    have f1' := e7.froz 0
    have d0 := e1.cell 0
    have y0 := x0.lt
    have yD := e1.lt
    have yB := e7.lt
    have yM := Held.lt e2
    have hmx : Tryz.prog.follows .mixedOrders = true := by kernel_rfl
    have hFs := Lib.hid (show ∀ y, F' s.1 = some y → ((F' s.1).getD ([], 0)) = y from fun y hy => by rw [hy]; rfl)
    have hFn := Lib.hid (show F' s.1 = none → ((F' s.1).getD ([], 0)) = ([], 0) from fun hy => by rw [hy]; rfl)
    have H6 := Lib.hid e6
    have H5 := Lib.hid e5
    clear e6 e5
    by_cases ht : ((F' s.1).getD ([], 0)).1.length = ((F' s.1).getD ([], 0)).2
    · have hskip := Lib.hid (H6.out.skip s.1 ht)
      rw [ht] at hl
      generalize ((F' s.1).getD ([], 0)).2 = z at *
      clear ht
      gi_wp2_with fail
      have hT : Tn (Pt Dk M (W.heap.size + 1)) X (X.alloc (.cells #[.slice a0 z c0, .int .i64 z] 71)) := (Tn.refl _ X).alloc _
      have hT0 : Tn (fun _ => False) X (X.alloc (.cells #[.slice a0 z c0, .int .i64 z] 71)) := (Tn.refl _ X).alloc _
      refine ⟨keeps_of_tn hT (fun i hi => by rcases hi with h | h | h <;> omega), Kq.of_tn hT e10.size, F', D', k', A', c', ks', e1.alloc _, Held.same e2 (Below.heap_alloc X _ M yM), ?_, files_keep e4 hT0 (fun _ h => h) (fun _ _ _ _ _ h => h), H5.out, ?_, e7.alloc _, e8, e9.tn hT0 (fun _ _ h => h.elim), e10.alloc _⟩
      · simp
        omega
      · rw [map_val_snoc]
        exact hskip.out
    · obtain ⟨bs, z, hFz⟩ : ∃ bs z, F' s.1 = some (bs, z) := by
        cases hF : F' s.1 with
        | none => rw [hFn.out hF] at ht; exact absurd rfl ht
        | some y => exact ⟨y.1, y.2, rfl⟩
      have hgd := hFs.out _ hFz
      rw [hgd] at ht o1 o2 o3 o4 o5 hl hle
      dsimp only at ht o1 o2 o3 o4 o5 hl hle
      have HO1 := Lib.hid (show OldIs D' s.1 bs.length from o1.is)
      clear hgd hFs hFn o1 o3 o5
      have hzl : z < bs.length := by omega
      have O2 := Lib.hid o2
      have hbl : bs.length ≤ 100000000 := by omega
      obtain ⟨n0, hn0⟩ : ∃ n0, bs.length = n0 := ⟨_, rfl⟩
      rw [hn0] at hl hzl hbl HO1
      clear ht o2 o4 hle
      gi_upto_if 37 with fail
      have hT : Tn (fun i => i = W.heap.size + 1) X (X.alloc (.cells #[.slice a0 n0 c0, .int .i64 z] 71)) := (Tn.refl _ X).alloc _
      have hT0 : Tn (fun _ => False) X (X.alloc (.cells #[.slice a0 n0 c0, .int .i64 z] 71)) := (Tn.refl _ X).alloc _
      have zF := BlkIs.new X 71 #[.slice a0 n0 c0, .int .i64 z]
      have zB := e7.alloc (.cells #[.slice a0 n0 c0, .int .i64 z] 71)
      have zK := e9.tn hT0 (fun _ _ h => h.elim)
      have zz := hT.size
      obtain ⟨Xa, hXa⟩ : ∃ Xa, Xa = X.alloc (.cells #[.slice a0 n0 c0, .int .i64 z] 71) := ⟨_, rfl⟩
      rw [← hXa] at hT hT0 zF zB zK zz ⊢
      clear hXa hT0 q1 f1' hl q0 d0
      have q1 := zB.cell 0
      have f1' := zB.froz 0
      gi_cut [7] from 35 (fun v7 wt => ∃ (m : Nat) (A2 : Option Addr) (c2 : Nat) (ks2 : List Int), v7 = .int .i64 m ∧ m ≤ n0 - z ∧ BlkIs wt (W.heap.size + 1) 23 #[.slice A2 ks2.length c2] ∧ ks2.length ≤ c2 ∧ IntsQ wt (Pt Dk M (W.heap.size + 1)) A2 ks2 ∧ Tn (fun i => i = W.heap.size + 1) X wt ∧ BlkIs wt X.heap.size 71 #[.slice a0 n0 c0, .int .i64 z])
      case first =>
        cases ks' with
        | nil =>
          simp only [List.length_nil]
          gi_wp2_with fail
          gi_meet
          case rel => exact ⟨0, _, _, [], rfl, by omega, zB, e8, zK, hT, zF⟩
        | cons u t =>
          obtain ⟨ad, rfl, a2, a3, a4⟩ := zK 0 u rfl
          have a4' : Xa.cell? ad = some (.int .i64 u) := by simpa [Addr.add] using a4
          have hkt := zK.tail c' (by simpa using e8)
          simp only [List.length_cons] at *
          have key : ∀ (A2 : Option Addr) (c2 : Nat), IntsQ Xa (Pt Dk M (W.heap.size + 1)) A2 t → t.length ≤ c2 →
              ∃ (m : Nat) (A3 : Option Addr) (c3 : Nat) (ks2 : List Int), Value.int .i64 (min (max u 0) ((n0 : Int) - z)) = .int .i64 m ∧ m ≤ n0 - z ∧ BlkIs (Xa.setCell ⟨W.heap.size + 1, 0, none⟩ (.slice A2 t.length c2)) (W.heap.size + 1) 23 #[.slice A3 ks2.length c3] ∧ ks2.length ≤ c3 ∧
                IntsQ (Xa.setCell ⟨W.heap.size + 1, 0, none⟩ (.slice A2 t.length c2)) (Pt Dk M (W.heap.size + 1)) A3 ks2 ∧ Tn (fun i => i = W.heap.size + 1) X (Xa.setCell ⟨W.heap.size + 1, 0, none⟩ (.slice A2 t.length c2)) ∧ BlkIs (Xa.setCell ⟨W.heap.size + 1, 0, none⟩ (.slice A2 t.length c2)) X.heap.size 71 #[.slice a0 n0 c0, .int .i64 z] := fun A2 c2 hi hc => by
            have hS : Tn (fun i => i = W.heap.size + 1) Xa (Xa.setCell ⟨W.heap.size + 1, 0, none⟩ (.slice A2 t.length c2)) := (Tn.refl (fun i => i = W.heap.size + 1) Xa).setCell (x := ⟨W.heap.size + 1, 0, none⟩) (.inl rfl) _
            refine ⟨(min (max u 0) ((n0 : Int) - z)).toNat, A2, c2, t, ?_, by omega, ?_, hc, hi.tn hS (fun i _ h => .inr (.inr h)), hT.trans (hS.mono (fun _ _ h => h)), zF.far (x := ⟨W.heap.size + 1, 0, none⟩) (by show X.heap.size ≠ W.heap.size + 1; omega) _⟩
            · congr 1
              omega
            · have := zB.put 0 (.slice A2 t.length c2)
              simpa using this
          by_cases hc1 : c' = 1
          · subst hc1
            rw [if_pos rfl] at hkt
            obtain rfl : t = [] := List.eq_nil_of_length_eq_zero (by omega)
            gi_wp2_with fail
            gi_meet
            case rel => exact key (some ad) 0 hkt (Nat.le_refl _)
          · rw [if_neg hc1] at hkt
            have hadd : ad.add 1 = ⟨ad.block, ad.off + 1, none⟩ := by simp [Addr.add]
            rw [show Option.map (fun x : Addr => x.add 1) (some ad) = some (ad.add 1) from rfl, hadd] at hkt
            gi_wp2_with fail
            gi_meet
            case rel => exact key _ _ hkt (by omega)
      case rest =>
        obtain ⟨m, A2, c2, ks2, rfl, hm, wB, hks, wK, wT, wF⟩ := hcut
        have O3 := Lib.hid (show Own5 wc N (.slice a0 n0 c0) bs by
          rw [← hn0]
          exact Own5.tn O2.out wT (fun g hg hp => Own5.not_blk O2.out e7 (by decide) (by rw [hg, hp])))
        have zD := e1.tn wT (by omega)
        have zM := Held.tn e2 wT (by omega)
        have z0 := x0.tn wT (by omega)
        have z4 := files_keep e4 wT (fun _ h => h) (fun v l g ho hg hp => Own5.not_blk ho e7 (by decide) (by rw [hg, hp]))
        have zz := wT.size
        have p0 := z0.cell 0
        have pF0 := wF.cell 0
        have pF1 := wF.cell 1
        have l0 := z0.lt
        have lF := wF.lt
        have lD := BlkIs.lt zD
        have lM := Held.lt zM
        have htl : (bs.take (z + m)).length = z + m := by rw [List.length_take]; omega
        have hcz : ((z : Int) + m) = ((z + m : Nat) : Int) := by omega
        have settled_at : ∀ w, Own5 w N (.slice a0 n0 c0) bs → Calls Tryz.prog 35 #[.agg #[.slice a0 n0 c0, .int .i64 z], .int .i64 ((z : Int) + m)] w fun e w' => ∃ v, e = .returned (.agg #[v, .int .i64 ((z : Int) + m)]) ∧ Own5 w' w.heap.size v (bs.take (z + m)) ∧ Below w.heap.size w w' := fun w ho => by
          rw [hcz]
          exact settled_any w N a0 n0 c0 (z + m) z bs ho hn0 (by omega) (by omega)
        have put_at : ∀ w v, Own5 w wc.heap.size v (bs.take (z + m)) → BlkIs w Dk 55 #[.map (some M), .int .i64 rm, .int .i64 (sumOf F' ns : Nat), .int .i64 lf, .bool true] → MapIs w M k' D' → Calls Tryz.prog 34 #[.pointer (some ⟨Dk, 0, none⟩), .string s.1, .agg #[v, .int .i64 ((z : Int) + m)]] w fun e w' => e = .returned (.tuple #[]) ∧
            PutPost w Dk M k' D' s.1 (.agg #[v, .int .i64 (z + m : Nat)]) (.int .i64 rm) (.int .i64 lf) (.bool true) ((sumOf F' ns : Nat) + ((z + m : Nat) - n0)) w' := fun w v ho h1 h2 => by
          obtain ⟨Av, cv, rfl, _, _⟩ := own_slice ho
          rw [hcz]
          have := put_any w Dk M k' D' s.1 (.int .i64 rm) (.int .i64 lf) (.bool true) (sumOf F' ns : Nat) n0 Av (bs.take (z + m)).length cv (z + m : Nat) h1 h2 HO1.out hsz (by unfold maxLen; omega) (by omega) (by omega) (by omega) (by omega)
          rwa [htl] at this ⊢
        clear q1 f1'
        gi_upto_region 11 with fail
        rw [show (((n0 : Int) - z) == 0) = false from by (rw [beq_eq_false_iff_ne]; omega)]
        refine sregion_inv hmx (fun L a w => ∃ (b0 b1 b2 b3 b4 b5 b6 b7 b8 : Bool) (v2 : Value), L = #[b0, b1, b2, b3, b4, b5, b6, b7, b8] ∧ a = { tmps := #[.pointer (some ⟨Dk, 0, none⟩), .slice A ks.length c, .pointer (some ⟨W.heap.size, 0, none⟩), .pointer (some ⟨W.heap.size + 1, 0, none⟩), .string s.1, .pointer (some ⟨X.heap.size, 0, none⟩), .int .i64 ((n0 : Int) - z), .int .i64 m, .pointer (some ⟨Dk, 0, none⟩), .bool true, .bool false, .bool false, .pointer (some ⟨Dk, 0, none⟩), .pointer (some ⟨Dk, 0, none⟩), .pointer (some ⟨Dk, 4, none⟩), .bool true, .bool false, .bool false, .pointer (some ⟨Dk, 0, none⟩), .func (.func 81) #[] #[.pointer (some ⟨V, 0, none⟩)], .string s.1, .pointer (some ⟨Dk, 0, none⟩), .pointer (some ⟨Dk, 0, none⟩), .pointer (some ⟨Dk, 0, none⟩), .map (some M), .string s.1, .agg #[.slice a0 n0 c0, .int .i64 z], .pointer (some ⟨X.heap.size, 0, none⟩), .slice a0 n0 c0, .int .i64 n0, .pointer (some ⟨X.heap.size, 1, none⟩), .int .i64 z, .int .i64 ((n0 : Int) - z), .int .i64 ((n0 : Int) - z), .bool false, u35, u36, u37, u38, u39, u40, u41, u42, u43, u44, u45, (bif b0 then .pointer (some ⟨Dk, 0, none⟩) else u46), (bif b1 then .string s.1 else u47), (bif b2 then .agg #[.slice a0 n0 c0, .int .i64 z] else u48), (bif b3 then .pointer (some ⟨X.heap.size, 1, none⟩) else u49), (bif b4 then .int .i64 z else u50), (bif b5 then .int .i64 m else u51), (bif b6 then .int .i64 ((z : Int) + m) else u52), (bif b7 then .agg #[v2, .int .i64 ((z : Int) + m)] else u53), (bif b8 then .tuple #[] else u54), u55, u56, u57, u58, u59, u60], defers := [] } ∧ RegI wc Dk M k' D' s.1 rm lf ((sumOf F' ns : Nat) + ((z + m : Nat) - n0)) (z + m) (bs.take (z + m)) v2 b7 b8 w ∧ Ord b0 b1 b2 b3 b4 b5 b6 b7 b8) ?start ?step ?fin
        case start =>
          intro w1 hk
          exact ⟨false, false, false, false, false, false, false, false, false, undef, rfl, rfl, .inl ⟨rfl, ⟨hk.2.1, hk.2.2.1, hk.2.2.2, by rw [hk.1]; exact Nat.le_refl _, fun i _ => by rw [hk.1]⟩, fun h => by cases h⟩, by simp [Ord]⟩
        case fin =>
          rintro L a w ⟨b0, b1, b2, b3, b4, b5, b6, b7, b8, v2, rfl, rfl, hw, _⟩ _ hr
          obtain rfl : b0 = true := snot_ready hr 0 _ rfl (by simp)
          obtain rfl : b1 = true := snot_ready hr 1 _ rfl (by simp)
          obtain rfl : b2 = true := snot_ready hr 2 _ rfl (by simp)
          obtain rfl : b3 = true := snot_ready hr 3 _ rfl (by simp)
          obtain rfl : b4 = true := snot_ready hr 4 _ rfl (by simp)
          obtain rfl : b5 = true := snot_ready hr 5 _ rfl (by simp)
          obtain rfl : b6 = true := snot_ready hr 6 _ rfl (by simp)
          obtain rfl : b7 = true := snot_ready hr 7 _ rfl (by simp)
          obtain rfl : b8 = true := snot_ready hr 8 _ rfl (by simp)
          obtain ⟨r1, r2, r3, r4⟩ := reg_files zD zM z4 (by rw [htl]; exact Nat.le_refl _) (by omega) (by omega) lM hw
          have hTX : Tn (Pt Dk M (W.heap.size + 1)) X w := (wT.mono (fun i _ h => .inr (.inr h))).trans (r4.mono (fun i _ h => h.elim .inl (fun h => .inr (.inl h))))
          have hsum := sumOf_in F' s.1 (some (bs.take (z + m), z + m)) ns hNs.1 s.2
          have hlo : lenOf F' s.1 = n0 := by unfold lenOf; rw [hFz]; exact hn0
          have hgo : ((some (bs.take (z + m), z + m)).getD ([], 0)).1.length = z + m := htl
          rw [hlo, hgo] at hsum
          have h5 := H5.out
          have hx : (((sumOf F' ns : Nat) : Int) + (((z + m : Nat) : Int) - n0)) = ((sumOf (F'.upd s.1 (some (bs.take (z + m), z + m))) ns : Nat) : Int) := by omega
          rw [hx] at r1
          have hmid := H6.out.put s.1 bs z (z + m) hFz (by omega) (by omega) (by omega)
          have hB5 : BlkIs w (W.heap.size + 1) 23 #[.slice A2 ks2.length c2] := wB.tn r4 (by rintro (h | h) <;> omega)
          have hle5 : ((sumOf (F'.upd s.1 (some (bs.take (z + m), z + m))) ns : Nat) : Int) ≤ (sumOf F ns : Nat) := by omega
          have hk5 : k' + 1 ≤ k + ((pre ++ [s]).map Subtype.val).length := by
            simp
            omega
          have hfin : StI W3 N W.heap.size Ft Dk M (W.heap.size + 1) k rm lf (sumOf F ns : Nat) F ns ((pre ++ [s]).map Subtype.val) w :=
            ⟨_, _, k' + 1, A2, c2, ks2, r1, r2, hk5, r3, hle5, by rw [map_val_snoc]; exact hmid, hB5, hks, wK.tn r4 (fun i _ h => h.elim .inl (fun h => .inr (.inl h))), e10.trans hTX⟩
          have hkp : KeepsFrom W3.heap.size X w := keeps_of_tn hTX (fun i hi => by rcases hi with h | h | h <;> omega)
          have hkq : Kq W3.heap.size (Pt Dk M (W.heap.size + 1)) X w := Kq.of_tn hTX e10.size
          clear hcz hsum hlo hgo hx h5
          gi_wp2_with fail
          exact ⟨hkp, hkq, hfin⟩
        case step =>
          have SA := Lib.hid settled_at
          have PA := Lib.hid put_at
          clear settled_at put_at hcz
          have ZD := Lib.hid zD
          have ZM := Lib.hid zM
          clear zD zM
          try clear hk
          try clear hN
          try clear hKc
          try clear hK
          try clear f1
          try clear f2
          try clear dlt
          try clear mlt
          try clear kz
          try clear hV
          try clear hV2
          try clear cV
          try clear hNs
          try clear hnl
          try clear j0
          try clear j1
          try clear jD
          try clear jM
          try clear jB
          try clear jz
          try clear jF
          try clear jK
          try clear hQ
          try clear jlt1
          try clear jlt2
          try clear jlt3
          try clear hlen
          try clear e1
          try clear e2
          try clear e3
          try clear e4
          try clear e7
          try clear e8
          try clear e9
          try clear e10
          try clear hsz
          try clear hxl
          try clear x0
          try clear y0
          try clear yD
          try clear yB
          try clear yM
          try clear H6
          try clear H5
          try clear hFz
          try clear HO1
          try clear O2
          try clear hn0
          try clear hT
          try clear zF
          try clear zB
          try clear zK
          try clear zz
          try clear zz
          try clear wB
          try clear hks
          try clear wK
          try clear wT
          try clear wF
          try clear z4
          try clear htl
          try clear hx2
          try clear hu
          try clear hskip
          rintro L a w i o ⟨b0, b1, b2, b3, b4, b5, b6, b7, b8, v2, rfl, rfl, hw, hord⟩ ho h1 h2
          have hi : i < 9 := (Array.getElem?_eq_some_iff.1 ho).1
          obtain rfl | rfl | rfl | rfl | rfl | rfl | rfl | rfl | rfl : i = 0 ∨ i = 1 ∨ i = 2 ∨ i = 3 ∨ i = 4 ∨ i = 5 ∨ i = 6 ∨ i = 7 ∨ i = 8 := by omega
          · obtain rfl : b0 = false := h1
            obtain rfl := Option.some.inj ho
            obtain rfl : b8 = false := by cases b8 with | false => rfl | true => (have := ord_all hord; simp at this)
            have hB := hw.below
            have c0 := (hB.cell (p := ⟨W.heap.size, 0, none⟩) l0).trans p0
            refine wpOpIn_step rfl (fun K' hK' => ?_)
            go_simp
            exact hK' _ _ ⟨true, b1, b2, b3, b4, b5, b6, b7, false, v2, rfl, rfl, hw, ⟨hord.1, hord.2.1, hord.2.2.1, fun h => by cases h⟩⟩
          · obtain rfl : b1 = false := h1
            obtain rfl := Option.some.inj ho
            obtain rfl : b8 = false := by cases b8 with | false => rfl | true => (have := ord_all hord; simp at this)
            refine wpOpIn_step rfl (fun K' hK' => ?_)
            go_simp
            exact hK' _ _ ⟨b0, true, b2, b3, b4, b5, b6, b7, false, v2, rfl, rfl, hw, ⟨hord.1, hord.2.1, hord.2.2.1, fun h => by cases h⟩⟩
          · obtain rfl : b2 = false := h1
            obtain rfl := Option.some.inj ho
            obtain rfl : b8 = false := by cases b8 with | false => rfl | true => (have := ord_all hord; simp at this)
            have hB := hw.below
            have c0 := (hB.cell (p := ⟨X.heap.size, 0, none⟩) lF).trans pF0
            have c1 := (hB.cell (p := ⟨X.heap.size, 1, none⟩) lF).trans pF1
            refine wpOpIn_step rfl (fun K' hK' => ?_)
            go_simp
            exact hK' _ _ ⟨b0, b1, true, b3, b4, b5, b6, b7, false, v2, rfl, rfl, hw, ⟨hord.1, hord.2.1, fun h => ⟨rfl, (hord.2.2.1 h).2⟩, fun h => by cases h⟩⟩
          · obtain rfl : b3 = false := h1
            obtain rfl := Option.some.inj ho
            obtain rfl : b8 = false := by cases b8 with | false => rfl | true => (have := ord_all hord; simp at this)
            refine wpOpIn_step rfl (fun K' hK' => ?_)
            go_simp
            exact hK' _ _ ⟨b0, b1, b2, true, b4, b5, b6, b7, false, v2, rfl, rfl, hw, ⟨fun _ => rfl, hord.2.1, hord.2.2.1, fun h => by cases h⟩⟩
          · obtain rfl : b4 = false := h1
            obtain rfl := Option.some.inj ho
            obtain rfl : b3 = true := h2 { on := 3, ground := .data } (by simp) rfl
            obtain rfl : b8 = false := by cases b8 with | false => rfl | true => (have := ord_all hord; simp at this)
            have hB := hw.below
            have c1 := (hB.cell (p := ⟨X.heap.size, 1, none⟩) lF).trans pF1
            refine wpOpIn_step rfl (fun K' hK' => ?_)
            go_simp
            exact hK' _ _ ⟨b0, b1, b2, true, true, b5, b6, b7, false, v2, rfl, rfl, hw, ⟨fun _ => rfl, fun h => ⟨rfl, (hord.2.1 h).2⟩, hord.2.2.1, fun h => by cases h⟩⟩
          · obtain rfl : b5 = false := h1
            obtain rfl := Option.some.inj ho
            obtain rfl : b8 = false := by cases b8 with | false => rfl | true => (have := ord_all hord; simp at this)
            refine wpOpIn_step rfl (fun K' hK' => ?_)
            go_simp
            exact hK' _ _ ⟨b0, b1, b2, b3, b4, true, b6, b7, false, v2, rfl, rfl, hw, ⟨hord.1, fun h => ⟨(hord.2.1 h).1, rfl⟩, hord.2.2.1, fun h => by cases h⟩⟩
          · obtain rfl : b6 = false := h1
            obtain rfl := Option.some.inj ho
            obtain rfl : b4 = true := h2 { on := 4, ground := .data } (by simp) rfl
            obtain rfl : b5 = true := h2 { on := 5, ground := .data } (by simp) rfl
            obtain rfl : b8 = false := by cases b8 with | false => rfl | true => (have := ord_all hord; simp at this)
            refine wpOpIn_step rfl (fun K' hK' => ?_)
            have hwr : IntKind.i64.wrap ((z : Int) + m) = (z : Int) + m := by rw [IntKind.wrap_i64]; omega
            go_simp
            try rw [hwr]
            exact hK' _ _ ⟨b0, b1, b2, b3, true, true, true, b7, false, v2, rfl, rfl, hw, ⟨hord.1, fun _ => ⟨rfl, rfl⟩, fun h => ⟨(hord.2.2.1 h).1, rfl⟩, fun h => by cases h⟩⟩
          · obtain rfl : b7 = false := h1
            obtain rfl := Option.some.inj ho
            obtain rfl : b2 = true := h2 { on := 2, ground := .data } (by simp) rfl
            obtain rfl : b6 = true := h2 { on := 6, ground := .data } (by simp) rfl
            obtain rfl : b8 = false := by cases b8 with | false => rfl | true => (have := ord_all hord; simp at this)
            refine wpOpIn_step rfl (fun K' hK' => ?_)
            go_simp
            refine ⟨trivial, ?_⟩
            have hB := hw.below
            refine (CallsIn.inRound l (callsIn_wide.2 (SA.out w (Own5.tn O3.out (Tn.of_below (p := fun _ => False) hB) (fun _ _ h => h))))).mono ?_
            rintro e w1 ⟨v1, rfl, hO1, hb1⟩
            exact hK' _ _ ⟨b0, b1, true, b3, b4, b5, true, true, false, v1, rfl, rfl, .inl ⟨rfl, hB.trans (hb1.mono hB.size), fun _ => own5_low hO1 hB.size⟩, ⟨hord.1, hord.2.1, fun _ => ⟨rfl, rfl⟩, fun h => by cases h⟩⟩
          · obtain rfl : b8 = false := h1
            obtain rfl := Option.some.inj ho
            obtain rfl : b0 = true := h2 { on := 0, ground := .data } (by simp) rfl
            obtain rfl : b1 = true := h2 { on := 1, ground := .data } (by simp) rfl
            obtain rfl : b7 = true := h2 { on := 7, ground := .data } (by simp) rfl
            refine wpOpIn_step rfl (fun K' hK' => ?_)
            rcases hw with ⟨_, hB, hO1⟩ | ⟨h, _⟩
            · go_simp
              refine ⟨trivial, ?_⟩
              refine (CallsIn.inRound l (callsIn_wide.2 (PA.out w v2 (hO1 rfl) ((hB.block Dk lD).trans ZD.out) (Held.same ZM.out (hB.block M lM))))).mono ?_
              rintro e w2 ⟨rfl, hp⟩
              exact hK' _ _ ⟨true, true, b2, b3, b4, b5, b6, true, true, v2, rfl, rfl, .inr ⟨rfl, w, hB, hO1 rfl, hp⟩, ⟨hord.1, hord.2.1, hord.2.2.1, fun _ => ⟨rfl, rfl, rfl⟩⟩⟩
            · cases h
  case done =>
    rintro Dd ys X hDd hys hI hKd
    rw [hys] at hI
    have hI' := Lib.hid hI
    obtain ⟨F', D', k', A', c', ks', e1, e2, e3, e4, e5, e6, e7, e8, e9, e10⟩ := hI
    have x0 : BlkIs X W.heap.size 30 #[.pointer (some ⟨Dk, 0, none⟩)] := j0.tn e10 (by rintro (h | h | h) <;> omega)
    have q0 := x0.cell 0
    have c3 := e1.cell 3
    have c4 := e1.cell 4
    have f3 := e1.froz 3
    have f4 := e1.froz 4
    have hmx : Tryz.prog.follows .mixedOrders = true := by kernel_rfl
    clear e2 e3 e4 e5 e6 e7 e8 e9
    gi_wp2
    gi_region
    all_goals gi_wp2
    have hDn : Dd ≠ Dk := by omega
    have h1 : ((X.setCell ⟨Dk, 4, none⟩ (.bool false)).setCell ⟨Dk, 3, none⟩ (.int .i64 0)).drew.heap[Dd]? = some (.deferred (some [])) :=
      (Below.heap_setCell _ ⟨Dk, 3, none⟩ _ Dd hDn).trans ((Below.heap_setCell X ⟨Dk, 4, none⟩ _ Dd hDn).trans hKd)
    refine ⟨by simp, .inl ⟨_, _, rfl, run_takeDeferred h1, ?_⟩⟩
    exact ⟨_, results_none rfl _ _ _, rfl, start_post hNs jB f1 f2 dlt mlt hnl hDd hKd hI'.out⟩
  case stop =>
    rintro _ _ _ _ _ _ h _
    exact h.elim
theorem start_S (W : World) (N : Nat) (Ft : Nat → Prop) (Dk k : Nat) (F : Files) (rm x lf : Int) (A : Option Addr) (c : Nat) (ks : List Int)
    (hS : DiskS W N Ft Dk k F rm x lf true) (hk : k ≤ 100000) (hu : ∀ ns, NamesOf F ns → x = sumOf F ns) (hx2 : x ≤ 100000000) (hN : N ≤ W.heap.size) (hKc : ks.length ≤ c) (hK : IntsQ W Ft A ks) :
    Calls Tryz.prog 13 #[.pointer (some ⟨Dk, 0, none⟩), .slice A ks.length c] W fun e w' => e = .returned (.tuple #[]) ∧ StartP W N Ft Dk k F rm x w' :=
  callsIn_wide.1 (start_in W N Ft Dk k F rm x lf A c ks hS hk hu hx2 hN hKc hK)
end Go.Proofs.YtidadjlhnlmfkaaGreatDoor
/- What the segments' files come to; what a start leaves of them. Conditions: as stated at each. -/
namespace Go.Proofs.YtidadjlhnlmfkaaGreatDoor
open Go.RowKit Go.Shelf Go Go.Maps
theorem took_flat : ∀ S : Segs, took S.flatten = (S.map took).sum
  | [] => rfl
  | s :: S => by
    rw [List.flatten_cons, took_append, took_flat S, List.map_cons, List.sum_cons]
theorem FileK.get {nm : ByteArray} {F : Files} {S0 : Segs} {s : List (List UInt8)} {m : Nat} (h : FileK nm F S0 s m) {j : Nat} {u : List (List UInt8)} (hj : (S0 ++ [s])[j]? = some u) : lenOf F (fileN nm (j + 1)) = took u ∧ F (fileN nm (j + 1)) ≠ .none := by
  have hjl := (List.getElem?_eq_some_iff.1 hj).1
  simp at hjl
  by_cases e : j = S0.length
  · subst e
    simp at hj
    subst hj
    unfold lenOf
    rw [h.2.1]
    exact ⟨wr_length s, by simp⟩
  · rw [List.getElem?_append_left (by omega)] at hj
    unfold lenOf
    rw [h.1 j u hj]
    exact ⟨wr_length u, by simp⟩
/-- used is what the records take. -/
theorem FileK.sum {nm : ByteArray} {F : Files} {S0 : Segs} {s : List (List UInt8)} {m : Nat} (h : FileK nm F S0 s m) (hl : S0.length < 999998) {ns : List ByteArray} (hn : NamesOf F ns) : sumOf F ns = took (S0 ++ [s]).flatten := by
  have hS : (S0 ++ [s]).length = S0.length + 1 := by simp
  have h1 : sumOf F ns = sumOf F ((List.range (S0.length + 1)).map fun j => fileN nm (j + 1)) := by
    refine sum_same F _ _ hn.1 ?_ (fun t => ?_)
    · refine List.pairwise_map.2 ?_
      refine (List.pairwise_lt_range (n := S0.length + 1)).imp_of_mem fun {a b} ha hb hab e => ?_
      have := fileN_inj (by have := List.mem_range.1 ha; omega) (by have := List.mem_range.1 hb; omega) e
      omega
    · rw [hn.2.1 t, List.mem_map]
      constructor
      · intro ht
        obtain ⟨j, j1, j2, j3⟩ := h.2.2.2 t ht
        exact ⟨j - 1, List.mem_range.2 (by omega), by rw [j3, show j - 1 + 1 = j by omega]⟩
      · rintro ⟨j, hj, rfl⟩
        have hj := List.mem_range.1 hj
        exact (h.get (u := (S0 ++ [s])[j]'(by omega)) (List.getElem?_eq_getElem (by omega))).2
  rw [h1, took_flat]
  unfold sumOf
  rw [List.map_map]
  congr 1
  refine List.ext_getElem (by simp) fun j g1 g2 => ?_
  simp only [List.getElem_map, List.getElem_range, Function.comp_apply]
  simp only [List.length_map] at g2
  exact (h.get (List.getElem?_eq_getElem g2)).1
/-- behind a start: the last file is cut somewhere behind what was safe. -/
theorem FileK.start {nm : ByteArray} {F F' : Files} {S0 : Segs} {s : List (List UInt8)} {m : Nat} (h : FileK nm F S0 s m) (hst : ∀ t, St (F t) (F' t)) :
    ∃ n, (wr (s.take m)).length ≤ n ∧ n ≤ (wr s).length ∧ (∀ (j : Nat) u, S0[j]? = some u → F' (fileN nm (j + 1)) = some (wr u, (wr u).length)) ∧ F' (fileN nm (S0.length + 1)) = some ((wr s).take n, n) ∧ ∀ t, F' t ≠ .none → ∃ j, 1 ≤ j ∧ j ≤ S0.length + 1 ∧ t = fileN nm j := by
  have get : ∀ t bs z, F t = some (bs, z) → ∃ n, z ≤ n ∧ n ≤ bs.length ∧ F' t = some (bs.take n, n) := fun t bs z ht => by
    rcases hst t with ⟨h1, _⟩ | ⟨bs', z', n, h1, h2, h3, h4⟩
    · rw [ht] at h1; cases h1
    · rw [ht] at h1
      injection h1 with h1
      injection h1 with e1 e2
      subst e1
      subst e2
      exact ⟨n, h2, h3, h4⟩
  obtain ⟨n, n1, n2, n3⟩ := get _ _ _ h.2.1
  refine ⟨n, n1, n2, fun j u hj => ?_, n3, fun t ht => ?_⟩
  · obtain ⟨k, k1, k2, k3⟩ := get _ _ _ (h.1 j u hj)
    have : k = (wr u).length := by omega
    rw [k3, this, List.take_length]
  · refine h.2.2.2 t (fun e => ht ?_)
    rcases hst t with ⟨_, h2⟩ | ⟨_, _, _, h1, _⟩
    · exact h2
    · rw [e] at h1; cases h1
/-- a cut of records: so many are whole, and something is left, or nothing. -/
theorem wr_cut : ∀ (s : List (List UInt8)) (n : Nat), n ≤ (wr s).length → ∃ q, q ≤ s.length ∧ (wr (s.take q)).length ≤ n ∧ (q < s.length → n < (wr (s.take (q + 1))).length) ∧ (wr s).take n = wr (s.take q) ++ (wr (s.drop q)).take (n - (wr (s.take q)).length)
  | [], n, hn => ⟨0, Nat.le_refl _, by simp [wr], fun h => by simp at h, by simp [wr]⟩
  | a :: s, n, hn => by
    have ea : ∀ t, wr (a :: t) = rec1 a ++ wr t := fun t => by simp [wr]
    by_cases hlt : n < (rec1 a).length
    · refine ⟨0, Nat.zero_le _, by simp [wr], fun _ => ?_, by simp [wr]⟩
      rw [show (a :: s).take (0 + 1) = [a] by simp, wr_one]
      exact hlt
    · rw [ea, List.length_append] at hn
      obtain ⟨q, h1, h2, h3, h4⟩ := wr_cut s (n - (rec1 a).length) (by omega)
      refine ⟨q + 1, by simp; omega, ?_, fun h => ?_, ?_⟩
      · rw [List.take_succ_cons, ea, List.length_append]; omega
      · have := h3 (by simpa using h)
        rw [List.take_succ_cons, ea, List.length_append]; omega
      · rw [List.take_succ_cons, List.drop_succ_cons, ea, ea, List.take_append, h4, List.take_of_length_le (by omega), List.length_append, List.append_assoc]
        congr 3
        omega
end Go.Proofs.YtidadjlhnlmfkaaGreatDoor
/- Start of a disk that has power. Conditions: as stated at each. -/
namespace Go.Proofs.YtidadjlhnlmfkaaGreatDoor
open Go.RowKit Go.Shelf Go Go.Maps
set_option maxRecDepth 20000 in
set_option maxHeartbeats 1600000 in
theorem start_up (W : World) (N : Nat) (Ft : Nat → Prop) (Dk k : Nat) (F : Files) (rm x lf : Int) (A : Option Addr) (n c : Nat) (hS : DiskS W N Ft Dk k F rm x lf false) :
    Calls Tryz.prog 13 #[.pointer (some ⟨Dk, 0, none⟩), .slice A n c] W fun e w' => e = .returned (.tuple #[]) ∧ DiskS w' N Ft Dk k F rm x lf false ∧ Below W.heap.size W w' := by
  obtain ⟨M, D, hD, _⟩ := id hS
  have k0 := (BlkIs.new W 30 #[.pointer (some ⟨Dk, 0, none⟩)]).alloc (.cells #[.slice A n c] 23)
  have kB : Below W.heap.size W ((W.alloc (.cells #[.pointer (some ⟨Dk, 0, none⟩)] 30)).alloc (.cells #[.slice A n c] 23)) := ((Below.refl _ W).alloc (Nat.le_refl _) _).alloc (by simp) _
  go_enter Tryz.func13, Tryz.ntmps13
  go_wp2_with fail
  generalize (W.alloc (.cells #[.pointer (some ⟨Dk, 0, none⟩)] 30)).alloc (.cells #[.slice A n c] 23) = W2 at *
  have kD : BlkIs W2 Dk 55 _ := (kB.block Dk hD.lt).trans hD
  have q0 := k0.cell 0
  have d4 := kD.cell 4
  go_wp2_with (go_at_call 32; refine (made_any W2 Dk M (kD.cell 0)).mono ?_; rintro e w' ⟨rfl, rfl⟩)
  refine bodyPost_ret (results_none rfl _ _ _) rfl ?_
  exact ⟨rfl, hS.below kB, kB⟩
end Go.Proofs.YtidadjlhnlmfkaaGreatDoor
