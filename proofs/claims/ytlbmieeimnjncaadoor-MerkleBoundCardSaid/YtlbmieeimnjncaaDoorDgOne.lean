/- The contract of the document's turn over one block. Conditions: as stated at each. -/
import Derived.Test.YtlbmieeimnjncaaDoorDgOneB
namespace Go.Proofs.YtlbmieeimnjncaaDoor
set_option maxRecDepth 100000
open Go.RowKit Go
def tri (s r : S8) (j : Nat) : List Value := wv ((sum8 s r).l.take j ++ r.l.drop j)
theorem tri_at (s r : S8) (j : Nat) (hj : j < 8) (hs : s.ok) (hr : r.ok) : ∃ x y : Nat, x < 4294967296 ∧ y < 4294967296 ∧ (tri s r j)[j]? = some (.int .u32 (x : Int)) ∧ (wv s.l)[j]? = some (.int .u32 (y : Int)) ∧
    (tri s r j).toArray.setIfInBounds j (.int .u32 ((add32 x y : Nat) : Int)) = (tri s r (j + 1)).toArray := by
  obtain ⟨a0, a1, a2, a3, a4, a5, a6, a7⟩ := hs
  obtain ⟨b0, b1, b2, b3, b4, b5, b6, b7⟩ := hr
  rcases (show j = 0 ∨ j = 1 ∨ j = 2 ∨ j = 3 ∨ j = 4 ∨ j = 5 ∨ j = 6 ∨ j = 7 by omega) with rfl | rfl | rfl | rfl | rfl | rfl | rfl | rfl
  · exact ⟨r.a, s.a, b0, a0, rfl, rfl, by rw [add32_comm]; rfl⟩
  · exact ⟨r.b, s.b, b1, a1, rfl, rfl, by rw [add32_comm]; rfl⟩
  · exact ⟨r.c, s.c, b2, a2, rfl, rfl, by rw [add32_comm]; rfl⟩
  · exact ⟨r.d, s.d, b3, a3, rfl, rfl, by rw [add32_comm]; rfl⟩
  · exact ⟨r.e, s.e, b4, a4, rfl, rfl, by rw [add32_comm]; rfl⟩
  · exact ⟨r.f, s.f, b5, a5, rfl, rfl, by rw [add32_comm]; rfl⟩
  · exact ⟨r.g, s.g, b6, a6, rfl, rfl, by rw [add32_comm]; rfl⟩
  · exact ⟨r.h, s.h, b7, a7, rfl, rfl, by rw [add32_comm]; rfl⟩
/-- what stands in loop 3. -/
structure TriW (N : Nat) (W wr : World) (A1 : Option Addr) (s r : S8) (g j : Nat) : Prop where
  v : BlkIs wr g 58 (tri s r j).toArray
  st : Cs wr N A1 (wv s.l)
  low : N ≤ g
  below : Below N W wr
theorem TriW.alk {N : Nat} {W wr w1 : World} {A1 : Option Addr} {s r : S8} {g j : Nat} (h : TriW N W wr A1 s r g j) (a : Alk wr w1) : TriW N W w1 A1 s r g j := by
  have b := a.below wr.heap.size
  have hN : N ≤ wr.heap.size := by have := h.v.lt; have := h.low; omega
  exact ⟨(b.block _ h.v.lt).trans h.v, h.st.below (b.mono hN), h.low, h.below.trans (b.mono hN)⟩
theorem TriW.at {N : Nat} {W wr : World} {ad : Addr} {s r : S8} {g j x y : Nat} (h : TriW N W wr (some ad) s r g j) (hx : (tri s r j)[j]? = some (.int .u32 (x : Int))) (hy : (wv s.l)[j]? = some (.int .u32 (y : Int))) :
    wr.cell? ⟨g, j, none⟩ = some (.int .u32 (x : Int)) ∧ wr.cell? (ad.add j) = some (.int .u32 (y : Int)) ∧ wr.frozen? ⟨g, j, none⟩ = false := by
  obtain ⟨_, he, _, h2⟩ := h.st j _ hy
  cases he
  exact ⟨h.v.get hx, h2, h.v.froz j⟩
theorem TriW.put {N : Nat} {W wr : World} {A1 : Option Addr} {s r : S8} {g j : Nat} (h : TriW N W wr A1 s r g j) (u : Value) (hu : (tri s r j).toArray.setIfInBounds j u = (tri s r (j + 1)).toArray) : TriW N W (wr.setCell ⟨g, j, none⟩ u) A1 s r g (j + 1) := by
  have hb := (Below.refl N wr).setCell (p := ⟨g, j, none⟩) h.low u
  have h2 := h.v.put j u
  rw [hu] at h2
  exact ⟨h2, h.st.below hb, h.low, h.below.trans hb⟩
set_option maxRecDepth 100000 in
set_option maxHeartbeats 4000000 in
theorem one_any (s : S8) (blk : List UInt8) (A1 : Option Addr) (A2 : Addr) (c1 c2 : Nat) (W : World) (hs : s.ok) (h1 : Cs W W.heap.size A1 (wv s.l)) (h2 : Bts W W.heap.size (some A2) blk) (hb : blk.length = 64) :
    Calls Tryd.prog 25 #[.slice A1 8 c1, .slice (some A2) 64 c2] W fun e w' => ∃ g, e = .returned (.slice (some ⟨g, 0, none⟩) 8 8) ∧ BlkIs w' g 58 (wv (mix s blk).l).toArray ∧ W.heap.size ≤ g ∧ Below W.heap.size W w' := by
  have HS := Lib.hid hs
  have HB := Lib.hid hb
  clear hs hb
  go_enter Tryd.func25, Tryd.ntmps25
  go_wp2_with fail
  go_loopw [5, 6] (fun v i wr => ∃ k : Nat, k ≤ 64 ∧ i = .int .i64 k ∧ OneW W.heap.size W wr blk A2 v k) (fun _ i _ => 64 - (intOf i).toNat)
  case atStart => exact ⟨0, by omega, rfl, ⟨World.ownsRow_nil _ _ 58 1, Below.refl _ _, h2⟩⟩
  case round =>
    obtain ⟨k, hk, rfl, hO⟩ := hrel
    by_cases hlt : k < 64
    · by_cases h16 : k < 16
      · obtain ⟨q, hq⟩ : ∃ q, q = 4 * k := ⟨_, rfl⟩
        have q1 : q + 3 < 64 := by omega
        have HB64 := HB.out
        obtain ⟨b0, hb0⟩ : ∃ b, (blk.getD q 0).toNat = b := ⟨_, rfl⟩
        obtain ⟨b1, hb1⟩ : ∃ b, (blk.getD (q + 1) 0).toNat = b := ⟨_, rfl⟩
        obtain ⟨b2, hb2⟩ : ∃ b, (blk.getD (q + 2) 0).toNat = b := ⟨_, rfl⟩
        obtain ⟨b3, hb3⟩ : ∃ b, (blk.getD (q + 3) 0).toNat = b := ⟨_, rfl⟩
        have t0 : b0 < 256 := by have := (blk.getD q 0).toNat_lt; omega
        have t1 : b1 < 256 := by have := (blk.getD (q + 1) 0).toNat_lt; omega
        have t2 : b2 < 256 := by have := (blk.getD (q + 2) 0).toNat_lt; omega
        have t3 : b3 < 256 := by have := (blk.getD (q + 3) 0).toNat_lt; omega
        have HV : Hid (bits .or .u32 (bits .or .u32 (bits .or .u32 ((b0 : Int) * 16777216) ((b1 : Int) * 65536)) ((b2 : Int) * 256)) (b3 : Int) = ((nextW blk (wl blk k) : Nat) : Int)) := by
          refine Lib.hid ?_
          rw [nextW_low blk k q h16 hq]
          exact be4_or blk q hb0 hb1 hb2 hb3
        have CELLS : Hid (∀ w', Bts w' W.heap.size (some A2) blk → w'.cell? (A2.add q) = some (.int .u8 (b0 : Int)) ∧ w'.cell? ⟨A2.block, A2.off + (q + 1), none⟩ = some (.int .u8 (b1 : Int)) ∧ w'.cell? ⟨A2.block, A2.off + (q + 2), none⟩ = some (.int .u8 (b2 : Int)) ∧ w'.cell? ⟨A2.block, A2.off + (q + 3), none⟩ = some (.int .u8 (b3 : Int))) := Lib.hid fun w' hb => by
          obtain ⟨a0, e0, _, c0⟩ := hb.at_ (k := q) (by omega)
          obtain ⟨a1, e1, _, c1⟩ := hb.at_ (k := q + 1) (by omega)
          obtain ⟨a2, e2, _, c2⟩ := hb.at_ (k := q + 2) (by omega)
          obtain ⟨a3, e3, _, c3⟩ := hb.at_ (k := q + 3) (by omega)
          injection e0 with e0
          injection e1 with e1
          injection e2 with e2
          injection e3 with e3
          subst e0
          subst e1
          subst e2
          subst e3
          rw [hb0] at c0
          rw [hb1] at c1
          rw [hb2] at c2
          rw [hb3] at c3
          exact ⟨c0, c1, c2, c3⟩
        have e0 : IntKind.i64.wrap (4 * (k : Int)) = (q : Int) := by rw [IntWalk.i64_in _ (by omega)]; omega
        have e1 : IntKind.i64.wrap ((q : Int) + 1) = (q : Int) + 1 := IntWalk.i64_in _ (by omega)
        have e2 : IntKind.i64.wrap ((q : Int) + 2) = (q : Int) + 2 := IntWalk.i64_in _ (by omega)
        have e3 : IntKind.i64.wrap ((q : Int) + 3) = (q : Int) + 3 := IntWalk.i64_in _ (by omega)
        have n1 : ((q : Int) + 1).toNat = q + 1 := by omega
        have n2 : ((q : Int) + 2).toNat = q + 2 := by omega
        have n3 : ((q : Int) + 3).toNat = q + 3 := by omega
        have p1 : 0 ≤ (q : Int) + 1 := by omega
        have p2 : 0 ≤ (q : Int) + 2 := by omega
        have p3 : 0 ≤ (q : Int) + 3 := by omega
        have l0 : (q : Int) < 64 := by omega
        have l1 : (q : Int) + 1 < 64 := by omega
        have l2 : (q : Int) + 2 < 64 := by omega
        have l3 : (q : Int) + 3 < 64 := by omega
        have k16 : (k : Int) < 16 := by omega
        have w0 : IntKind.u32.wrap (b0 : Int) = (b0 : Int) := IntWalk.u32_in _ (by omega)
        have w1 : IntKind.u32.wrap (b1 : Int) = (b1 : Int) := IntWalk.u32_in _ (by omega)
        have w2 : IntKind.u32.wrap (b2 : Int) = (b2 : Int) := IntWalk.u32_in _ (by omega)
        have w3 : IntKind.u32.wrap (b3 : Int) = (b3 : Int) := IntWalk.u32_in _ (by omega)
        have w4 : IntKind.u32.wrap ((b0 : Int) * 16777216) = (b0 : Int) * 16777216 := IntWalk.u32_in _ (by omega)
        have w5 : IntKind.u32.wrap ((b1 : Int) * 65536) = (b1 : Int) * 65536 := IntWalk.u32_in _ (by omega)
        have w6 : IntKind.u32.wrap ((b2 : Int) * 256) = (b2 : Int) * 256 := IntWalk.u32_in _ (by omega)
        have k64 : (k : Int) < 64 := by omega
        clear hb0 hb1 hb2 hb3 hq HB64
        go_wp2_with fail
        obtain ⟨x, hx⟩ : ∃ x, x = nextW blk (wl blk k) := ⟨_, rfl⟩
        have HX := Lib.hid hx
        have HV2 : Hid (bits .or .u32 (bits .or .u32 (bits .or .u32 ((b0 : Int) * 16777216) ((b1 : Int) * 65536)) ((b2 : Int) * 256)) (b3 : Int) = (x : Int)) := Lib.hid (by rw [HV.out, hx])
        clear hx
        have hO1 := hO.alk (Alk.drew wr)
        have ho2 := hO1.own2 #[.int .u32 (x : Int)]
        have hn2 := cs_new37 wr.drew [x] #[.int .u32 (x : Int)] rfl
        have hsz : W.heap.size ≤ (wr.drew.alloc (.cells #[.int .u32 (x : Int)] 58)).heap.size := by have := hO1.below.size; simp at this ⊢; omega
        have hbA : Bts (wr.drew.alloc (.cells #[.int .u32 (x : Int)] 58)) W.heap.size (some A2) blk := hO1.b.below ((Below.refl _ _).alloc hO1.below.size _)
        rw [← HV2.out] at ho2 hn2 hsz hbA
        have hB1 := hO1.b
        go_region_held3 (fun w' => w'.cell? (A2.add q) = some (.int .u8 (b0 : Int)) ∧ w'.cell? ⟨A2.block, A2.off + (q + 1), none⟩ = some (.int .u8 (b1 : Int)) ∧ w'.cell? ⟨A2.block, A2.off + (q + 2), none⟩ = some (.int .u8 (b2 : Int)) ∧ w'.cell? ⟨A2.block, A2.off + (q + 3), none⟩ = some (.int .u8 (b3 : Int)))
          (first
            | exact CELLS.out _ (by assumption)
            | trivial
            | go_keep)
          (first
            | (refine step37 (.tmp 22) (.tmp 56) (by rfl) (by rfl) W.heap.size _ k (wl blk k) [x] (by rfl) ho2 _ _ 1 1 (by rfl) hn2 rfl (by omega) hsz ?_; intro v2 w2 hown2 hg2; have hB2 := (hO1.grow h2 (by rw [HX.out] at hown2; exact hown2) hg2).b)
            | fail)
        go_wp2_with fail
        rw [HX.out] at hown2
        exact ⟨⟨k + 1, by omega, by go_num, hO1.grow h2 hown2 hg2⟩, by simp [intOf]; omega⟩
      · obtain ⟨g, cap, hv, _, _⟩ := hO.own.form (by omega)
        subst hv
        obtain ⟨a2, ha2⟩ : ∃ a, a + 2 = k := ⟨k - 2, by omega⟩
        obtain ⟨a7, ha7⟩ : ∃ a, a + 7 = k := ⟨k - 7, by omega⟩
        obtain ⟨a15, ha15⟩ : ∃ a, a + 15 = k := ⟨k - 15, by omega⟩
        obtain ⟨a16, ha16⟩ : ∃ a, a + 16 = k := ⟨k - 16, by omega⟩
        obtain ⟨x2, hx2⟩ : ∃ x, (wl blk k).getD a2 0 = x := ⟨_, rfl⟩
        obtain ⟨x7, hx7⟩ : ∃ x, (wl blk k).getD a7 0 = x := ⟨_, rfl⟩
        obtain ⟨x15, hx15⟩ : ∃ x, (wl blk k).getD a15 0 = x := ⟨_, rfl⟩
        obtain ⟨x16, hx16⟩ : ∃ x, (wl blk k).getD a16 0 = x := ⟨_, rfl⟩
        have t2 : x2 < 4294967296 := by rw [← hx2]; exact wl_getD_lt blk k a2
        have t15 : x15 < 4294967296 := by rw [← hx15]; exact wl_getD_lt blk k a15
        have HV : Hid (nextW blk (wl blk k) = add32 (add32 (add32 (sh3 17 19 10 x2) x7) (sh3 7 18 3 x15)) x16) := by
          refine Lib.hid ?_
          unfold nextW
          rw [wl_length, if_neg (by omega), show k - 2 = a2 from by omega, show k - 7 = a7 from by omega, show k - 15 = a15 from by omega, show k - 16 = a16 from by omega, hx2, hx7, hx15, hx16]
        have CELLS : Hid (∀ w', OneW W.heap.size W w' blk A2 (.slice (some ⟨g, 0, none⟩) k cap) k → w'.cell? ⟨g, a2, none⟩ = some (.int .u32 (x2 : Int)) ∧ w'.cell? ⟨g, a7, none⟩ = some (.int .u32 (x7 : Int)) ∧ w'.cell? ⟨g, a15, none⟩ = some (.int .u32 (x15 : Int)) ∧ w'.cell? ⟨g, a16, none⟩ = some (.int .u32 (x16 : Int))) := Lib.hid fun w' hb =>
          ⟨hb.cell (by omega) hx2, hb.cell (by omega) hx7, hb.cell (by omega) hx15, hb.cell (by omega) hx16⟩
        have HS7 : Hid (bits .xor .u32 (bits .xor .u32 (rotr 7 x15 : Nat) (rotr 18 x15 : Nat)) ((x15 : Int) / 8) = ((sh3 7 18 3 x15 : Nat) : Int)) := Lib.hid (sh3_val 7 18 3 8 x15 t15 (by decide))
        have HS8 : Hid (bits .xor .u32 (bits .xor .u32 (rotr 17 x2 : Nat) (rotr 19 x2 : Nat)) ((x2 : Int) / 1024) = ((sh3 17 19 10 x2 : Nat) : Int)) := Lib.hid (sh3_val 17 19 10 1024 x2 t2 (by decide))
        have e2 : IntKind.i64.wrap ((k : Int) - 2) = (a2 : Int) := by rw [IntWalk.i64_in _ (by omega)]; omega
        have e7 : IntKind.i64.wrap ((k : Int) - 7) = (a7 : Int) := by rw [IntWalk.i64_in _ (by omega)]; omega
        have e15 : IntKind.i64.wrap ((k : Int) - 15) = (a15 : Int) := by rw [IntWalk.i64_in _ (by omega)]; omega
        have e16 : IntKind.i64.wrap ((k : Int) - 16) = (a16 : Int) := by rw [IntWalk.i64_in _ (by omega)]; omega
        have l2 : (a2 : Int) < (k : Int) := by omega
        have l7 : (a7 : Int) < (k : Int) := by omega
        have l15 : (a15 : Int) < (k : Int) := by omega
        have l16 : (a16 : Int) < (k : Int) := by omega
        have k16 : ¬ (k : Int) < 16 := by omega
        have k64 : (k : Int) < 64 := by omega
        have GETS : Hid ((wv (wl blk k))[a7]? = some (.int .u32 (x7 : Int)) ∧ (wv (wl blk k))[a16]? = some (.int .u32 (x16 : Int))) := Lib.hid ⟨by rw [wv_get _ _ (by rw [wl_length]; omega), hx7], by rw [wv_get _ _ (by rw [wl_length]; omega), hx16]⟩
        clear hx2 hx7 hx15 hx16 ha2 ha7 ha15 ha16
        obtain ⟨d2, d7, d15, d16⟩ := CELLS.out _ hO
        go_wp2_with fail
        go_quiet (first | (go_at_call 31; with_reducible exact rr7 x15 _ _ t15) | (go_at_call 31; with_reducible exact rr18 x15 _ _ t15))
        have hO2 := hO.alk (Alk.drewN wr nq)
        rw [HS7.out]
        generalize sh3 7 18 3 x15 = S0 at *
        generalize wr.drewN nq = wr2 at *
        clear hO d2 d7 d15 d16
        obtain ⟨d2, d7, d15, d16⟩ := CELLS.out _ hO2
        go_wp2_with fail
        go_quiet (first | (go_at_call 31; with_reducible exact rr17 x2 _ _ t2) | (go_at_call 31; with_reducible exact rr19 x2 _ _ t2))
        have hO3 := hO2.alk (Alk.drewN wr2 nq)
        rw [HS8.out]
        generalize sh3 17 19 10 x2 = S1 at *
        generalize wr2.drewN nq = wr3 at *
        clear hO2 d2 d7 d15 d16
        obtain ⟨x, hx⟩ : ∃ x, x = nextW blk (wl blk k) := ⟨_, rfl⟩
        have HX := Lib.hid hx
        have s1 := add_val S1 x7
        have s2 := add_val (add32 S1 x7) S0
        have s3 := add_val (add32 (add32 S1 x7) S0) x16
        rw [← HV.out, ← hx] at s3
        generalize add32 (add32 S1 x7) S0 = y2 at *
        generalize add32 S1 x7 = y1 at *
        clear hx
        have hO4 := hO3.alk (Alk.drew wr3)
        have ho2 := hO4.own2 #[.int .u32 (x : Int)]
        have hn2 := cs_new37 wr3.drew [x] #[.int .u32 (x : Int)] rfl
        have hsz : W.heap.size ≤ (wr3.drew.alloc (.cells #[.int .u32 (x : Int)] 58)).heap.size := by have := hO4.below.size; simp at this ⊢; omega
        have hO5 : OneW W.heap.size W (wr3.drew.alloc (.cells #[.int .u32 (x : Int)] 58)) blk A2 (.slice (some ⟨g, 0, none⟩) k cap) k := hO4.more hO4.below.size ((Below.refl _ _).alloc (Nat.le_refl _) _)
        have KEEP : Hid (∀ w', OneW W.heap.size W w' blk A2 (.slice (some ⟨g, 0, none⟩) k cap) k → w'.cell? ⟨g, a7, none⟩ = some (.int .u32 (x7 : Int)) ∧ w'.cell? ⟨g, a16, none⟩ = some (.int .u32 (x16 : Int))) := Lib.hid fun w' hb => ⟨(CELLS.out _ hb).2.1, (CELLS.out _ hb).2.2.2⟩
        have hlen := wl_length blk k
        have HLEN := Lib.hid hlen
        clear hlen
        go_wp2_with fail
        go_region_held3 (fun w' => w'.cell? ⟨g, a7, none⟩ = some (.int .u32 (x7 : Int)) ∧ w'.cell? ⟨g, a16, none⟩ = some (.int .u32 (x16 : Int)))
          (first
            | exact KEEP.out _ (by assumption)
            | exact hKK
            | go_keep)
          (first
            | (refine step37k (.tmp 98) (.tmp 114) (by rfl) (by rfl) W.heap.size g cap k (wl blk k) [x] (by rfl) ho2 ⟨wr3.drew.heap.size, 0, none⟩ 1 1 (by rfl) (fun j u hj => by obtain ⟨ad', e, _, hc⟩ := hn2 j u hj; injection e with e; subst e; exact hc) rfl (by omega) hsz ?_; intro v2 w2 hown2 hg2 hkp2; have hKK := And.intro (hkp2 _ _ GETS.out.1) (hkp2 _ _ GETS.out.2))
            | fail)
        go_wp2_with fail
        rw [HX.out] at hown2
        exact ⟨⟨k + 1, by omega, by go_num, hO4.grow h2 hown2 hg2⟩, by simp [intOf]; omega⟩
    · have HK : Hid (k = 64) := Lib.hid (by omega)
      have k64 : ¬ (k : Int) < 64 := by omega
      obtain ⟨gw, cw, hv, hgl, hglt⟩ := hO.own.form (by omega)
      subst hv
      have WORDS : Hid (∀ j, j < 64 → wr.cell? ⟨gw, j, none⟩ = some (.int .u32 (((wl blk 64).getD j 0 : Nat) : Int))) := Lib.hid fun j hj => by
        have := hO.cell (j := j) (by rw [HK.out]; exact hj) rfl
        rwa [HK.out] at this
      have h1' : Cs wr W.heap.size A1 (wv s.l) := h1.below hO.below
      have hn0 := World.ownsRow_nil wr W.heap.size 58 1
      have hbel := hO.below
      have hsz := hO.below.size
      have HO := Lib.hid hO
      clear hO
      go_wp2_with (first
        | (at_builtin; refine app37 (.const (.slice none 0 0)) (.tmp 116) rfl rfl W.heap.size (.slice none 0 0) 0 [] s.l rfl hn0 _ A1 8 c1 rfl h1' rfl (by omega) hsz ?_; intro v2 w2 hown2 hg2)
        | fail)
      change w2.ownsRow W.heap.size 58 1 v2 8 (wv s.l) at hown2
      obtain ⟨g9, c9, hv9, hlow9, hlt9⟩ := hown2.form (by omega)
      subst hv9
      have hbw : Below wr.heap.size wr w2 := ⟨hg2.os, hg2.tape, hg2.output, hg2.size, fun i hi => hg2.block i hi (by simp [Value.ownBlock])⟩
      have T0 : ∃ cur, TwoW W.heap.size W w2 blk A1 s gw g9 c9 0 cur := by
        rcases hown2.2 with ⟨hv, _⟩ | ⟨g', cap', cur, hv, _, hg, _, _, hcs, htake⟩
        · cases hv
        · injection hv with hva _ hvc
          injection hva with hva
          injection hva with hva
          subst hva
          subst hvc
          refine ⟨cur, fun j hj => (hbw.cell (p := ⟨gw, j, none⟩) hglt).trans (WORDS.out j hj), Nat.lt_of_lt_of_le hglt hbw.size, hg, fun j u hj => ?_, fun h => by omega, h1'.below (hbw.mono hsz), hlow9, hbel.trans (hbw.mono hsz)⟩
          have hj8 : j < 8 := by have := (List.getElem?_eq_some_iff.1 hj).1; simpa [wv_length, S8.length] using this
          have hq : (cur.toList.take (8 * 1))[j]? = some u := by rw [htake]; exact hj
          rw [List.getElem?_take, if_pos (by omega)] at hq
          simpa using hq
      obtain ⟨cur0, T0⟩ := T0
      have TT := Lib.hid T0
      clear T0 hown2 hg2 hn0 hbw h1' hbel
      go_loopw [9, 10] (fun v i wr => ∃ (k g c : Nat) (cur : Array Value), k ≤ 64 ∧ i = .int .i64 k ∧ v = .slice (some ⟨g, 0, none⟩) 8 c ∧ TwoW W.heap.size W wr blk A1 s gw g c k cur) (fun _ i _ => 64 - (intOf i).toNat)
      case atStart => exact ⟨0, g9, c9, cur0, by omega, rfl, rfl, TT.out⟩
      case round =>
        clear TT
        obtain ⟨t, g, c, cur, ht, rfl, rfl, hT⟩ := hrel
        by_cases htl : t < 64
        · obtain ⟨r, hr⟩ : ∃ r, rnds blk s t = r := ⟨_, rfl⟩
          have hok : r.ok := by rw [← hr]; exact rnds_ok blk HS.out t
          have HR := Lib.hid hr
          obtain ⟨o0, o1, o2, o3, o4, o5, o6, o7⟩ := hok
          have t64 : (t : Int) < 64 := by omega
          obtain ⟨x, hx⟩ : ∃ x, (wl blk 64).getD t 0 = x := ⟨_, rfl⟩
          obtain ⟨kc, hkc⟩ : ∃ x, kk.getD t 0 = x := ⟨_, rfl⟩
          have HNX : Hid (rnds blk s (t + 1) = rnd r kc x) := Lib.hid (by rw [← hr, ← hx, ← hkc]; rfl)
          have CELLS : Hid (∀ w' g c cur, TwoW W.heap.size W w' blk A1 s gw g c t cur → w'.cell? ⟨gw, t, none⟩ = some (.int .u32 (x : Int))) := Lib.hid fun w' g c cur h => by rw [← hx]; exact h.words t htl
          have KW := Lib.hid (fun (S : ByteArray) (w : World) (h : S.data.toList = rootsL) => hkc ▸ kword_any S t w h htl)
          clear hx hkc hr
          have v14 := ch_val2 o4 o5 o6
          have HT := Lib.hid hT
          obtain ⟨z0, z1, z2, z3, z4, z5, z6, z7⟩ := hT.at HR.out
          obtain ⟨CH, hch⟩ : ∃ x, chf r.e r.f r.g = x := ⟨_, rfl⟩
          rw [hch] at v14
          go_wp2_with fail
          go_quiet (fail)
          have hT2 := HT.out.alk (Alk.drewN wr nq)
          generalize wr.drewN nq = wa at *
          clear HT z0 z1 z2 z3 z4 z5 z6 z7 v14
          obtain ⟨z0, z1, z2, z3, z4, z5, z6, z7⟩ := hT2.at HR.out
          have zx := CELLS.out _ _ _ _ hT2
          have v15 := rot3_val 6 11 25 r.e o4
          obtain ⟨R6, hR6⟩ : ∃ x, rot3 6 11 25 r.e = x := ⟨_, rfl⟩
          rw [hR6] at v15
          have s1 := add_val r.h R6
          have s2 := add_val (add32 r.h R6) CH
          have s3 := add_val (add32 (add32 r.h R6) CH) kc
          have s4 := add_val (add32 (add32 (add32 r.h R6) CH) kc) x
          have HTEE : Hid (add32 (add32 (add32 (add32 r.h R6) CH) kc) x = tee r kc x) := Lib.hid (by rw [← hR6, ← hch]; rfl)
          generalize add32 (add32 (add32 (add32 r.h R6) CH) kc) x = T at *
          generalize add32 (add32 (add32 r.h R6) CH) kc = y3 at *
          generalize add32 (add32 r.h R6) CH = y2 at *
          generalize add32 r.h R6 = y1 at *
          clear hR6 hch
          go_wp2_with fail
          go_quiet (first
            | (go_at_call 31; with_reducible exact rr6 r.e _ _ o4)
            | (go_at_call 31; with_reducible exact rr11 r.e _ _ o4)
            | (go_at_call 31; with_reducible exact rr25 r.e _ _ o4)
            | (go_at_call 24; exact quiet_q (fun w => KW.out _ w (by kernel_rfl)) _ _))
          have hT3 := hT2.alk (Alk.drewN wa nq)
          generalize wa.drewN nq = wb at *
          clear hT2 z0 z1 z2 z3 z4 z5 z6 z7 zx v15 s1 s2 s3 s4
          obtain ⟨z0, z1, z2, z3, z4, z5, z6, z7⟩ := hT3.at HR.out
          have v16 := maj_val o0 o1 o2
          obtain ⟨MJ, hmj⟩ : ∃ x, maj r.a r.b r.c = x := ⟨_, rfl⟩
          rw [hmj] at v16
          go_wp2_with fail
          go_quiet (fail)
          have hT4 := hT3.alk (Alk.drewN wb nq)
          generalize wb.drewN nq = wc at *
          clear hT3 z0 z1 z2 z3 z4 z5 z6 z7 v16
          obtain ⟨z0, z1, z2, z3, z4, z5, z6, z7⟩ := hT4.at HR.out
          have v17 := rot3_val 2 13 22 r.a o0
          obtain ⟨R2, hR2⟩ : ∃ x, rot3 2 13 22 r.a = x := ⟨_, rfl⟩
          rw [hR2] at v17
          have s5 := add_val R2 MJ
          obtain ⟨y4, hy4⟩ : ∃ x, add32 R2 MJ = x := ⟨_, rfl⟩
          rw [hy4] at s5
          go_wp2_with fail
          go_quiet (first
            | (go_at_call 31; with_reducible exact rr2 r.a _ _ o0)
            | (go_at_call 31; with_reducible exact rr13 r.a _ _ o0)
            | (go_at_call 31; with_reducible exact rr22 r.a _ _ o0))
          have hT5 := hT4.alk (Alk.drewN wc nq)
          generalize wc.drewN nq = wd at *
          clear hT4 z0 z1 z2 z3 z4 z5 z6 z7 v17 s5
          have s6 := add_val T y4
          have s7 := add_val r.d T
          have HNA : Hid (add32 T y4 = (rnd r kc x).a) := Lib.hid (by
            rw [← hy4, ← hR2, ← hmj, ← add32_assoc, HTEE.out]
            rfl)
          have HNE : Hid (add32 r.d T = (rnd r kc x).e) := Lib.hid (by rw [HTEE.out]; rfl)
          rw [HNA.out] at s6
          rw [HNE.out] at s7
          obtain ⟨na, hna⟩ : ∃ x', (rnd r kc x).a = x' := ⟨_, rfl⟩
          obtain ⟨ne, hne⟩ : ∃ x', (rnd r kc x).e = x' := ⟨_, rfl⟩
          rw [hna] at s6
          rw [hne] at s7
          have HARR : Hid ((#[.int .u32 (na : Int), .int .u32 (r.a : Int), .int .u32 (r.b : Int), .int .u32 (r.c : Int), .int .u32 (ne : Int), .int .u32 (r.e : Int), .int .u32 (r.f : Int), .int .u32 (r.g : Int)] : Array Value) = (wv (rnd r kc x).l).toArray) := Lib.hid (by rw [← hna, ← hne]; rfl)
          clear hy4 hR2 hmj hna hne
          go_wp2_with fail
          refine still_tail 26 (by kernel_rfl) (by kernel_rfl) (fun W1 hk1 => ?_)
          have hT6 := hT5.alk hk1
          clear hT5 hk1
          obtain ⟨z0, z1, z2, z3, z4, z5, z6, z7⟩ := hT6.at HR.out
          simp only [List.take_succ_cons, List.take_zero, List.drop_succ_cons, List.drop_zero]
          repeat still_step
          refine wpStill_nil ?_
          clear z0 z1 z2 z3 z4 z5 z6 z7
          go_wp2_with fail
          go_roundw
          case rel => exact ⟨t + 1, W1.heap.size, 8, _, by omega, by go_num, rfl, by rw [HARR.out]; exact hT6.next _ HNX.out⟩
          case measure => simp [intOf]; omega
        · have HT64 : Hid (t = 64) := Lib.hid (by omega)
          have t64 : ¬ (t : Int) < 64 := by omega
          obtain ⟨hcur, hc8⟩ := hT.fin (by omega)
          subst hc8
          subst hcur
          have hb := hT.v
          have hst := hT.st
          have hlow := hT.low
          have hbel := hT.below
          have HE : Hid (mix s blk = sum8 s (rnds blk s t)) := Lib.hid (by rw [HT64.out]; rfl)
          have HRO : Hid (rnds blk s t).ok := Lib.hid (rnds_ok blk HS.out t)
          clear hT
          generalize rnds blk s t = r at *
          obtain ⟨ad, rfl, _, _⟩ := hst 0 _ rfl
          have TR := Lib.hid (show TriW W.heap.size W wr (some ad) s r g 0 from ⟨hb, hst, hlow, hbel⟩)
          clear hb hst hbel
          go_wp2_with fail
          go_loopw [234] (fun i wr => ∃ j : Nat, j ≤ 8 ∧ i = .int .i64 j ∧ TriW W.heap.size W wr (some ad) s r g j) (fun i _ => 8 - (intOf i).toNat)
          case atStart => exact ⟨0, by omega, rfl, TR.out⟩
          case round =>
            clear TR
            obtain ⟨j, hj, rfl, hT⟩ := hrel
            by_cases hjl : j < 8
            · have j8 : (j : Int) < 8 := by omega
              obtain ⟨x, y, hx, hy, hxv, hyv, hset⟩ := tri_at s r j hjl HS.out HRO.out
              have XV := Lib.hid hxv
              have YV := Lib.hid hyv
              have SET := Lib.hid hset
              clear hxv hyv hset
              have s9 := add_val x y
              obtain ⟨q, hq⟩ : ∃ q, add32 x y = q := ⟨_, rfl⟩
              rw [hq] at s9
              have HQ := Lib.hid hq
              clear hq
              obtain ⟨z0, z1, z2⟩ := hT.at XV.out YV.out
              go_wp2_with fail
              refine still_tail 10 (by kernel_rfl) (by kernel_rfl) (fun W1 hk1 => ?_)
              have hT2 := hT.alk hk1
              clear hT hk1 z0 z1 z2
              obtain ⟨z0, z1, z2⟩ := hT2.at XV.out YV.out
              simp only [List.take_succ_cons, List.take_zero, List.drop_succ_cons, List.drop_zero]
              repeat still_step
              refine wpStill_nil ?_
              clear z1
              go_wp2_with fail
              go_roundw
              case rel => exact ⟨j + 1, by omega, by go_num, hT2.put _ (by rw [← SET.out, HQ.out])⟩
              case measure => simp [intOf]; omega
            · obtain ⟨hj8, j8⟩ : Hid (j = 8) ∧ ¬ (j : Int) < 8 := ⟨Lib.hid (by omega), by omega⟩
              have hv : BlkIs wr g 58 (wv (sum8 s r).l).toArray := by
                have := hT.v
                rw [hj8.out] at this
                exact this
              have hbel := hT.below
              clear hT
              go_wp2_with fail
              go_ret
              exact ⟨g, rfl, by rw [HE.out]; exact hv, hlow, hbel⟩
end Go.Proofs.YtlbmieeimnjncaaDoor
