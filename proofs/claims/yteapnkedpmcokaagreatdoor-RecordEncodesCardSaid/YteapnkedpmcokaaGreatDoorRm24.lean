/- DgOne DgRSum MkRNode. Conditions: as stated at each. -/
import Derived.Test.YteapnkedpmcokaaGreatDoorRm23
import Derived.Test.YteapnkedpmcokaaGreatDoorRm13
/- The contract of the document's turn over one block. Conditions: as stated at each. -/
namespace Go.Proofs.YteapnkedpmcokaaGreatDoor
set_option maxRecDepth 100000
open Go.RowKit Go
def tri (s r : S8) (j : Nat) : List Value := wv ((sum8 s r).l.take j ++ r.l.drop j)
theorem tri_at (s r : S8) (j : Nat) (hj : j < 8) (hs : s.ok) (hr : r.ok) : ∃ x y : Nat, x < 4294967296 ∧ y < 4294967296 ∧ (tri s r j)[j]? = some (.int .u32 (x : Int)) ∧ (wv s.l)[j]? = some (.int .u32 (y : Int)) ∧
    (tri s r j).toArray.setIfInBounds j (.int .u32 ((add32 x y : Nat) : Int)) = (tri s r (j + 1)).toArray := by
  obtain ⟨a0, a1, a2, a3, a4, a5, a6, a7⟩ := hs
  obtain ⟨b0, b1, b2, b3, b4, b5, b6, b7⟩ := hr
  rcases (show j = 0 ∨ j = 1 ∨ j = 2 ∨ j = 3 ∨ j = 4 ∨ j = 5 ∨ j = 6 ∨ j = 7 by omega) with rfl | rfl | rfl | rfl | rfl | rfl | rfl | rfl
  · exact ⟨r.a, s.a, b0, a0, rfl, rfl, by rw [add32_comm]; rfl⟩
  · exact ⟨r.b, s.b, b1, a1, rfl, rfl, by rw [add32_comm]; rfl⟩
  · exact ⟨r.c, s.c, b2, a2, rfl, rfl, by rw [add32_comm]; rfl⟩
  · exact ⟨r.d, s.d, b3, a3, rfl, rfl, by rw [add32_comm]; rfl⟩
  · exact ⟨r.e, s.e, b4, a4, rfl, rfl, by rw [add32_comm]; rfl⟩
  · exact ⟨r.f, s.f, b5, a5, rfl, rfl, by rw [add32_comm]; rfl⟩
  · exact ⟨r.g, s.g, b6, a6, rfl, rfl, by rw [add32_comm]; rfl⟩
  · exact ⟨r.h, s.h, b7, a7, rfl, rfl, by rw [add32_comm]; rfl⟩
/-- what stands in loop 3. -/
structure TriW (N : Nat) (W wr : World) (A1 : Option Addr) (s r : S8) (g j : Nat) : Prop where
  v : BlkIs wr g 92 (tri s r j).toArray
  st : Cs wr N A1 (wv s.l)
  low : N ≤ g
  below : Below N W wr
theorem TriW.alk {N : Nat} {W wr w1 : World} {A1 : Option Addr} {s r : S8} {g j : Nat} (h : TriW N W wr A1 s r g j) (a : Alk wr w1) : TriW N W w1 A1 s r g j := by
  have b := a.below wr.heap.size
  have hN : N ≤ wr.heap.size := by have := h.v.lt; have := h.low; omega
  exact ⟨(b.block _ h.v.lt).trans h.v, h.st.below (b.mono hN), h.low, h.below.trans (b.mono hN)⟩
theorem TriW.at {N : Nat} {W wr : World} {ad : Addr} {s r : S8} {g j x y : Nat} (h : TriW N W wr (some ad) s r g j) (hx : (tri s r j)[j]? = some (.int .u32 (x : Int))) (hy : (wv s.l)[j]? = some (.int .u32 (y : Int))) :
    wr.cell? ⟨g, j, none⟩ = some (.int .u32 (x : Int)) ∧ wr.cell? (ad.add j) = some (.int .u32 (y : Int)) ∧ wr.frozen? ⟨g, j, none⟩ = false := by
  obtain ⟨_, he, _, h2⟩ := h.st j _ hy
  cases he
  exact ⟨h.v.get hx, h2, h.v.froz j⟩
theorem TriW.put {N : Nat} {W wr : World} {A1 : Option Addr} {s r : S8} {g j : Nat} (h : TriW N W wr A1 s r g j) (u : Value) (hu : (tri s r j).toArray.setIfInBounds j u = (tri s r (j + 1)).toArray) : TriW N W (wr.setCell ⟨g, j, none⟩ u) A1 s r g (j + 1) := by
  have hb := (Below.refl N wr).setCell (p := ⟨g, j, none⟩) h.low u
  have h2 := h.v.put j u
  rw [hu] at h2
  exact ⟨h2, h.st.below hb, h.low, h.below.trans hb⟩
set_option maxRecDepth 100000 in
set_option maxHeartbeats 4000000 in
theorem one_any (s : S8) (blk : List UInt8) (A1 : Option Addr) (A2 : Addr) (c1 c2 : Nat) (W : World) (hs : s.ok) (h1 : Cs W W.heap.size A1 (wv s.l)) (h2 : Bts W W.heap.size (some A2) blk) (hb : blk.length = 64) :
    Calls Tryz.prog 52 #[.slice A1 8 c1, .slice (some A2) 64 c2] W fun e w' => ∃ g, e = .returned (.slice (some ⟨g, 0, none⟩) 8 8) ∧ BlkIs w' g 92 (wv (mix s blk).l).toArray ∧ W.heap.size ≤ g ∧ Below W.heap.size W w' := by
  have HS := Lib.hid hs
  have HB := Lib.hid hb
  clear hs hb
  go_enter Tryz.func52, Tryz.ntmps52
  go_wp2_with fail
  go_loopw [5, 6] (fun v i wr => ∃ k : Nat, k ≤ 64 ∧ i = .int .i64 k ∧ OneW W.heap.size W wr blk A2 v k) (fun _ i _ => 64 - (intOf i).toNat)
  case atStart => exact ⟨0, by omega, rfl, ⟨World.ownsRow_nil _ _ 92 1, Below.refl _ _, h2⟩⟩
  case round =>
    obtain ⟨k, hk, rfl, hO⟩ := hrel
    by_cases hlt : k < 64
    · by_cases h16 : k < 16
      · obtain ⟨q, hq⟩ : ∃ q, q = 4 * k := ⟨_, rfl⟩
        have q1 : q + 3 < 64 := by omega
        have HB64 := HB.out
        obtain ⟨b0, hb0⟩ : ∃ b, (blk.getD q 0).toNat = b := ⟨_, rfl⟩
        obtain ⟨b1, hb1⟩ : ∃ b, (blk.getD (q + 1) 0).toNat = b := ⟨_, rfl⟩
        obtain ⟨b2, hb2⟩ : ∃ b, (blk.getD (q + 2) 0).toNat = b := ⟨_, rfl⟩
        obtain ⟨b3, hb3⟩ : ∃ b, (blk.getD (q + 3) 0).toNat = b := ⟨_, rfl⟩
        have t0 : b0 < 256 := by have := (blk.getD q 0).toNat_lt; omega
        have t1 : b1 < 256 := by have := (blk.getD (q + 1) 0).toNat_lt; omega
        have t2 : b2 < 256 := by have := (blk.getD (q + 2) 0).toNat_lt; omega
        have t3 : b3 < 256 := by have := (blk.getD (q + 3) 0).toNat_lt; omega
        have HV : Hid (bits .or .u32 (bits .or .u32 (bits .or .u32 ((b0 : Int) * 16777216) ((b1 : Int) * 65536)) ((b2 : Int) * 256)) (b3 : Int) = ((nextW blk (wl blk k) : Nat) : Int)) := by
          refine Lib.hid ?_
          rw [nextW_low blk k q h16 hq]
          exact be4_or blk q hb0 hb1 hb2 hb3
        have CELLS : Hid (∀ w', Bts w' W.heap.size (some A2) blk → w'.cell? (A2.add q) = some (.int .u8 (b0 : Int)) ∧ w'.cell? ⟨A2.block, A2.off + (q + 1), none⟩ = some (.int .u8 (b1 : Int)) ∧ w'.cell? ⟨A2.block, A2.off + (q + 2), none⟩ = some (.int .u8 (b2 : Int)) ∧ w'.cell? ⟨A2.block, A2.off + (q + 3), none⟩ = some (.int .u8 (b3 : Int))) := Lib.hid fun w' hb => by
          obtain ⟨a0, e0, _, c0⟩ := hb.at_ (k := q) (by omega)
          obtain ⟨a1, e1, _, c1⟩ := hb.at_ (k := q + 1) (by omega)
          obtain ⟨a2, e2, _, c2⟩ := hb.at_ (k := q + 2) (by omega)
          obtain ⟨a3, e3, _, c3⟩ := hb.at_ (k := q + 3) (by omega)
          injection e0 with e0
          injection e1 with e1
          injection e2 with e2
          injection e3 with e3
          subst e0
          subst e1
          subst e2
          subst e3
          rw [hb0] at c0
          rw [hb1] at c1
          rw [hb2] at c2
          rw [hb3] at c3
          exact ⟨c0, c1, c2, c3⟩
        have e0 : IntKind.i64.wrap (4 * (k : Int)) = (q : Int) := by rw [IntWalk.i64_in _ (by omega)]; omega
        have e1 : IntKind.i64.wrap ((q : Int) + 1) = (q : Int) + 1 := IntWalk.i64_in _ (by omega)
        have e2 : IntKind.i64.wrap ((q : Int) + 2) = (q : Int) + 2 := IntWalk.i64_in _ (by omega)
        have e3 : IntKind.i64.wrap ((q : Int) + 3) = (q : Int) + 3 := IntWalk.i64_in _ (by omega)
        have n1 : ((q : Int) + 1).toNat = q + 1 := by omega
        have n2 : ((q : Int) + 2).toNat = q + 2 := by omega
        have n3 : ((q : Int) + 3).toNat = q + 3 := by omega
        have p1 : 0 ≤ (q : Int) + 1 := by omega
        have p2 : 0 ≤ (q : Int) + 2 := by omega
        have p3 : 0 ≤ (q : Int) + 3 := by omega
        have l0 : (q : Int) < 64 := by omega
        have l1 : (q : Int) + 1 < 64 := by omega
        have l2 : (q : Int) + 2 < 64 := by omega
        have l3 : (q : Int) + 3 < 64 := by omega
        have k16 : (k : Int) < 16 := by omega
        have w0 : IntKind.u32.wrap (b0 : Int) = (b0 : Int) := IntWalk.u32_in _ (by omega)
        have w1 : IntKind.u32.wrap (b1 : Int) = (b1 : Int) := IntWalk.u32_in _ (by omega)
        have w2 : IntKind.u32.wrap (b2 : Int) = (b2 : Int) := IntWalk.u32_in _ (by omega)
        have w3 : IntKind.u32.wrap (b3 : Int) = (b3 : Int) := IntWalk.u32_in _ (by omega)
        have w4 : IntKind.u32.wrap ((b0 : Int) * 16777216) = (b0 : Int) * 16777216 := IntWalk.u32_in _ (by omega)
        have w5 : IntKind.u32.wrap ((b1 : Int) * 65536) = (b1 : Int) * 65536 := IntWalk.u32_in _ (by omega)
        have w6 : IntKind.u32.wrap ((b2 : Int) * 256) = (b2 : Int) * 256 := IntWalk.u32_in _ (by omega)
        have k64 : (k : Int) < 64 := by omega
        clear hb0 hb1 hb2 hb3 hq HB64
        go_wp2_with fail
        obtain ⟨x, hx⟩ : ∃ x, x = nextW blk (wl blk k) := ⟨_, rfl⟩
        have HX := Lib.hid hx
        have HV2 : Hid (bits .or .u32 (bits .or .u32 (bits .or .u32 ((b0 : Int) * 16777216) ((b1 : Int) * 65536)) ((b2 : Int) * 256)) (b3 : Int) = (x : Int)) := Lib.hid (by rw [HV.out, hx])
        clear hx
        have hO1 := hO.alk (Alk.drew wr)
        have ho2 := hO1.own2 #[.int .u32 (x : Int)]
        have hn2 := cs_new37 wr.drew [x] #[.int .u32 (x : Int)] rfl
        have hsz : W.heap.size ≤ (wr.drew.alloc (.cells #[.int .u32 (x : Int)] 92)).heap.size := by have := hO1.below.size; simp at this ⊢; omega
        have hbA : Bts (wr.drew.alloc (.cells #[.int .u32 (x : Int)] 92)) W.heap.size (some A2) blk := hO1.b.below ((Below.refl _ _).alloc hO1.below.size _)
        rw [← HV2.out] at ho2 hn2 hsz hbA
        have hB1 := hO1.b
        go_region_held3 (fun w' => w'.cell? (A2.add q) = some (.int .u8 (b0 : Int)) ∧ w'.cell? ⟨A2.block, A2.off + (q + 1), none⟩ = some (.int .u8 (b1 : Int)) ∧ w'.cell? ⟨A2.block, A2.off + (q + 2), none⟩ = some (.int .u8 (b2 : Int)) ∧ w'.cell? ⟨A2.block, A2.off + (q + 3), none⟩ = some (.int .u8 (b3 : Int)))
          (first
            | exact CELLS.out _ (by assumption)
            | trivial
            | go_keep)
          (first
            | (refine step37 (.tmp 22) (.tmp 56) (by rfl) (by rfl) W.heap.size _ k (wl blk k) [x] (by rfl) ho2 _ _ 1 1 (by rfl) hn2 rfl (by omega) hsz ?_; intro v2 w2 hown2 hg2; have hB2 := (hO1.grow h2 (by rw [HX.out] at hown2; exact hown2) hg2).b)
            | fail)
        go_wp2_with fail
        rw [HX.out] at hown2
        exact ⟨⟨k + 1, by omega, by go_num, hO1.grow h2 hown2 hg2⟩, by simp [intOf]; omega⟩
      · obtain ⟨g, cap, hv, _, _⟩ := hO.own.form (by omega)
        subst hv
        obtain ⟨a2, ha2⟩ : ∃ a, a + 2 = k := ⟨k - 2, by omega⟩
        obtain ⟨a7, ha7⟩ : ∃ a, a + 7 = k := ⟨k - 7, by omega⟩
        obtain ⟨a15, ha15⟩ : ∃ a, a + 15 = k := ⟨k - 15, by omega⟩
        obtain ⟨a16, ha16⟩ : ∃ a, a + 16 = k := ⟨k - 16, by omega⟩
        obtain ⟨x2, hx2⟩ : ∃ x, (wl blk k).getD a2 0 = x := ⟨_, rfl⟩
        obtain ⟨x7, hx7⟩ : ∃ x, (wl blk k).getD a7 0 = x := ⟨_, rfl⟩
        obtain ⟨x15, hx15⟩ : ∃ x, (wl blk k).getD a15 0 = x := ⟨_, rfl⟩
        obtain ⟨x16, hx16⟩ : ∃ x, (wl blk k).getD a16 0 = x := ⟨_, rfl⟩
        have t2 : x2 < 4294967296 := by rw [← hx2]; exact wl_getD_lt blk k a2
        have t15 : x15 < 4294967296 := by rw [← hx15]; exact wl_getD_lt blk k a15
        have HV : Hid (nextW blk (wl blk k) = add32 (add32 (add32 (sh3 17 19 10 x2) x7) (sh3 7 18 3 x15)) x16) := by
          refine Lib.hid ?_
          unfold nextW
          rw [wl_length, if_neg (by omega), show k - 2 = a2 from by omega, show k - 7 = a7 from by omega, show k - 15 = a15 from by omega, show k - 16 = a16 from by omega, hx2, hx7, hx15, hx16]
        have CELLS : Hid (∀ w', OneW W.heap.size W w' blk A2 (.slice (some ⟨g, 0, none⟩) k cap) k → w'.cell? ⟨g, a2, none⟩ = some (.int .u32 (x2 : Int)) ∧ w'.cell? ⟨g, a7, none⟩ = some (.int .u32 (x7 : Int)) ∧ w'.cell? ⟨g, a15, none⟩ = some (.int .u32 (x15 : Int)) ∧ w'.cell? ⟨g, a16, none⟩ = some (.int .u32 (x16 : Int))) := Lib.hid fun w' hb =>
          ⟨hb.cell (by omega) hx2, hb.cell (by omega) hx7, hb.cell (by omega) hx15, hb.cell (by omega) hx16⟩
        have HS7 : Hid (bits .xor .u32 (bits .xor .u32 (rotr 7 x15 : Nat) (rotr 18 x15 : Nat)) ((x15 : Int) / 8) = ((sh3 7 18 3 x15 : Nat) : Int)) := Lib.hid (sh3_val 7 18 3 8 x15 t15 (by decide))
        have HS8 : Hid (bits .xor .u32 (bits .xor .u32 (rotr 17 x2 : Nat) (rotr 19 x2 : Nat)) ((x2 : Int) / 1024) = ((sh3 17 19 10 x2 : Nat) : Int)) := Lib.hid (sh3_val 17 19 10 1024 x2 t2 (by decide))
        have e2 : IntKind.i64.wrap ((k : Int) - 2) = (a2 : Int) := by rw [IntWalk.i64_in _ (by omega)]; omega
        have e7 : IntKind.i64.wrap ((k : Int) - 7) = (a7 : Int) := by rw [IntWalk.i64_in _ (by omega)]; omega
        have e15 : IntKind.i64.wrap ((k : Int) - 15) = (a15 : Int) := by rw [IntWalk.i64_in _ (by omega)]; omega
        have e16 : IntKind.i64.wrap ((k : Int) - 16) = (a16 : Int) := by rw [IntWalk.i64_in _ (by omega)]; omega
        have l2 : (a2 : Int) < (k : Int) := by omega
        have l7 : (a7 : Int) < (k : Int) := by omega
        have l15 : (a15 : Int) < (k : Int) := by omega
        have l16 : (a16 : Int) < (k : Int) := by omega
        have k16 : ¬ (k : Int) < 16 := by omega
        have k64 : (k : Int) < 64 := by omega
        have GETS : Hid ((wv (wl blk k))[a7]? = some (.int .u32 (x7 : Int)) ∧ (wv (wl blk k))[a16]? = some (.int .u32 (x16 : Int))) := Lib.hid ⟨by rw [wv_get _ _ (by rw [wl_length]; omega), hx7], by rw [wv_get _ _ (by rw [wl_length]; omega), hx16]⟩
        clear hx2 hx7 hx15 hx16 ha2 ha7 ha15 ha16
        obtain ⟨d2, d7, d15, d16⟩ := CELLS.out _ hO
        go_wp2_with fail
        go_quiet (first | (go_at_call 64; with_reducible exact rr7 x15 _ _ t15) | (go_at_call 64; with_reducible exact rr18 x15 _ _ t15))
        have hO2 := hO.alk (Alk.drewN wr nq)
        rw [HS7.out]
        generalize sh3 7 18 3 x15 = S0 at *
        generalize wr.drewN nq = wr2 at *
        clear hO d2 d7 d15 d16
        obtain ⟨d2, d7, d15, d16⟩ := CELLS.out _ hO2
        go_wp2_with fail
        go_quiet (first | (go_at_call 64; with_reducible exact rr17 x2 _ _ t2) | (go_at_call 64; with_reducible exact rr19 x2 _ _ t2))
        have hO3 := hO2.alk (Alk.drewN wr2 nq)
        rw [HS8.out]
        generalize sh3 17 19 10 x2 = S1 at *
        generalize wr2.drewN nq = wr3 at *
        clear hO2 d2 d7 d15 d16
        obtain ⟨x, hx⟩ : ∃ x, x = nextW blk (wl blk k) := ⟨_, rfl⟩
        have HX := Lib.hid hx
        have s1 := add_val S1 x7
        have s2 := add_val (add32 S1 x7) S0
        have s3 := add_val (add32 (add32 S1 x7) S0) x16
        rw [← HV.out, ← hx] at s3
        generalize add32 (add32 S1 x7) S0 = y2 at *
        generalize add32 S1 x7 = y1 at *
        clear hx
        have hO4 := hO3.alk (Alk.drew wr3)
        have ho2 := hO4.own2 #[.int .u32 (x : Int)]
        have hn2 := cs_new37 wr3.drew [x] #[.int .u32 (x : Int)] rfl
        have hsz : W.heap.size ≤ (wr3.drew.alloc (.cells #[.int .u32 (x : Int)] 92)).heap.size := by have := hO4.below.size; simp at this ⊢; omega
        have hO5 : OneW W.heap.size W (wr3.drew.alloc (.cells #[.int .u32 (x : Int)] 92)) blk A2 (.slice (some ⟨g, 0, none⟩) k cap) k := hO4.more hO4.below.size ((Below.refl _ _).alloc (Nat.le_refl _) _)
        have KEEP : Hid (∀ w', OneW W.heap.size W w' blk A2 (.slice (some ⟨g, 0, none⟩) k cap) k → w'.cell? ⟨g, a7, none⟩ = some (.int .u32 (x7 : Int)) ∧ w'.cell? ⟨g, a16, none⟩ = some (.int .u32 (x16 : Int))) := Lib.hid fun w' hb => ⟨(CELLS.out _ hb).2.1, (CELLS.out _ hb).2.2.2⟩
        have hlen := wl_length blk k
        have HLEN := Lib.hid hlen
        clear hlen
        go_wp2_with fail
        go_region_held3 (fun w' => w'.cell? ⟨g, a7, none⟩ = some (.int .u32 (x7 : Int)) ∧ w'.cell? ⟨g, a16, none⟩ = some (.int .u32 (x16 : Int)))
          (first
            | exact KEEP.out _ (by assumption)
            | exact hKK
            | go_keep)
          (first
            | (refine step37k (.tmp 98) (.tmp 114) (by rfl) (by rfl) W.heap.size g cap k (wl blk k) [x] (by rfl) ho2 ⟨wr3.drew.heap.size, 0, none⟩ 1 1 (by rfl) (fun j u hj => by obtain ⟨ad', e, _, hc⟩ := hn2 j u hj; injection e with e; subst e; exact hc) rfl (by omega) hsz ?_; intro v2 w2 hown2 hg2 hkp2; have hKK := And.intro (hkp2 _ _ GETS.out.1) (hkp2 _ _ GETS.out.2))
            | fail)
        go_wp2_with fail
        rw [HX.out] at hown2
        exact ⟨⟨k + 1, by omega, by go_num, hO4.grow h2 hown2 hg2⟩, by simp [intOf]; omega⟩
    · have HK : Hid (k = 64) := Lib.hid (by omega)
      have k64 : ¬ (k : Int) < 64 := by omega
      obtain ⟨gw, cw, hv, hgl, hglt⟩ := hO.own.form (by omega)
      subst hv
      have WORDS : Hid (∀ j, j < 64 → wr.cell? ⟨gw, j, none⟩ = some (.int .u32 (((wl blk 64).getD j 0 : Nat) : Int))) := Lib.hid fun j hj => by
        have := hO.cell (j := j) (by rw [HK.out]; exact hj) rfl
        rwa [HK.out] at this
      have h1' : Cs wr W.heap.size A1 (wv s.l) := h1.below hO.below
      have hn0 := World.ownsRow_nil wr W.heap.size 92 1
      have hbel := hO.below
      have hsz := hO.below.size
      have HO := Lib.hid hO
      clear hO
      go_wp2_with (first
        | (at_builtin; refine app37 (.const (.slice none 0 0)) (.tmp 116) rfl rfl W.heap.size (.slice none 0 0) 0 [] s.l rfl hn0 _ A1 8 c1 rfl h1' rfl (by omega) hsz ?_; intro v2 w2 hown2 hg2)
        | fail)
      change w2.ownsRow W.heap.size 92 1 v2 8 (wv s.l) at hown2
      obtain ⟨g9, c9, hv9, hlow9, hlt9⟩ := hown2.form (by omega)
      subst hv9
      have hbw : Below wr.heap.size wr w2 := ⟨hg2.os, hg2.tape, hg2.output, hg2.size, fun i hi => hg2.block i hi (by simp [Value.ownBlock])⟩
      have T0 : ∃ cur, TwoW W.heap.size W w2 blk A1 s gw g9 c9 0 cur := by
        rcases hown2.2 with ⟨hv, _⟩ | ⟨g', cap', cur, hv, _, hg, _, _, hcs, htake⟩
        · cases hv
        · injection hv with hva _ hvc
          injection hva with hva
          injection hva with hva
          subst hva
          subst hvc
          refine ⟨cur, fun j hj => (hbw.cell (p := ⟨gw, j, none⟩) hglt).trans (WORDS.out j hj), Nat.lt_of_lt_of_le hglt hbw.size, hg, fun j u hj => ?_, fun h => by omega, h1'.below (hbw.mono hsz), hlow9, hbel.trans (hbw.mono hsz)⟩
          have hj8 : j < 8 := by have := (List.getElem?_eq_some_iff.1 hj).1; simpa [wv_length, S8.length] using this
          have hq : (cur.toList.take (8 * 1))[j]? = some u := by rw [htake]; exact hj
          rw [List.getElem?_take, if_pos (by omega)] at hq
          simpa using hq
      obtain ⟨cur0, T0⟩ := T0
      have TT := Lib.hid T0
      clear T0 hown2 hg2 hn0 hbw h1' hbel
      go_loopw [9, 10] (fun v i wr => ∃ (k g c : Nat) (cur : Array Value), k ≤ 64 ∧ i = .int .i64 k ∧ v = .slice (some ⟨g, 0, none⟩) 8 c ∧ TwoW W.heap.size W wr blk A1 s gw g c k cur) (fun _ i _ => 64 - (intOf i).toNat)
      case atStart => exact ⟨0, g9, c9, cur0, by omega, rfl, rfl, TT.out⟩
      case round =>
        clear TT
        obtain ⟨t, g, c, cur, ht, rfl, rfl, hT⟩ := hrel
        by_cases htl : t < 64
        · obtain ⟨r, hr⟩ : ∃ r, rnds blk s t = r := ⟨_, rfl⟩
          have hok : r.ok := by rw [← hr]; exact rnds_ok blk HS.out t
          have HR := Lib.hid hr
          obtain ⟨o0, o1, o2, o3, o4, o5, o6, o7⟩ := hok
          have t64 : (t : Int) < 64 := by omega
          obtain ⟨x, hx⟩ : ∃ x, (wl blk 64).getD t 0 = x := ⟨_, rfl⟩
          obtain ⟨kc, hkc⟩ : ∃ x, kk.getD t 0 = x := ⟨_, rfl⟩
          have HNX : Hid (rnds blk s (t + 1) = rnd r kc x) := Lib.hid (by rw [← hr, ← hx, ← hkc]; rfl)
          have CELLS : Hid (∀ w' g c cur, TwoW W.heap.size W w' blk A1 s gw g c t cur → w'.cell? ⟨gw, t, none⟩ = some (.int .u32 (x : Int))) := Lib.hid fun w' g c cur h => by rw [← hx]; exact h.words t htl
          have KW := Lib.hid (fun (S : ByteArray) (w : World) (h : S.data.toList = rootsL) => hkc ▸ kword_any S t w h htl)
          clear hx hkc hr
          have v14 := ch_val2 o4 o5 o6
          have HT := Lib.hid hT
          obtain ⟨z0, z1, z2, z3, z4, z5, z6, z7⟩ := hT.at HR.out
          obtain ⟨CH, hch⟩ : ∃ x, chf r.e r.f r.g = x := ⟨_, rfl⟩
          rw [hch] at v14
          go_wp2_with fail
          go_quiet (fail)
          have hT2 := HT.out.alk (Alk.drewN wr nq)
          generalize wr.drewN nq = wa at *
          clear HT z0 z1 z2 z3 z4 z5 z6 z7 v14
          obtain ⟨z0, z1, z2, z3, z4, z5, z6, z7⟩ := hT2.at HR.out
          have zx := CELLS.out _ _ _ _ hT2
          have v15 := rot3_val 6 11 25 r.e o4
          obtain ⟨R6, hR6⟩ : ∃ x, rot3 6 11 25 r.e = x := ⟨_, rfl⟩
          rw [hR6] at v15
          have s1 := add_val r.h R6
          have s2 := add_val (add32 r.h R6) CH
          have s3 := add_val (add32 (add32 r.h R6) CH) kc
          have s4 := add_val (add32 (add32 (add32 r.h R6) CH) kc) x
          have HTEE : Hid (add32 (add32 (add32 (add32 r.h R6) CH) kc) x = tee r kc x) := Lib.hid (by rw [← hR6, ← hch]; rfl)
          generalize add32 (add32 (add32 (add32 r.h R6) CH) kc) x = T at *
          generalize add32 (add32 (add32 r.h R6) CH) kc = y3 at *
          generalize add32 (add32 r.h R6) CH = y2 at *
          generalize add32 r.h R6 = y1 at *
          clear hR6 hch
          go_wp2_with fail
          go_quiet (first
            | (go_at_call 64; with_reducible exact rr6 r.e _ _ o4)
            | (go_at_call 64; with_reducible exact rr11 r.e _ _ o4)
            | (go_at_call 64; with_reducible exact rr25 r.e _ _ o4)
            | (go_at_call 51; exact quiet_q (fun w => KW.out _ w (by kernel_rfl)) _ _))
          have hT3 := hT2.alk (Alk.drewN wa nq)
          generalize wa.drewN nq = wb at *
          clear hT2 z0 z1 z2 z3 z4 z5 z6 z7 zx v15 s1 s2 s3 s4
          obtain ⟨z0, z1, z2, z3, z4, z5, z6, z7⟩ := hT3.at HR.out
          have v16 := maj_val o0 o1 o2
          obtain ⟨MJ, hmj⟩ : ∃ x, maj r.a r.b r.c = x := ⟨_, rfl⟩
          rw [hmj] at v16
          go_wp2_with fail
          go_quiet (fail)
          have hT4 := hT3.alk (Alk.drewN wb nq)
          generalize wb.drewN nq = wc at *
          clear hT3 z0 z1 z2 z3 z4 z5 z6 z7 v16
          obtain ⟨z0, z1, z2, z3, z4, z5, z6, z7⟩ := hT4.at HR.out
          have v17 := rot3_val 2 13 22 r.a o0
          obtain ⟨R2, hR2⟩ : ∃ x, rot3 2 13 22 r.a = x := ⟨_, rfl⟩
          rw [hR2] at v17
          have s5 := add_val R2 MJ
          obtain ⟨y4, hy4⟩ : ∃ x, add32 R2 MJ = x := ⟨_, rfl⟩
          rw [hy4] at s5
          go_wp2_with fail
          go_quiet (first
            | (go_at_call 64; with_reducible exact rr2 r.a _ _ o0)
            | (go_at_call 64; with_reducible exact rr13 r.a _ _ o0)
            | (go_at_call 64; with_reducible exact rr22 r.a _ _ o0))
          have hT5 := hT4.alk (Alk.drewN wc nq)
          generalize wc.drewN nq = wd at *
          clear hT4 z0 z1 z2 z3 z4 z5 z6 z7 v17 s5
          have s6 := add_val T y4
          have s7 := add_val r.d T
          have HNA : Hid (add32 T y4 = (rnd r kc x).a) := Lib.hid (by
            rw [← hy4, ← hR2, ← hmj, ← add32_assoc, HTEE.out]
            rfl)
          have HNE : Hid (add32 r.d T = (rnd r kc x).e) := Lib.hid (by rw [HTEE.out]; rfl)
          rw [HNA.out] at s6
          rw [HNE.out] at s7
          obtain ⟨na, hna⟩ : ∃ x', (rnd r kc x).a = x' := ⟨_, rfl⟩
          obtain ⟨ne, hne⟩ : ∃ x', (rnd r kc x).e = x' := ⟨_, rfl⟩
          rw [hna] at s6
          rw [hne] at s7
          have HARR : Hid ((#[.int .u32 (na : Int), .int .u32 (r.a : Int), .int .u32 (r.b : Int), .int .u32 (r.c : Int), .int .u32 (ne : Int), .int .u32 (r.e : Int), .int .u32 (r.f : Int), .int .u32 (r.g : Int)] : Array Value) = (wv (rnd r kc x).l).toArray) := Lib.hid (by rw [← hna, ← hne]; rfl)
          clear hy4 hR2 hmj hna hne
          go_wp2_with fail
          refine still_tail 26 (by kernel_rfl) (by kernel_rfl) (fun W1 hk1 => ?_)
          have hT6 := hT5.alk hk1
          clear hT5 hk1
          obtain ⟨z0, z1, z2, z3, z4, z5, z6, z7⟩ := hT6.at HR.out
          simp only [List.take_succ_cons, List.take_zero, List.drop_succ_cons, List.drop_zero]
          repeat still_step
          refine wpStill_nil ?_
          clear z0 z1 z2 z3 z4 z5 z6 z7
          go_wp2_with fail
          go_roundw
          case rel => exact ⟨t + 1, W1.heap.size, 8, _, by omega, by go_num, rfl, by rw [HARR.out]; exact hT6.next _ HNX.out⟩
          case measure => simp [intOf]; omega
        · have HT64 : Hid (t = 64) := Lib.hid (by omega)
          have t64 : ¬ (t : Int) < 64 := by omega
          obtain ⟨hcur, hc8⟩ := hT.fin (by omega)
          subst hc8
          subst hcur
          have hb := hT.v
          have hst := hT.st
          have hlow := hT.low
          have hbel := hT.below
          have HE : Hid (mix s blk = sum8 s (rnds blk s t)) := Lib.hid (by rw [HT64.out]; rfl)
          have HRO : Hid (rnds blk s t).ok := Lib.hid (rnds_ok blk HS.out t)
          clear hT
          generalize rnds blk s t = r at *
          obtain ⟨ad, rfl, _, _⟩ := hst 0 _ rfl
          have TR := Lib.hid (show TriW W.heap.size W wr (some ad) s r g 0 from ⟨hb, hst, hlow, hbel⟩)
          clear hb hst hbel
          go_wp2_with fail
          go_loopw [234] (fun i wr => ∃ j : Nat, j ≤ 8 ∧ i = .int .i64 j ∧ TriW W.heap.size W wr (some ad) s r g j) (fun i _ => 8 - (intOf i).toNat)
          case atStart => exact ⟨0, by omega, rfl, TR.out⟩
          case round =>
            clear TR
            obtain ⟨j, hj, rfl, hT⟩ := hrel
            by_cases hjl : j < 8
            · have j8 : (j : Int) < 8 := by omega
              obtain ⟨x, y, hx, hy, hxv, hyv, hset⟩ := tri_at s r j hjl HS.out HRO.out
              have XV := Lib.hid hxv
              have YV := Lib.hid hyv
              have SET := Lib.hid hset
              clear hxv hyv hset
              have s9 := add_val x y
              obtain ⟨q, hq⟩ : ∃ q, add32 x y = q := ⟨_, rfl⟩
              rw [hq] at s9
              have HQ := Lib.hid hq
              clear hq
              obtain ⟨z0, z1, z2⟩ := hT.at XV.out YV.out
              go_wp2_with fail
              refine still_tail 10 (by kernel_rfl) (by kernel_rfl) (fun W1 hk1 => ?_)
              have hT2 := hT.alk hk1
              clear hT hk1 z0 z1 z2
              obtain ⟨z0, z1, z2⟩ := hT2.at XV.out YV.out
              simp only [List.take_succ_cons, List.take_zero, List.drop_succ_cons, List.drop_zero]
              repeat still_step
              refine wpStill_nil ?_
              clear z1
              go_wp2_with fail
              go_roundw
              case rel => exact ⟨j + 1, by omega, by go_num, hT2.put _ (by rw [← SET.out, HQ.out])⟩
              case measure => simp [intOf]; omega
            · obtain ⟨hj8, j8⟩ : Hid (j = 8) ∧ ¬ (j : Int) < 8 := ⟨Lib.hid (by omega), by omega⟩
              have hv : BlkIs wr g 92 (wv (sum8 s r).l).toArray := by
                have := hT.v
                rw [hj8.out] at this
                exact this
              have hbel := hT.below
              clear hT
              go_wp2_with fail
              go_ret
              exact ⟨g, rfl, by rw [HE.out]; exact hv, hlow, hbel⟩
end Go.Proofs.YteapnkedpmcokaaGreatDoor
/- Contract of the document's sum. Conditions: as stated at each. -/
namespace Go.Proofs.YteapnkedpmcokaaGreatDoor
set_option maxRecDepth 100000
open Go.RowKit Go
theorem app5n {w : World} {ops : Array Oper} {rest : List Oper} {o : Oper} {a : Act} {Q : Exit → Act → World → Prop} (s x : Operand)
    (ho : o.op = .call { callee := .builtin .append, args := #[s, x], argTypes := #[25, 25] }) (hgd : o.guard = none)
    (N : Nat) (v : Value) (n k : Nat) (l m : List UInt8) (hln : l.length = n) (hmk : m.length = k) (hs : a.eval s = v) (hown : w.ownsRow N 5 1 v n (bv l))
    (B : Nat) (A : Option Addr) (c : Nat) (hx : a.eval x = .slice A k c) (hr : Bts w B A m) (h63 : n + k ≤ 1000000000) (hN : N ≤ w.heap.size)
    (h : ∀ v' w', w'.ownsRow N 5 1 v' (n + k) (bv (l ++ m)) → w.grownBy w' v.ownBlock → wpList Tryz.prog ops Q rest (a.put o.dst v') w') : wpList Tryz.prog ops Q (o :: rest) a w := by
  subst hln
  subst hmk
  exact app5 s x ho hgd N v l m hs hown B A c hx hr h63 hN fun v' w' h1 h2 => h v' w' (by rw [← List.length_append]; exact h1) h2
theorem bts_new5 (w : World) (b : Nat) (u : UInt8) (h : u.toNat = b) : Bts (w.alloc (.cells #[.int .u8 (b : Int)] 5)) (w.heap.size + 1) (some ⟨w.heap.size, 0, none⟩) [u] := Bts.newm w [u] _ _ (by subst h; rfl)
/-- a row of bytes of the call's own. -/
structure RsW (w wr : World) (v : Value) (n : Nat) (m : List UInt8) : Prop where
  own : wr.ownsRow (w.heap.size + 1) 5 1 v n (bv m)
  len : m.length = n
  below : Below w.heap.size w wr
  r : ∃ z : Array Value, BlkIs wr w.heap.size 28 z ∧ z.size = 32
  size : w.heap.size + 1 ≤ wr.heap.size
theorem RsW.first {w w1 : World} {v1 : Value} {n : Nat} {m : List UInt8} {Z : Array Value} (hZ : Z.size = 32) (ho : w1.ownsRow (w.heap.size + 1) 5 1 v1 (0 + n) (bv ([] ++ m))) (hl : m.length = n) (hg : (w.alloc (.cells Z 28)).grownBy w1 none) : RsW w w1 v1 n m := by
  rw [Nat.zero_add] at ho
  have hb : Below (w.heap.size + 1) (w.alloc (.cells Z 28)) w1 := ⟨hg.os, hg.tape, hg.output, hg.size, fun i hi => hg.block i (by simpa using hi) (by simp)⟩
  exact ⟨ho, hl, sum_bel w _ w1 hb, ⟨Z, sum_blk w Z w1 hb, hZ⟩, by simpa using hb.size⟩
theorem RsW.keep {w wr w2 : World} {v v2 : Value} {n n2 : Nat} {m m2 : List UInt8} (h : RsW w wr v n m) (b : Below (w.heap.size + 1) wr w2) (ho : w2.ownsRow (w.heap.size + 1) 5 1 v2 n2 (bv m2)) (hl : m2.length = n2) : RsW w w2 v2 n2 m2 := by
  obtain ⟨z, hz, hzs⟩ := h.r
  exact ⟨ho, hl, h.below.trans (b.mono (by omega)), ⟨z, (b.block _ (by omega)).trans hz, hzs⟩, Nat.le_trans h.size b.size⟩
theorem RsW.own2 {n : Nat} {w wr : World} {v : Value} {m : List UInt8} (h : RsW w wr v n m) (C : Array Value) (t : TypeId) : (wr.alloc (.cells C t)).ownsRow (w.heap.size + 1) 5 1 v n (bv m) :=
  own_kept h.own ((Below.refl wr.heap.size wr).alloc (Nat.le_refl _) _) (Nat.le_refl _)
theorem RsW.more {w wr w2 : World} {v v2 : Value} {n : Nat} {m : List UInt8} {u : UInt8} {C : Array Value} (h : RsW w wr v n m) (ho : w2.ownsRow (w.heap.size + 1) 5 1 v2 (n + 1) (bv (m ++ [u]))) (hg : (wr.alloc (.cells C 5)).grownBy w2 v.ownBlock) :
    RsW w w2 v2 (n + 1) (m ++ [u]) := by
  have b1 : Below (w.heap.size + 1) wr (wr.alloc (.cells C 5)) := (Below.refl _ _).alloc h.size _
  have b2 : Below (w.heap.size + 1) wr w2 := grown_below b1 h.size (h.own2 C 5) hg
  exact h.keep b2 ho (by rw [List.length_append, h.len]; rfl)
theorem nought (l : List UInt8) (k : Nat) : l ++ 128 :: List.replicate (k + 1) 0 = l ++ 128 :: List.replicate k 0 ++ [0] := by
  rw [List.replicate_succ']
  simp
theorem hib_next (x p : Nat) (hp : p < 8) : (hib x 8).take (8 - p) = (hib x 8).take (8 - (p + 1)) ++ [UInt8.ofNat (x / 256 ^ p)] := by
  rcases (show p = 0 ∨ p = 1 ∨ p = 2 ∨ p = 3 ∨ p = 4 ∨ p = 5 ∨ p = 6 ∨ p = 7 by omega) with rfl | rfl | rfl | rfl | rfl | rfl | rfl | rfl
  all_goals simp [hib]
theorem byte_at (x p : Nat) : (x : Int) / 2 ^ (8 * p) % 256 = ((UInt8.ofNat (x / 256 ^ p)).toNat : Int) := by
  rw [show (256 : Nat) ^ p = 2 ^ (8 * p) by rw [Nat.pow_mul]]
  simp
theorem bts_new5i (w : World) (b : Int) (u : UInt8) (h : b = (u.toNat : Int)) : Bts (w.alloc (.cells #[.int .u8 b] 5)) (w.heap.size + 1) (some ⟨w.heap.size, 0, none⟩) [u] := Bts.newm w [u] _ _ (by subst h; rfl)
theorem padded_is2 (l : List UInt8) : padded l = l ++ 128 :: List.replicate ((119 - l.length % 64) % 64) 0 ++ hib (8 * l.length) 8 := by simp [padded, padding]
theorem init_next (k : Nat) (h : k < 8) : init8.l.take (k + 1) = init8.l.take k ++ [init8.l.getD k 0] := by
  rcases (show k = 0 ∨ k = 1 ∨ k = 2 ∨ k = 3 ∨ k = 4 ∨ k = 5 ∨ k = 6 ∨ k = 7 by omega) with rfl | rfl | rfl | rfl | rfl | rfl | rfl | rfl
  all_goals rfl
theorem bts_some {w : World} {B : Nat} {A : Option Addr} {l : List UInt8} (h : Bts w B A l) (hl : 0 < l.length) : ∃ ad, A = some ad := by
  obtain ⟨ad, e, _⟩ := h.at_ hl
  exact ⟨ad, e⟩
/-- what stands in the loop over the blocks. -/
structure BlW (w wr : World) (ad : Addr) (P : List UInt8) (A : Option Addr) (s : S8) : Prop where
  cs : Cs wr wr.heap.size A (wv s.l)
  b : Bts wr wr.heap.size (some ad) P
  r : ∃ z : Array Value, BlkIs wr w.heap.size 28 z ∧ z.size = 32
  below : Below w.heap.size w wr
  size : w.heap.size + 1 ≤ wr.heap.size
theorem BlW.step {w wr w2 : World} {ad : Addr} {P : List UInt8} {A A2 : Option Addr} {s s2 : S8} (h : BlW w wr ad P A s) (b : Below wr.heap.size wr w2) (hc : Cs w2 w2.heap.size A2 (wv s2.l)) : BlW w w2 ad P A2 s2 := by
  obtain ⟨z, hz, hzs⟩ := h.r
  exact ⟨hc, (h.b.below b).more b.size, ⟨z, (b.block _ hz.lt).trans hz, hzs⟩, h.below.trans (b.mono (by have := h.size; omega)), Nat.le_trans h.size b.size⟩
theorem cs_blk {w : World} {g : Nat} {l : List Nat} (h : BlkIs w g 92 (wv l).toArray) : Cs w w.heap.size (some ⟨g, 0, none⟩) (wv l) := fun j u hj => ⟨_, rfl, h.lt, by rw [Addr.add_mid, Nat.zero_add]; exact h.get hj⟩
theorem sha_at (s : S8) (p r : Nat) (hp : p < 8) (hr : r < 4) : (s.l.flatMap fun w => hib w 4)[4 * p + r]? = some (UInt8.ofNat (s.l.getD p 0 / 256 ^ (3 - r))) := by
  rcases (show p = 0 ∨ p = 1 ∨ p = 2 ∨ p = 3 ∨ p = 4 ∨ p = 5 ∨ p = 6 ∨ p = 7 by omega) with rfl | rfl | rfl | rfl | rfl | rfl | rfl | rfl
  all_goals
    rcases (show r = 0 ∨ r = 1 ∨ r = 2 ∨ r = 3 by omega) with rfl | rfl | rfl | rfl
    all_goals rfl
theorem out_next (m : List UInt8) (j : Nat) (hj : j < 32) (hm : m.length = 32) (u : UInt8) (hu : m[j]? = some u) :
    (bv (m.take j ++ List.replicate (32 - j) 0)).toArray.setIfInBounds j (.int .u8 (u.toNat : Int)) = (bv (m.take (j + 1) ++ List.replicate (32 - (j + 1)) 0)).toArray := by
  have hmin : min j m.length = j := by omega
  rw [List.take_add_one, hu, show 32 - j = (32 - (j + 1)) + 1 by omega, List.replicate_succ]
  simp [bv, hmin]
theorem out_cell (m : List UInt8) (j : Nat) (hj : j < 32) (hm : m.length = 32) : (bv (m.take j ++ List.replicate (32 - j) 0)).toArray[j]? = some (.int .u8 0) := by
  have hmin : min j m.length = j := by omega
  rw [show 32 - j = (32 - (j + 1)) + 1 by omega, List.replicate_succ]
  simp [bv, hmin]
theorem byte4 (x d k : Nat) (h : 256 ^ k = d) : (x : Int) / (d : Int) % 256 = ((UInt8.ofNat (x / 256 ^ k)).toNat : Int) := by
  subst h
  simp
theorem byte4a (x : Nat) (h : x < 4294967296) : (x : Int) / 16777216 = ((UInt8.ofNat (x / 256 ^ 3)).toNat : Int) := by
  rw [← byte4 x 16777216 3 rfl]
  omega
theorem byte4d (x : Nat) : (x : Int) % 256 = ((UInt8.ofNat (x / 256 ^ 0)).toNat : Int) := by
  rw [← byte4 x 1 0 rfl]
  omega
set_option maxRecDepth 100000 in
set_option maxHeartbeats 800000 in
theorem rsum_any (A : Option Addr) (B c : Nat) (l : List UInt8) (w : World) (h : Bts w B A l) (hB : B ≤ w.heap.size) (hm : l.length ≤ 900000000) :
    Calls Tryz.prog 37 #[.slice A l.length c] w fun e w' => e = .returned (.agg (bv (sha l)).toArray) ∧ Below w.heap.size w w' := by
  obtain ⟨n, hn⟩ : ∃ n, l.length = n := ⟨_, rfl⟩
  rw [hn] at hm ⊢
  have HN := Lib.hid hn
  clear hn
  go_enter Tryz.func37, Tryz.ntmps37
  go_wp2_with (first
    | (at_builtin; refine app5n (.const (.slice none 0 0)) (.tmp 15) rfl rfl (w.heap.size + 1) (.slice none 0 0) 0 n [] l rfl HN.out rfl (World.ownsRow_nil _ _ 5 1) B A c rfl (h.below ((Below.refl _ w).alloc hB _)) (by omega) (by simp) ?_; intro v1 w1 hown1 hg1; have R1 := RsW.first (by rfl) hown1 HN.out hg1; have H1 := Lib.hid R1; clear R1 hown1 hg1)
    | (at_builtin; refine app5n (.tmp 16) (.tmp 17) rfl rfl (w.heap.size + 1) v1 n 1 l [128] HN.out rfl rfl (H1.out.own2 _ 5) _ _ _ rfl (bts_new5 w1 128 128 rfl) (by omega) (by have := H1.out.size; simp; omega) ?_; intro v2 w2 hown2 hg2; have R2 := H1.out.more hown2 hg2; have H2 := Lib.hid R2; clear R2 hown2 hg2)
    | fail)
  obtain ⟨z, hz⟩ : ∃ z, (119 - n % 64) % 64 = z := ⟨_, rfl⟩
  have zlt : z < 64 := by omega
  go_loopw [4] (fun v wr => ∃ k t : Nat, k ≤ z ∧ n + 1 + k = t ∧ RsW w wr v t (l ++ 128 :: List.replicate k 0)) (fun v _ => n + 70 - sliceLen v)
  case atStart => exact ⟨0, n + 1, by omega, by omega, H2.out⟩
  case round =>
    obtain ⟨k, t, hk, ht, hR⟩ := hrel
    obtain ⟨A4, c4, rfl, _, _⟩ := own_slice hR.own
    have HR := Lib.hid hR
    clear hR
    by_cases hkz : k < z
    · have t56 : ¬ (t : Int) % 64 = 56 := by omega
      go_wp2_with (first
        | (at_builtin; refine app5n (.tmp 23) (.tmp 24) rfl rfl (w.heap.size + 1) _ t 1 _ [0] HR.out.len rfl rfl (HR.out.own2 _ 5) _ _ _ rfl (bts_new5 wr 0 0 rfl) (by omega) (by have := HR.out.size; simp; omega) ?_; intro v3 w3 hown3 hg3; have R3 := HR.out.more hown3 hg3; obtain ⟨A5, c5, rfl, _, _⟩ := own_slice R3.own; have H3 := Lib.hid R3; clear R3 hown3 hg3)
        | fail)
      go_roundw
      case rel => exact ⟨k + 1, t + 1, by omega, by omega, by rw [nought]; exact H3.out⟩
      case measure => simp [sliceLen]; omega
    · obtain rfl : k = z := by omega
      have t56 : (t : Int) % 64 = 56 := by omega
      obtain ⟨m, hm2⟩ : ∃ m, l ++ 128 :: List.replicate k 0 = m := ⟨_, rfl⟩
      have HM := Lib.hid hm2
      have HR2 : Hid (RsW w wr (.slice A4 t c4) t m) := Lib.hid (hm2 ▸ HR.out)
      have t63 : t + 8 ≤ 1000000000 := by omega
      have tn : Hid (n + 1 + k = t) := Lib.hid ht
      have zn : Hid ((119 - n % 64) % 64 = k) := Lib.hid hz
      clear HR H1 H2 hm2
      obtain ⟨x, hx⟩ : ∃ x, 8 * n = x := ⟨_, rfl⟩
      have x64 : x < 18446744073709551616 := by omega
      rw [show ((n : Int) * 8) = (x : Int) by omega]
      clear ht hz hk zlt hkz
      go_wp2_with fail
      clear t56
      go_loopw [4, 5] (fun v i wr => ∃ q : Nat, q ≤ 8 ∧ i = .int .i64 ((q : Int) - 1) ∧ RsW w wr v (t + (8 - q)) (m ++ (hib x 8).take (8 - q))) (fun _ i _ => (intOf i + 1).toNat)
      case atStart => exact ⟨8, by omega, rfl, by simpa using HR2.out⟩
      case round =>
        clear HR2
        obtain ⟨q, hq, rfl, hR⟩ := hrel
        rcases q with _ | p
        · rw [show ((0 : Nat) : Int) - 1 = -1 from rfl]
          obtain ⟨L, hL⟩ : ∃ L, t + (8 - 0) = L := ⟨_, rfl⟩
          rw [hL] at hR
          obtain ⟨A6, c6, rfl, hc6, hcm⟩ := own_slice hR.own
          have HP : Hid (m ++ (hib x 8).take (8 - 0) = padded l) := Lib.hid (by rw [← HM.out, ← hx, padded_is2, HN.out, zn.out]; simp [hib])
          rw [HP.out] at hR
          obtain ⟨P, hPd⟩ : ∃ P, padded l = P := ⟨_, rfl⟩
          rw [hPd] at hR
          have HSH : Hid (sha l = (wsN P (L / 64)).l.flatMap fun w => hib w 4) := Lib.hid (by rw [← hR.len, ← hPd]; rfl)
          have HMOD : L % 64 = 0 := by rw [← hR.len, ← hPd]; exact padded_mod l
          obtain ⟨K, hK⟩ : ∃ K, L = 64 * K := ⟨L / 64, by omega⟩
          have HB := Lib.hid (Bts.of_own hR.own)
          obtain ⟨ad, rfl⟩ := bts_some HB.out (by have := hR.len; omega)
          have HPL := Lib.hid hR.len
          have HBEL := Lib.hid hR.below
          have HRR := Lib.hid hR.r
          have HSZ := Lib.hid hR.size
          have L63 : L ≤ 1000000000 := by omega
          have HK : Hid (L = 64 * K) := Lib.hid hK
          clear hR hPd HP HM tn zn hx hL HMOD hK t63
          go_wp2_with fail
          rename World => wb
          have HV := Lib.hid (World.ownsRow_nil wb wb.heap.size 92 1)
          go_loopw [6, 7] (fun v i wr => ∃ k : Nat, k ≤ 8 ∧ i = .int .i64 k ∧ wr.ownsRow wb.heap.size 92 1 v k (wv (init8.l.take k)) ∧ Below wb.heap.size wb wr) (fun _ i _ => 8 - (intOf i).toNat)
          case atStart => exact ⟨0, by omega, rfl, HV.out, Below.refl _ _⟩
          case round =>
            clear HV
            obtain ⟨k8, hk8, rfl, ho, hb⟩ := hrel
            by_cases hlt : k8 < 8
            · have k8l : (k8 : Int) < 8 := by omega
              obtain ⟨A7, c7, rfl, _, _⟩ := own_slice ho
              have HO := Lib.hid ho
              have HBW := Lib.hid hb
              have HNX := Lib.hid (init_next k8 hlt)
              have BW := Lib.hid (fun (S : ByteArray) (w : World) (h : S.data.toList = beginL) => bword_any S k8 w h hlt)
              have hil : (init8.l.take k8).length = k8 := by rw [List.length_take, S8.length]; omega
              clear ho hb hlt
              generalize init8.l.getD k8 0 = y at *
              go_wp2_with (first
                | (go_at_call 51; refine (BW.out _ _ (by kernel_rfl)).mono ?_; rintro e w4 ⟨rfl, rfl⟩)
                | (at_builtin; refine app37 (.tmp 43) (.tmp 46) rfl rfl wb.heap.size _ k8 _ [y] rfl (own_kept HO.out ((Below.refl _ _).alloc (Nat.le_refl _) _) (Nat.le_refl _)) _ _ 1 1 rfl (cs_new37 _ [y] _ rfl) rfl (by omega) (by have := HBW.out.size; simp; omega) ?_; intro v5 w5 ho5 hg5; have HB5 : Hid (Below wb.heap.size wb w5) := Lib.hid (grown_below (HBW.out.alloc HBW.out.size _) (Nat.le_refl _) (own_kept HO.out ((Below.refl _ _).alloc (Nat.le_refl _) _) (Nat.le_refl _)) hg5); rw [← HNX.out] at ho5; have HO5 := Lib.hid ho5; clear hg5; obtain ⟨A8, c8, rfl, _, _⟩ := own_slice ho5; clear ho5)
                | fail)
              go_roundw
              case rel => exact ⟨k8 + 1, by omega, by go_num, HO5.out, HB5.out⟩
              case measure => simp [intOf]; omega
            · obtain rfl : k8 = 8 := by omega
              rw [show ((8 : Nat) : Int) = 8 from rfl]
              obtain ⟨A7, c7, rfl, _, _⟩ := own_slice ho
              obtain ⟨z, hz, hzs⟩ := HRR.out
              have BL := Lib.hid (show BlW w wr ad P A7 (wsN P 0) from ⟨Cs.of_own ho, (HB.out.below hb).more hb.size, ⟨z, (hb.block _ hz.lt).trans hz, hzs⟩, HBEL.out.trans (hb.mono (by have := HSZ.out; omega)), Nat.le_trans HSZ.out hb.size⟩)
              clear ho hb hz hzs HB HBEL HRR HSZ
              go_wp2_with fail
              go_loopw [6, 8] (fun v i wr => ∃ (k q : Nat) (A : Option Addr) (c : Nat), q = 64 * k ∧ k ≤ K ∧ i = .int .i64 q ∧ v = .slice A 8 c ∧ BlW w wr ad P A (wsN P k)) (fun _ i _ => L - (intOf i).toNat)
              case atStart => exact ⟨0, 0, A7, c7, rfl, by omega, rfl, rfl, BL.out⟩
              case round =>
                clear BL
                obtain ⟨kb, q, A8, c8, hq, hkb, rfl, rfl, hBL⟩ := hrel
                have HBL := Lib.hid hBL
                clear hBL
                by_cases hlt : kb < K
                · have hKL := HK.out
                  have q64 : q + 64 ≤ L := by omega
                  have BLEN : Hid (((P.drop q).take 64).length = 64) := Lib.hid (by rw [List.length_take, List.length_drop, HPL.out]; omega)
                  have HQ1 : Hid (q + 64 = 64 * (kb + 1)) := Lib.hid (by omega)
                  have HKB : Hid (kb + 1 ≤ K) := Lib.hid (by omega)
                  have HMX : Hid (wsN P (kb + 1) = mix (wsN P kb) ((P.drop q).take 64)) := Lib.hid (by rw [hq]; rfl)
                  have HOK : Hid (wsN P kb).ok := Lib.hid (wsN_ok P kb)
                  clear hq hkb hlt hKL
                  go_wp2_with (first
                    | (go_at_call 52; refine (one_any _ ((P.drop q).take 64) A8 (ad.add q) c8 _ wr HOK.out HBL.out.cs ((HBL.out.b.drop_eq q).take 64) BLEN.out).mono ?_; rintro e w5 ⟨g, rfl, hblk, hlow, hb5⟩; rw [← HMX.out] at hblk; have HB5 := Lib.hid (HBL.out.step hb5 (cs_blk hblk)); clear hblk hb5)
                    | fail)
                  go_roundw
                  case rel => exact ⟨kb + 1, q + 64, _, 8, HQ1.out, HKB.out, by go_num, rfl, HB5.out⟩
                  case measure => simp [intOf]; omega
                · obtain rfl : kb = K := by omega
                  have hKL := HK.out
                  have qL : ¬ (q : Int) < L := by omega
                  have HSH2 : Hid (sha l = (wsN P kb).l.flatMap fun w => hib w 4) := Lib.hid (by rw [HSH.out, hKL, Nat.mul_div_cancel_left _ (by decide)])
                  have HOK := Lib.hid (wsN_ok P kb)
                  clear HSH hKL hq
                  generalize wsN P kb = s at *
                  rename World => wc
                  obtain ⟨a8, rfl, _, _⟩ := HBL.out.cs 0 _ rfl
                  have S32 : Hid ((sha l).length = 32) := Lib.hid (sha_length l)
                  go_wp2_with fail
                  have OUT := Lib.hid (BlkIs.new wc 28 (bv (List.replicate 32 0)).toArray)
                  have BEL0 := Lib.hid ((Below.refl wc.heap.size wc).alloc (Nat.le_refl _) (.cells (bv (List.replicate 32 0)).toArray 28))
                  go_loopw [10, 61] (fun _ i wr => ∃ j : Nat, j ≤ 32 ∧ i = .int .i64 j ∧ BlkIs wr wc.heap.size 28 (bv ((sha l).take j ++ List.replicate (32 - j) 0)).toArray ∧ Below wc.heap.size wc wr) (fun _ i _ => 32 - (intOf i).toNat)
                  case atStart => exact ⟨0, by omega, rfl, OUT.out, BEL0.out⟩
                  case round =>
                    clear OUT BEL0
                    obtain ⟨j, hj, rfl, hout, hbel⟩ := hrel
                    by_cases hjl : j < 32
                    · have j32 : (j : Int) < 32 := by omega
                      obtain ⟨p, hp⟩ : ∃ p, j / 4 = p := ⟨_, rfl⟩
                      have p8 : p < 8 := by omega
                      have e1 : (j : Int) / 4 = (p : Int) := by omega
                      obtain ⟨y, hy⟩ : ∃ y, s.l.getD p 0 = y := ⟨_, rfl⟩
                      have y32 : y < 4294967296 := by rw [← hy]; exact getD_lt (S8.ok_l HOK.out) p
                      have z0 : wr.cell? (a8.add p) = some (.int .u32 (y : Int)) := by
                        obtain ⟨_, he, _, h2⟩ := (HBL.out.cs.below hbel) p _ (wv_get s.l p p8)
                        cases he
                        rw [← hy]
                        exact h2
                      have z1 : wr.cell? ⟨wc.heap.size, j, none⟩ = some (.int .u8 0) := (hout.cell j).trans (out_cell _ j hjl S32.out)
                      have z2 := hout.froz j
                      have HO := Lib.hid hout
                      have HBE := Lib.hid hbel
                      clear hout hbel
                      have SA : Hid (∀ r, r < 4 → j = 4 * p + r → (bv ((sha l).take j ++ List.replicate (32 - j) 0)).toArray.setIfInBounds j (.int .u8 ((UInt8.ofNat (y / 256 ^ (3 - r))).toNat : Int)) = (bv ((sha l).take (j + 1) ++ List.replicate (32 - (j + 1)) 0)).toArray) := Lib.hid fun r hr hjr =>
                        out_next _ j hjl S32.out _ (by rw [HSH2.out, hjr, sha_at s p r p8 hr, hy])
                      clear hy
                      rcases (show j % 4 = 0 ∨ j % 4 = 1 ∨ j % 4 = 2 ∨ j % 4 = 3 by omega) with hr | hr | hr | hr
                      · have SB := Lib.hid (SA.out 0 (by decide) (by omega))
                        have e2 : (j : Int) % 4 = 0 := by omega
                        clear hp hr
                        go_wp2_with fail
                        go_roundw
                        case rel => exact ⟨j + 1, by omega, by go_num, by rw [← SB.out, ← byte4a y y32]; exact HO.out.put j _, HBE.out.setCell (Nat.le_refl _) _⟩
                        case measure => simp [intOf]; omega
                      · have SB := Lib.hid (SA.out 1 (by decide) (by omega))
                        have e2 : (j : Int) % 4 = 1 := by omega
                        clear hp hr
                        go_wp2_with fail
                        go_roundw
                        case rel => exact ⟨j + 1, by omega, by go_num, by rw [← SB.out, ← byte4 y 65536 2 rfl]; exact HO.out.put j _, HBE.out.setCell (Nat.le_refl _) _⟩
                        case measure => simp [intOf]; omega
                      · have SB := Lib.hid (SA.out 2 (by decide) (by omega))
                        have e2 : (j : Int) % 4 = 2 := by omega
                        clear hp hr
                        go_wp2_with fail
                        go_roundw
                        case rel => exact ⟨j + 1, by omega, by go_num, by rw [← SB.out, ← byte4 y 256 1 rfl]; exact HO.out.put j _, HBE.out.setCell (Nat.le_refl _) _⟩
                        case measure => simp [intOf]; omega
                      · have SB := Lib.hid (SA.out 3 (by decide) (by omega))
                        have e2 : (j : Int) % 4 = 3 := by omega
                        clear hp hr
                        go_wp2_with fail
                        go_roundw
                        case rel => exact ⟨j + 1, by omega, by go_num, by rw [← SB.out, ← byte4d y]; exact HO.out.put j _, HBE.out.setCell (Nat.le_refl _) _⟩
                        case measure => simp [intOf]; omega
                    · have J32 : Hid (j = 32) := Lib.hid (by omega)
                      have j32 : ¬ (j : Int) < 32 := by omega
                      have HX : Hid ((bv ((sha l).take j ++ List.replicate (32 - j) 0)).toArray = (bv (sha l)).toArray) := Lib.hid (by rw [J32.out, List.take_of_length_le (by rw [S32.out]; omega)]; simp)
                      have HI24 : Hid ((Tryz.prog.info? 28).map (·.size) = some (bv (sha l)).toArray.size) := Lib.hid (by rw [isz24, List.size_toArray, bv_length, sha_length])
                      have hout2 := hout
                      rw [HX.out] at hout2
                      obtain ⟨z, hz, hzs⟩ := HBL.out.r
                      have HZ0 : Hid (z.size = (bv (sha l)).toArray.size) := Lib.hid (by rw [hzs, List.size_toArray, bv_length, sha_length])
                      have HA := Lib.hid (bv_all (sha l))
                      have hr : BlkIs wr w.heap.size 28 z := (hbel.block _ hz.lt).trans hz
                      have hbl : Below w.heap.size w wr := HBL.out.below.trans (hbel.mono (by have := HBL.out.size; omega))
                      have HBB := Lib.hid hbl
                      clear hout hz hzs hbel hbl HX
                      generalize hXE : (bv (sha l)).toArray = X at *
                      have HXE := Lib.hid hXE
                      clear hXE
                      go_wp2_with (first
                        | (with_reducible refine load_blk (.tmp 9) 28 wc.heap.size 28 X hout2 rfl rfl rfl _ Tryz.underlying28 rfl HI24.out ?_)
                        | (with_reducible refine store_bl (.tmp 2) (.tmp 79) 28 w.heap.size 28 z X hr rfl rfl rfl rfl rfl HI24.out HZ0.out HA.out ?_; intro w9 hb9 ht9)
                        | fail)
                      refine ret_blk rfl w.heap.size 28 X hb9 _ rfl Tryz.underlying28 rfl HI24.out rfl ⟨by rw [HXE.out], ?_⟩
                      have h9 : Below w.heap.size wr w9 := ht9.below HBB.out.size (fun i hi h => by omega)
                      exact HBB.out.trans h9
        · rw [show ((p + 1 : Nat) : Int) - 1 = (p : Int) by omega]
          obtain ⟨A4, c4, rfl, _, _⟩ := own_slice hR.own
          obtain ⟨u, hu⟩ : ∃ u, t + (8 - (p + 1)) = u := ⟨_, rfl⟩
          rw [hu] at hR
          rw [hu]
          have HR := Lib.hid hR
          clear hR
          have u63 : u + 1 ≤ 1000000000 := by omega
          have HQ : Hid (t + (8 - p) = u + 1) := Lib.hid (by omega)
          have HNX : Hid (m ++ (hib x 8).take (8 - p) = m ++ (hib x 8).take (8 - (p + 1)) ++ [UInt8.ofNat (x / 256 ^ p)]) := Lib.hid (by rw [hib_next x p (by omega), List.append_assoc])
          go_wp2_with (first
            | (at_builtin; refine app5n (.tmp 30) (.tmp 37) rfl rfl (w.heap.size + 1) _ u 1 _ [UInt8.ofNat (x / 256 ^ p)] HR.out.len rfl rfl (HR.out.own2 _ 5) _ _ _ rfl (bts_new5i wr _ _ (byte_at x p)) u63 (by have := HR.out.size; simp; omega) ?_; intro v3 w3 hown3 hg3; have R3 := HR.out.more hown3 hg3; obtain ⟨A5, c5, rfl, _, _⟩ := own_slice R3.own; have H3 := Lib.hid R3; clear R3 hown3 hg3)
            | fail)
          go_roundw
          case rel => exact ⟨p, by omega, rfl, by rw [HQ.out, HNX.out]; exact H3.out⟩
          case measure => simp [intOf]
end Go.Proofs.YteapnkedpmcokaaGreatDoor
/- Contracts of leaves and nodes: the document's. Conditions: as stated at each. -/
namespace Go.Proofs.YteapnkedpmcokaaGreatDoor
set_option maxRecDepth 100000
open Go.RowKit Go
theorem own_lit {W : World} {N g : Nat} {b : UInt8} (h : BlkIs W g 5 #[.int .u8 (b.toNat : Int)]) (hN : N ≤ g) : W.ownsRow N 5 1 (.slice (some ⟨g, 0, none⟩) 1 1) [b].length (bv [b]) :=
  ⟨rfl, .inr ⟨g, 1, _, rfl, hN, h, Nat.le_refl _, by unfold maxLen; omega, rfl, rfl⟩⟩
theorem own5_bts {w : World} {N : Nat} {v : Value} {l : List UInt8} (h : w.ownsRow N 5 1 v l.length (bv l)) : ∃ A c, v = .slice A l.length c ∧ l.length ≤ c ∧ c ≤ maxLen ∧ Bts w w.heap.size A l := by
  obtain ⟨A, c, rfl, h1, h2⟩ := own_slice h
  exact ⟨A, c, rfl, h1, h2, Bts.of_own h⟩
theorem low_lit {N g n c k : Nat} (hN : N ≤ g) (hk : (Value.slice (some ⟨g, 0, none⟩) n c).ownBlock = some k) : N ≤ k := by
  simp only [Value.ownBlock, Option.some.injEq] at hk
  omega
set_option maxHeartbeats 800000 in
theorem rleaf_any (A : Option Addr) (B c : Nat) (l : List UInt8) (w : World) (h : Bts w B A l) (hB : B ≤ w.heap.size) (h9 : l.length ≤ 800000000) :
    Calls Tryz.prog 20 #[.slice A l.length c] w fun e w' => e = .returned (.agg (bv (leafS l)).toArray) ∧ Below w.heap.size w w' := by
  have HL := Lib.hid (leafS_length l)
  go_enter Tryz.func20, Tryz.ntmps20
  go_wp2_with (first
    | (refine app5 (.tmp 3) (.tmp 4) rfl rfl (w.heap.size + 1) _ [0] l rfl (own_lit (BlkIs.new_at _ _ _ _ (by simp)) (by omega)) B A c rfl (h.below ((below2 w _ _).mono hB)) (by simp; omega) (by simp) ?_; intro v1 w1 ho1 hg1)
    | fail)
  have hb1 := (below2 w (.cells (bv (List.replicate 32 0)).toArray 28) (.cells #[.int .u8 0] 5))
  have hr1 := (BlkIs.new w 28 (bv (List.replicate 32 0)).toArray).alloc (.cells #[.int .u8 0] 5)
  have hk1 := (Below.refl (w.heap.size + 1) _).grown hg1 (by simp) (fun k hk => low_lit (by omega) hk)
  have hr2 := (hk1.block w.heap.size (by omega)).trans hr1
  have hb2 := hb1.trans (hk1.mono (by omega))
  have hsz1 := hb2.size
  have HB1 := Lib.hid hb2
  have HR2 : Hid (∃ z, BlkIs w1 w.heap.size 28 z ∧ z.size = 32) := Lib.hid ⟨_, hr2, rfl⟩
  obtain ⟨A1, c1, rfl, _, _, hbt⟩ := own5_bts ho1
  clear hg1 hk1 hb1 hr1 hr2 ho1
  have HS : Hid (Calls Tryz.prog 37 #[.slice A1 ([0] ++ l).length c1] w1 fun e w' => e = .returned (.agg (bv (leafS l)).toArray) ∧ Below w1.heap.size w1 w') :=
    Lib.hid (rsum_any A1 w1.heap.size c1 ([0] ++ l) w1 hbt (Nat.le_refl _) (by simp; omega))
  clear hbt
  have HI := Lib.hid (isz26a HL.out)
  have HA := Lib.hid (bv_all (leafS l))
  have HX32 : Hid ((bv (leafS l)).toArray.size = 32) := Lib.hid (by rw [List.size_toArray, bv_length, HL.out])
  generalize hX : (bv (leafS l)).toArray = X at *
  have HX := Lib.hid hX
  clear hX
  generalize ([0] ++ l).length = n1 at *
  go_wp2_with fail
  refine HS.out.mono ?_
  rintro e w2 ⟨rfl, hb2⟩
  obtain ⟨z0, hr, hz0⟩ := HR2.out
  have hr5 := (hb2.block _ hr.lt).trans hr
  have HZ0 : Hid (z0.size = X.size) := Lib.hid (by rw [hz0, HX32.out])
  have HB2 := Lib.hid (HB1.out.trans (hb2.mono HB1.out.size))
  clear hz0 hr hb2
  go_wp2_with (first
    | (refine store_bl (.tmp 2) (.tmp 6) 28 w.heap.size 28 z0 X hr5 rfl rfl rfl rfl rfl HI.out HZ0.out HA.out ?_; intro w4 hb4 ht4)
    | fail)
  refine ret_blk rfl w.heap.size 28 X hb4 _ rfl Tryz.underlying28 rfl HI.out rfl ⟨by rw [HX.out], ?_⟩
  exact HB2.out.trans (ht4.below HB2.out.size (fun i hi h => by omega))
end Go.Proofs.YteapnkedpmcokaaGreatDoor
