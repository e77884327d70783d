/- Contract of the document's sum. Conditions: as stated at each. -/
import Derived.Test.YtlbmieeimnjncaaDoorDgOne
import Derived.Test.YtlbmieeimnjncaaDoorDgSum
namespace Go.Proofs.YtlbmieeimnjncaaDoor
set_option maxRecDepth 100000
open Go.RowKit Go
theorem app5n {w : World} {ops : Array Oper} {rest : List Oper} {o : Oper} {a : Act} {Q : Exit → Act → World → Prop} (s x : Operand)
    (ho : o.op = .call { callee := .builtin .append, args := #[s, x], argTypes := #[33, 33] }) (hgd : o.guard = none)
    (N : Nat) (v : Value) (n k : Nat) (l m : List UInt8) (hln : l.length = n) (hmk : m.length = k) (hs : a.eval s = v) (hown : w.ownsRow N 5 1 v n (bv l))
    (B : Nat) (A : Option Addr) (c : Nat) (hx : a.eval x = .slice A k c) (hr : Bts w B A m) (h63 : n + k ≤ 1000000000) (hN : N ≤ w.heap.size)
    (h : ∀ v' w', w'.ownsRow N 5 1 v' (n + k) (bv (l ++ m)) → w.grownBy w' v.ownBlock → wpList Tryd.prog ops Q rest (a.put o.dst v') w') : wpList Tryd.prog ops Q (o :: rest) a w := by
  subst hln
  subst hmk
  exact app5 s x ho hgd N v l m hs hown B A c hx hr h63 hN fun v' w' h1 h2 => h v' w' (by rw [← List.length_append]; exact h1) h2
theorem bts_new5 (w : World) (b : Nat) (u : UInt8) (h : u.toNat = b) : Bts (w.alloc (.cells #[.int .u8 (b : Int)] 5)) (w.heap.size + 1) (some ⟨w.heap.size, 0, none⟩) [u] := Bts.newm w [u] _ _ (by subst h; rfl)
/-- a row of bytes of the call's own. -/
structure RsW (w wr : World) (v : Value) (n : Nat) (m : List UInt8) : Prop where
  own : wr.ownsRow (w.heap.size + 1) 5 1 v n (bv m)
  len : m.length = n
  below : Below w.heap.size w wr
  r : ∃ z : Array Value, BlkIs wr w.heap.size 22 z ∧ z.size = 32
  size : w.heap.size + 1 ≤ wr.heap.size
theorem RsW.first {w w1 : World} {v1 : Value} {n : Nat} {m : List UInt8} {Z : Array Value} (hZ : Z.size = 32) (ho : w1.ownsRow (w.heap.size + 1) 5 1 v1 (0 + n) (bv ([] ++ m))) (hl : m.length = n) (hg : (w.alloc (.cells Z 22)).grownBy w1 none) : RsW w w1 v1 n m := by
  rw [Nat.zero_add] at ho
  have hb : Below (w.heap.size + 1) (w.alloc (.cells Z 22)) w1 := ⟨hg.os, hg.tape, hg.output, hg.size, fun i hi => hg.block i (by simpa using hi) (by simp)⟩
  exact ⟨ho, hl, sum_bel w _ w1 hb, ⟨Z, sum_blk w Z w1 hb, hZ⟩, by simpa using hb.size⟩
theorem RsW.keep {w wr w2 : World} {v v2 : Value} {n n2 : Nat} {m m2 : List UInt8} (h : RsW w wr v n m) (b : Below (w.heap.size + 1) wr w2) (ho : w2.ownsRow (w.heap.size + 1) 5 1 v2 n2 (bv m2)) (hl : m2.length = n2) : RsW w w2 v2 n2 m2 := by
  obtain ⟨z, hz, hzs⟩ := h.r
  exact ⟨ho, hl, h.below.trans (b.mono (by omega)), ⟨z, (b.block _ (by omega)).trans hz, hzs⟩, Nat.le_trans h.size b.size⟩
theorem RsW.own2 {n : Nat} {w wr : World} {v : Value} {m : List UInt8} (h : RsW w wr v n m) (C : Array Value) (t : TypeId) : (wr.alloc (.cells C t)).ownsRow (w.heap.size + 1) 5 1 v n (bv m) :=
  own_kept h.own ((Below.refl wr.heap.size wr).alloc (Nat.le_refl _) _) (Nat.le_refl _)
theorem RsW.more {w wr w2 : World} {v v2 : Value} {n : Nat} {m : List UInt8} {u : UInt8} {C : Array Value} (h : RsW w wr v n m) (ho : w2.ownsRow (w.heap.size + 1) 5 1 v2 (n + 1) (bv (m ++ [u]))) (hg : (wr.alloc (.cells C 5)).grownBy w2 v.ownBlock) :
    RsW w w2 v2 (n + 1) (m ++ [u]) := by
  have b1 : Below (w.heap.size + 1) wr (wr.alloc (.cells C 5)) := (Below.refl _ _).alloc h.size _
  have b2 : Below (w.heap.size + 1) wr w2 := grown_below b1 h.size (h.own2 C 5) hg
  exact h.keep b2 ho (by rw [List.length_append, h.len]; rfl)
theorem nought (l : List UInt8) (k : Nat) : l ++ 128 :: List.replicate (k + 1) 0 = l ++ 128 :: List.replicate k 0 ++ [0] := by
  rw [List.replicate_succ']
  simp
theorem hib_next (x p : Nat) (hp : p < 8) : (hib x 8).take (8 - p) = (hib x 8).take (8 - (p + 1)) ++ [UInt8.ofNat (x / 256 ^ p)] := by
  rcases (show p = 0 ∨ p = 1 ∨ p = 2 ∨ p = 3 ∨ p = 4 ∨ p = 5 ∨ p = 6 ∨ p = 7 by omega) with rfl | rfl | rfl | rfl | rfl | rfl | rfl | rfl
  all_goals simp [hib]
theorem byte_at (x p : Nat) : (x : Int) / 2 ^ (8 * p) % 256 = ((UInt8.ofNat (x / 256 ^ p)).toNat : Int) := by
  rw [show (256 : Nat) ^ p = 2 ^ (8 * p) by rw [Nat.pow_mul]]
  simp
theorem bts_new5i (w : World) (b : Int) (u : UInt8) (h : b = (u.toNat : Int)) : Bts (w.alloc (.cells #[.int .u8 b] 5)) (w.heap.size + 1) (some ⟨w.heap.size, 0, none⟩) [u] := Bts.newm w [u] _ _ (by subst h; rfl)
theorem padded_is2 (l : List UInt8) : padded l = l ++ 128 :: List.replicate ((119 - l.length % 64) % 64) 0 ++ hib (8 * l.length) 8 := by simp [padded, padding]
theorem init_next (k : Nat) (h : k < 8) : init8.l.take (k + 1) = init8.l.take k ++ [init8.l.getD k 0] := by
  rcases (show k = 0 ∨ k = 1 ∨ k = 2 ∨ k = 3 ∨ k = 4 ∨ k = 5 ∨ k = 6 ∨ k = 7 by omega) with rfl | rfl | rfl | rfl | rfl | rfl | rfl | rfl
  all_goals rfl
theorem bts_some {w : World} {B : Nat} {A : Option Addr} {l : List UInt8} (h : Bts w B A l) (hl : 0 < l.length) : ∃ ad, A = some ad := by
  obtain ⟨ad, e, _⟩ := h.at_ hl
  exact ⟨ad, e⟩
/-- what stands in the loop over the blocks. -/
structure BlW (w wr : World) (ad : Addr) (P : List UInt8) (A : Option Addr) (s : S8) : Prop where
  cs : Cs wr wr.heap.size A (wv s.l)
  b : Bts wr wr.heap.size (some ad) P
  r : ∃ z : Array Value, BlkIs wr w.heap.size 22 z ∧ z.size = 32
  below : Below w.heap.size w wr
  size : w.heap.size + 1 ≤ wr.heap.size
theorem BlW.step {w wr w2 : World} {ad : Addr} {P : List UInt8} {A A2 : Option Addr} {s s2 : S8} (h : BlW w wr ad P A s) (b : Below wr.heap.size wr w2) (hc : Cs w2 w2.heap.size A2 (wv s2.l)) : BlW w w2 ad P A2 s2 := by
  obtain ⟨z, hz, hzs⟩ := h.r
  exact ⟨hc, (h.b.below b).more b.size, ⟨z, (b.block _ hz.lt).trans hz, hzs⟩, h.below.trans (b.mono (by have := h.size; omega)), Nat.le_trans h.size b.size⟩
theorem cs_blk {w : World} {g : Nat} {l : List Nat} (h : BlkIs w g 58 (wv l).toArray) : Cs w w.heap.size (some ⟨g, 0, none⟩) (wv l) := fun j u hj => ⟨_, rfl, h.lt, by rw [Addr.add_mid, Nat.zero_add]; exact h.get hj⟩
theorem sha_at (s : S8) (p r : Nat) (hp : p < 8) (hr : r < 4) : (s.l.flatMap fun w => hib w 4)[4 * p + r]? = some (UInt8.ofNat (s.l.getD p 0 / 256 ^ (3 - r))) := by
  rcases (show p = 0 ∨ p = 1 ∨ p = 2 ∨ p = 3 ∨ p = 4 ∨ p = 5 ∨ p = 6 ∨ p = 7 by omega) with rfl | rfl | rfl | rfl | rfl | rfl | rfl | rfl
  all_goals
    rcases (show r = 0 ∨ r = 1 ∨ r = 2 ∨ r = 3 by omega) with rfl | rfl | rfl | rfl
    all_goals rfl
theorem out_next (m : List UInt8) (j : Nat) (hj : j < 32) (hm : m.length = 32) (u : UInt8) (hu : m[j]? = some u) :
    (bv (m.take j ++ List.replicate (32 - j) 0)).toArray.setIfInBounds j (.int .u8 (u.toNat : Int)) = (bv (m.take (j + 1) ++ List.replicate (32 - (j + 1)) 0)).toArray := by
  have hmin : min j m.length = j := by omega
  rw [List.take_add_one, hu, show 32 - j = (32 - (j + 1)) + 1 by omega, List.replicate_succ]
  simp [bv, hmin]
theorem out_cell (m : List UInt8) (j : Nat) (hj : j < 32) (hm : m.length = 32) : (bv (m.take j ++ List.replicate (32 - j) 0)).toArray[j]? = some (.int .u8 0) := by
  have hmin : min j m.length = j := by omega
  rw [show 32 - j = (32 - (j + 1)) + 1 by omega, List.replicate_succ]
  simp [bv, hmin]
theorem byte4 (x d k : Nat) (h : 256 ^ k = d) : (x : Int) / (d : Int) % 256 = ((UInt8.ofNat (x / 256 ^ k)).toNat : Int) := by
  subst h
  simp
theorem byte4a (x : Nat) (h : x < 4294967296) : (x : Int) / 16777216 = ((UInt8.ofNat (x / 256 ^ 3)).toNat : Int) := by
  rw [← byte4 x 16777216 3 rfl]
  omega
theorem byte4d (x : Nat) : (x : Int) % 256 = ((UInt8.ofNat (x / 256 ^ 0)).toNat : Int) := by
  rw [← byte4 x 1 0 rfl]
  omega
set_option maxRecDepth 100000 in
set_option maxHeartbeats 800000 in
theorem rsum_any (A : Option Addr) (B c : Nat) (l : List UInt8) (w : World) (h : Bts w B A l) (hB : B ≤ w.heap.size) (hm : l.length ≤ 900000000) :
    Calls Tryd.prog 16 #[.slice A l.length c] w fun e w' => e = .returned (.agg (bv (sha l)).toArray) ∧ Below w.heap.size w w' := by
  obtain ⟨n, hn⟩ : ∃ n, l.length = n := ⟨_, rfl⟩
  rw [hn] at hm ⊢
  have HN := Lib.hid hn
  clear hn
  go_enter Tryd.func16, Tryd.ntmps16
  go_wp2_with (first
    | (at_builtin; refine app5n (.const (.slice none 0 0)) (.tmp 15) rfl rfl (w.heap.size + 1) (.slice none 0 0) 0 n [] l rfl HN.out rfl (World.ownsRow_nil _ _ 5 1) B A c rfl (h.below ((Below.refl _ w).alloc hB _)) (by omega) (by simp) ?_; intro v1 w1 hown1 hg1; have R1 := RsW.first (by rfl) hown1 HN.out hg1; have H1 := Lib.hid R1; clear R1 hown1 hg1)
    | (at_builtin; refine app5n (.tmp 16) (.tmp 17) rfl rfl (w.heap.size + 1) v1 n 1 l [128] HN.out rfl rfl (H1.out.own2 _ 5) _ _ _ rfl (bts_new5 w1 128 128 rfl) (by omega) (by have := H1.out.size; simp; omega) ?_; intro v2 w2 hown2 hg2; have R2 := H1.out.more hown2 hg2; have H2 := Lib.hid R2; clear R2 hown2 hg2)
    | fail)
  obtain ⟨z, hz⟩ : ∃ z, (119 - n % 64) % 64 = z := ⟨_, rfl⟩
  have zlt : z < 64 := by omega
  go_loopw [4] (fun v wr => ∃ k t : Nat, k ≤ z ∧ n + 1 + k = t ∧ RsW w wr v t (l ++ 128 :: List.replicate k 0)) (fun v _ => n + 70 - sliceLen v)
  case atStart => exact ⟨0, n + 1, by omega, by omega, H2.out⟩
  case round =>
    obtain ⟨k, t, hk, ht, hR⟩ := hrel
    obtain ⟨A4, c4, rfl, _, _⟩ := own_slice hR.own
    have HR := Lib.hid hR
    clear hR
    by_cases hkz : k < z
    · have t56 : ¬ (t : Int) % 64 = 56 := by omega
      go_wp2_with (first
        | (at_builtin; refine app5n (.tmp 23) (.tmp 24) rfl rfl (w.heap.size + 1) _ t 1 _ [0] HR.out.len rfl rfl (HR.out.own2 _ 5) _ _ _ rfl (bts_new5 wr 0 0 rfl) (by omega) (by have := HR.out.size; simp; omega) ?_; intro v3 w3 hown3 hg3; have R3 := HR.out.more hown3 hg3; obtain ⟨A5, c5, rfl, _, _⟩ := own_slice R3.own; have H3 := Lib.hid R3; clear R3 hown3 hg3)
        | fail)
      go_roundw
      case rel => exact ⟨k + 1, t + 1, by omega, by omega, by rw [nought]; exact H3.out⟩
      case measure => simp [sliceLen]; omega
    · obtain rfl : k = z := by omega
      have t56 : (t : Int) % 64 = 56 := by omega
      obtain ⟨m, hm2⟩ : ∃ m, l ++ 128 :: List.replicate k 0 = m := ⟨_, rfl⟩
      have HM := Lib.hid hm2
      have HR2 : Hid (RsW w wr (.slice A4 t c4) t m) := Lib.hid (hm2 ▸ HR.out)
      have t63 : t + 8 ≤ 1000000000 := by omega
      have tn : Hid (n + 1 + k = t) := Lib.hid ht
      have zn : Hid ((119 - n % 64) % 64 = k) := Lib.hid hz
      clear HR H1 H2 hm2
      obtain ⟨x, hx⟩ : ∃ x, 8 * n = x := ⟨_, rfl⟩
      have x64 : x < 18446744073709551616 := by omega
      rw [show ((n : Int) * 8) = (x : Int) by omega]
      clear ht hz hk zlt hkz
      go_wp2_with fail
      clear t56
      go_loopw [4, 5] (fun v i wr => ∃ q : Nat, q ≤ 8 ∧ i = .int .i64 ((q : Int) - 1) ∧ RsW w wr v (t + (8 - q)) (m ++ (hib x 8).take (8 - q))) (fun _ i _ => (intOf i + 1).toNat)
      case atStart => exact ⟨8, by omega, rfl, by simpa using HR2.out⟩
      case round =>
        clear HR2
        obtain ⟨q, hq, rfl, hR⟩ := hrel
        rcases q with _ | p
        · rw [show ((0 : Nat) : Int) - 1 = -1 from rfl]
          obtain ⟨L, hL⟩ : ∃ L, t + (8 - 0) = L := ⟨_, rfl⟩
          rw [hL] at hR
          obtain ⟨A6, c6, rfl, hc6, hcm⟩ := own_slice hR.own
          have HP : Hid (m ++ (hib x 8).take (8 - 0) = padded l) := Lib.hid (by rw [← HM.out, ← hx, padded_is2, HN.out, zn.out]; simp [hib])
          rw [HP.out] at hR
          obtain ⟨P, hPd⟩ : ∃ P, padded l = P := ⟨_, rfl⟩
          rw [hPd] at hR
          have HSH : Hid (sha l = (wsN P (L / 64)).l.flatMap fun w => hib w 4) := Lib.hid (by rw [← hR.len, ← hPd]; rfl)
          have HMOD : L % 64 = 0 := by rw [← hR.len, ← hPd]; exact padded_mod l
          obtain ⟨K, hK⟩ : ∃ K, L = 64 * K := ⟨L / 64, by omega⟩
          have HB := Lib.hid (Bts.of_own hR.own)
          obtain ⟨ad, rfl⟩ := bts_some HB.out (by have := hR.len; omega)
          have HPL := Lib.hid hR.len
          have HBEL := Lib.hid hR.below
          have HRR := Lib.hid hR.r
          have HSZ := Lib.hid hR.size
          have L63 : L ≤ 1000000000 := by omega
          have HK : Hid (L = 64 * K) := Lib.hid hK
          clear hR hPd HP HM tn zn hx hL HMOD hK t63
          go_wp2_with fail
          rename World => wb
          have HV := Lib.hid (World.ownsRow_nil wb wb.heap.size 58 1)
          go_loopw [6, 7] (fun v i wr => ∃ k : Nat, k ≤ 8 ∧ i = .int .i64 k ∧ wr.ownsRow wb.heap.size 58 1 v k (wv (init8.l.take k)) ∧ Below wb.heap.size wb wr) (fun _ i _ => 8 - (intOf i).toNat)
          case atStart => exact ⟨0, by omega, rfl, HV.out, Below.refl _ _⟩
          case round =>
            clear HV
            obtain ⟨k8, hk8, rfl, ho, hb⟩ := hrel
            by_cases hlt : k8 < 8
            · have k8l : (k8 : Int) < 8 := by omega
              obtain ⟨A7, c7, rfl, _, _⟩ := own_slice ho
              have HO := Lib.hid ho
              have HBW := Lib.hid hb
              have HNX := Lib.hid (init_next k8 hlt)
              have BW := Lib.hid (fun (S : ByteArray) (w : World) (h : S.data.toList = beginL) => bword_any S k8 w h hlt)
              have hil : (init8.l.take k8).length = k8 := by rw [List.length_take, S8.length]; omega
              clear ho hb hlt
              generalize init8.l.getD k8 0 = y at *
              go_wp2_with (first
                | (go_at_call 24; refine (BW.out _ _ (by kernel_rfl)).mono ?_; rintro e w4 ⟨rfl, rfl⟩)
                | (at_builtin; refine app37 (.tmp 43) (.tmp 46) rfl rfl wb.heap.size _ k8 _ [y] rfl (own_kept HO.out ((Below.refl _ _).alloc (Nat.le_refl _) _) (Nat.le_refl _)) _ _ 1 1 rfl (cs_new37 _ [y] _ rfl) rfl (by omega) (by have := HBW.out.size; simp; omega) ?_; intro v5 w5 ho5 hg5; have HB5 : Hid (Below wb.heap.size wb w5) := Lib.hid (grown_below (HBW.out.alloc HBW.out.size _) (Nat.le_refl _) (own_kept HO.out ((Below.refl _ _).alloc (Nat.le_refl _) _) (Nat.le_refl _)) hg5); rw [← HNX.out] at ho5; have HO5 := Lib.hid ho5; clear hg5; obtain ⟨A8, c8, rfl, _, _⟩ := own_slice ho5; clear ho5)
                | fail)
              go_roundw
              case rel => exact ⟨k8 + 1, by omega, by go_num, HO5.out, HB5.out⟩
              case measure => simp [intOf]; omega
            · obtain rfl : k8 = 8 := by omega
              rw [show ((8 : Nat) : Int) = 8 from rfl]
              obtain ⟨A7, c7, rfl, _, _⟩ := own_slice ho
              obtain ⟨z, hz, hzs⟩ := HRR.out
              have BL := Lib.hid (show BlW w wr ad P A7 (wsN P 0) from ⟨Cs.of_own ho, (HB.out.below hb).more hb.size, ⟨z, (hb.block _ hz.lt).trans hz, hzs⟩, HBEL.out.trans (hb.mono (by have := HSZ.out; omega)), Nat.le_trans HSZ.out hb.size⟩)
              clear ho hb hz hzs HB HBEL HRR HSZ
              go_wp2_with fail
              go_loopw [6, 8] (fun v i wr => ∃ (k q : Nat) (A : Option Addr) (c : Nat), q = 64 * k ∧ k ≤ K ∧ i = .int .i64 q ∧ v = .slice A 8 c ∧ BlW w wr ad P A (wsN P k)) (fun _ i _ => L - (intOf i).toNat)
              case atStart => exact ⟨0, 0, A7, c7, rfl, by omega, rfl, rfl, BL.out⟩
              case round =>
                clear BL
                obtain ⟨kb, q, A8, c8, hq, hkb, rfl, rfl, hBL⟩ := hrel
                have HBL := Lib.hid hBL
                clear hBL
                by_cases hlt : kb < K
                · have hKL := HK.out
                  have q64 : q + 64 ≤ L := by omega
                  have BLEN : Hid (((P.drop q).take 64).length = 64) := Lib.hid (by rw [List.length_take, List.length_drop, HPL.out]; omega)
                  have HQ1 : Hid (q + 64 = 64 * (kb + 1)) := Lib.hid (by omega)
                  have HKB : Hid (kb + 1 ≤ K) := Lib.hid (by omega)
                  have HMX : Hid (wsN P (kb + 1) = mix (wsN P kb) ((P.drop q).take 64)) := Lib.hid (by rw [hq]; rfl)
                  have HOK : Hid (wsN P kb).ok := Lib.hid (wsN_ok P kb)
                  clear hq hkb hlt hKL
                  go_wp2_with (first
                    | (go_at_call 25; refine (one_any _ ((P.drop q).take 64) A8 (ad.add q) c8 _ wr HOK.out HBL.out.cs ((HBL.out.b.drop_eq q).take 64) BLEN.out).mono ?_; rintro e w5 ⟨g, rfl, hblk, hlow, hb5⟩; rw [← HMX.out] at hblk; have HB5 := Lib.hid (HBL.out.step hb5 (cs_blk hblk)); clear hblk hb5)
                    | fail)
                  go_roundw
                  case rel => exact ⟨kb + 1, q + 64, _, 8, HQ1.out, HKB.out, by go_num, rfl, HB5.out⟩
                  case measure => simp [intOf]; omega
                · obtain rfl : kb = K := by omega
                  have hKL := HK.out
                  have qL : ¬ (q : Int) < L := by omega
                  have HSH2 : Hid (sha l = (wsN P kb).l.flatMap fun w => hib w 4) := Lib.hid (by rw [HSH.out, hKL, Nat.mul_div_cancel_left _ (by decide)])
                  have HOK := Lib.hid (wsN_ok P kb)
                  clear HSH hKL hq
                  generalize wsN P kb = s at *
                  rename World => wc
                  obtain ⟨a8, rfl, _, _⟩ := HBL.out.cs 0 _ rfl
                  have S32 : Hid ((sha l).length = 32) := Lib.hid (sha_length l)
                  go_wp2_with fail
                  have OUT := Lib.hid (BlkIs.new wc 22 (bv (List.replicate 32 0)).toArray)
                  have BEL0 := Lib.hid ((Below.refl wc.heap.size wc).alloc (Nat.le_refl _) (.cells (bv (List.replicate 32 0)).toArray 22))
                  go_loopw [10, 61] (fun _ i wr => ∃ j : Nat, j ≤ 32 ∧ i = .int .i64 j ∧ BlkIs wr wc.heap.size 22 (bv ((sha l).take j ++ List.replicate (32 - j) 0)).toArray ∧ Below wc.heap.size wc wr) (fun _ i _ => 32 - (intOf i).toNat)
                  case atStart => exact ⟨0, by omega, rfl, OUT.out, BEL0.out⟩
                  case round =>
                    clear OUT BEL0
                    obtain ⟨j, hj, rfl, hout, hbel⟩ := hrel
                    by_cases hjl : j < 32
                    · have j32 : (j : Int) < 32 := by omega
                      obtain ⟨p, hp⟩ : ∃ p, j / 4 = p := ⟨_, rfl⟩
                      have p8 : p < 8 := by omega
                      have e1 : (j : Int) / 4 = (p : Int) := by omega
                      obtain ⟨y, hy⟩ : ∃ y, s.l.getD p 0 = y := ⟨_, rfl⟩
                      have y32 : y < 4294967296 := by rw [← hy]; exact getD_lt (S8.ok_l HOK.out) p
                      have z0 : wr.cell? (a8.add p) = some (.int .u32 (y : Int)) := by
                        obtain ⟨_, he, _, h2⟩ := (HBL.out.cs.below hbel) p _ (wv_get s.l p p8)
                        cases he
                        rw [← hy]
                        exact h2
                      have z1 : wr.cell? ⟨wc.heap.size, j, none⟩ = some (.int .u8 0) := (hout.cell j).trans (out_cell _ j hjl S32.out)
                      have z2 := hout.froz j
                      have HO := Lib.hid hout
                      have HBE := Lib.hid hbel
                      clear hout hbel
                      have SA : Hid (∀ r, r < 4 → j = 4 * p + r → (bv ((sha l).take j ++ List.replicate (32 - j) 0)).toArray.setIfInBounds j (.int .u8 ((UInt8.ofNat (y / 256 ^ (3 - r))).toNat : Int)) = (bv ((sha l).take (j + 1) ++ List.replicate (32 - (j + 1)) 0)).toArray) := Lib.hid fun r hr hjr =>
                        out_next _ j hjl S32.out _ (by rw [HSH2.out, hjr, sha_at s p r p8 hr, hy])
                      clear hy
                      rcases (show j % 4 = 0 ∨ j % 4 = 1 ∨ j % 4 = 2 ∨ j % 4 = 3 by omega) with hr | hr | hr | hr
                      · have SB := Lib.hid (SA.out 0 (by decide) (by omega))
                        have e2 : (j : Int) % 4 = 0 := by omega
                        clear hp hr
                        go_wp2_with fail
                        go_roundw
                        case rel => exact ⟨j + 1, by omega, by go_num, by rw [← SB.out, ← byte4a y y32]; exact HO.out.put j _, HBE.out.setCell (Nat.le_refl _) _⟩
                        case measure => simp [intOf]; omega
                      · have SB := Lib.hid (SA.out 1 (by decide) (by omega))
                        have e2 : (j : Int) % 4 = 1 := by omega
                        clear hp hr
                        go_wp2_with fail
                        go_roundw
                        case rel => exact ⟨j + 1, by omega, by go_num, by rw [← SB.out, ← byte4 y 65536 2 rfl]; exact HO.out.put j _, HBE.out.setCell (Nat.le_refl _) _⟩
                        case measure => simp [intOf]; omega
                      · have SB := Lib.hid (SA.out 2 (by decide) (by omega))
                        have e2 : (j : Int) % 4 = 2 := by omega
                        clear hp hr
                        go_wp2_with fail
                        go_roundw
                        case rel => exact ⟨j + 1, by omega, by go_num, by rw [← SB.out, ← byte4 y 256 1 rfl]; exact HO.out.put j _, HBE.out.setCell (Nat.le_refl _) _⟩
                        case measure => simp [intOf]; omega
                      · have SB := Lib.hid (SA.out 3 (by decide) (by omega))
                        have e2 : (j : Int) % 4 = 3 := by omega
                        clear hp hr
                        go_wp2_with fail
                        go_roundw
                        case rel => exact ⟨j + 1, by omega, by go_num, by rw [← SB.out, ← byte4d y]; exact HO.out.put j _, HBE.out.setCell (Nat.le_refl _) _⟩
                        case measure => simp [intOf]; omega
                    · have J32 : Hid (j = 32) := Lib.hid (by omega)
                      have j32 : ¬ (j : Int) < 32 := by omega
                      have HX : Hid ((bv ((sha l).take j ++ List.replicate (32 - j) 0)).toArray = (bv (sha l)).toArray) := Lib.hid (by rw [J32.out, List.take_of_length_le (by rw [S32.out]; omega)]; simp)
                      have HI24 : Hid ((Tryd.prog.info? 22).map (·.size) = some (bv (sha l)).toArray.size) := Lib.hid (by rw [isz24, List.size_toArray, bv_length, sha_length])
                      have hout2 := hout
                      rw [HX.out] at hout2
                      obtain ⟨z, hz, hzs⟩ := HBL.out.r
                      have HZ0 : Hid (z.size = (bv (sha l)).toArray.size) := Lib.hid (by rw [hzs, List.size_toArray, bv_length, sha_length])
                      have HA := Lib.hid (bv_all (sha l))
                      have hr : BlkIs wr w.heap.size 22 z := (hbel.block _ hz.lt).trans hz
                      have hbl : Below w.heap.size w wr := HBL.out.below.trans (hbel.mono (by have := HBL.out.size; omega))
                      have HBB := Lib.hid hbl
                      clear hout hz hzs hbel hbl HX
                      generalize hXE : (bv (sha l)).toArray = X at *
                      have HXE := Lib.hid hXE
                      clear hXE
                      go_wp2_with (first
                        | (with_reducible refine load_blk (.tmp 9) 22 wc.heap.size 22 X hout2 rfl rfl rfl _ Tryd.underlying22 rfl HI24.out ?_)
                        | (with_reducible refine store_bl (.tmp 2) (.tmp 79) 22 w.heap.size 22 z X hr rfl rfl rfl rfl rfl HI24.out HZ0.out HA.out ?_; intro w9 hb9 ht9)
                        | fail)
                      refine ret_blk rfl w.heap.size 22 X hb9 _ rfl Tryd.underlying22 rfl HI24.out rfl ⟨by rw [HXE.out], ?_⟩
                      have h9 : Below w.heap.size wr w9 := ht9.below HBB.out.size (fun i hi h => by omega)
                      exact HBB.out.trans h9
        · rw [show ((p + 1 : Nat) : Int) - 1 = (p : Int) by omega]
          obtain ⟨A4, c4, rfl, _, _⟩ := own_slice hR.own
          obtain ⟨u, hu⟩ : ∃ u, t + (8 - (p + 1)) = u := ⟨_, rfl⟩
          rw [hu] at hR
          rw [hu]
          have HR := Lib.hid hR
          clear hR
          have u63 : u + 1 ≤ 1000000000 := by omega
          have HQ : Hid (t + (8 - p) = u + 1) := Lib.hid (by omega)
          have HNX : Hid (m ++ (hib x 8).take (8 - p) = m ++ (hib x 8).take (8 - (p + 1)) ++ [UInt8.ofNat (x / 256 ^ p)]) := Lib.hid (by rw [hib_next x p (by omega), List.append_assoc])
          go_wp2_with (first
            | (at_builtin; refine app5n (.tmp 30) (.tmp 37) rfl rfl (w.heap.size + 1) _ u 1 _ [UInt8.ofNat (x / 256 ^ p)] HR.out.len rfl rfl (HR.out.own2 _ 5) _ _ _ rfl (bts_new5i wr _ _ (byte_at x p)) u63 (by have := HR.out.size; simp; omega) ?_; intro v3 w3 hown3 hg3; have R3 := HR.out.more hown3 hg3; obtain ⟨A5, c5, rfl, _, _⟩ := own_slice R3.own; have H3 := Lib.hid R3; clear R3 hown3 hg3)
            | fail)
          go_roundw
          case rel => exact ⟨p, by omega, rfl, by rw [HQ.out, HNX.out]; exact H3.out⟩
          case measure => simp [intOf]
end Go.Proofs.YtlbmieeimnjncaaDoor
