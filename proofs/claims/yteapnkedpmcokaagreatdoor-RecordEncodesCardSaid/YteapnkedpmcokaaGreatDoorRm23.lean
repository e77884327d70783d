/- MkCut MkNode DgDig DgWordR DgOneA DgOneB. Conditions: as stated at each. -/
import Derived.Test.YteapnkedpmcokaaGreatDoorRm09
import Derived.Lib.BitFns
import Derived.Test.YteapnkedpmcokaaGreatDoorRm13
import Derived.Test.YteapnkedpmcokaaGreatDoorRm17
/- Contracts of the greatest power of 2 below a number: the program's, the document's. Conditions: as stated at each. -/
namespace Go.Proofs.YteapnkedpmcokaaGreatDoor
set_option maxRecDepth 100000
open Go.RowKit Go
theorem bitLenAux_is : ∀ (f x : Nat), x ≠ 0 → x < 2 ^ f → Lib.bitLenAux f x = Nat.log2 x + 1
  | 0, x, h, h' => by simp at h'; omega
  | f + 1, x, h, h' => by
    rw [Lib.bitLenAux, if_neg h, Nat.log2_def]
    by_cases h2 : 2 ≤ x
    · rw [if_pos h2, bitLenAux_is f (x / 2) (by omega) (by rw [Nat.pow_succ] at h'; omega)]
      omega
    · rw [if_neg h2]
      have : x / 2 = 0 := by omega
      rw [this]
      cases f <;> simp [Lib.bitLenAux]
theorem bitLen_is {x : Nat} (h : x ≠ 0) (h' : x < 2 ^ 64) : Lib.bitLen x = Nat.log2 x + 1 := bitLenAux_is 64 x h h'
theorem log2_63 {n : Nat} (h2 : 2 ≤ n) (h63 : n ≤ 9223372036854775807) : Nat.log2 (n - 1) ≤ 62 := by
  have : Nat.log2 (n - 1) < 63 := (Nat.log2_lt (by omega)).2 (by omega)
  omega
theorem shl_one (d : Nat) (hd : d ≤ 62) : Op.shift .shl .i64 1 .i64 (d : Int) = pure (.int .i64 ((2 ^ d : Nat) : Int)) := by
  have h1 : 2 ^ d ≤ 2 ^ 62 := Nat.pow_le_pow_right (by omega) hd
  have h0 : 1 ≤ 2 ^ d := Nat.one_le_two_pow
  have e : min ((d : Int).toNat) IntKind.i64.bits = d := by
    show min ((d : Int).toNat) 64 = d
    omega
  unfold Op.shift
  rw [if_neg (by omega)]
  simp only [e]
  congr 2
  rw [show (1 : Int) * 2 ^ d = ((2 ^ d : Nat) : Int) from by rw [Int.one_mul]; simp]
  exact IntWalk.i64_in _ (by omega)
theorem ret_n {a b : Nat} (h : a = b) : Ending.returned (.int .i64 (a : Nat)) = .returned (.int .i64 (b : Nat)) := by rw [h]
end Go.Proofs.YteapnkedpmcokaaGreatDoor
/- Contracts of leaves and nodes: the program's. Conditions: as stated at each. -/
namespace Go.Proofs.YteapnkedpmcokaaGreatDoor
set_option maxRecDepth 100000
open Go.RowKit Go
theorem Rws.two {W : World} {g B : Nat} {A1 A2 : Option Addr} {l1 l2 : List UInt8} {c1 c2 n1 n2 : Nat} (h : BlkIs W g 25 #[.slice A1 n1 c1, .slice A2 n2 c2]) (hg : g < B) (h1 : Bts W B A1 l1) (h2 : Bts W B A2 l2)
    (e1 : l1.length = n1) (e2 : l2.length = n2) (hl1 : n1 ≤ c1) (hc1 : c1 ≤ maxLen) (hl2 : n2 ≤ c2) (hc2 : c2 ≤ maxLen) : Rws W B (some ⟨g, 0, none⟩) [l1, l2] := fun k r hk => by
  subst e1
  subst e2
  rcases k with _ | _ | k
  · obtain rfl : l1 = r := by simpa using hk
    exact ⟨_, A1, c1, rfl, hg, h.cell 0, hl1, hc1, h1⟩
  · obtain rfl : l2 = r := by simpa using hk
    exact ⟨_, A2, c2, rfl, hg, h.cell 1, hl2, hc2, h2⟩
  · simp at hk
theorem Rws.three_ {W : World} {g B : Nat} {A1 A2 A3 : Option Addr} {l1 l2 l3 : List UInt8} {c1 c2 c3 n1 n2 n3 : Nat} (h : BlkIs W g 25 #[.slice A1 n1 c1, .slice A2 n2 c2, .slice A3 n3 c3]) (hg : g < B) (h1 : Bts W B A1 l1) (h2 : Bts W B A2 l2) (h3 : Bts W B A3 l3)
    (e1 : l1.length = n1) (e2 : l2.length = n2) (e3 : l3.length = n3) (hl1 : n1 ≤ c1) (hc1 : c1 ≤ maxLen) (hl2 : n2 ≤ c2) (hc2 : c2 ≤ maxLen) (hl3 : n3 ≤ c3) (hc3 : c3 ≤ maxLen) : Rws W B (some ⟨g, 0, none⟩) [l1, l2, l3] := fun k r hk => by
  subst e1
  subst e2
  subst e3
  rcases k with _ | _ | _ | k
  · obtain rfl : l1 = r := by simpa using hk
    exact ⟨_, A1, c1, rfl, hg, h.cell 0, hl1, hc1, h1⟩
  · obtain rfl : l2 = r := by simpa using hk
    exact ⟨_, A2, c2, rfl, hg, h.cell 1, hl2, hc2, h2⟩
  · obtain rfl : l3 = r := by simpa using hk
    exact ⟨_, A3, c3, rfl, hg, h.cell 2, hl3, hc3, h3⟩
  · simp at hk
theorem BlkIs.bts {W : World} {g B : Nat} {t : TypeId} {l : List UInt8} (h : BlkIs W g t (bv l).toArray) (hg : g < B) : Bts W B (some ⟨g, 0, none⟩) l := fun j u hj =>
  ⟨_, rfl, hg, by rw [add_at, Nat.zero_add]; exact h.get hj⟩
/-- Join of a byte 0 and some bytes. -/
theorem join_leaf (W : World) (g g1 B c n : Nat) (A : Option Addr) (l : List UInt8) (h : BlkIs W g 25 #[.slice (some ⟨g1, 0, none⟩) 1 1, .slice A n c]) (h1 : BlkIs W g1 5 #[.int .u8 0])
    (hb : Bts W B A l) (hB : B ≤ W.heap.size) (hn : l.length = n) (hc : n ≤ c) (hm : c ≤ maxLen) (h9 : n ≤ 800000000) (hg : Glob W) :
    Calls Tryz.prog 50 #[.slice (some ⟨g, 0, none⟩) 2 2] W fun e w' => e = .returned (.agg (bv (leafS l)).toArray) ∧ Below W.heap.size W w' := by
  have hb1 : Bts W W.heap.size (some ⟨g1, 0, none⟩) [0] := BlkIs.bts (t := 5) (l := [0]) h1 h1.lt
  have := join_any (some ⟨g, 0, none⟩) W.heap.size 2 [[0], l] W (Rws.two h h.lt hb1 (hb.more hB) rfl hn (by omega) (by unfold maxLen; omega) hc hm) (Nat.le_refl _) (by simp) (by simp; omega) hg
  rw [show [[0], l].flatten = 0 :: l by simp] at this
  exact this
/-- Join of a byte 1 and two sums. -/
theorem join_node (W : World) (g g1 g2 g3 : Nat) (l r : List UInt8) (h : BlkIs W g 25 #[.slice (some ⟨g1, 0, none⟩) 1 1, .slice (some ⟨g2, 0, none⟩) 32 32, .slice (some ⟨g3, 0, none⟩) 32 32]) (h1 : BlkIs W g1 5 #[.int .u8 1])
    (h2 : BlkIs W g2 28 (bv l).toArray) (h3 : BlkIs W g3 28 (bv r).toArray) (hl : l.length = 32) (hr : r.length = 32) (hg : Glob W) :
    Calls Tryz.prog 50 #[.slice (some ⟨g, 0, none⟩) 3 3] W fun e w' => e = .returned (.agg (bv (nodeS l r)).toArray) ∧ Below W.heap.size W w' := by
  have hb1 : Bts W W.heap.size (some ⟨g1, 0, none⟩) [1] := BlkIs.bts (t := 5) (l := [1]) h1 h1.lt
  have := join_any (some ⟨g, 0, none⟩) W.heap.size 3 [[1], l, r] W (Rws.three_ h h.lt hb1 (h2.bts h2.lt) (h3.bts h3.lt) rfl hl hr (by omega) (by unfold maxLen; omega) (by omega) (by unfold maxLen; omega) (by omega) (by unfold maxLen; omega))
    (Nat.le_refl _) (by simp) (by simp; omega) hg
  rw [show [[1], l, r].flatten = 1 :: (l ++ r) by simp] at this
  exact this
theorem below1 (w : World) (o1 : Obj) : Below w.heap.size w (w.alloc o1) := (Below.refl w.heap.size w).alloc (Nat.le_refl _) _
theorem below2 (w : World) (o1 o2 : Obj) : Below w.heap.size w ((w.alloc o1).alloc o2) := (below1 w o1).alloc (by simp) _
theorem below3 (w : World) (o1 o2 o3 : Obj) : Below w.heap.size w (((w.alloc o1).alloc o2).alloc o3) := (below2 w o1 o2).alloc (by simp; omega) _
set_option maxHeartbeats 800000 in
theorem leaf_any (A : Option Addr) (B c n : Nat) (l : List UInt8) (w : World) (h : Bts w B A l) (hB : B ≤ w.heap.size) (hn : l.length = n) (hc : n ≤ c) (hm : c ≤ maxLen) (h9 : n ≤ 800000000) (hg : Glob w) :
    Calls Tryz.prog 36 #[.slice A n c] w fun e w' => e = .returned (.agg (bv (leafS l)).toArray) ∧ Below w.heap.size w w' := by
  have GS := Lib.hid hg.size
  have HN := Lib.hid hn
  have HL := Lib.hid (leafS_length l)
  clear hn
  go_enter Tryz.func36, Tryz.ntmps36
  go_wp2_with fail
  refine (join_leaf _ (w.heap.size + 1 + 1) (w.heap.size + 1) w.heap.size c n A l (BlkIs.new_at _ _ _ _ (by simp)) ((BlkIs.new_at _ _ _ _ (by simp)).alloc _) ((h.below ((below3 w _ _ _).mono hB)).more hB) (by simp; omega) HN.out hc hm h9 (hg.below (below3 w _ _ _) GS.out)).mono ?_
  rintro e w2 ⟨rfl, hb2⟩
  have hr3 : ∃ z, BlkIs w2 w.heap.size 28 z ∧ z.size = 32 := ⟨_, (hb2.block _ (by simp; omega)).trans (((BlkIs.new w _ _).alloc _).alloc _), rfl⟩
  have hbl : Below w.heap.size w w2 := (below3 w _ _ _).trans (hb2.mono (by simp; omega))
  obtain ⟨z0, hr, hz0⟩ := hr3
  have hsz := hr.lt
  have HB := Lib.hid hbl
  have HI := Lib.hid (isz26a HL.out)
  have HA := Lib.hid (bv_all (leafS l))
  have HZ0 : Hid (z0.size = (bv (leafS l)).toArray.size) := Lib.hid (by rw [hz0, List.size_toArray, bv_length, HL.out])
  generalize hX : (bv (leafS l)).toArray = X at *
  have HX := Lib.hid hX
  clear hX hbl hb2 hz0
  go_wp2_with (first
    | (with_reducible refine store_bl (.tmp 2) (.tmp 6) 28 w.heap.size 28 z0 X hr rfl rfl rfl rfl rfl HI.out HZ0.out HA.out ?_; intro w4 hb4 ht4)
    | fail)
  refine ret_blk rfl w.heap.size 28 X hb4 _ rfl Tryz.underlying28 rfl HI.out rfl ⟨by rw [HX.out], ?_⟩
  exact HB.out.trans (ht4.below HB.out.size (fun i hi h => by omega))
theorem isl26 (g : Nat) (w : World) : (Instr.sliceAt 28 (.pointer (some ⟨g, 0, none⟩)) none none none).run Tryz.prog w = .ok (.slice (some ⟨g, 0, none⟩) 32 32) w := by
  obtain ⟨i, hi, _, h0, _⟩ := info_parts info5
  simp [Instr.sliceAt, run_underlying Tryz.underlying28, Instr.sliceBounds, Sem.run_bind, sizeOf, typeInfo, hi, Instr.sureAddr, add_0]
theorem five_blocks (w : World) (oA oB oC oD oE : Obj) : (((((w.alloc oA).alloc oB).alloc oC).drew.alloc oD).alloc oE).heap[w.heap.size]? = some oA ∧ (((((w.alloc oA).alloc oB).alloc oC).drew.alloc oD).alloc oE).heap[w.heap.size + 1]? = some oB ∧
    (((((w.alloc oA).alloc oB).alloc oC).drew.alloc oD).alloc oE).heap[w.heap.size + 1 + 1]? = some oC ∧ (((((w.alloc oA).alloc oB).alloc oC).drew.alloc oD).alloc oE).heap[w.heap.size + 1 + 1 + 1]? = some oD ∧ (((((w.alloc oA).alloc oB).alloc oC).drew.alloc oD).alloc oE).heap[w.heap.size + 1 + 1 + 1 + 1]? = some oE := by
  have e : ∀ (w : World) (o : Obj), (w.alloc o).heap = w.heap.push o := fun _ _ => rfl
  have d : ∀ w : World, w.drew.heap = w.heap := fun _ => rfl
  refine ⟨?_, ?_, ?_, ?_, ?_⟩ <;> simp only [e, d, Array.getElem?_push, Array.size_push] <;> repeat (first | rw [if_pos trivial] | rw [if_pos (by omega)] | rw [if_neg (by omega)])
theorem below5 (w : World) (oA oB oC oD oE : Obj) : Below w.heap.size w (((((w.alloc oA).alloc oB).alloc oC).drew.alloc oD).alloc oE) :=
  ((below3 w oA oB oC).drew.alloc (by simp; omega) _).alloc (by simp; omega) _
end Go.Proofs.YteapnkedpmcokaaGreatDoor
/- A digit's worth; the document's digits. Conditions: as stated at each. -/
namespace Go.Proofs.YteapnkedpmcokaaGreatDoor
set_option maxRecDepth 100000
open Go.RowKit Go
/-- a digit's worth; 16: none. -/
def hexv (c : UInt8) : Nat := if 48 ≤ c.toNat ∧ c.toNat ≤ 57 then c.toNat - 48 else if 97 ≤ c.toNat ∧ c.toNat ≤ 102 then c.toNat - 97 + 10 else 16
theorem hexv_le (c : UInt8) : hexv c ≤ 16 := by
  unfold hexv
  split
  · omega
  · split <;> omega
set_option maxHeartbeats 400000 in
theorem digit_any (c : UInt8) (w : World) : Calls Tryz.prog 63 #[.int .u8 (c.toNat : Int)] w fun e w' => e = .returned (.int .u32 (hexv c : Nat)) ∧ w = w' := by
  have hlt := c.toNat_lt
  have HV := Lib.hid (show hexv c = if 48 ≤ c.toNat ∧ c.toNat ≤ 57 then c.toNat - 48 else if 97 ≤ c.toNat ∧ c.toNat ≤ 102 then c.toNat - 97 + 10 else 16 from rfl)
  generalize c.toNat = n at *
  by_cases h1 : 48 ≤ n
  · by_cases h2 : n ≤ 57
    · go_enter Tryz.func63, Tryz.ntmps63
      go_wp2_with fail
      go_ret
      exact ⟨ret_u (by rw [HV.out, if_pos ⟨h1, h2⟩]; omega), rfl⟩
    · by_cases h3 : 97 ≤ n
      · by_cases h4 : n ≤ 102
        · go_enter Tryz.func63, Tryz.ntmps63
          go_wp2_with fail
          go_ret
          exact ⟨ret_u (by rw [HV.out, if_neg (by omega), if_pos ⟨h3, h4⟩]; omega), rfl⟩
        · go_enter Tryz.func63, Tryz.ntmps63
          go_wp2_with fail
          go_ret
          exact ⟨ret_u (by rw [HV.out, if_neg (by omega), if_neg (by omega)]; rfl), rfl⟩
      · go_enter Tryz.func63, Tryz.ntmps63
        go_wp2_with fail
        go_ret
        exact ⟨ret_u (by rw [HV.out, if_neg (by omega), if_neg (by omega)]; rfl), rfl⟩
  · have h3 : ¬ 97 ≤ n := by omega
    go_enter Tryz.func63, Tryz.ntmps63
    go_wp2_with fail
    go_ret
    exact ⟨ret_u (by rw [HV.out, if_neg (by omega), if_neg (by omega)]; rfl), rfl⟩
theorem run_at (s : ByteArray) (l : List UInt8) (hs : s.data.toList = l) (k : Nat) (hk : k < l.length) (w : World) : (Instr.index 9 (.string s) (.int .i64 k)).run Tryz.prog w = .ok (.int .u8 ((l.getD k 0).toNat : Int)) w := by
  subst hs
  have h : k < s.size := by simpa using hk
  have e : s[k]? = some (s.data.toList.getD k 0) := by
    rw [List.getD_eq_getElem?_getD]
    simp [h]
    rfl
  simp [Instr.index, asIntOf, Sem.run_bind, run_underlying Tryz.underlying9, e]
end Go.Proofs.YteapnkedpmcokaaGreatDoor
/- The document's words out of texts. Conditions: as stated at each. -/
namespace Go.Proofs.YteapnkedpmcokaaGreatDoor
set_option maxRecDepth 100000
open Go.RowKit Go
/-- the first k of the n-th word's digits. -/
def wordN (l : List UInt8) (n : Nat) : Nat → Nat
  | 0 => 0
  | k + 1 => wordN l n k * 16 + hexv (l.getD (8 * n + k) 0)
theorem wordN_lt (l : List UInt8) (n : Nat) (hd : ∀ i, i < l.length → hexv (l.getD i 0) < 16) (hn : 8 * n + 8 ≤ l.length) : ∀ k, k ≤ 8 → wordN l n k < 16 ^ k
  | 0, _ => by simp [wordN]
  | k + 1, h => by
    have h1 := wordN_lt l n hd hn k (by omega)
    have h2 := hd (8 * n + k) (by omega)
    rw [wordN, Nat.pow_succ]
    omega
theorem word_or (x v : Nat) (hx : x < 268435456) (hv : v < 16) : bits .or .u32 ((x : Int) * 16) (v : Int) = ((x * 16 + v : Nat) : Int) := by
  rw [show (x : Int) * 16 = ((x * 16 : Nat) : Int) from by omega, u32_or_nat _ _ (by omega) (by omega), nat_join 4 _ _ (by omega) (by omega)]
set_option maxHeartbeats 800000 in
theorem word_any (s : ByteArray) (l : List UInt8) (n : Nat) (w : World) (hs : s.data.toList = l) (hl : l.length ≤ 1000000) (hn : 8 * n + 8 ≤ l.length) (hd : ∀ i, i < l.length → hexv (l.getD i 0) < 16) :
    Calls Tryz.prog 51 #[.string s, .int .i64 n] w fun e w' => e = .returned (.int .u32 (wordN l n 8 : Nat)) ∧ w = w' := by
  have HS := Lib.hid hs
  have HD := Lib.hid hd
  have HL := Lib.hid (wordN_lt l n hd hn)
  obtain ⟨q, hq⟩ : ∃ q, q = 8 * n := ⟨_, rfl⟩
  have eq8 : IntKind.i64.wrap (8 * (n : Int)) = (q : Int) := by rw [IntWalk.i64_in _ (by omega)]; omega
  have eq9 : 8 * (n : Int) = (q : Int) := by omega
  have HQ := Lib.hid hq
  have q2 : q + 8 ≤ l.length := by omega
  clear hs hd hq
  go_enter Tryz.func51, Tryz.ntmps51
  go_wp2_with fail
  go_loop [5, 6] (fun x i => ∃ k : Nat, k ≤ 8 ∧ i = .int .i64 (q + k : Nat) ∧ x = .int .u32 (wordN l n k : Nat)) (fun _ i => 8 + q - (intOf i).toNat)
  case atStart => exact ⟨0, Nat.zero_le _, rfl, rfl⟩
  case round =>
    obtain ⟨k, hk, rfl, rfl⟩ := hrel
    obtain ⟨j, hj⟩ : ∃ j, j = q + k := ⟨_, rfl⟩
    rw [← hj]
    by_cases hlt : k < 8
    · have hat := fun w => run_at s l HS.out j (by omega) w
      have hv := HD.out j (by omega)
      have HX : Hid (wordN l n (k + 1) = wordN l n k * 16 + hexv (l.getD j 0)) := Lib.hid (by rw [hj, HQ.out]; rfl)
      have hx : wordN l n k < 268435456 := Nat.lt_of_lt_of_le (HL.out k hk) (by
        have := Nat.pow_le_pow_right (n := 16) (by omega) (show k ≤ 7 by omega)
        simpa using this)
      have HJ := Lib.hid hj
      have j1 : (j : Int) < (q : Int) + 8 := by omega
      generalize wordN l n k = x at *
      have hdg := fun w => digit_any (l.getD j 0) w
      generalize hexv (l.getD j 0) = v at *
      generalize l.getD j 0 = c at *
      have ho := word_or x v hx hv
      have hc := c.toNat_lt
      have HDG := Lib.hid hdg
      clear hj hdg
      go_wp2_with (first
        | (go_at_call 63; refine (HDG.out _).mono ?_; rintro e w' ⟨rfl, rfl⟩)
        | fail)
      go_round
      case rel => exact ⟨k + 1, by omega, by rw [HJ.out]; go_num, by rw [HX.out]; go_num⟩
      case measure => simp [intOf]; omega
    · have j1 : ¬ (j : Int) < (q : Int) + 8 := by omega
      have HK : Hid (k = 8) := Lib.hid (by omega)
      clear hj
      go_wp2_with fail
      go_ret
      exact ⟨ret_u (by rw [HK.out]), rfl⟩
def rootsL : List UInt8 := [52, 50, 56, 97, 50, 102, 57, 56, 55, 49, 51, 55, 52, 52, 57, 49, 98, 53, 99, 48, 102, 98, 99, 102, 101, 57, 98, 53, 100, 98, 97, 53, 51, 57, 53, 54, 99, 50, 53, 98, 53, 57, 102, 49, 49, 49, 102, 49, 57, 50, 51, 102, 56, 50, 97, 52, 97, 98, 49, 99, 53, 101, 100, 53, 100, 56, 48, 55, 97, 97, 57, 56, 49, 50, 56, 51, 53, 98, 48, 49, 50, 52, 51, 49, 56, 53, 98, 101, 53, 53, 48, 99, 55, 100, 99, 51, 55, 50, 98, 101, 53, 100, 55, 52, 56, 48, 100, 101, 98, 49, 102, 101, 57, 98, 100, 99, 48, 54, 97, 55, 99, 49, 57, 98, 102, 49, 55, 52, 101, 52, 57, 98, 54, 57, 99, 49, 101, 102, 98, 101, 52, 55, 56, 54, 48, 102, 99, 49, 57, 100, 99, 54, 50, 52, 48, 99, 97, 49, 99, 99, 50, 100, 101, 57, 50, 99, 54, 102, 52, 97, 55, 52, 56, 52, 97, 97, 53, 99, 98, 48, 97, 57, 100, 99, 55, 54, 102, 57, 56, 56, 100, 97, 57, 56, 51, 101, 53, 49, 53, 50, 97, 56, 51, 49, 99, 54, 54, 100, 98, 48, 48, 51, 50, 55, 99, 56, 98, 102, 53, 57, 55, 102, 99, 55, 99, 54, 101, 48, 48, 98, 102, 51, 100, 53, 97, 55, 57, 49, 52, 55, 48, 54, 99, 97, 54, 51, 53, 49, 49, 52, 50, 57, 50, 57, 54, 55, 50, 55, 98, 55, 48, 97, 56, 53, 50, 101, 49, 98, 50, 49, 51, 56, 52, 100, 50, 99, 54, 100, 102, 99, 53, 51, 51, 56, 48, 100, 49, 51, 54, 53, 48, 97, 55, 51, 53, 52, 55, 54, 54, 97, 48, 97, 98, 98, 56, 49, 99, 50, 99, 57, 50, 101, 57, 50, 55, 50, 50, 99, 56, 53, 97, 50, 98, 102, 101, 56, 97, 49, 97, 56, 49, 97, 54, 54, 52, 98, 99, 50, 52, 98, 56, 98, 55, 48, 99, 55, 54, 99, 53, 49, 97, 51, 100, 49, 57, 50, 101, 56, 49, 57, 100, 54, 57, 57, 48, 54, 50, 52, 102, 52, 48, 101, 51, 53, 56, 53, 49, 48, 54, 97, 97, 48, 55, 48, 49, 57, 97, 52, 99, 49, 49, 54, 49, 101, 51, 55, 54, 99, 48, 56, 50, 55, 52, 56, 55, 55, 52, 99, 51, 52, 98, 48, 98, 99, 98, 53, 51, 57, 49, 99, 48, 99, 98, 51, 52, 101, 100, 56, 97, 97, 52, 97, 53, 98, 57, 99, 99, 97, 52, 102, 54, 56, 50, 101, 54, 102, 102, 51, 55, 52, 56, 102, 56, 50, 101, 101, 55, 56, 97, 53, 54, 51, 54, 102, 56, 52, 99, 56, 55, 56, 49, 52, 56, 99, 99, 55, 48, 50, 48, 56, 57, 48, 98, 101, 102, 102, 102, 97, 97, 52, 53, 48, 54, 99, 101, 98, 98, 101, 102, 57, 97, 51, 102, 55, 99, 54, 55, 49, 55, 56, 102, 50]
def beginL : List UInt8 := [54, 97, 48, 57, 101, 54, 54, 55, 98, 98, 54, 55, 97, 101, 56, 53, 51, 99, 54, 101, 102, 51, 55, 50, 97, 53, 52, 102, 102, 53, 51, 97, 53, 49, 48, 101, 53, 50, 55, 102, 57, 98, 48, 53, 54, 56, 56, 99, 49, 102, 56, 51, 100, 57, 97, 98, 53, 98, 101, 48, 99, 100, 49, 57]
theorem rootsL_ok : ∀ i, i < rootsL.length → hexv (rootsL.getD i 0) < 16 := by decide +kernel
theorem beginL_ok : ∀ i, i < beginL.length → hexv (beginL.getD i 0) < 16 := by decide +kernel
theorem rootsL_is : ∀ t, t < 64 → wordN rootsL t 8 = kk.getD t 0 := by decide +kernel
theorem beginL_is : ∀ t, t < 8 → wordN beginL t 8 = init8.l.getD t 0 := by decide +kernel
theorem rootsL_len : rootsL.length = 512 := by decide +kernel
theorem kword_any (s : ByteArray) (t : Nat) (w : World) (hs : s.data.toList = rootsL) (ht : t < 64) : Calls Tryz.prog 51 #[.string s, .int .i64 t] w fun e w' => e = .returned (.int .u32 (kk.getD t 0 : Nat)) ∧ w = w' := by
  have := word_any s rootsL t w hs (by rw [rootsL_len]; omega) (by rw [rootsL_len]; omega) rootsL_ok
  rwa [rootsL_is t ht] at this
theorem bword_any (s : ByteArray) (t : Nat) (w : World) (hs : s.data.toList = beginL) (ht : t < 8) : Calls Tryz.prog 51 #[.string s, .int .i64 t] w fun e w' => e = .returned (.int .u32 (init8.l.getD t 0 : Nat)) ∧ w = w' := by
  have := word_any s beginL t w hs (by decide) (by show 8 * t + 8 ≤ 64; omega) beginL_ok
  rwa [beginL_is t ht] at this
end Go.Proofs.YteapnkedpmcokaaGreatDoor
/- The contract of the document's turn over one block: the words. Conditions: as stated at each. -/
namespace Go.Proofs.YteapnkedpmcokaaGreatDoor
set_option maxRecDepth 100000
open Go.RowKit Go
theorem info37 : (Tryz.prog.info? 92).map (fun i => (i.zero, i.size, i.bytes)) = some (some (.int .u32 0), 1, 4) := by kernel_rfl
/-- words behind words. -/
theorem app37 {w : World} {ops : Array Oper} {rest : List Oper} {o : Oper} {a : Act} {Q : Exit → Act → World → Prop} (s x : Operand)
    (ho : o.op = .call { callee := .builtin .append, args := #[s, x], argTypes := #[91, 91] }) (hgd : o.guard = none)
    (N : Nat) (v : Value) (n : Nat) (l m : List Nat) (hs : a.eval s = v) (hown : w.ownsRow N 92 1 v n (wv l))
    (B : Nat) (A : Option Addr) (k c : Nat) (hx : a.eval x = .slice A k c) (hr : Cs w B A (wv m)) (hm : m.length = k) (h63 : n + k ≤ 1000000000) (hN : N ≤ w.heap.size)
    (h : ∀ v' w', w'.ownsRow N 92 1 v' (n + k) (wv (l ++ m)) → w.grownBy w' v.ownBlock → wpList Tryz.prog ops Q rest (a.put o.dst v') w') : wpList Tryz.prog ops Q (o :: rest) a w := by
  obtain ⟨i, hi, hz, h0, h1⟩ := info_parts info37
  refine wpList_plain hgd fun _ hK => wp_app s x ho Tryz.underlying91 hi hz h0 h1 rfl hs hown hx hr (by rw [wv_length, hm]) (wv_one m) h63 (by decide) hN fun v' w' h2 h3 => hK _ _ (h v' w' ?_ h3)
  rw [wv_append]
  exact h2
theorem step37 {w : World} {ops : Array Oper} {o : Oper} {a : Act} {K : Act → World → Prop} {Q : Exit → Act → World → Prop} {E : Prop} (s x : Operand)
    (ho : o.op = .call { callee := .builtin .append, args := #[s, x], argTypes := #[91, 91] }) (hgd : o.guard = none)
    (N : Nat) (v : Value) (n : Nat) (l m : List Nat) (hs : a.eval s = v) (hown : w.ownsRow N 92 1 v n (wv l))
    (B : Nat) (A : Option Addr) (k c : Nat) (hx : a.eval x = .slice A k c) (hr : Cs w B A (wv m)) (hm : m.length = k) (h63 : n + k ≤ 1000000000) (hN : N ≤ w.heap.size)
    (h : ∀ v' w', w'.ownsRow N 92 1 v' (n + k) (wv (l ++ m)) → w.grownBy w' v.ownBlock → K (a.put o.dst v') w') : if Region.wanted o (yielded ops a.tmps) = true then Oper.wp Tryz.prog o a w K Q else E := by
  have hw : Region.wanted o (yielded ops a.tmps) = true := by simp [Region.wanted, hgd]
  rw [if_pos hw]
  obtain ⟨i, hi, hz, h0, h1⟩ := info_parts info37
  refine wp_app s x ho Tryz.underlying91 hi hz h0 h1 rfl hs hown hx hr (by rw [wv_length, hm]) (wv_one m) h63 (by decide) hN fun v' w' h2 h3 => h v' w' ?_ h3
  rw [wv_append]
  exact h2
/-- append onto a row of the call's own: the row's cells that there were stand as they were, wherever the row lies behind it. -/
theorem run_keep {P : Program} (w : World) {N : Nat} {t ty e : TypeId} {i : TypeInfo} {z : Value} (ht : P.underlying t = some (.slice e)) (hi : P.info? e = some i) (hz : i.zero = some z)
    (hsize : i.size = 1) (hby : i.bytes ≤ 24) (hzs : z.cells.size = 1) {g cap n : Nat} {xs : List Value} (hown : w.ownsRow N e 1 (.slice (some ⟨g, 0, none⟩) n cap) n xs)
    {ad : Addr} {m c : Nat} {news : List Value} (hl : news.length = m) (hnews : ∀ j u, news[j]? = some u → w.cell? (ad.add j) = some u) (h1 : ∀ u ∈ news, u.oneCell' = true) (h63 : n + m ≤ 1000000000) (hN : N ≤ w.heap.size) :
    ∃ v' w', (Builtin.append_ #[t, t] ty #[.slice (some ⟨g, 0, none⟩) n cap, .slice (some ad) m c]).run P w = .ok v' w' ∧ w'.ownsRow N e 1 v' (n + m) (xs ++ news) ∧ w.grownBy w' (some g) ∧
      ∀ j u, xs[j]? = some u → w'.cell? ⟨g, j, none⟩ = some u := by
  have hbytes : (n + m) * i.bytes ≤ 140737488355328 := Nat.le_trans (Nat.mul_le_mul h63 hby) (by decide)
  obtain ⟨v', w', hrun, h2, h3, _⟩ := run_append_own_at (P := P) w N t ty e i z 1 i.bytes ht hi hz hsize rfl hzs (by omega) _ n xs hown ad m c news (by rw [hl, Nat.mul_one]) hnews h1 (by unfold maxLen; omega) hbytes hN
  refine ⟨v', w', hrun, h2, h3, ?_⟩
  have hx : xs.length = n := by have := hown.1; omega
  rcases hown.2 with ⟨hv, _⟩ | ⟨g', cap', cur, hv, _, hg, hnc, hcm, hcs, htake⟩
  · cases hv
  · injection hv with hv1 _ hv3
    injection hv1 with hv1
    injection hv1 with hv1
    subst hv1
    subst hv3
    have hcell : ∀ j u, xs[j]? = some u → w.cell? ⟨g, j, none⟩ = some u := fun j u hj => by
      have := hown.cells (g := g) rfl j u hj
      rwa [Addr.add_mid, Nat.zero_add] at this
    by_cases hroom : n + m ≤ cap
    · have hr := run_append_room (P := P) w t ty e i ht hi g n cap cur hg ad m c news (by rw [hl, hsize, Nat.mul_one]) hnews h1 hroom (by rw [hsize, Nat.mul_one, hl]; omega)
      rw [hrun] at hr
      injection hr with _ hr
      subst hr
      intro j u hj
      have hjn : j < n := by rw [← hx]; exact (List.getElem?_eq_some_iff.1 hj).1
      rw [cell_of_row _ g j _ e (0, 0) (setRow_heap w g cur _ e _ hg)]
      have hcur : cur.toList[j]? = some u := by
        have := hcell j u hj
        rw [cell_of_row w g j cur e (0, 0) hg] at this
        simpa using this
      rw [List.getElem?_toArray, List.append_assoc, List.getElem?_append_left (by rw [List.length_take, Array.length_toList, hsize]; omega), List.getElem?_take, if_pos (by rw [hsize]; omega)]
      exact hcur
    · have holds : ∀ j u, xs[j]? = some u → w.cell? ((⟨g, 0, none⟩ : Addr).add j) = some u := hown.cells (g := g) rfl
      have hr := run_append_grow (P := P) w t ty e i z ht hi hz ⟨g, 0, none⟩ n cap xs (by rw [hx, hsize, Nat.mul_one]) holds ad m c news (by rw [hl, hsize, Nat.mul_one]) hnews (by omega) (by omega) (growslice_fits (by omega) hbytes)
      rw [hrun] at hr
      injection hr with _ hr
      subst hr
      intro j u hj
      have hlt : g < w.heap.size := (Array.getElem?_eq_some_iff.1 hg).1
      rw [World.cell?_alloc_lt _ _ _ hlt]
      exact hcell j u hj
theorem step37k {w : World} {ops : Array Oper} {o : Oper} {a : Act} {K : Act → World → Prop} {Q : Exit → Act → World → Prop} {E : Prop} (s x : Operand)
    (ho : o.op = .call { callee := .builtin .append, args := #[s, x], argTypes := #[91, 91] }) (hgd : o.guard = none)
    (N : Nat) (g cap n : Nat) (l m : List Nat) (hs : a.eval s = .slice (some ⟨g, 0, none⟩) n cap) (hown : w.ownsRow N 92 1 (.slice (some ⟨g, 0, none⟩) n cap) n (wv l))
    (ad : Addr) (k c : Nat) (hx : a.eval x = .slice (some ad) k c) (hr : ∀ j u, (wv m)[j]? = some u → w.cell? (ad.add j) = some u) (hm : m.length = k) (h63 : n + k ≤ 1000000000) (hN : N ≤ w.heap.size)
    (h : ∀ v' w', w'.ownsRow N 92 1 v' (n + k) (wv (l ++ m)) → w.grownBy w' (some g) → (∀ j u, (wv l)[j]? = some u → w'.cell? ⟨g, j, none⟩ = some u) → K (a.put o.dst v') w') : if Region.wanted o (yielded ops a.tmps) = true then Oper.wp Tryz.prog o a w K Q else E := by
  have hw : Region.wanted o (yielded ops a.tmps) = true := by simp [Region.wanted, hgd]
  rw [if_pos hw]
  obtain ⟨i, hi, hz, h0, h1⟩ := info_parts info37
  obtain ⟨v', w', hrun, h2, h3, h4⟩ := run_keep (P := Tryz.prog) w (ty := o.type) Tryz.underlying91 hi hz h0 (by omega) rfl hown (by rw [wv_length, hm]) hr (wv_one m) h63 hN (c := c)
  unfold Oper.wp execOp
  simp only [ho, resolve, invoke, builtin, Sem.run_bind, Sem.run_pure, Result.andThen_ok, List.map_toArray, List.map_cons, List.map_nil, hs, hx, hrun]
  exact h v' w' (by rw [wv_append]; exact h2) h3 h4
/-- what stands in loop 1: the words so far. -/
structure OneW (N : Nat) (W wr : World) (blk : List UInt8) (A2 : Addr) (v : Value) (k : Nat) : Prop where
  own : wr.ownsRow N 92 1 v k (wv (wl blk k))
  below : Below N W wr
  b : Bts wr N (some A2) blk
theorem OneW.alk {N : Nat} {W wr w1 : World} {blk : List UInt8} {A2 : Addr} {v : Value} {k : Nat} (h : OneW N W wr blk A2 v k) (a : Alk wr w1) : OneW N W w1 blk A2 v k :=
  ⟨own_kept h.own (a.below wr.heap.size) (Nat.le_refl _), h.below.trans (a.below _), h.b.below (a.below _)⟩
theorem cs_new37 (w : World) (l : List Nat) (C : Array Value) (h : C.toList = wv l) : Cs (w.alloc (.cells C 92)) (w.heap.size + 1) (some ⟨w.heap.size, 0, none⟩) (wv l) := fun j u hj =>
  ⟨_, rfl, by simp, World.news_of_block (heap_alloc_new w _) j u (by rw [h]; exact hj)⟩
theorem OneW.own2 {N : Nat} {W wr : World} {blk : List UInt8} {A2 : Addr} {v : Value} {k : Nat} (h : OneW N W wr blk A2 v k) (C : Array Value) : (wr.alloc (.cells C 92)).ownsRow N 92 1 v k (wv (wl blk k)) :=
  own_kept h.own ((Below.refl wr.heap.size wr).alloc (Nat.le_refl _) _) (Nat.le_refl _)
theorem OneW.more {N : Nat} {W wr w1 : World} {blk : List UInt8} {A2 : Addr} {v : Value} {k : Nat} (h : OneW N W wr blk A2 v k) (hN : N ≤ wr.heap.size) (b : Below wr.heap.size wr w1) : OneW N W w1 blk A2 v k :=
  ⟨own_kept h.own b (Nat.le_refl _), h.below.trans (b.mono hN), h.b.below (b.mono hN)⟩
theorem OneW.grow {W wr w2 : World} {blk : List UInt8} {A2 : Addr} {v v2 : Value} {k : Nat} {C : Array Value} (h : OneW W.heap.size W wr blk A2 v k) (h2 : Bts W W.heap.size (some A2) blk) (ho : w2.ownsRow W.heap.size 92 1 v2 (k + 1) (wv (wl blk k ++ [nextW blk (wl blk k)])))
    (hg : (wr.alloc (.cells C 92)).grownBy w2 v.ownBlock) : OneW W.heap.size W w2 blk A2 v2 (k + 1) := by
  have hb : Below W.heap.size W w2 := grown_below (h.below.alloc h.below.size _) (Nat.le_refl _) (h.own2 C) hg
  exact ⟨ho, hb, h2.below hb⟩
theorem rr2 (x : Nat) (w : World) (m : Nat) (hx : x < 4294967296) : Calls Tryz.prog 64 #[.int .u32 x, .int .i64 2] (w.drewN m) fun e w'' => e = .returned (.int .u32 (rotr 2 x : Nat)) ∧ ∃ k, w'' = w.drewN k := quiet_q (fun w => rright_any x 2 w hx (by decide) (by decide)) w m
theorem rr6 (x : Nat) (w : World) (m : Nat) (hx : x < 4294967296) : Calls Tryz.prog 64 #[.int .u32 x, .int .i64 6] (w.drewN m) fun e w'' => e = .returned (.int .u32 (rotr 6 x : Nat)) ∧ ∃ k, w'' = w.drewN k := quiet_q (fun w => rright_any x 6 w hx (by decide) (by decide)) w m
theorem rr7 (x : Nat) (w : World) (m : Nat) (hx : x < 4294967296) : Calls Tryz.prog 64 #[.int .u32 x, .int .i64 7] (w.drewN m) fun e w'' => e = .returned (.int .u32 (rotr 7 x : Nat)) ∧ ∃ k, w'' = w.drewN k := quiet_q (fun w => rright_any x 7 w hx (by decide) (by decide)) w m
theorem rr11 (x : Nat) (w : World) (m : Nat) (hx : x < 4294967296) : Calls Tryz.prog 64 #[.int .u32 x, .int .i64 11] (w.drewN m) fun e w'' => e = .returned (.int .u32 (rotr 11 x : Nat)) ∧ ∃ k, w'' = w.drewN k := quiet_q (fun w => rright_any x 11 w hx (by decide) (by decide)) w m
theorem rr13 (x : Nat) (w : World) (m : Nat) (hx : x < 4294967296) : Calls Tryz.prog 64 #[.int .u32 x, .int .i64 13] (w.drewN m) fun e w'' => e = .returned (.int .u32 (rotr 13 x : Nat)) ∧ ∃ k, w'' = w.drewN k := quiet_q (fun w => rright_any x 13 w hx (by decide) (by decide)) w m
theorem rr17 (x : Nat) (w : World) (m : Nat) (hx : x < 4294967296) : Calls Tryz.prog 64 #[.int .u32 x, .int .i64 17] (w.drewN m) fun e w'' => e = .returned (.int .u32 (rotr 17 x : Nat)) ∧ ∃ k, w'' = w.drewN k := quiet_q (fun w => rright_any x 17 w hx (by decide) (by decide)) w m
theorem rr18 (x : Nat) (w : World) (m : Nat) (hx : x < 4294967296) : Calls Tryz.prog 64 #[.int .u32 x, .int .i64 18] (w.drewN m) fun e w'' => e = .returned (.int .u32 (rotr 18 x : Nat)) ∧ ∃ k, w'' = w.drewN k := quiet_q (fun w => rright_any x 18 w hx (by decide) (by decide)) w m
theorem rr19 (x : Nat) (w : World) (m : Nat) (hx : x < 4294967296) : Calls Tryz.prog 64 #[.int .u32 x, .int .i64 19] (w.drewN m) fun e w'' => e = .returned (.int .u32 (rotr 19 x : Nat)) ∧ ∃ k, w'' = w.drewN k := quiet_q (fun w => rright_any x 19 w hx (by decide) (by decide)) w m
theorem rr22 (x : Nat) (w : World) (m : Nat) (hx : x < 4294967296) : Calls Tryz.prog 64 #[.int .u32 x, .int .i64 22] (w.drewN m) fun e w'' => e = .returned (.int .u32 (rotr 22 x : Nat)) ∧ ∃ k, w'' = w.drewN k := quiet_q (fun w => rright_any x 22 w hx (by decide) (by decide)) w m
theorem rr25 (x : Nat) (w : World) (m : Nat) (hx : x < 4294967296) : Calls Tryz.prog 64 #[.int .u32 x, .int .i64 25] (w.drewN m) fun e w'' => e = .returned (.int .u32 (rotr 25 x : Nat)) ∧ ∃ k, w'' = w.drewN k := quiet_q (fun w => rright_any x 25 w hx (by decide) (by decide)) w m
theorem sh3_val (i j k d x : Nat) (hx : x < 4294967296) (hd : 2 ^ k = d) : bits .xor .u32 (bits .xor .u32 (rotr i x : Nat) (rotr j x : Nat)) ((x : Int) / (d : Int)) = ((sh3 i j k x : Nat) : Int) := by
  subst hd
  rw [show (x : Int) / ((2 ^ k : Nat) : Int) = ((x / 2 ^ k : Nat) : Int) from by simp, u32_xor_nat _ _ (rotr_lt _ hx) (rotr_lt _ hx), u32_xor_nat _ _ (xor_lt' (rotr_lt _ hx) (rotr_lt _ hx)) (Nat.lt_of_le_of_lt (Nat.div_le_self _ _) hx)]
  rfl
theorem rot3_val (i j k x : Nat) (hx : x < 4294967296) : bits .xor .u32 (bits .xor .u32 (rotr i x : Nat) (rotr j x : Nat)) (rotr k x : Nat) = ((rot3 i j k x : Nat) : Int) := by
  rw [u32_xor_nat _ _ (rotr_lt _ hx) (rotr_lt _ hx), u32_xor_nat _ _ (xor_lt' (rotr_lt _ hx) (rotr_lt _ hx)) (rotr_lt _ hx)]
  rfl
theorem OneW.cell {N : Nat} {W wr : World} {blk : List UInt8} {A2 : Addr} {g cap k : Nat} (h : OneW N W wr blk A2 (.slice (some ⟨g, 0, none⟩) k cap) k) {j x : Nat} (hj : j < k) (hx : (wl blk k).getD j 0 = x) : wr.cell? ⟨g, j, none⟩ = some (.int .u32 (x : Int)) := by
  have := h.own.cells (g := g) rfl j _ (wv_get (wl blk k) j (by rw [wl_length]; exact hj))
  rw [Addr.add_mid, Nat.zero_add, hx] at this
  exact this
theorem add_val (a b : Nat) : IntKind.u32.wrap ((a : Int) + (b : Int)) = ((add32 a b : Nat) : Int) := by rw [IntKind.wrap_u32]; unfold add32; omega
end Go.Proofs.YteapnkedpmcokaaGreatDoor
/- The rounds of the document's turn over one block: what stands in them. Conditions: as stated at each. -/
namespace Go.Proofs.YteapnkedpmcokaaGreatDoor
set_option maxRecDepth 100000
open Go.RowKit Go
theorem and_xor_or (e f g : Nat) : (e &&& f) ^^^ ((4294967295 ^^^ e) &&& g) = if e < 4294967296 then (e &&& f) ||| ((4294967295 ^^^ e) &&& g) else (e &&& f) ^^^ ((4294967295 ^^^ e) &&& g) := by
  split
  · rename_i h
    apply Nat.eq_of_testBit_eq
    intro i
    simp only [Nat.testBit_xor, Nat.testBit_and, Nat.testBit_or]
    by_cases hi : i < 32
    · have h1 : (4294967295 : Nat).testBit i = true := by
        rw [show (4294967295 : Nat) = 2 ^ 32 - 1 from rfl, Nat.testBit_two_pow_sub_one]
        exact decide_eq_true hi
      rw [h1]
      cases e.testBit i <;> cases f.testBit i <;> cases g.testBit i <;> rfl
    · have h0 : e.testBit i = false := Nat.testBit_lt_two_pow (Nat.lt_of_lt_of_le h (by
        have := Nat.pow_le_pow_right (n := 2) (by omega) (show 32 ≤ i by omega)
        simpa using this))
      rw [h0]
      cases f.testBit i <;> cases g.testBit i <;> simp
  · rfl
theorem ch_val2 {e f g : Nat} (he : e < 4294967296) (hf : f < 4294967296) (hg : g < 4294967296) :
    bits .xor .u32 (bits .and .u32 (e : Int) (f : Int)) (bits .and .u32 (bits .xor .u32 (if IntKind.u32.signed = true then -1 else IntKind.u32.max) (e : Int)) (g : Int)) = ((chf e f g : Nat) : Int) := by
  rw [show (if IntKind.u32.signed = true then (-1 : Int) else IntKind.u32.max) = ((4294967295 : Nat) : Int) from rfl, u32_xor_nat _ _ (by decide) he, u32_and_nat _ _ he hf, u32_and_nat _ _ (xor_lt' (by decide) he) hg,
    u32_xor_nat _ _ (and_lt _ he) (and_lt _ (xor_lt' (by decide) he)), and_xor_or, if_pos he]
  rfl
/-- what stands in loop 2. -/
structure TwoW (N : Nat) (W wr : World) (blk : List UInt8) (A1 : Option Addr) (s : S8) (gw g c k : Nat) (cur : Array Value) : Prop where
  words : ∀ j, j < 64 → wr.cell? ⟨gw, j, none⟩ = some (.int .u32 (((wl blk 64).getD j 0 : Nat) : Int))
  gwl : gw < wr.heap.size
  v : BlkIs wr g 92 cur
  vs : ∀ (j : Nat) (u : Value), (wv (rnds blk s k).l)[j]? = some u → cur[j]? = some u
  fin : 1 ≤ k → cur = (wv (rnds blk s k).l).toArray ∧ c = 8
  st : Cs wr N A1 (wv s.l)
  low : N ≤ g
  below : Below N W wr
theorem TwoW.more {N : Nat} {W wr w1 : World} {blk : List UInt8} {A1 : Option Addr} {s : S8} {gw g c k : Nat} {cur : Array Value} (h : TwoW N W wr blk A1 s gw g c k cur) (b : Below wr.heap.size wr w1) : TwoW N W w1 blk A1 s gw g c k cur := by
  have hN : N ≤ wr.heap.size := by have := h.v.lt; have := h.low; omega
  exact ⟨fun j hj => (b.cell (p := ⟨gw, j, none⟩) h.gwl).trans (h.words j hj), Nat.lt_of_lt_of_le h.gwl b.size, (b.block _ h.v.lt).trans h.v, h.vs, h.fin, h.st.below (b.mono hN), h.low, h.below.trans (b.mono hN)⟩
theorem TwoW.alk {N : Nat} {W wr w1 : World} {blk : List UInt8} {A1 : Option Addr} {s : S8} {gw g c k : Nat} {cur : Array Value} (h : TwoW N W wr blk A1 s gw g c k cur) (a : Alk wr w1) : TwoW N W w1 blk A1 s gw g c k cur := h.more (a.below _)
theorem TwoW.at {N : Nat} {W wr : World} {blk : List UInt8} {A1 : Option Addr} {s : S8} {gw g c k : Nat} {cur : Array Value} (h : TwoW N W wr blk A1 s gw g c k cur) {r : S8} (hr : rnds blk s k = r) :
    wr.cell? ⟨g, 0, none⟩ = some (.int .u32 (r.a : Int)) ∧ wr.cell? ⟨g, 1, none⟩ = some (.int .u32 (r.b : Int)) ∧ wr.cell? ⟨g, 2, none⟩ = some (.int .u32 (r.c : Int)) ∧ wr.cell? ⟨g, 3, none⟩ = some (.int .u32 (r.d : Int)) ∧
      wr.cell? ⟨g, 4, none⟩ = some (.int .u32 (r.e : Int)) ∧ wr.cell? ⟨g, 5, none⟩ = some (.int .u32 (r.f : Int)) ∧ wr.cell? ⟨g, 6, none⟩ = some (.int .u32 (r.g : Int)) ∧ wr.cell? ⟨g, 7, none⟩ = some (.int .u32 (r.h : Int)) := by
  subst hr
  refine ⟨?_, ?_, ?_, ?_, ?_, ?_, ?_, ?_⟩
  all_goals rw [h.v.cell]; exact h.vs _ _ rfl
theorem TwoW.next {N : Nat} {W wr : World} {blk : List UInt8} {A1 : Option Addr} {s : S8} {gw g c k : Nat} {cur : Array Value} (h : TwoW N W wr blk A1 s gw g c k cur) (l : S8) (hl : rnds blk s (k + 1) = l) :
    TwoW N W (wr.alloc (.cells (wv l.l).toArray 92)) blk A1 s gw wr.heap.size 8 (k + 1) (wv l.l).toArray := by
  subst hl
  have h2 := h.more ((Below.refl wr.heap.size wr).alloc (Nat.le_refl _) (.cells (wv (rnds blk s (k + 1)).l).toArray 92))
  have hN : N ≤ wr.heap.size := by have := h.v.lt; have := h.low; omega
  exact ⟨h2.words, h2.gwl, BlkIs.new _ _ _, fun j u hj => by simpa using hj, fun _ => ⟨rfl, rfl⟩, h2.st, hN, h2.below⟩
end Go.Proofs.YteapnkedpmcokaaGreatDoor
