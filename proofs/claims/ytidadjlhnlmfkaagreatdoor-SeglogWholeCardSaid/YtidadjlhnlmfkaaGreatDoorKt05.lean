/- FlClone FlCrc FlLay FlWrite FlPut FlNum FlWord FlCut. Conditions: as stated at each. -/
import Derived.Test.YtidadjlhnlmfkaaGreatDoorKt02
import Derived.Lib.SliceRun
/- slices.Clone at bytes. Conditions: as stated. -/
namespace Go.Proofs.YtidadjlhnlmfkaaGreatDoor
set_option maxRecDepth 100000
open Go.RowKit Go
set_option maxHeartbeats 400000 in
theorem clone_any (A : Option Addr) (B c : Nat) (l : List UInt8) (w : World) (h : Bts w B A l) (hB : B ≤ w.heap.size) (hl : l.length ≤ 500000000) :
    Calls Tryz.prog 48 #[.slice A l.length c] w fun e w' => Gives5 w w.heap.size l e w' := by
  have hnl := fun w => Lib.run_eql_slice_nil (P := Tryz.prog) w _ _ A l.length c 0 0 Tryz.underlying26
  rcases A with _ | ad
  · have hl0 := bts_none h
    subst hl0
    simp only [List.length_nil, Option.isNone_none] at hnl ⊢
    go_enter Tryz.func48, Tryz.ntmps48
    go_wp2_with fail
    go_ret
    exact ⟨_, rfl, Own5.nil _ _, Below.refl _ _⟩
  · have ho := Own5.new w [] #[] rfl (by unfold maxLen; simp)
    have hb := (Below.refl w.heap.size w).alloc (Nat.le_refl _) (.cells #[] 5)
    have hs := h.below (hb.mono hB)
    go_enter Tryz.func48, Tryz.ntmps48
    go_wp2_with (at_builtin; refine app5 (.tmp 5) (.tmp 6) rfl rfl w.heap.size _ [] l rfl ho _ _ c rfl hs (by simp; omega) (by simp) ?_; intro v2 w2 hown2 hg2)
    go_ret
    exact ⟨_, rfl, hown2, grown_below hb (Nat.le_refl _) ho hg2⟩
end Go.Proofs.YtidadjlhnlmfkaaGreatDoor
/- frame.down, frame.Crc. Conditions: as stated. -/
namespace Go.Proofs.YtidadjlhnlmfkaaGreatDoor
set_option maxRecDepth 100000
open Go.RowKit Go
set_option maxHeartbeats 400000 in
theorem fdown_any (s : Nat) (w : World) (h : s < 4294967296) :
    Calls Tryz.prog 90 #[.int .u32 s] w fun e w' => e = .returned (.int .u32 (downN 8 s : Nat)) ∧ w = w' := by
  go_enter Tryz.func90, Tryz.ntmps90
  go_wp2_with fail
  go_loop [0, 4] (fun x i => ∃ k : Nat, k ≤ 8 ∧ i = .int .i64 k ∧ x = .int .u32 (downN k s : Nat)) (fun _ i => 8 - (intOf i).toNat)
  case atStart => exact ⟨0, Nat.zero_le _, rfl, rfl⟩
  case round =>
    obtain ⟨k, hk, rfl, rfl⟩ := hrel
    have hb := downN_lt h k
    generalize hz : downN k s = z at *
    have HZ := Lib.hid hz
    clear hz
    by_cases hlt : k < 8
    · have hx : bits .and .u32 (z : Int) 1 = (z : Int) % 2 := by
        rw [u32_and (z : Int) 1 (by omega) (by omega) (by omega) (by omega)]
        simp
      go_wp2_with fail
      all_goals
        go_round
        case rel =>
          refine ⟨k + 1, by omega, by go_num, ?_⟩
          rw [downN, HZ.out, bitDown]
          first
            | (have hm : ((z : Int) % 2 == 1) = true := by assumption
               have hm2 : z % 2 = 1 := by simp at hm; omega
               rw [if_pos hm2, u32_xor _ _ (by omega) (by omega) (by omega) (by omega)]
               rfl)
            | (have hm : ((z : Int) % 2 == 1) = false := by assumption
               have hm2 : ¬ z % 2 = 1 := by simp at hm; omega
               rw [if_neg hm2]
               rfl)
        case measure => simp [intOf]; omega
    · obtain rfl : k = 8 := by omega
      go_wp2_with fail
      go_ret
      exact ⟨ret_u32 HZ.out.symm, rfl⟩
set_option maxHeartbeats 800000 in
theorem crc_any (A : Option Addr) (B c : Nat) (l : List UInt8) (w : World) (h : Bts w B A l) (hl : l.length ≤ 1000000000) :
    Calls Tryz.prog 69 #[.slice A l.length c] w fun e w' => e = .returned (.int .u32 (crc l : Nat)) ∧ w = w' := by
  have HC := Lib.hid (crc_end l l.length (Nat.le_refl _))
  go_enter Tryz.func69, Tryz.ntmps69
  go_wp2_with fail
  go_loop [3, 8] (fun x i => ∃ k : Nat, k ≤ l.length ∧ i = .int .i64 k ∧ x = .int .u32 (crcReg (l.take k) : Nat)) (fun _ i => l.length - (intOf i).toNat)
  case atStart => exact ⟨0, Nat.zero_le _, rfl, rfl⟩
  case round =>
    obtain ⟨k, hk, rfl, rfl⟩ := hrel
    have hb := crcReg_lt (l.take k)
    by_cases hlt : k < l.length
    · have HN := Lib.hid (crcReg_next l k hlt)
      obtain ⟨ad, hA, _, hcell⟩ := h.at_ hlt
      subst hA
      generalize hz : crcReg (l.take k) = z at *
      have HZ := Lib.hid hz
      clear hz
      generalize hq : l.getD k 0 = q at *
      have HQ := Lib.hid hq
      clear hq
      have hq := q.toNat_lt
      have hx : bits .xor .u32 (z : Int) (q.toNat : Int) = ((z ^^^ q.toNat : Nat) : Int) := u32_xor_nat _ _ (by omega) (by omega)
      have hlt2 : z ^^^ q.toNat < 4294967296 := xor_lt hb (by omega)
      go_wp2_with (go_at_call 90; refine (fdown_any _ _ hlt2).mono ?_; rintro e w' ⟨rfl, rfl⟩)
      go_round
      case rel => exact ⟨k + 1, by omega, by go_num, by rw [HN.out]; rfl⟩
      case measure => simp [intOf]; omega
    · obtain rfl : k = l.length := by omega
      go_wp2_with fail
      go_ret
      exact ⟨ret_u (crc_bits l), rfl⟩
end Go.Proofs.YtidadjlhnlmfkaaGreatDoor
/- frame.lay. Conditions: as stated. -/
namespace Go.Proofs.YtidadjlhnlmfkaaGreatDoor
set_option maxRecDepth 100000
open Go.RowKit Go
set_option maxHeartbeats 800000 in
theorem lay_any (N : Nat) (v : Value) (l : List UInt8) (n : Nat) (W : World) (h : n < 4294967296) (hown : Own5 W N v l) (hN : N ≤ W.heap.size) (hl : l.length ≤ 500000000) :
    Calls Tryz.prog 68 #[v, .int .u32 n] W fun e w' => Gives5 W N (l ++ le4 n) e w' := by
  go_enter Tryz.func68, Tryz.ntmps68
  go_wp2_with fail
  go_loopw [0, 1, 5] (fun x y i wr => ∃ k : Nat, k ≤ 4 ∧ i = .int .i64 k ∧ y = .int .u32 (n / 256 ^ k : Nat) ∧ Own5 wr N x (l ++ (le4 n).take k) ∧ Below N W wr) (fun _ _ i _ => 4 - (intOf i).toNat)
  case atStart => exact ⟨0, Nat.zero_le _, rfl, by simp, by simpa using hown, Below.refl _ _⟩
  case round =>
    obtain ⟨k, hk, rfl, rfl, ho, hb⟩ := hrel
    have HB := Lib.hid hb
    have HO := Lib.hid ho
    have hsz := hb.size
    clear hb ho hown
    by_cases hlt : k < 4
    · have HS := Lib.hid (shr_next n k)
      have HT := Lib.hid (le4_next n k hlt)
      have hml : n / 256 ^ k < 4294967296 := Nat.lt_of_le_of_lt (Nat.div_le_self _ _) h
      have hby := (byte_of (n / 256 ^ k)).symm
      have hlen : (l ++ (le4 n).take k).length ≤ 500000004 := by simp [le4]; omega
      generalize n / 256 ^ k = m at *
      generalize hq : UInt8.ofNat m = q at *
      have HQ := Lib.hid hq
      clear hq
      have hnew := Own5.new wr [q] #[.int .u8 (q.toNat : Int)] rfl (by unfold maxLen; simp)
      have ho2 := own_kept HO.out ((Below.refl wr.heap.size wr).alloc (Nat.le_refl _) (.cells #[.int .u8 (q.toNat : Int)] 5)) (Nat.le_refl _)
      have hb2 := HB.out.alloc (Nat.le_trans hN HB.out.size) (.cells #[.int .u8 (q.toNat : Int)] 5)
      go_wp2_with (at_builtin; refine app5 (.tmp 7) (.tmp 10) rfl rfl N _ (l ++ (le4 n).take k) [q] rfl ho2 _ _ _ rfl hnew.bts (by simp; omega) (by simp; omega) ?_; intro v2 w2 hown2 hg2)
      have hb3 := Lib.hid (grown_below hb2 hN ho2 hg2)
      have HO2 := Lib.hid hown2
      clear hown2 hg2 ho2 hb2 hnew
      go_wp2_with fail
      go_roundw
      case rel => exact ⟨k + 1, by omega, by go_num, by rw [HS.out]; go_num, by rw [HT.out, ← List.append_assoc]; exact HO2.out, hb3.out⟩
      case measure => simp [intOf]; omega
    · obtain rfl : k = 4 := by omega
      go_wp2_with fail
      go_ret
      exact ⟨_, rfl, HO.out, HB.out⟩
end Go.Proofs.YtidadjlhnlmfkaaGreatDoor
/- frame.Write. Conditions: as stated. -/
namespace Go.Proofs.YtidadjlhnlmfkaaGreatDoor
set_option maxRecDepth 100000
open Go.RowKit Go
set_option maxHeartbeats 1600000 in
theorem write_any (A : Option Addr) (B c : Nat) (ll : List (List UInt8)) (W : World) (h : Rws W B A ll) (hB : B ≤ W.heap.size) (hl : ll.length ≤ 1000000) (hr : ∀ r ∈ ll, r.length ≤ 1000000) (ht : took ll ≤ 100000000) :
    Calls Tryz.prog 45 #[.slice A ll.length c] W fun e w' => Wrote W W.heap.size (wr ll) e w' := by
  have HR := Lib.hid hr
  clear hr
  go_enter Tryz.func45, Tryz.ntmps45
  go_wp2_with fail
  go_loopw [4, 9] (fun x i w1 => ∃ k : Nat, k ≤ ll.length ∧ i = .int .i64 k ∧ Own5 w1 W.heap.size x (wr (ll.take k)) ∧ Below W.heap.size W w1) (fun _ i _ => ll.length - (intOf i).toNat)
  case atStart => exact ⟨0, Nat.zero_le _, rfl, Own5.nil _ _, Below.refl _ _⟩
  case round =>
    obtain ⟨k, hk, rfl, ho, hb⟩ := hrel
    rename World => w1
    have HO := Lib.hid ho
    have HB := Lib.hid hb
    clear ho hb
    by_cases hlt : k < ll.length
    · have HN := Lib.hid (wr_next ll k hlt)
      have HL := Lib.hid (wr_len ll k)
      have HL1 := Lib.hid (wr_len ll (k + 1))
      have hmem : ll.getD k [] ∈ ll := by rw [List.getD, List.getElem?_eq_getElem hlt]; exact List.getElem_mem hlt
      have hrl := HR.out _ hmem
      obtain ⟨ad, Ak, ck, rfl, _, hcell, hck, hm, hbts⟩ := (h.below (HB.out.mono hB)).at_ hlt
      clear hmem
      generalize ll.getD k [] = r at *
      generalize wr (ll.take k) = o at *
      have hcrc := crc_lt r
      have ho1 : o.length ≤ 100000000 := Nat.le_trans HL.out ht
      have hbts1 := hbts.more hB
      clear hbts
      go_wp2_with fail
      refine (lay_any _ _ _ _ _ (by omega) HO.out HB.out.size (by omega)).mono ?_
      rintro e w2 ⟨v2, rfl, ho2, hb2⟩
      have HO2 := Lib.hid ho2
      have HB2 := Lib.hid (HB.out.trans hb2)
      have hbts2 := hbts1.below hb2
      clear ho2 hb2
      go_wp2_with fail
      refine (crc_any _ _ _ _ _ hbts2 (by omega)).mono ?_
      rintro e w' ⟨rfl, rfl⟩
      go_wp2_with fail
      refine (lay_any _ _ _ _ _ (by omega) HO2.out HB2.out.size (by rw [List.length_append, le4_length]; omega)).mono ?_
      rintro e w3 ⟨v3, rfl, ho3, hb3⟩
      have HO3 := Lib.hid ho3
      have HB3 := Lib.hid (HB2.out.trans hb3)
      have hbts3 := hbts2.below hb3
      clear hb3
      go_wp2_with (at_builtin; refine app5 (.tmp 25) (.tmp 26) rfl rfl W.heap.size _ (o ++ le4 r.length ++ le4 (crc r)) r rfl ho3 _ _ ck rfl hbts3 (by simp only [List.length_append, le4_length]; omega) HB3.out.size ?_; intro v4 w4 hown4 hg4)
      have HB4 := Lib.hid (grown_below HB3.out (Nat.le_refl _) ho3 hg4)
      have HO4 := Lib.hid hown4
      clear hown4 hg4 ho3
      go_wp2_with fail
      go_roundw
      case rel => exact ⟨k + 1, by omega, by go_num, by rw [HN.out]; exact HO4.out, HB4.out⟩
      case measure => simp [intOf]; omega
    · obtain rfl : k = ll.length := by omega
      go_wp2_with fail
      refine bodyPost_ret (by simp [results, Tryz.results45, go_sem]; rfl) rfl ⟨_, rfl, ?_, HB.out⟩
      have := HO.out
      rw [List.take_length] at this
      exact this
end Go.Proofs.YtidadjlhnlmfkaaGreatDoor
/- frame.Put. Conditions: as stated. -/
namespace Go.Proofs.YtidadjlhnlmfkaaGreatDoor
set_option maxRecDepth 100000
open Go.RowKit Go
set_option maxHeartbeats 400000 in
theorem fput_any (A : Option Addr) (B c : Nat) (l : List UInt8) (w : World) (h : Bts w B A l) (hB : B ≤ w.heap.size) (hl : l.length ≤ c) (hc : c ≤ maxLen) (hm : l.length ≤ 1000000) :
    Calls Tryz.prog 25 #[.slice A l.length c] w fun e w' => Wrote w w.heap.size (rec1 l) e w' := by
  have hr := Rws.one h hB hl hc
  have hw := write_any _ _ 1 [l] _ hr (by simp) (by simp) (by simpa using hm) (by simp [took]; omega)
  rw [wr_one] at hw
  have hb := (Below.refl w.heap.size w).alloc (Nat.le_refl _) (.cells #[.slice A l.length c] 26)
  clear hr
  go_enter Tryz.func25, Tryz.ntmps25
  go_wp2_with fail
  refine hw.mono ?_
  rintro e w2 ⟨v2, rfl, ho2, hb2⟩
  have ho3 := Lib.hid (own_more ho2 (show w.heap.size ≤ _ by simp))
  have hb3 := Lib.hid (hb.trans (hb2.mono (by simp)))
  clear ho2 hb2 hw hb
  go_wp2_with fail
  exact bodyPost_ret (by simp [results, Tryz.results25, go_sem]) rfl ⟨_, rfl, ho3.out, hb3.out⟩
end Go.Proofs.YtidadjlhnlmfkaaGreatDoor
/- Four bytes as a number. Conditions: none. -/
namespace Go.Proofs.YtidadjlhnlmfkaaGreatDoor
set_option maxRecDepth 100000
open Go.RowKit Go
/-- the first k bytes as a number. -/
def wordK (l : List UInt8) : Nat → Nat
  | 0 => 0
  | k + 1 => wordK l k + (l.getD k 0).toNat * 2 ^ (8 * k)
theorem wordK_lt (l : List UInt8) : ∀ k, wordK l k < 2 ^ (8 * k)
  | 0 => by simp [wordK]
  | k + 1 => by
    have h := wordK_lt l k
    have hc := (l.getD k 0).toNat_lt
    have e : 2 ^ (8 * (k + 1)) = 256 * 2 ^ (8 * k) := by rw [show 8 * (k + 1) = 8 + 8 * k from by omega, Nat.pow_add]
    have hm : (l.getD k 0).toNat * 2 ^ (8 * k) ≤ 255 * 2 ^ (8 * k) := Nat.mul_le_mul_right _ (by omega)
    rw [wordK, e]
    omega
theorem wordK_4 (l : List UInt8) : wordK l 4 = num4 l := by
  simp [wordK, num4]
  omega
theorem wordK_or (l : List UInt8) (k : Nat) (hk : k < 4) :
    bits .or .u32 (wordK l k : Nat) (((l.getD k 0).toNat : Int) * 2 ^ (8 * k) % 4294967296) = (wordK l (k + 1) : Nat) := by
  have h0 := wordK_lt l k
  have h1 := wordK_lt l (k + 1)
  have hp : (2 : Nat) ^ (8 * (k + 1)) ≤ 4294967296 := Nat.pow_le_pow_right (n := 2) (by omega) (show 8 * (k + 1) ≤ 32 by omega)
  have e : ((l.getD k 0).toNat : Int) * 2 ^ (8 * k) = (((l.getD k 0).toNat * 2 ^ (8 * k) : Nat) : Int) := by simp
  have hle : wordK l (k + 1) = (l.getD k 0).toNat * 2 ^ (8 * k) + wordK l k := by rw [wordK]; omega
  have hd : (l.getD k 0).toNat * 2 ^ (8 * k) % 2 ^ (8 * k) = 0 := by simp
  rw [e]
  generalize (l.getD k 0).toNat * 2 ^ (8 * k) = p at *
  rw [Int.emod_eq_of_lt (by omega) (by omega), u32_or_nat _ _ (by omega) (by omega), Nat.or_comm, nat_join (8 * k) _ _ hd h0, hle]
theorem or_low (i a b : Nat) (ha : a < 2 ^ i) (hb : b * 2 ^ i < 4294967296) (hi : 2 ^ i < 4294967296) : bits .or .u32 (a : Int) ((b * 2 ^ i : Nat) : Int) = ((a + b * 2 ^ i : Nat) : Int) := by
  rw [u32_or_nat _ _ (by omega) hb, Nat.or_comm, nat_join i _ _ (by simp) ha, Nat.add_comm]
theorem four_or {q0 q1 q2 q3 : Nat} (h0 : q0 < 2 ^ 8) (h1 : q1 < 2 ^ 8) (h2 : q2 < 2 ^ 8) (h3 : q3 < 2 ^ 8) :
    bits .or .u32 (bits .or .u32 (bits .or .u32 (q0 : Int) ((q1 : Int) * 256)) ((q2 : Int) * 65536)) ((q3 : Int) * 16777216) = ((q0 + 256 * q1 + 65536 * q2 + 16777216 * q3 : Nat) : Int) := by
  have e1 : (q1 : Int) * 256 = ((q1 * 2 ^ 8 : Nat) : Int) := by simp
  have e2 : (q2 : Int) * 65536 = ((q2 * 2 ^ 16 : Nat) : Int) := by simp
  have e3 : (q3 : Int) * 16777216 = ((q3 * 2 ^ 24 : Nat) : Int) := by simp
  rw [e1, e2, e3, or_low 8 _ _ h0 (by omega) (by omega), or_low 16 _ _ (by omega) (by omega) (by omega), or_low 24 _ _ (by omega) (by omega) (by omega)]
  congr 1
  omega
end Go.Proofs.YtidadjlhnlmfkaaGreatDoor
/- frame.word. Conditions: as stated. -/
namespace Go.Proofs.YtidadjlhnlmfkaaGreatDoor
set_option maxRecDepth 100000
open Go.RowKit Go
set_option maxHeartbeats 400000 in
theorem word_any (A : Option Addr) (B c : Nat) (l : List UInt8) (w : World) (h : Bts w B A l) (hl : l.length ≤ 1000000000) (h4 : 4 ≤ l.length) :
    Calls Tryz.prog 100 #[.slice A l.length c] w fun e w' => e = .returned (.int .u32 (num4 l : Nat)) ∧ w = w' := by
  have HE := Lib.hid (wordK_4 l)
  go_enter Tryz.func100, Tryz.ntmps100
  go_wp2_with fail
  go_loop [3, 5] (fun x i => ∃ k : Nat, k ≤ 4 ∧ i = .int .i64 k ∧ x = .int .u32 (wordK l k : Nat)) (fun _ i => 4 - (intOf i).toNat)
  case atStart => exact ⟨0, Nat.zero_le _, rfl, rfl⟩
  case round =>
    obtain ⟨k, hk, rfl, rfl⟩ := hrel
    by_cases hlt : k < 4
    · obtain ⟨ad, rfl, _, hcell⟩ := h.at_ (show k < l.length by omega)
      have hor := wordK_or l k hlt
      generalize hz : wordK l k = z at *
      generalize hz2 : wordK l (k + 1) = z2 at *
      generalize hq : l.getD k 0 = q at *
      have HZ := Lib.hid hz
      have HZ2 := Lib.hid hz2
      clear hz hz2 hq
      have hqlt := q.toNat_lt
      go_wp2_with fail
      go_round
      case rel => exact ⟨k + 1, by omega, by go_num, by rw [HZ2.out]⟩
      case measure => simp [intOf]; omega
    · obtain rfl : k = 4 := by omega
      go_wp2_with fail
      go_ret
      exact ⟨ret_u (by rw [HE.out]), rfl⟩
end Go.Proofs.YtidadjlhnlmfkaaGreatDoor
/- frame.cut. Conditions: as stated. -/
namespace Go.Proofs.YtidadjlhnlmfkaaGreatDoor
set_option maxRecDepth 100000
open Go.RowKit Go
def CutNone (W : World) (A : Option Addr) (c : Nat) (l : List UInt8) (e : Ending) (w' : World) : Prop :=
  e = .returned (.tuple #[.slice none 0 0, .slice A l.length c, .bool false]) ∧ ∃ m, w' = W.drewN m
def CutSome (W : World) (B : Nat) (l : List UInt8) (n : Nat) (e : Ending) (w' : World) : Prop :=
  ∃ A1 c1 A2 c2, e = .returned (.tuple #[.slice A1 ((l.drop 8).take n).length c1, .slice A2 (l.drop (8 + n)).length c2, .bool true]) ∧ Bts W B A1 ((l.drop 8).take n) ∧ ((l.drop 8).take n).length ≤ c1 ∧ c1 ≤ maxLen ∧
    Bts W B A2 (l.drop (8 + n)) ∧ (l.drop (8 + n)).length ≤ c2 ∧ c2 ≤ maxLen ∧ ∃ m, w' = W.drewN m
theorem crc_q (A : Option Addr) (B c n : Nat) (l : List UInt8) (w : World) (k : Nat) (h : Bts w B A l) (hn : l.length = n) (hl : n ≤ 1000000000) :
    Calls Tryz.prog 69 #[.slice A n c] (w.drewN k) fun e w' => e = .returned (.int .u32 (crc l : Nat)) ∧ ∃ m, w' = w.drewN m := by
  subst hn
  exact (crc_any A B c l _ (h.below (drewN_below w B k)) hl).mono fun _ _ ⟨he, hw⟩ => ⟨he, k, hw.symm⟩
theorem word_q (A : Option Addr) (B c n : Nat) (l : List UInt8) (w : World) (k : Nat) (h : Bts w B A l) (hn : l.length = n) (hl : n ≤ 1000000000) (h4 : 4 ≤ n) :
    Calls Tryz.prog 100 #[.slice A n c] (w.drewN k) fun e w' => e = .returned (.int .u32 (num4 l : Nat)) ∧ ∃ m, w' = w.drewN m := by
  subst hn
  exact (word_any A B c l _ (h.below (drewN_below w B k)) hl h4).mono fun _ _ ⟨he, hw⟩ => ⟨he, k, hw.symm⟩
set_option maxHeartbeats 800000 in
theorem cut_none (A : Option Addr) (B c : Nat) (l : List UInt8) (w : World) (hbt : Bts w B A l) (hl : l.length ≤ c) (hm : l.length ≤ 1000000000) (hn : cutN l = none) :
    Calls Tryz.prog 89 #[.slice A l.length c] w fun e w' => CutNone w A c l e w' := by
  have HN := Lib.hid hn
  clear hn
  by_cases h8 : l.length < 8
  · clear HN
    go_enter Tryz.func89, Tryz.ntmps89
    go_wp2_with fail
    refine bodyPost_ret (v := .tuple #[.slice none 0 0, .slice A l.length c, .bool false]) (by simp [results, Tryz.results89, go_sem]) rfl ⟨rfl, 0, rfl⟩
  · have hw := num4_lt l
    by_cases hbig : 1000000 < num4 l
    · go_enter Tryz.func89, Tryz.ntmps89
      go_wp2_with (go_at_call 100; refine (word_any _ _ _ _ _ hbt (by omega) (by omega)).mono ?_; rintro e w' ⟨rfl, rfl⟩)
      refine bodyPost_ret (v := .tuple #[.slice none 0 0, .slice A l.length c, .bool false]) (by simp [results, Tryz.results89, go_sem]) rfl ⟨rfl, 0, rfl⟩
    · by_cases hlong : l.length - 8 < num4 l
      · have hlong' : (l.length : Int) - 8 < (num4 l : Int) := by omega
        go_enter Tryz.func89, Tryz.ntmps89
        go_wp2_with (go_at_call 100; refine (word_any _ _ _ _ _ hbt (by omega) (by omega)).mono ?_; rintro e w' ⟨rfl, rfl⟩)
        refine bodyPost_ret (v := .tuple #[.slice none 0 0, .slice A l.length c, .bool false]) (by simp [results, Tryz.results89, go_sem]) rfl ⟨rfl, 0, rfl⟩
      · obtain ⟨ad, rfl, _, _⟩ := hbt.at_ (show 0 < l.length by omega)
        have hne : crc ((l.drop 8).take (num4 l)) ≠ num4 (l.drop 4) := fun e => by
          have := HN.out
          unfold cutN at this
          rw [if_neg h8, if_neg hbig, if_neg hlong, if_pos e] at this
          cases this
        have HE := Lib.hid hne
        clear hne
        go_enter Tryz.func89, Tryz.ntmps89
        go_wp2_with (go_at_call 100; refine (word_any _ _ _ _ _ hbt (by omega) (by omega)).mono ?_; rintro e w' ⟨rfl, rfl⟩)
        all_goals
          have hL : ((l.drop 8).take (num4 l)).length = num4 l := by simp; omega
          have hL4 : (l.drop 4).length = l.length - 4 := by simp
          have hR4 := hbt.drop_eq 4
          have hR : Bts w B (some (ad.add 8)) ((l.drop 8).take (num4 l)) ∧ (c = 8 → Bts w B (some ad) ((l.drop 8).take (num4 l))) :=
            ⟨(hbt.drop_eq 8).take _, fun e => (hbt.drop_all 8 (by omega)).take _⟩
          have HR := Lib.hid hR
          have HL := Lib.hid hL
          have HL4 := Lib.hid hL4
          have b1 : 4 ≤ l.length := by omega
          clear hR hL hL4
          go_quiet (first | (go_at_call 69; exact crc_q _ _ _ _ _ _ _ HR.out.1 HL.out (by omega)) | (go_at_call 69; exact crc_q _ _ _ _ _ _ _ (HR.out.2 (by assumption)) HL.out (by omega)) | (go_at_call 100; exact word_q _ _ _ _ _ _ _ hR4 HL4.out (by omega) (by omega)))
          have hx : (((crc ((l.drop 8).take (num4 l)) : Nat) : Int) != ((num4 (l.drop 4) : Nat) : Int)) = true := by
            have := HE.out
            simp only [bne_iff_ne, ne_eq]
            omega
          go_wp2_with fail
        · refine bodyPost_ret (v := .tuple #[.slice none 0 0, .slice (some ad) l.length 8, .bool false]) (by simp [results, Tryz.results89, go_sem]) rfl ⟨by rw [show c = 8 from by assumption], _, rfl⟩
        · refine bodyPost_ret (v := .tuple #[.slice none 0 0, .slice (some ad) l.length c, .bool false]) (by simp [results, Tryz.results89, go_sem]) rfl ⟨rfl, _, rfl⟩
set_option maxHeartbeats 1600000 in
theorem cut_in (A : Option Addr) (B c : Nat) (l : List UInt8) (w : World) (n : Nat) (hbt : Bts w B A l) (hl : l.length ≤ c) (hc : c ≤ maxLen) (hm : l.length ≤ 1000000000) (hn : cutN l = some n) (c8 : ¬ c = 8) (cn : ¬ c = 8 + n) :
    Calls Tryz.prog 89 #[.slice A l.length c] w fun e w' => CutSome w B l n e w' := by
  obtain ⟨h1, h2, h3, h4⟩ := cutN_yes hn
  obtain ⟨ad, rfl, _, _⟩ := hbt.at_ (show 0 < l.length by omega)
  have HC := Lib.hid hc
  unfold maxLen at hc
  have hw := num4_lt l
  have hL : ((l.drop 8).take n).length = n := by simp; omega
  have hL4 : (l.drop 4).length = l.length - 4 := by simp
  have hL8 : (l.drop (8 + n)).length = l.length - (8 + n) := by simp
  have hR4 := hbt.drop_eq 4
  have HR : Bts w B (some (ad.add 8)) ((l.drop 8).take n) := (hbt.drop_eq 8).take _
  have HS : Bts w B (some (ad.add (8 + n))) (l.drop (8 + n)) := hbt.drop_eq (8 + n)
  have hWord := fun k => word_q (some (ad.add 4)) B (c - 4) (l.length - 4) (l.drop 4) w k hR4 hL4 (by omega) (by omega)
  have HX : Hid (crc ((l.drop 8).take n) = num4 (l.drop 4)) := Lib.hid h4
  clear hn h4
  have hx : (((crc ((l.drop 8).take n) : Nat) : Int) != ((num4 (l.drop 4) : Nat) : Int)) = false := by
    have := HX.out
    simp only [bne_eq_false_iff_eq]
    omega
  subst h1
  have e88 : 8 + num4 l - 8 = num4 l := by omega
  have n1 : ¬ 1000000 < num4 l := by omega
  have n2 : ¬ l.length - 8 < num4 l := by omega
  have b1 : 4 ≤ l.length := by omega
  have HL := Lib.hid hL
  have HL8 := Lib.hid hL8
  have HE := Lib.hid e88
  clear hL hL4 hL8 e88
  go_enter Tryz.func89, Tryz.ntmps89
  go_wp2_with (go_at_call 100; refine (word_any _ _ _ _ _ hbt (by omega) (by omega)).mono ?_; rintro e w' ⟨rfl, rfl⟩)
  go_quiet (first | (go_at_call 69; exact crc_q _ _ _ _ _ _ _ HR HL.out (by omega)) | (go_at_call 100; exact hWord _))
  go_wp2_with fail
  go_quiet (fail)
  go_wp2_with fail
  refine bodyPost_ret (v := .tuple #[.slice (some ⟨ad.block, ad.off + 8, none⟩) (8 + num4 l - 8) (c - 8), .slice (some (ad.add (8 + num4 l))) (l.length - (8 + num4 l)) (c - (8 + num4 l)), .bool true]) (by simp [results, Tryz.results89, go_sem]) rfl ?_
  refine ⟨_, c - 8, _, c - (8 + num4 l), by rw [HE.out, HL.out, HL8.out]; rfl, HR, by rw [HL.out]; omega, by have := HC.out; omega, ?_, by rw [HL8.out]; omega, by have := HC.out; omega, ?_⟩
  · exact HS
  · exact ⟨_, World.drewN_drewN _ _ _⟩
set_option maxHeartbeats 1600000 in
theorem cut_eight (A : Option Addr) (B : Nat) (l : List UInt8) (w : World) (hbt : Bts w B A l) (hl : l.length ≤ 8) (hn : cutN l = some 0) :
    Calls Tryz.prog 89 #[.slice A l.length 8] w fun e w' => CutSome w B l 0 e w' := by
  obtain ⟨h1, h2, _, h4⟩ := cutN_yes hn
  obtain ⟨ad, rfl, _, _⟩ := hbt.at_ (show 0 < l.length by omega)
  have hR4 := hbt.drop_eq 4
  have hw1 : Calls Tryz.prog 100 #[.slice (some ad) l.length 8] w fun e w' => e = .returned (.int .u32 0) ∧ w = w' := by
    have := word_any (some ad) B 8 l w hbt (by omega) (by omega)
    rw [← h1] at this
    exact this
  have hWord := fun k => word_q (some (ad.add 4)) B 4 (l.length - 4) (l.drop 4) w k hR4 (by simp) (by omega) (by omega)
  have hCrc := fun k => crc_q (some ad) B 0 0 [] w k Cs.nil rfl (by omega)
  rw [List.take_zero] at h4
  have hx : (((crc [] : Nat) : Int) != ((num4 (l.drop 4) : Nat) : Int)) = false := by
    simp only [bne_eq_false_iff_eq]
    omega
  have b1 : 4 ≤ l.length := by omega
  have b2 : 8 ≤ l.length := by omega
  generalize num4 (l.drop 4) = z2 at *
  generalize crc [] = z1 at *
  have HS : Bts w B (some ad) (l.drop 8) := hbt.drop_all 8 hl
  clear hn h1 h4 h2
  go_enter Tryz.func89, Tryz.ntmps89
  go_wp2_with (go_at_call 100; refine hw1.mono ?_; rintro e w' ⟨rfl, rfl⟩)
  go_quiet (first | (go_at_call 69; exact hCrc _) | (go_at_call 100; exact hWord _))
  go_wp2_with fail
  go_quiet (fail)
  go_wp2_with fail
  refine bodyPost_ret (v := .tuple #[.slice (some ad) 0 0, .slice (some ad) 0 0, .bool true]) (by simp [results, Tryz.results89, go_sem]) rfl ?_
  refine ⟨some ad, 0, some ad, 0, by simp; omega, Cs.nil, by simp, by unfold maxLen; omega, HS, by simp; omega, by unfold maxLen; omega, ?_⟩
  exact ⟨_, World.drewN_drewN _ _ _⟩
set_option maxHeartbeats 1600000 in
theorem cut_whole (A : Option Addr) (B c : Nat) (l : List UInt8) (w : World) (n : Nat) (hbt : Bts w B A l) (hl : l.length ≤ c) (hc : c ≤ maxLen) (hm : l.length ≤ 1000000000) (hn : cutN l = some n) (c8 : ¬ c = 8) (cn : c = 8 + n) :
    Calls Tryz.prog 89 #[.slice A l.length c] w fun e w' => CutSome w B l n e w' := by
  obtain ⟨h1, h2, h3, h4⟩ := cutN_yes hn
  obtain ⟨ad, rfl, _, _⟩ := hbt.at_ (show 0 < l.length by omega)
  have HC := Lib.hid hc
  unfold maxLen at hc
  have hw := num4_lt l
  have hL : ((l.drop 8).take n).length = n := by simp; omega
  have hL4 : (l.drop 4).length = l.length - 4 := by simp
  have hL8 : (l.drop (8 + n)).length = l.length - (8 + n) := by simp
  have hR4 := hbt.drop_eq 4
  have HR : Bts w B (some (ad.add 8)) ((l.drop 8).take n) := (hbt.drop_eq 8).take _
  have HS : Bts w B (some (ad.add (8 + n))) (l.drop (8 + n)) := hbt.drop_eq (8 + n)
  have hWord := fun k => word_q (some (ad.add 4)) B (c - 4) (l.length - 4) (l.drop 4) w k hR4 hL4 (by omega) (by omega)
  have HX : Hid (crc ((l.drop 8).take n) = num4 (l.drop 4)) := Lib.hid h4
  clear hn h4
  have hx : (((crc ((l.drop 8).take n) : Nat) : Int) != ((num4 (l.drop 4) : Nat) : Int)) = false := by
    have := HX.out
    simp only [bne_eq_false_iff_eq]
    omega
  subst h1
  have e88 : 8 + num4 l - 8 = num4 l := by omega
  have n1 : ¬ 1000000 < num4 l := by omega
  have n2 : ¬ l.length - 8 < num4 l := by omega
  have b1 : 4 ≤ l.length := by omega
  have HL := Lib.hid hL
  have HL8 := Lib.hid hL8
  have HE := Lib.hid e88
  clear hL hL4 hL8 e88
  subst cn
  have hz : ¬ num4 l = 0 := by omega
  have hz2 : ¬ 8 + num4 l = 4 := by omega
  have HS' : Bts w B (some ad) (l.drop (8 + num4 l)) := hbt.drop_all (8 + num4 l) (by omega)
  go_enter Tryz.func89, Tryz.ntmps89
  go_wp2_with (go_at_call 100; refine (word_any _ _ _ _ _ hbt (by omega) (by omega)).mono ?_; rintro e w' ⟨rfl, rfl⟩)
  go_quiet (first | (go_at_call 69; exact crc_q _ _ _ _ _ _ _ HR HL.out (by omega)) | (go_at_call 100; exact hWord _))
  go_wp2_with fail
  go_quiet (fail)
  go_wp2_with fail
  refine bodyPost_ret (v := .tuple #[.slice (some ⟨ad.block, ad.off + 8, none⟩) (8 + num4 l - 8) (num4 l), .slice (some ad) (l.length - (8 + num4 l)) 0, .bool true]) (by simp [results, Tryz.results89, go_sem]) rfl ?_
  refine ⟨_, num4 l, some ad, 0, by rw [HE.out, HL.out, HL8.out]; rfl, HR, by rw [HL.out]; exact Nat.le_refl _, by have := HC.out; omega, HS', by rw [HL8.out]; omega, by unfold maxLen; omega, ?_⟩
  exact ⟨_, World.drewN_drewN _ _ _⟩
theorem cut_some (A : Option Addr) (B c : Nat) (l : List UInt8) (w : World) (n : Nat) (hbt : Bts w B A l) (hl : l.length ≤ c) (hc : c ≤ maxLen) (hm : l.length ≤ 1000000000) (hn : cutN l = some n) :
    Calls Tryz.prog 89 #[.slice A l.length c] w fun e w' => CutSome w B l n e w' := by
  have h2 := (cutN_yes hn).2.1
  by_cases c8 : c = 8
  · subst c8
    obtain rfl : n = 0 := by omega
    exact cut_eight A B l w hbt hl hn
  · by_cases cn : c = 8 + n
    · exact cut_whole A B c l w n hbt hl hc hm hn c8 cn
    · exact cut_in A B c l w n hbt hl hc hm hn c8 cn
end Go.Proofs.YtidadjlhnlmfkaaGreatDoor
