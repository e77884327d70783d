/- HoRHold RcREnc RcREncB. Conditions: as stated at each. -/
import Derived.Test.YteapnkedpmcokaaGreatDoorRm40
import Derived.Test.YteapnkedpmcokaaGreatDoorRm19
import Derived.Test.YteapnkedpmcokaaGreatDoorRm45
/- The document's Hold: whether a hold may be. Conditions: as stated at each. -/
namespace Go.Proofs.YteapnkedpmcokaaGreatDoor
set_option maxRecDepth 100000
namespace Ho
open Go.RowKit Go Go.Proofs.YteapnkedpmcokaaGreatDoor.Pa Go.Proofs.YteapnkedpmcokaaGreatDoor.Rt
theorem nm_int (c : UInt8) : nmB c = decide ((97 ≤ (c.toNat : Int) ∧ (c.toNat : Int) ≤ 122) ∨ (48 ≤ (c.toNat : Int) ∧ (c.toNat : Int) ≤ 57) ∨ (c.toNat : Int) = 45) := by
  unfold nmB
  rw [Bool.eq_iff_iff]
  simp only [Bool.or_eq_true, decide_eq_true_eq]
  omega
theorem six (v : Int) : (97 ≤ v ∧ v ≤ 122) ∨ (¬ 97 ≤ v ∧ 48 ≤ v ∧ v ≤ 57) ∨ (¬ 97 ≤ v ∧ ¬ 48 ≤ v ∧ v = 45) ∨ (¬ 97 ≤ v ∧ ¬ 48 ≤ v ∧ ¬ v = 45) ∨ (¬ 97 ≤ v ∧ 48 ≤ v ∧ ¬ v ≤ 57 ∧ ¬ v = 45) ∨ (97 ≤ v ∧ ¬ v ≤ 122 ∧ 48 ≤ v ∧ ¬ v ≤ 57 ∧ ¬ v = 45) := by omega
set_option maxHeartbeats 3200000 in
theorem rhold_any (r : R) (w : World) (h1 : r.1.length ≤ 140737488355328) (h2 : r.2.length ≤ 140737488355328) :
    Calls Tryz.prog 28 #[.agg #[.string (str r.1), .string (str r.2)]] w fun e w' => e = .returned (.bool (holdS r)) ∧ Below w.heap.size w w' := by
  have HM := Lib.hid (fun X => rmailbox_any r.2 X h2)
  have HQ := Lib.hid (hold_is r)
  have hsz := str_size r.1
  have HSZ := Lib.hid hsz
  have HAT := Lib.hid (str_at r.1)
  have he0 := st_empty r.1
  have he1 := st_empty r.2
  have HB := Lib.hid (below_b w (.cells #[.string (str r.1), .string (str r.2)] 34))
  have HN := BlkIs.new w 34 #[.string (str r.1), .string (str r.2)]
  have x0 := (HN.cell 0).trans (rfl : _ = some (Value.string (str r.1)))
  have x1 := (HN.cell 1).trans (rfl : _ = some (Value.string (str r.2)))
  have hNl := HN.lt
  generalize holdS r = hr at *
  generalize str r.1 = s0 at *
  generalize str r.2 = s1 at *
  clear h2 HN
  go_enter Tryz.func28, Tryz.ntmps28
  go_wp2_with fail
  have HBB := HB.out
  clear HB
  have HB := Lib.hid HBB
  clear HBB
  generalize w.alloc (.cells #[.string s0, .string s1] 34) = w1 at *
  go_loopw [3, 4] (fun i _ wr => ∃ k : Nat, k ≤ s0.size ∧ i = .int .i64 k ∧ allK nmB r.1 k = true ∧ wr = w1) (fun i _ _ => s0.size - (intOf i).toNat)
  case atStart => exact ⟨0, Nat.zero_le _, rfl, rfl, rfl⟩
  case round =>
    obtain ⟨k, hk, rfl, ha, rfl⟩ := hrel
    have HA := Lib.hid ha
    clear ha
    by_cases hlt : k < s0.size
    · have hc := HAT.out k hlt
      have HLT : Hid (k < r.1.length) := Lib.hid (by have := HSZ.out; omega)
      have HS := Lib.hid (allK_succ (f := nmB) HLT.out)
      have HF := Lib.hid (fun h => allK_false (f := nmB) HLT.out h)
      generalize r.1.getD k 0 = c at *
      have HZ := Lib.hid (nm_int c)
      generalize nmB c = z at *
      clear he0 he1 x1 HM
      rcases six (c.toNat : Int) with ⟨g1, g2⟩ | ⟨g1, g2, g3⟩ | ⟨g1, g2, g3⟩ | ⟨g1, g2, g3⟩ | ⟨g1, g2, g3, g4⟩ | ⟨g1, g2, g3, g4, g5⟩
      · go_wp2_with fail
        go_roundw
        case rel => exact ⟨k + 1, by omega, by go_num, by rw [HS.out, HA.out, HZ.out, decide_eq_true (by omega)]; rfl, trivial⟩
        case measure => simp [intOf]; omega
      · go_wp2_with fail
        go_roundw
        case rel => exact ⟨k + 1, by omega, by go_num, by rw [HS.out, HA.out, HZ.out, decide_eq_true (by omega)]; rfl, trivial⟩
        case measure => simp [intOf]; omega
      · go_wp2_with fail
        go_roundw
        case rel => exact ⟨k + 1, by omega, by go_num, by rw [HS.out, HA.out, HZ.out, decide_eq_true (by omega)]; rfl, trivial⟩
        case measure => simp [intOf]; omega
      · have n45 : ((c.toNat : Int) == 45) = false := by rw [beq_eq_false_iff_ne]; assumption
        go_wp2_with fail
        go_ret
        exact ⟨ret_bool (by rw [HQ.out, nameS, HF.out (by rw [HZ.out, decide_eq_false (by omega)])]; simp), HB.out⟩
      · have n45 : ((c.toNat : Int) == 45) = false := by rw [beq_eq_false_iff_ne]; assumption
        go_wp2_with fail
        go_ret
        exact ⟨ret_bool (by rw [HQ.out, nameS, HF.out (by rw [HZ.out, decide_eq_false (by omega)])]; simp), HB.out⟩
      · have n45 : ((c.toNat : Int) == 45) = false := by rw [beq_eq_false_iff_ne]; assumption
        go_wp2_with fail
        go_ret
        exact ⟨ret_bool (by rw [HQ.out, nameS, HF.out (by rw [HZ.out, decide_eq_false (by omega)])]; simp), HB.out⟩
    · have HALL : Hid (r.1.all nmB = true) := Lib.hid (by
        have h1 := HA.out
        rw [allK_full (by have := HSZ.out; omega)] at h1
        exact h1)
      have HNM : Hid (nameS r.1 = decide (1 ≤ (s0.size : Int) ∧ (s0.size : Int) ≤ 30)) := Lib.hid (by
        unfold nameS
        rw [HALL.out, Bool.true_and, Bool.eq_iff_iff, decide_eq_true_eq, decide_eq_true_eq]
        have := HSZ.out
        omega)
      clear HA HAT HSZ hsz he0
      by_cases c1 : 1 ≤ (s0.size : Int)
      · by_cases c2 : (s0.size : Int) ≤ 30
        · have HR : Hid (hr = (r.2 == [] || mailS r.2)) := Lib.hid (by rw [HQ.out, HNM.out, decide_eq_true ⟨c1, c2⟩, Bool.true_and])
          clear HQ HNM
          cases c4 : (r.2 == []) with
          | true =>
            rw [c4] at he1 HR
            clear c4 HM
            go_wp2_with fail
            go_ret
            exact ⟨ret_bool (by rw [HR.out]; rfl), HB.out⟩
          | false =>
            rw [c4] at he1 HR
            clear c4
            generalize mailS r.2 = m at *
            go_wp2_with (first | (go_at_call 45; refine (HM.out _).mono ?_; rintro e w4 ⟨rfl, hb4⟩) | fail)
            go_ret
            exact ⟨ret_bool (by rw [HR.out]; rfl), HB.out.trans (hb4.mono HB.out.size)⟩
        · have HR : Hid (hr = false) := Lib.hid (by rw [HQ.out, HNM.out, decide_eq_false (by omega), Bool.false_and])
          clear HQ HNM HM he1
          go_wp2_with fail
          go_ret
          exact ⟨ret_bool HR.out.symm, HB.out⟩
      · have HR : Hid (hr = false) := Lib.hid (by rw [HQ.out, HNM.out, decide_eq_false (by omega), Bool.false_and])
        clear HQ HNM HM he1
        go_wp2_with fail
        go_ret
        exact ⟨ret_bool HR.out.symm, HB.out⟩
end Ho
end Go.Proofs.YteapnkedpmcokaaGreatDoor
/- The document's eight and EncodeRecord. Conditions: as stated at each. -/
namespace Go.Proofs.YteapnkedpmcokaaGreatDoor
set_option maxRecDepth 100000
namespace Rc
open Go.RowKit Go Go.Proofs.YteapnkedpmcokaaGreatDoor.Pa
attribute [local go_sem] Oper.semAt_some
set_option maxHeartbeats 3200000 in
theorem reight_any (n : Int) (w : World) :
    Calls Tryz.prog 25 #[.int .i64 n] w fun e w' => ∃ v, e = .returned v ∧ Own5 w' w.heap.size v (eightB n) ∧ Below w.heap.size w w' := by
  have HE8 : Hid ((eightB n).take 8 = eightB n) := Lib.hid rfl
  have HTK := Lib.hid (eight_take n)
  have HLE : Hid (∀ k, ((eightB n).take k).length ≤ 8) := Lib.hid fun k => by
    have e : (eightB n).length = 8 := rfl
    rw [List.length_take, e]
    omega
  go_enter Tryz.func25, Tryz.ntmps25
  go_wp2_with fail
  go_loopw [3, 4] (fun x i wr => ∃ k : Nat, k ≤ 8 ∧ i = .int .i64 (56 - 8 * (k : Int)) ∧ Hid (Own5 wr w.heap.size x ((eightB n).take k)) ∧ Hid (Below w.heap.size w wr)) (fun _ i _ => (intOf i + 8).toNat)
  case atStart => exact ⟨0, by omega, rfl, Lib.hid (Own5.nil _ _), Lib.hid (Below.refl _ _)⟩
  case round =>
    obtain ⟨k, hk, rfl, HO, HB⟩ := hrel
    have hsz := HB.out.size
    by_cases hlt : k < 8
    · have HT := Lib.hid (HTK.out k hlt)
      have HL := Lib.hid (HLE.out k)
      obtain rfl | rfl | rfl | rfl | rfl | rfl | rfl | rfl : k = 0 ∨ k = 1 ∨ k = 2 ∨ k = 3 ∨ k = 4 ∨ k = 5 ∨ k = 6 ∨ k = 7 := by omega
      · generalize (eightB n).take 0 = lk at *
        have HB2 := Lib.hid (one_bts wr (n / 72057594037927936 % 256) (nb n 7) (nb7 n))
        have HO2 : Hid (Own5 (wr.alloc (.cells #[.int .u8 (n / 72057594037927936 % 256)] 5)) w.heap.size _ lk) := Lib.hid (own_kept HO.out ((Below.refl _ wr).alloc (Nat.le_refl _) _) (Nat.le_refl _))
        have HK2 : Hid (Below w.heap.size w (wr.alloc (.cells #[.int .u8 (n / 72057594037927936 % 256)] 5))) := Lib.hid (HB.out.alloc hsz _)
        go_wp2_with (first
          | (refine app5 (.tmp 9) (.tmp 15) rfl rfl w.heap.size _ lk [nb n 7] rfl HO2.out (wr.heap.size + 1) _ _ rfl HB2.out (by have := HL.out; simp only [List.length_cons, List.length_nil]; omega) (by simp; omega) ?_; intro v6 w6 h6 g6; have HO6 : Hid (Own5 w6 w.heap.size v6 (lk ++ [nb n 7])) := Lib.hid h6; have HB6 := Lib.hid (HK2.out.grown g6 HK2.out.size (En.own5_low HO2.out)); clear h6 g6)
          | fail)
        go_roundw
        case rel => exact ⟨1, by omega, by first | rfl | go_num, Lib.hid (by rw [HT.out]; exact HO6.out), HB6⟩
        case measure => simp [intOf]
      · generalize (eightB n).take 1 = lk at *
        have HB2 := Lib.hid (one_bts wr (n / 281474976710656 % 256) (nb n 6) (nb6 n))
        have HO2 : Hid (Own5 (wr.alloc (.cells #[.int .u8 (n / 281474976710656 % 256)] 5)) w.heap.size _ lk) := Lib.hid (own_kept HO.out ((Below.refl _ wr).alloc (Nat.le_refl _) _) (Nat.le_refl _))
        have HK2 : Hid (Below w.heap.size w (wr.alloc (.cells #[.int .u8 (n / 281474976710656 % 256)] 5))) := Lib.hid (HB.out.alloc hsz _)
        go_wp2_with (first
          | (refine app5 (.tmp 9) (.tmp 15) rfl rfl w.heap.size _ lk [nb n 6] rfl HO2.out (wr.heap.size + 1) _ _ rfl HB2.out (by have := HL.out; simp only [List.length_cons, List.length_nil]; omega) (by simp; omega) ?_; intro v6 w6 h6 g6; have HO6 : Hid (Own5 w6 w.heap.size v6 (lk ++ [nb n 6])) := Lib.hid h6; have HB6 := Lib.hid (HK2.out.grown g6 HK2.out.size (En.own5_low HO2.out)); clear h6 g6)
          | fail)
        go_roundw
        case rel => exact ⟨2, by omega, by first | rfl | go_num, Lib.hid (by rw [HT.out]; exact HO6.out), HB6⟩
        case measure => simp [intOf]
      · generalize (eightB n).take 2 = lk at *
        have HB2 := Lib.hid (one_bts wr (n / 1099511627776 % 256) (nb n 5) (nb5 n))
        have HO2 : Hid (Own5 (wr.alloc (.cells #[.int .u8 (n / 1099511627776 % 256)] 5)) w.heap.size _ lk) := Lib.hid (own_kept HO.out ((Below.refl _ wr).alloc (Nat.le_refl _) _) (Nat.le_refl _))
        have HK2 : Hid (Below w.heap.size w (wr.alloc (.cells #[.int .u8 (n / 1099511627776 % 256)] 5))) := Lib.hid (HB.out.alloc hsz _)
        go_wp2_with (first
          | (refine app5 (.tmp 9) (.tmp 15) rfl rfl w.heap.size _ lk [nb n 5] rfl HO2.out (wr.heap.size + 1) _ _ rfl HB2.out (by have := HL.out; simp only [List.length_cons, List.length_nil]; omega) (by simp; omega) ?_; intro v6 w6 h6 g6; have HO6 : Hid (Own5 w6 w.heap.size v6 (lk ++ [nb n 5])) := Lib.hid h6; have HB6 := Lib.hid (HK2.out.grown g6 HK2.out.size (En.own5_low HO2.out)); clear h6 g6)
          | fail)
        go_roundw
        case rel => exact ⟨3, by omega, by first | rfl | go_num, Lib.hid (by rw [HT.out]; exact HO6.out), HB6⟩
        case measure => simp [intOf]
      · generalize (eightB n).take 3 = lk at *
        have HB2 := Lib.hid (one_bts wr (n / 4294967296 % 256) (nb n 4) (nb4 n))
        have HO2 : Hid (Own5 (wr.alloc (.cells #[.int .u8 (n / 4294967296 % 256)] 5)) w.heap.size _ lk) := Lib.hid (own_kept HO.out ((Below.refl _ wr).alloc (Nat.le_refl _) _) (Nat.le_refl _))
        have HK2 : Hid (Below w.heap.size w (wr.alloc (.cells #[.int .u8 (n / 4294967296 % 256)] 5))) := Lib.hid (HB.out.alloc hsz _)
        go_wp2_with (first
          | (refine app5 (.tmp 9) (.tmp 15) rfl rfl w.heap.size _ lk [nb n 4] rfl HO2.out (wr.heap.size + 1) _ _ rfl HB2.out (by have := HL.out; simp only [List.length_cons, List.length_nil]; omega) (by simp; omega) ?_; intro v6 w6 h6 g6; have HO6 : Hid (Own5 w6 w.heap.size v6 (lk ++ [nb n 4])) := Lib.hid h6; have HB6 := Lib.hid (HK2.out.grown g6 HK2.out.size (En.own5_low HO2.out)); clear h6 g6)
          | fail)
        go_roundw
        case rel => exact ⟨4, by omega, by first | rfl | go_num, Lib.hid (by rw [HT.out]; exact HO6.out), HB6⟩
        case measure => simp [intOf]
      · generalize (eightB n).take 4 = lk at *
        have HB2 := Lib.hid (one_bts wr (n / 16777216 % 256) (nb n 3) (nb3 n))
        have HO2 : Hid (Own5 (wr.alloc (.cells #[.int .u8 (n / 16777216 % 256)] 5)) w.heap.size _ lk) := Lib.hid (own_kept HO.out ((Below.refl _ wr).alloc (Nat.le_refl _) _) (Nat.le_refl _))
        have HK2 : Hid (Below w.heap.size w (wr.alloc (.cells #[.int .u8 (n / 16777216 % 256)] 5))) := Lib.hid (HB.out.alloc hsz _)
        go_wp2_with (first
          | (refine app5 (.tmp 9) (.tmp 15) rfl rfl w.heap.size _ lk [nb n 3] rfl HO2.out (wr.heap.size + 1) _ _ rfl HB2.out (by have := HL.out; simp only [List.length_cons, List.length_nil]; omega) (by simp; omega) ?_; intro v6 w6 h6 g6; have HO6 : Hid (Own5 w6 w.heap.size v6 (lk ++ [nb n 3])) := Lib.hid h6; have HB6 := Lib.hid (HK2.out.grown g6 HK2.out.size (En.own5_low HO2.out)); clear h6 g6)
          | fail)
        go_roundw
        case rel => exact ⟨5, by omega, by first | rfl | go_num, Lib.hid (by rw [HT.out]; exact HO6.out), HB6⟩
        case measure => simp [intOf]
      · generalize (eightB n).take 5 = lk at *
        have HB2 := Lib.hid (one_bts wr (n / 65536 % 256) (nb n 2) (nb2 n))
        have HO2 : Hid (Own5 (wr.alloc (.cells #[.int .u8 (n / 65536 % 256)] 5)) w.heap.size _ lk) := Lib.hid (own_kept HO.out ((Below.refl _ wr).alloc (Nat.le_refl _) _) (Nat.le_refl _))
        have HK2 : Hid (Below w.heap.size w (wr.alloc (.cells #[.int .u8 (n / 65536 % 256)] 5))) := Lib.hid (HB.out.alloc hsz _)
        go_wp2_with (first
          | (refine app5 (.tmp 9) (.tmp 15) rfl rfl w.heap.size _ lk [nb n 2] rfl HO2.out (wr.heap.size + 1) _ _ rfl HB2.out (by have := HL.out; simp only [List.length_cons, List.length_nil]; omega) (by simp; omega) ?_; intro v6 w6 h6 g6; have HO6 : Hid (Own5 w6 w.heap.size v6 (lk ++ [nb n 2])) := Lib.hid h6; have HB6 := Lib.hid (HK2.out.grown g6 HK2.out.size (En.own5_low HO2.out)); clear h6 g6)
          | fail)
        go_roundw
        case rel => exact ⟨6, by omega, by first | rfl | go_num, Lib.hid (by rw [HT.out]; exact HO6.out), HB6⟩
        case measure => simp [intOf]
      · generalize (eightB n).take 6 = lk at *
        have HB2 := Lib.hid (one_bts wr (n / 256 % 256) (nb n 1) (nb1 n))
        have HO2 : Hid (Own5 (wr.alloc (.cells #[.int .u8 (n / 256 % 256)] 5)) w.heap.size _ lk) := Lib.hid (own_kept HO.out ((Below.refl _ wr).alloc (Nat.le_refl _) _) (Nat.le_refl _))
        have HK2 : Hid (Below w.heap.size w (wr.alloc (.cells #[.int .u8 (n / 256 % 256)] 5))) := Lib.hid (HB.out.alloc hsz _)
        go_wp2_with (first
          | (refine app5 (.tmp 9) (.tmp 15) rfl rfl w.heap.size _ lk [nb n 1] rfl HO2.out (wr.heap.size + 1) _ _ rfl HB2.out (by have := HL.out; simp only [List.length_cons, List.length_nil]; omega) (by simp; omega) ?_; intro v6 w6 h6 g6; have HO6 : Hid (Own5 w6 w.heap.size v6 (lk ++ [nb n 1])) := Lib.hid h6; have HB6 := Lib.hid (HK2.out.grown g6 HK2.out.size (En.own5_low HO2.out)); clear h6 g6)
          | fail)
        go_roundw
        case rel => exact ⟨7, by omega, by first | rfl | go_num, Lib.hid (by rw [HT.out]; exact HO6.out), HB6⟩
        case measure => simp [intOf]
      · generalize (eightB n).take 7 = lk at *
        have HB2 := Lib.hid (one_bts wr (n % 256) (nb n 0) (nb0 n))
        have HO2 : Hid (Own5 (wr.alloc (.cells #[.int .u8 (n % 256)] 5)) w.heap.size _ lk) := Lib.hid (own_kept HO.out ((Below.refl _ wr).alloc (Nat.le_refl _) _) (Nat.le_refl _))
        have HK2 : Hid (Below w.heap.size w (wr.alloc (.cells #[.int .u8 (n % 256)] 5))) := Lib.hid (HB.out.alloc hsz _)
        go_wp2_with (first
          | (refine app5 (.tmp 9) (.tmp 15) rfl rfl w.heap.size _ lk [nb n 0] rfl HO2.out (wr.heap.size + 1) _ _ rfl HB2.out (by have := HL.out; simp only [List.length_cons, List.length_nil]; omega) (by simp; omega) ?_; intro v6 w6 h6 g6; have HO6 : Hid (Own5 w6 w.heap.size v6 (lk ++ [nb n 0])) := Lib.hid h6; have HB6 := Lib.hid (HK2.out.grown g6 HK2.out.size (En.own5_low HO2.out)); clear h6 g6)
          | fail)
        go_roundw
        case rel => exact ⟨8, by omega, by first | rfl | go_num, Lib.hid (by rw [HT.out]; exact HO6.out), HB6⟩
        case measure => simp [intOf]
    · obtain rfl : k = 8 := by omega
      go_wp2_with fail
      go_ret
      exact ⟨_, rfl, by rw [← HE8.out]; exact HO.out, HB.out⟩
set_option maxHeartbeats 6400000 in
theorem renc_1 {w : World} {X : List Value} {r : R} (hR : RecAt w w.heap.size X r) (hs : SmallR r) (hG : En.GlT w) (hkd : r.kind = 1) :
    Calls Tryz.prog 10 #[.agg X.toArray] w (EncRP w (encR r)) := by
  have HOUT := Lib.hid (enc_1 hkd)
  generalize encR r = out at *
  have h00 : X[0]? = some (.int .i64 1) := by
    obtain ⟨v1, v2, rfl, _, _⟩ := hR
    rw [← hkd]
    rfl
  have HRW := Lib.hid (fun (W : World) (h : Below w.heap.size w W) => (hR.below h).more h.size)
  have HGT := Lib.hid (fun (W : World) (h : Below w.heap.size w W) => hG.below h hG.lt)
  have HB2 : Hid (Below w.heap.size w ((w.alloc (.cells X.toArray 36)).alloc (.cells #[.int .u8 1] 5))) := Lib.hid (below2 w _ _)
  have HX2 : Hid (BlkIs ((w.alloc (.cells X.toArray 36)).alloc (.cells #[.int .u8 1] 5)) w.heap.size 36 X.toArray) := Lib.hid ((BlkIs.new w _ _).alloc _)
  have HK2 : Hid (Own5 ((w.alloc (.cells X.toArray 36)).alloc (.cells #[.int .u8 1] 5)) w.heap.size (.slice (some ⟨w.heap.size + 1, 0, none⟩) 1 1) [1]) := Lib.hid (own_lit (b := 1) (BlkIs.new_at _ _ _ _ (by simp)) (by omega))
  have c00 : (w.alloc (.cells X.toArray 36)).cell? ⟨w.heap.size, 0, none⟩ = some (.int .i64 1) := (BlkIs.new w _ _).get h00
  have c01 : ((w.alloc (.cells X.toArray 36)).alloc (.cells #[.int .u8 1] 5)).cell? ⟨w.heap.size, 0, none⟩ = some (.int .i64 1) := HX2.out.get h00
  clear h00
  obtain ⟨v1, v2, rfl, _, hk⟩ := hR
  have HE : Hid (∀ W, Below w.heap.size w W → Calls Tryz.prog 24 #[.agg (mc r.msg v1 v2).toArray] W (En.REncP W r.msg)) := Lib.hid fun W h => by
    obtain ⟨v1', v2', e, hA, _⟩ := HRW.out W h
    have e' : mc r.msg v1 v2 = mc r.msg v1' v2' := by
      have h1 := congrArg (fun l => (l.drop 1).take 6) e
      simpa [rc, mc] using h1
    rw [e']
    exact En.rencode_any (hA.more (Nat.le_refl _)) hs.m (HGT.out W h)
  have HF := Lib.hid (fun (W : World) (h : BlkIs W w.heap.size 36 (rc r v1 v2).toArray) => (fields (blk_rng h) hk).m)
  have HI : Hid ((Tryz.prog.info? 27).map (·.size) = some (mc r.msg v1 v2).length) := Lib.hid isz_m
  have HLEN : Hid (En.okB r.msg = true → (En.putS (En.fldS r.msg)).length ≤ 600000) := Lib.hid fun h => En.enc_len h (by have := hs.m.v1; omega)
  unfold En.REncP at HE
  clear hk hs hG hkd HRW HGT
  generalize rc r v1 v2 = X at *
  generalize mc r.msg v1 v2 = Y at *
  generalize En.okB r.msg = ok at *
  generalize En.putS (En.fldS r.msg) = t at *
  go_enter Tryz.func10, Tryz.ntmps10
  go_upto_region 4 with fail
  generalize (w.alloc (.cells X.toArray 36)).alloc (.cells #[.int .u8 1] 5) = W2 at *
  have hsz2 := HB2.out.size
  clear c00 c01
  have hY := HF.out W2 HX2.out
  go_wp2_with (first
    | (refine wpList_load_mid rfl 27 (.tmp 20) rfl w.heap.size 1 rfl Y _ hY Tryz.underlying27 rfl HI.out ?_)
    | fail)
  refine (HE.out W2 HB2.out).mono ?_
  rintro e w3 ⟨hb3, ⟨rfl, v, rfl, ho⟩ | ⟨rfl, rfl⟩⟩
  · have HB3 := Lib.hid (HB2.out.trans (hb3.mono hsz2))
    have HK3 := Lib.hid (own_kept HK2.out hb3 (Nat.le_refl _))
    have HV := Lib.hid ho
    have HTL := Lib.hid (HLEN.out rfl)
    have hsz3 := HB3.out.size
    obtain ⟨A6, c6, rfl, _, _⟩ := own_slice ho
    clear hb3 ho hY HE HF HI HLEN HB2 HX2 HK2
    generalize htn : t.length = tn at *
    have HTN := Lib.hid htn
    clear htn
    go_wp2_with (first
      | (refine app5 (.tmp 28) (.tmp 29) rfl rfl w.heap.size _ [1] t rfl HK3.out _ _ _ (by rw [HTN.out]; rfl) HV.out.bts (by have := HTL.out; simp only [List.length_cons, List.length_nil]; rw [HTN.out]; omega) (by omega) ?_; intro v5 w5 h5 g5; have HO5 : Hid (Own5 w5 w.heap.size v5 ([1] ++ t)) := Lib.hid h5; have HB5 := Lib.hid (HB3.out.grown g5 HB3.out.size (En.own5_low HK3.out)); clear h5 g5)
      | fail)
    refine bodyPost_ret (results_tmp2 rfl _ _ _) rfl ?_
    rw [show out = (1 :: t, 0) from HOUT.out.trans (by simp)]
    unfold EncRP
    exact ⟨HB5.out, v5, rfl, .inl ⟨rfl, HO5.out⟩⟩
  · have HB3 := Lib.hid (HB2.out.trans (hb3.mono hsz2))
    clear hb3 hY HE HF HI HLEN HB2 HX2 HK2
    go_wp2_with fail
    refine bodyPost_ret (results_tmp2 rfl _ _ _) rfl ?_
    rw [show out = ([], 150) from HOUT.out.trans (by simp)]
    unfold EncRP
    exact ⟨HB3.out, _, rfl, .inr ⟨by decide, rfl⟩⟩
set_option maxHeartbeats 6400000 in
theorem renc_2 {w : World} {X : List Value} {r : R} (hR : RecAt w w.heap.size X r) (hkd : r.kind = 2) :
    Calls Tryz.prog 10 #[.agg X.toArray] w (EncRP w (encR r)) := by
  have HOUT := Lib.hid (enc_2 hkd)
  generalize encR r = out at *
  have h00 : X[0]? = some (.int .i64 2) := by
    obtain ⟨v1, v2, rfl, _, _⟩ := hR
    rw [← hkd]
    rfl
  have HB2 : Hid (Below w.heap.size w ((w.alloc (.cells X.toArray 36)).alloc (.cells #[.int .u8 2] 5))) := Lib.hid (below2 w _ _)
  have HX2 : Hid (BlkIs ((w.alloc (.cells X.toArray 36)).alloc (.cells #[.int .u8 2] 5)) w.heap.size 36 X.toArray) := Lib.hid ((BlkIs.new w _ _).alloc _)
  have HK2 : Hid (Own5 ((w.alloc (.cells X.toArray 36)).alloc (.cells #[.int .u8 2] 5)) w.heap.size (.slice (some ⟨w.heap.size + 1, 0, none⟩) 1 1) [2]) := Lib.hid (own_lit (b := 2) (BlkIs.new_at _ _ _ _ (by simp)) (by omega))
  have c00 : (w.alloc (.cells X.toArray 36)).cell? ⟨w.heap.size, 0, none⟩ = some (.int .i64 2) := (BlkIs.new w _ _).get h00
  have c01 : ((w.alloc (.cells X.toArray 36)).alloc (.cells #[.int .u8 2] 5)).cell? ⟨w.heap.size, 0, none⟩ = some (.int .i64 2) := HX2.out.get h00
  clear h00
  obtain ⟨v1, v2, rfl, _, hk⟩ := hR
  have HF := Lib.hid (fun (W : World) (h : BlkIs W w.heap.size 36 (rc r v1 v2).toArray) => (fields (blk_rng h) hk).p)
  have HLF := Lib.hid hk.leaf
  have HI : Hid ((Tryz.prog.info? 30).map (·.size) = some (pc r.pid r.pat r.leaf).length) := Lib.hid (by rw [pc_length hk.leaf]; exact isz_p)
  have HSZ : Hid ((pc r.pid r.pat r.leaf).toArray.size = 34) := Lib.hid (by rw [List.size_toArray, pc_length hk.leaf])
  have HALL : Hid ((pc r.pid r.pat r.leaf).toArray.all (·.oneCell') = true) := Lib.hid (Array.all_eq_true_iff_forall_mem.2 fun u hu => by
    have hu' : u ∈ pc r.pid r.pat r.leaf := by simpa using hu
    simp only [pc, List.mem_append, List.mem_cons, List.not_mem_nil, or_false] at hu'
    rcases hu' with rfl | hu' | rfl
    · rfl
    · exact bv_one _ u hu'
    · rfl)
  have H0 : Hid ((pc r.pid r.pat r.leaf)[0]? = some (.int .i64 r.pid)) := Lib.hid rfl
  have H33 := Lib.hid (pc_33 hk.leaf r.pid r.pat)
  have HBT : Hid (∀ (w : World) (P : Nat), BlkIs w P 30 (pc r.pid r.pat r.leaf).toArray → Bts w (P + 1) (some ⟨P, 1, none⟩) r.leaf) := Lib.hid fun w P hb j u hj => by
    have h1 : w.rangeAt P 0 ([.int .i64 r.pid] ++ (bv r.leaf ++ [.int .i64 r.pat])) := blk_rng hb
    have h2 := rng_l (rng_r h1 (n := 1) rfl)
    exact ⟨_, rfl, Nat.lt_succ_self _, by rw [add_at]; exact h2 j u hj⟩
  have HE := Lib.hid reight_any
  clear hk hkd
  generalize rc r v1 v2 = X at *
  generalize pc r.pid r.pat r.leaf = Y at *
  generalize r.pid = i at *
  generalize r.pat = t at *
  generalize r.leaf = lf at *
  have HIA : Hid ((Tryz.prog.info? 30).map (·.size) = some Y.toArray.size) := Lib.hid (by rw [HSZ.out]; exact isz_p)
  go_enter Tryz.func10, Tryz.ntmps10
  go_upto_region 9 with fail
  generalize (w.alloc (.cells X.toArray 36)).alloc (.cells #[.int .u8 2] 5) = W2 at *
  have hsz2 := HB2.out.size
  clear c00 c01
  have hY := HF.out W2 HX2.out
  go_upto_region 10 with (first
    | (refine wpList_load_mid rfl 30 (.tmp 33) rfl w.heap.size 7 rfl Y _ hY Tryz.underlying30 rfl HI.out ?_)
    | (refine store_bl (.tmp 7) (.tmp 34) 30 W2.heap.size 30 _ Y.toArray (BlkIs.new W2 _ _) rfl rfl rfl rfl rfl HIA.out (by rw [HSZ.out]; rfl) HALL.out ?_; intro w3 hb3 ht3)
    | fail)
  have hbW : Below W2.heap.size W2 w3 := ((Below.refl _ W2).alloc (Nat.le_refl _) _).trans (ht3.below (by simp) (fun i hi h => by omega))
  have HB3 := Lib.hid (HB2.out.trans (hbW.mono hsz2))
  have HK3 := Lib.hid (own_kept HK2.out hbW (Nat.le_refl _))
  have hsz3 := hbW.size
  have HP3 : Hid (BlkIs w3 W2.heap.size 30 Y.toArray) := Lib.hid hb3
  have c0 : w3.cell? ⟨W2.heap.size, 0, none⟩ = some (.int .i64 i) := hb3.get H0.out
  have c33 : w3.cell? ⟨W2.heap.size, 33, none⟩ = some (.int .i64 t) := hb3.get H33.out
  clear hb3 ht3 hbW hY HF HI HIA HSZ HALL HB2 HX2 HK2
  by_cases h1 : i < 1
  · go_wp2_with fail
    refine bodyPost_ret (results_tmp2 rfl _ _ _) rfl ?_
    rw [HOUT.out, if_neg (by omega)]
    unfold EncRP
    exact ⟨HB3.out, _, rfl, .inr ⟨by decide, rfl⟩⟩
  by_cases h2 : 1099511627776 < i
  · go_wp2_with fail
    refine bodyPost_ret (results_tmp2 rfl _ _ _) rfl ?_
    rw [HOUT.out, if_neg (by omega)]
    unfold EncRP
    exact ⟨HB3.out, _, rfl, .inr ⟨by decide, rfl⟩⟩
  by_cases h3 : t < 0
  · go_wp2_with fail
    refine bodyPost_ret (results_tmp2 rfl _ _ _) rfl ?_
    rw [HOUT.out, if_neg (by omega)]
    unfold EncRP
    exact ⟨HB3.out, _, rfl, .inr ⟨by decide, rfl⟩⟩
  have HQ : Hid (1 ≤ i ∧ i ≤ 1099511627776 ∧ 0 ≤ t) := Lib.hid ⟨by omega, by omega, by omega⟩
  go_wp2_with fail
  have HB5 : Hid (Below w.heap.size w w3.drew) := Lib.hid HB3.out.drew
  have HK5 : Hid (Own5 w3.drew w.heap.size (.slice (some ⟨w.heap.size + 1, 0, none⟩) 1 1) [2]) := Lib.hid HK3.out
  have HP5 : Hid (BlkIs w3.drew W2.heap.size 30 Y.toArray) := Lib.hid HP3.out
  have hsz5 : W2.heap.size ≤ w3.drew.heap.size := hsz3
  clear c0 c33 HB3 HK3 HP3 hsz3
  refine wp_region_held_drew (S := (fun Z => BlkIs Z W2.heap.size 30 Y.toArray)) (by kernel_rfl) (HP5.out) (fun hHeld => ?_)
  generalize w3.drew = w5 at *
  refine wpAnyH_take (i := 0) (v := .slice (some ⟨w.heap.size + 1, 0, none⟩) 1 1) rfl (by kernel_rfl) (by kernel_rfl) (by kernel_rfl) (fun _ _ _ h => h) (Or.inl ⟨by rfl, fun w hS => by first | (go_simp; done) | (go_simp; with_reducible rfl)⟩) hHeld ?_
  try simp only [Act.put, List.getElem_toArray, List.getElem_cons_zero, List.setIfInBounds_toArray, List.set_cons_zero, List.set_cons_succ]
  refine wpAnyH_take (i := 1) (v := .pointer (some ⟨W2.heap.size, 0, none⟩)) rfl (by kernel_rfl) (by kernel_rfl) (by kernel_rfl) (fun _ _ _ h => h) (Or.inl ⟨by rfl, fun w hS => by first | (go_simp; done) | (go_simp; with_reducible rfl)⟩) hHeld ?_
  try simp only [Act.put, List.getElem_toArray, List.getElem_cons_zero, List.getElem_cons_succ, List.setIfInBounds_toArray, List.set_cons_zero, List.set_cons_succ]
  refine wpAnyH_take (i := 2) (v := .int .i64 i) rfl (by kernel_rfl) (by kernel_rfl) (by kernel_rfl) (fun _ _ _ h => h) (Or.inl ⟨by rfl, fun w hS => by (have c := BlkIs.get hS H0.out; first | (go_simp; done) | (go_simp; with_reducible rfl))⟩) hHeld ?_
  try simp only [Act.put, List.getElem_toArray, List.getElem_cons_zero, List.getElem_cons_succ, List.setIfInBounds_toArray, List.set_cons_zero, List.set_cons_succ]
  refine wpAnyH_take (i := 5) (v := .pointer (some ⟨W2.heap.size, 33, none⟩)) rfl (by kernel_rfl) (by kernel_rfl) (by kernel_rfl) (fun _ _ _ h => h) (Or.inl ⟨by rfl, fun w hS => by first | (go_simp; done) | (go_simp; with_reducible rfl)⟩) hHeld ?_
  try simp only [Act.put, List.getElem_toArray, List.getElem_cons_zero, List.getElem_cons_succ, List.setIfInBounds_toArray, List.set_cons_zero, List.set_cons_succ]
  refine wpAnyH_take (i := 6) (v := .int .i64 t) rfl (by kernel_rfl) (by kernel_rfl) (by kernel_rfl) (fun _ _ _ h => h) (Or.inl ⟨by rfl, fun w hS => by (have c := BlkIs.get hS H33.out; first | (go_simp; done) | (go_simp; with_reducible rfl))⟩) hHeld ?_
  try simp only [Act.put, List.getElem_toArray, List.getElem_cons_zero, List.getElem_cons_succ, List.setIfInBounds_toArray, List.set_cons_zero, List.set_cons_succ]
  refine wpAnyH_take (i := 9) (v := .pointer (some ⟨W2.heap.size, 1, none⟩)) rfl (by kernel_rfl) (by kernel_rfl) (by kernel_rfl) (fun _ _ _ h => h) (Or.inl ⟨by rfl, fun w hS => by first | (go_simp; done) | (go_simp; with_reducible rfl)⟩) hHeld ?_
  try simp only [Act.put, List.getElem_toArray, List.getElem_cons_zero, List.getElem_cons_succ, List.setIfInBounds_toArray, List.set_cons_zero, List.set_cons_succ]
  refine wpAnyH_take (i := 10) (v := .slice (some ⟨W2.heap.size, 1, none⟩) 32 32) rfl (by kernel_rfl) (by kernel_rfl) (by kernel_rfl) (fun _ _ _ h => h) (Or.inl ⟨by rfl, fun w hS => by (have hsl := isl26o W2.heap.size 1; first | (go_simp; done) | (go_simp; with_reducible rfl))⟩) hHeld ?_
  try simp only [Act.put, List.getElem_toArray, List.getElem_cons_zero, List.getElem_cons_succ, List.setIfInBounds_toArray, List.set_cons_zero, List.set_cons_succ]
  refine wpAnyH_ready (rs := [3]) (by kernel_rfl) (by simp) ?_
  refine AllReadyH.cons rfl (fun K hK => ?_) AllReadyH.nil
  go_simp
  go_wp2_with ((refine (HE.out i _).mono ?_; rintro e w6 ⟨v6, rfl, ho6, hb6⟩))
  refine hK.out _ _ ?_ (fun hHeld => ?_)
  · exact (hb6.block _ HP5.out.lt).trans HP5.out
  clear hK K
  try simp only [Act.put, List.getElem_toArray, List.getElem_cons_zero, List.getElem_cons_succ, List.setIfInBounds_toArray, List.set_cons_zero, List.set_cons_succ]
  have HP6 : Hid (BlkIs w6 W2.heap.size 30 Y.toArray) := Lib.hid ((hb6.block _ HP5.out.lt).trans HP5.out)
  have HB6 := Lib.hid (HB5.out.trans (hb6.mono HB5.out.size))
  have HK6 := Lib.hid (own_kept HK5.out hb6 (Nat.le_refl _))
  have HV6 := Lib.hid ho6
  obtain ⟨A6, c6, rfl, _, _⟩ := own_slice ho6
  have hsz6 := HB6.out.size
  clear ho6 hb6 HB5 HK5 HP5
  refine wpAnyH_ready (rs := [4]) (by kernel_rfl) (by simp) ?_
  refine AllReadyH.cons rfl (fun K hK => ?_) AllReadyH.nil
  (refine En.step5 (.tmp 48) (.tmp 51) rfl rfl (N := w.heap.size) (l := [2]) (m := eightB i) rfl HK6.out (c := c6) rfl HV6.out.bts (by simp [eightB]) (by omega) ?_; intro v7 w7 h7 g7)
  refine hK.out _ _ ?_ (fun hHeld => ?_)
  · exact En.blk_own HK6.out HP6.out (by decide) g7
  clear hK K
  try simp only [Act.put, List.getElem_toArray, List.getElem_cons_zero, List.getElem_cons_succ, List.setIfInBounds_toArray, List.set_cons_zero, List.set_cons_succ]
  have HP7 : Hid (BlkIs w7 W2.heap.size 30 Y.toArray) := Lib.hid (En.blk_own HK6.out HP6.out (by decide) g7)
  have HB7 := Lib.hid (HB6.out.grown g7 HB6.out.size (En.own5_low HK6.out))
  have HK7 : Hid (Own5 w7 w.heap.size v7 ([2] ++ eightB i)) := Lib.hid h7
  have hsz7 := HB7.out.size
  clear h7 g7 HB6 HK6 HP6 HV6
  refine wpAnyH_ready (rs := [7]) (by kernel_rfl) (by simp) ?_
  refine AllReadyH.cons rfl (fun K hK => ?_) AllReadyH.nil
  go_simp
  go_wp2_with ((refine (HE.out t _).mono ?_; rintro e w8 ⟨v8, rfl, ho8, hb8⟩))
  refine hK.out _ _ ?_ (fun hHeld => ?_)
  · exact (hb8.block _ HP7.out.lt).trans HP7.out
  clear hK K
  try simp only [Act.put, List.getElem_toArray, List.getElem_cons_zero, List.getElem_cons_succ, List.setIfInBounds_toArray, List.set_cons_zero, List.set_cons_succ]
  have HP8 : Hid (BlkIs w8 W2.heap.size 30 Y.toArray) := Lib.hid ((hb8.block _ HP7.out.lt).trans HP7.out)
  have HB8 := Lib.hid (HB7.out.trans (hb8.mono HB7.out.size))
  have HK8 := Lib.hid (own_kept HK7.out hb8 (Nat.le_refl _))
  have HV8 := Lib.hid ho8
  obtain ⟨A8, c8, rfl, _, _⟩ := own_slice ho8
  have hsz8 := HB8.out.size
  clear ho8 hb8 HB7 HK7 HP7
  refine wpAnyH_ready (rs := [8]) (by kernel_rfl) (by simp) ?_
  refine AllReadyH.cons rfl (fun K hK => ?_) AllReadyH.nil
  (refine En.step5 (.tmp 52) (.tmp 55) rfl rfl (N := w.heap.size) (l := [2] ++ eightB i) (m := eightB t) rfl HK8.out (c := c8) rfl HV8.out.bts (by simp [eightB]) (by omega) ?_; intro v9 w9 h9 g9)
  refine hK.out _ _ ?_ (fun hHeld => ?_)
  · exact En.blk_own HK8.out HP8.out (by decide) g9
  clear hK K
  try simp only [Act.put, List.getElem_toArray, List.getElem_cons_zero, List.getElem_cons_succ, List.setIfInBounds_toArray, List.set_cons_zero, List.set_cons_succ]
  have HP9 : Hid (BlkIs w9 W2.heap.size 30 Y.toArray) := Lib.hid (En.blk_own HK8.out HP8.out (by decide) g9)
  have HB9 := Lib.hid (HB8.out.grown g9 HB8.out.size (En.own5_low HK8.out))
  have HK9 : Hid (Own5 w9 w.heap.size v9 ([2] ++ eightB i ++ eightB t)) := Lib.hid h9
  have HT9 := Lib.hid (HBT.out w9 _ HP9.out)
  have hsz9 := HB9.out.size
  clear h9 g9 HB8 HK8 HP8 HV8
  refine wpAnyH_ready (rs := [11]) (by kernel_rfl) (by simp) ?_
  refine AllReadyH.cons rfl (fun K hK => ?_) AllReadyH.nil
  (refine En.step5 (.tmp 56) (.tmp 58) rfl rfl (N := w.heap.size) (l := [2] ++ eightB i ++ eightB t) (m := lf) rfl HK9.out (c := 32) (by rw [HLF.out]; rfl) HT9.out (by rw [HLF.out]; simp [eightB]) (by omega) ?_; intro v10 w10 h10 g10)
  refine hK.out _ _ ?_ (fun hHeld => ?_)
  · exact En.blk_own HK9.out HP9.out (by decide) g10
  clear hK K
  try simp only [Act.put, List.getElem_toArray, List.getElem_cons_zero, List.getElem_cons_succ, List.setIfInBounds_toArray, List.set_cons_zero, List.set_cons_succ]
  have HB10 := Lib.hid (HB9.out.grown g10 HB9.out.size (En.own5_low HK9.out))
  have HK10 : Hid (Own5 w10 w.heap.size v10 ([2] ++ eightB i ++ eightB t ++ lf)) := Lib.hid h10
  clear h10 g10 HB9 HK9 HP9 HT9
  refine wpAnyH_take (i := 12) (v := v10) rfl (by kernel_rfl) (by kernel_rfl) (by kernel_rfl) (fun _ _ _ h => h) (Or.inl ⟨by rfl, fun w hS => by first | (go_simp; done) | (go_simp; with_reducible rfl)⟩) hHeld ?_
  try simp only [Act.put, List.getElem_toArray, List.getElem_cons_zero, List.getElem_cons_succ, List.setIfInBounds_toArray, List.set_cons_zero, List.set_cons_succ]
  refine wpAnyH_take (i := 13) (v := .int .i64 0) rfl (by kernel_rfl) (by kernel_rfl) (by kernel_rfl) (fun _ _ _ h => h) (Or.inl ⟨by rfl, fun w hS => by first | (go_simp; done) | (go_simp; with_reducible rfl)⟩) hHeld ?_
  try simp only [Act.put, List.getElem_toArray, List.getElem_cons_zero, List.getElem_cons_succ, List.setIfInBounds_toArray, List.set_cons_zero, List.set_cons_succ]
  refine wpAnyH_done (by kernel_rfl) ?_ _
  go_wp2_with fail
  refine bodyPost_ret (results_tmp2 rfl _ _ _) rfl ?_
  rw [HOUT.out, if_pos HQ.out]
  unfold EncRP
  exact ⟨HB10.out, v10, rfl, .inl ⟨rfl, by rw [show (2 :: (eightB i ++ (eightB t ++ lf)) : L) = [2] ++ eightB i ++ eightB t ++ lf by simp]; exact HK10.out⟩⟩
set_option maxHeartbeats 6400000 in
theorem renc_3 {w : World} {X : List Value} {r : R} (hR : RecAt w w.heap.size X r) (hkd : r.kind = 3) :
    Calls Tryz.prog 10 #[.agg X.toArray] w (EncRP w (encR r)) := by
  have HOUT := Lib.hid (enc_3 hkd)
  generalize encR r = out at *
  have h00 : X[0]? = some (.int .i64 3) := by
    obtain ⟨v1, v2, rfl, _, _⟩ := hR
    rw [← hkd]
    rfl
  have HB2 : Hid (Below w.heap.size w ((w.alloc (.cells X.toArray 36)).alloc (.cells #[.int .u8 3] 5))) := Lib.hid (below2 w _ _)
  have HX2 : Hid (BlkIs ((w.alloc (.cells X.toArray 36)).alloc (.cells #[.int .u8 3] 5)) w.heap.size 36 X.toArray) := Lib.hid ((BlkIs.new w _ _).alloc _)
  have HK2 : Hid (Own5 ((w.alloc (.cells X.toArray 36)).alloc (.cells #[.int .u8 3] 5)) w.heap.size (.slice (some ⟨w.heap.size + 1, 0, none⟩) 1 1) [3]) := Lib.hid (own_lit (b := 3) (BlkIs.new_at _ _ _ _ (by simp)) (by omega))
  have c00 : (w.alloc (.cells X.toArray 36)).cell? ⟨w.heap.size, 0, none⟩ = some (.int .i64 3) := (BlkIs.new w _ _).get h00
  have c01 : ((w.alloc (.cells X.toArray 36)).alloc (.cells #[.int .u8 3] 5)).cell? ⟨w.heap.size, 0, none⟩ = some (.int .i64 3) := HX2.out.get h00
  clear h00
  obtain ⟨v1, v2, rfl, _, hk⟩ := hR
  have HS := Lib.hid hk.sl
  have HF := Lib.hid (fun (W : World) (h : BlkIs W w.heap.size 36 (rc r v1 v2).toArray) => (fields (blk_rng h) hk).s)
  have HBY := Lib.hid (fun (W : World) => rbytes_any r.sl W hk.sl)
  have HPA := Lib.hid (fun (A : Option Addr) (B c : Nat) (w : World) (h : Bts w B A (bytesS r.sl)) (hB : B ≤ w.heap.size) (hc : 72 ≤ c) => rparse_any A B c (bytesS r.sl) w h hB (bytesS_length hk.sl) hc)
  have HX := Lib.hid (parseR_ok (bytesS r.sl))
  have HSM := Lib.hid (seal_same hk.sl)
  have HBL := Lib.hid (bytesS_length hk.sl)
  have HEQ := Lib.hid (fun w => run_eq39 (parseR (bytesS r.sl)).1 r.sl (parseR_ok _) hk.sl w)
  clear hk hkd
  generalize rc r v1 v2 = X at *
  generalize r.sl = s at *
  generalize (parseR (bytesS s)).1 = x at *
  generalize (parseR (bytesS s)).2 = er at *
  generalize bytesS s = b at *
  generalize sealB s = ok at *
  go_enter Tryz.func10, Tryz.ntmps10
  go_upto_region 14 with fail
  generalize (w.alloc (.cells X.toArray 36)).alloc (.cells #[.int .u8 3] 5) = W2 at *
  have hsz2 := HB2.out.size
  clear c00 c01
  have hY := HF.out W2 HX2.out
  go_wp2_with (first
    | (refine load_wt (by rfl) 32 (.tmp 62) rfl w.heap.size 41 rfl (sc s) _ hY Tryz.underlying32 rfl (isz39s HS.out) ?_)
    | fail)
  refine (HBY.out W2).mono ?_
  rintro e w3 ⟨A3, c3, rfl, hc3, hm3, hbt3, hb3⟩
  have HB3 := Lib.hid (HB2.out.trans (hb3.mono hsz2))
  have HK3 := Lib.hid (own_kept HK2.out hb3 (Nat.le_refl _))
  have HX3 : Hid (BlkIs w3 w.heap.size 36 X.toArray) := Lib.hid ((hb3.block _ HX2.out.lt).trans HX2.out)
  have HT3 := Lib.hid hbt3
  have hsz3 := HB3.out.size
  clear hb3 hbt3 hY HB2 HX2 HK2 HBY
  go_wp2_with fail
  refine (HPA.out _ _ c3 w3 HT3.out (Nat.le_refl _) hc3).mono ?_
  rintro e w4 ⟨rfl, hb4⟩
  have HB4 := Lib.hid (HB3.out.trans (hb4.mono HB3.out.size))
  have HK4 := Lib.hid (own_kept HK3.out hb4 (Nat.le_refl _))
  have HX4 : Hid (BlkIs w4 w.heap.size 36 X.toArray) := Lib.hid ((hb4.block _ HX3.out.lt).trans HX3.out)
  have HT4 := Lib.hid ((HT3.out.below hb4).more hb4.size)
  clear hb4 HB3 HK3 HX3 HT3 HPA
  go_upto_region 16 with (first
    | (refine store_bl (.tmp 9) (.tmp 68) 32 w4.heap.size 32 _ (sc x).toArray (BlkIs.new w4 _ _) rfl rfl rfl rfl rfl (isz39a HX.out) (sc_size zeroS_ok HX.out) (sc_all _) ?_; intro w5 hb5 ht5)
    | fail)
  have hbW : Below w4.heap.size w4 w5 := ((Below.refl _ w4).alloc (Nat.le_refl _) _).trans (ht5.below (by simp) (fun i hi h => by omega))
  have HB5 := Lib.hid (HB4.out.trans (hbW.mono HB4.out.size))
  have HK5 := Lib.hid (own_kept HK4.out hbW (Nat.le_refl _))
  have HT5 := Lib.hid ((HT4.out.below hbW).more hbW.size)
  have r9 : w5.rangeAt w4.heap.size 0 (sc x) := blk_rng hb5
  have r1 : w5.rangeAt w.heap.size 41 (sc s) := HF.out w5 ((hbW.block _ HX4.out.lt).trans HX4.out)
  have hsz5 := HB5.out.size
  clear hb5 ht5 hbW HB4 HK4 HX4 HT4 HF
  rcases HSM.out with ⟨h1, h2, h3⟩ | ⟨h3, h1 | ⟨h1, h2⟩⟩
  · subst h1
    rw [h2] at HEQ
    have heq := HEQ.out
    subst h3
    clear h2 HSM
    go_upto_region 18 with (first
      | (refine load_wt (by rfl) 32 (.tmp 9) rfl w4.heap.size 0 rfl (sc x) _ r9 Tryz.underlying32 rfl (isz39s HX.out) ?_)
      | (refine load_wt (by rfl) 32 (.tmp 74) rfl w.heap.size 41 rfl (sc s) _ r1 Tryz.underlying32 rfl (isz39s HS.out) ?_)
      | fail)
    clear heq HEQ
    go_wp2_with (first
      | (refine app5 (.tmp 78) (.tmp 79) rfl rfl w.heap.size _ [3] b rfl HK5.out _ _ _ (by rw [HBL.out]; rfl) HT5.out (by rw [HBL.out]; simp) (by omega) ?_; intro v6 w6 h6 g6; have HO6 : Hid (Own5 w6 w.heap.size v6 ([3] ++ b)) := Lib.hid h6; have HB6 := Lib.hid (HB5.out.grown g6 HB5.out.size (En.own5_low HK5.out)); clear h6 g6)
      | fail)
    refine bodyPost_ret (results_tmp2 rfl _ _ _) rfl ?_
    rw [show out = (3 :: b, 0) from HOUT.out.trans (by simp)]
    unfold EncRP
    exact ⟨HB6.out, v6, rfl, .inl ⟨rfl, HO6.out⟩⟩
  · subst h1
    subst h3
    clear HSM HEQ
    go_wp2_with fail
    refine bodyPost_ret (results_tmp2 rfl _ _ _) rfl ?_
    rw [show out = ([], 160) from HOUT.out.trans (by simp)]
    unfold EncRP
    exact ⟨HB5.out, _, rfl, .inr ⟨by decide, rfl⟩⟩
  · subst h1
    rw [h2] at HEQ
    have heq := HEQ.out
    subst h3
    clear h2 HSM
    go_wp2_with (first
      | (refine load_wt (by rfl) 32 (.tmp 9) rfl w4.heap.size 0 rfl (sc x) _ r9 Tryz.underlying32 rfl (isz39s HX.out) ?_)
      | (refine load_wt (by rfl) 32 (.tmp 74) rfl w.heap.size 41 rfl (sc s) _ r1 Tryz.underlying32 rfl (isz39s HS.out) ?_)
      | fail)
    refine bodyPost_ret (results_tmp2 rfl _ _ _) rfl ?_
    rw [show out = ([], 160) from HOUT.out.trans (by simp)]
    unfold EncRP
    exact ⟨HB5.out, _, rfl, .inr ⟨by decide, rfl⟩⟩
end Rc
end Go.Proofs.YteapnkedpmcokaaGreatDoor
/- The document's EncodeRecord at holds, lifts, no kind; at any record. Conditions: as stated at each. -/
namespace Go.Proofs.YteapnkedpmcokaaGreatDoor
set_option maxRecDepth 100000
namespace Rc
open Go.RowKit Go Go.Proofs.YteapnkedpmcokaaGreatDoor.Pa
attribute [local go_sem] Oper.semAt_some
set_option maxHeartbeats 6400000 in
theorem renc_4 {w : World} {X : List Value} {r : R} (hR : RecAt w w.heap.size X r) (hs : SmallR r) (hG : En.GlT w) (hkd : r.kind = 4) :
    Calls Tryz.prog 10 #[.agg X.toArray] w (EncRP w (encR r)) := by
  have HOUT := Lib.hid (enc_4 hkd)
  generalize encR r = out at *
  have h00 : X[0]? = some (.int .i64 4) := by
    obtain ⟨v1, v2, rfl, _, _⟩ := hR
    rw [← hkd]
    rfl
  have HRW := Lib.hid (fun (W : World) (h : Below w.heap.size w W) => (hR.below h).more h.size)
  have HGT := Lib.hid (fun (W : World) (h : Below w.heap.size w W) => hG.below h hG.lt)
  have HB2 : Hid (Below w.heap.size w ((w.alloc (.cells X.toArray 36)).alloc (.cells #[.int .u8 4] 5))) := Lib.hid (below2 w _ _)
  have HX2 : Hid (BlkIs ((w.alloc (.cells X.toArray 36)).alloc (.cells #[.int .u8 4] 5)) w.heap.size 36 X.toArray) := Lib.hid ((BlkIs.new w _ _).alloc _)
  have HK2 : Hid (Own5 ((w.alloc (.cells X.toArray 36)).alloc (.cells #[.int .u8 4] 5)) w.heap.size (.slice (some ⟨w.heap.size + 1, 0, none⟩) 1 1) [4]) := Lib.hid (own_lit (b := 4) (BlkIs.new_at _ _ _ _ (by simp)) (by omega))
  have c00 : (w.alloc (.cells X.toArray 36)).cell? ⟨w.heap.size, 0, none⟩ = some (.int .i64 4) := (BlkIs.new w _ _).get h00
  have c01 : ((w.alloc (.cells X.toArray 36)).alloc (.cells #[.int .u8 4] 5)).cell? ⟨w.heap.size, 0, none⟩ = some (.int .i64 4) := HX2.out.get h00
  clear h00
  obtain ⟨v1, v2, rfl, _, hk⟩ := hR
  have HF := Lib.hid (fun (W : World) (h : BlkIs W w.heap.size 36 (rc r v1 v2).toArray) => (fields (blk_rng h) hk).h)
  have HMY := Lib.hid (fun (X : World) => Ho.rhold_any (r.nm, r.who) X (by have := hs.nm; show r.nm.length ≤ _; omega) (by have := hs.who; show r.who.length ≤ _; omega))
  have HC0 := Lib.hid (En.run_bts r.nm (by have := hs.nm; omega))
  have HC1 := Lib.hid (En.run_bts r.who (by have := hs.who; omega))
  have HTL := Lib.hid (put_two_len hs.nm hs.who)
  have HPU : Hid (∀ (X : World) (x y : Value), Below w.heap.size w X → En.SlV X x r.nm → En.SlV X y r.who → Calls Tryz.prog 29 #[.slice (some ⟨X.heap.size, 0, none⟩) 2 2] (X.alloc (.cells #[x, y] 25)) (En.OutP (X.alloc (.cells #[x, y] 25)) (En.putS [r.nm, r.who]))) := Lib.hid fun X x y hX hx hy =>
    En.rput_any ((En.rws_two hx hy).more (by simp)) 2 2 rfl (by have := HTL.out; omega) (HGT.out _ (hX.alloc hX.size _))
  unfold En.OutP En.SlV at HPU
  simp only at HMY
  have hh := HF.out
  unfold hc at hh
  have HC7 : Hid (∀ (W : World), BlkIs W w.heap.size 36 (rc r v1 v2).toArray → W.cell? ⟨w.heap.size, 107, none⟩ = some (.string (str r.nm)) ∧ W.cell? ⟨w.heap.size, 108, none⟩ = some (.string (str r.who))) := Lib.hid fun W h => ⟨hh W h 0 _ rfl, hh W h 1 _ rfl⟩
  clear hk hs hG hkd HRW HGT HF hh
  generalize rc r v1 v2 = X at *
  generalize Ho.holdS (r.nm, r.who) = ok at *
  generalize En.putS [r.nm, r.who] = t at *
  generalize str r.nm = s0 at *
  generalize str r.who = s1 at *
  generalize r.nm = nm at *
  generalize r.who = wh at *
  go_enter Tryz.func10, Tryz.ntmps10
  go_upto_region 20 with fail
  generalize (w.alloc (.cells X.toArray 36)).alloc (.cells #[.int .u8 4] 5) = W2 at *
  have hsz2 := HB2.out.size
  clear c00 c01
  obtain ⟨c107, c108⟩ := HC7.out W2 HX2.out
  go_wp2_with fail
  refine (HMY.out W2).mono ?_
  rintro e w3 ⟨rfl, hb3⟩
  have HB3 := Lib.hid (HB2.out.trans (hb3.mono hsz2))
  have HK3 := Lib.hid (own_kept HK2.out hb3 (Nat.le_refl _))
  have HX3 : Hid (BlkIs w3 w.heap.size 36 X.toArray) := Lib.hid ((hb3.block _ HX2.out.lt).trans HX2.out)
  have hsz3 := HB3.out.size
  clear hb3 HB2 HK2 HX2 HMY c107 c108
  cases ok with
  | false =>
    go_wp2_with fail
    refine bodyPost_ret (results_tmp2 rfl _ _ _) rfl ?_
    rw [show out = ([], 160) from HOUT.out.trans (by simp)]
    unfold EncRP
    exact ⟨HB3.out, _, rfl, .inr ⟨by decide, rfl⟩⟩
  | true =>
    obtain ⟨c107, _⟩ := HC7.out w3 HX3.out
    obtain ⟨c0, w4, hrun0, h0c, h0m, h0b, h0k, h0s⟩ := HC0.out w3
    replace h0s := Lib.hid h0s
    have HX4 : BlkIs w4 w.heap.size 36 X.toArray := (h0k.block _ HX3.out.lt).trans HX3.out
    obtain ⟨_, c108⟩ := HC7.out w4 HX4
    obtain ⟨c1, w5, hrun1, h1c, h1m, h1b, h1k, h1s⟩ := HC1.out w4
    replace h1s := Lib.hid h1s
    have HB5 := Lib.hid (HB3.out.trans ((h0k.trans (h1k.mono h0k.size)).mono hsz3))
    have HT0 := Lib.hid ((h0b.below (h1k.mono (by have := h0s.out; omega))).more (by have := h0s.out; have := h1k.size; omega : w3.heap.size + 1 ≤ w5.heap.size))
    have HT1 := Lib.hid (h1b.more (by have := h1s.out; omega : w4.heap.size + 1 ≤ w5.heap.size))
    have HB6 := Lib.hid (HB5.out.alloc HB5.out.size (.cells #[.slice (some ⟨w3.heap.size, 0, none⟩) nm.length c0, .slice (some ⟨w4.heap.size, 0, none⟩) wh.length c1] 25))
    have HK6 : Hid (Own5 (w5.alloc (.cells #[.slice (some ⟨w3.heap.size, 0, none⟩) nm.length c0, .slice (some ⟨w4.heap.size, 0, none⟩) wh.length c1] 25)) w.heap.size _ [4]) := Lib.hid (own_kept HK3.out ((h0k.trans (h1k.mono h0k.size)).trans ((Below.refl _ w5).alloc (by have := h0k.size; have := h1k.size; omega) _)) (Nat.le_refl _))
    have HPV := Lib.hid (HPU.out w5 (.slice (some ⟨w3.heap.size, 0, none⟩) nm.length c0) (.slice (some ⟨w4.heap.size, 0, none⟩) wh.length c1) HB5.out ⟨_, c0, rfl, HT0.out, h0c, h0m⟩ ⟨_, c1, rfl, HT1.out, h1c, h1m⟩)
    clear h0c h0m h0b h0k h0s h1c h1m h1b h1k h1s HT0 HT1 HPU HC0 HC1 HX3 HX4 HC7 HB5 HB3 HK3
    generalize nm.length = n0 at *
    generalize wh.length = n1 at *
    go_wp2_with fail
    refine HPV.out.mono ?_
    rintro e w8 ⟨v8, rfl, ho8, hb8⟩
    have HB8 := Lib.hid (HB6.out.trans (hb8.mono HB6.out.size))
    have HK8 := Lib.hid (own_kept HK6.out hb8 (Nat.le_refl _))
    have HV8 := Lib.hid ho8
    obtain ⟨A8, c8, rfl, _, _⟩ := own_slice ho8
    have hsz8 := HB8.out.size
    clear ho8 hb8 HPV HB6 HK6 hrun0 hrun1 c107 c108
    generalize htn : t.length = tn at *
    have HTN := Lib.hid htn
    clear htn
    go_wp2_with (first
      | (refine app5 (.tmp 87) (.tmp 97) rfl rfl w.heap.size _ [4] t rfl HK8.out _ _ _ (by rw [HTN.out]; rfl) HV8.out.bts (by have := HTL.out; simp only [List.length_cons, List.length_nil]; rw [HTN.out]; omega) (by omega) ?_; intro v9 w9 h9 g9; have HO9 : Hid (Own5 w9 w.heap.size v9 ([4] ++ t)) := Lib.hid h9; have HB9 := Lib.hid (HB8.out.grown g9 HB8.out.size (En.own5_low HK8.out)); clear h9 g9)
      | fail)
    refine bodyPost_ret (results_tmp2 rfl _ _ _) rfl ?_
    rw [show out = (4 :: t, 0) from HOUT.out.trans (by simp)]
    unfold EncRP
    exact ⟨HB9.out, v9, rfl, .inl ⟨rfl, HO9.out⟩⟩
set_option maxHeartbeats 6400000 in
theorem renc_5 {w : World} {X : List Value} {r : R} (hR : RecAt w w.heap.size X r) (hs : SmallR r) (hG : En.GlT w) (hkd : r.kind = 5) :
    Calls Tryz.prog 10 #[.agg X.toArray] w (EncRP w (encR r)) := by
  have HOUT := Lib.hid (enc_5 hkd)
  generalize encR r = out at *
  have h00 : X[0]? = some (.int .i64 5) := by
    obtain ⟨v1, v2, rfl, _, _⟩ := hR
    rw [← hkd]
    rfl
  have HRW := Lib.hid (fun (W : World) (h : Below w.heap.size w W) => (hR.below h).more h.size)
  have HGT := Lib.hid (fun (W : World) (h : Below w.heap.size w W) => hG.below h hG.lt)
  have HB2 : Hid (Below w.heap.size w ((w.alloc (.cells X.toArray 36)).alloc (.cells #[.int .u8 5] 5))) := Lib.hid (below2 w _ _)
  have HX2 : Hid (BlkIs ((w.alloc (.cells X.toArray 36)).alloc (.cells #[.int .u8 5] 5)) w.heap.size 36 X.toArray) := Lib.hid ((BlkIs.new w _ _).alloc _)
  have HK2 : Hid (Own5 ((w.alloc (.cells X.toArray 36)).alloc (.cells #[.int .u8 5] 5)) w.heap.size (.slice (some ⟨w.heap.size + 1, 0, none⟩) 1 1) [5]) := Lib.hid (own_lit (b := 5) (BlkIs.new_at _ _ _ _ (by simp)) (by omega))
  have c00 : (w.alloc (.cells X.toArray 36)).cell? ⟨w.heap.size, 0, none⟩ = some (.int .i64 5) := (BlkIs.new w _ _).get h00
  have c01 : ((w.alloc (.cells X.toArray 36)).alloc (.cells #[.int .u8 5] 5)).cell? ⟨w.heap.size, 0, none⟩ = some (.int .i64 5) := HX2.out.get h00
  clear h00
  obtain ⟨v1, v2, rfl, _, hk⟩ := hR
  have HF := Lib.hid (fun (W : World) (h : BlkIs W w.heap.size 36 (rc r v1 v2).toArray) => (fields (blk_rng h) hk).h)
  have HMY : Hid (∀ X, Calls Tryz.prog 28 #[.agg #[.string (str r.nm), .string ⟨#[]⟩]] X fun e w' => e = .returned (.bool (Ho.holdS (r.nm, []))) ∧ Below X.heap.size X w') := Lib.hid (fun (X : World) => Ho.rhold_any (r.nm, []) X (by have := hs.nm; show r.nm.length ≤ _; omega) (by simp))
  have HC0 := Lib.hid (En.run_bts r.nm (by have := hs.nm; omega))
  have HTL := Lib.hid (put_one_len hs.nm)
  have HPU : Hid (∀ (X : World) (A : Option Addr) (c : Nat), Below w.heap.size w X → Bts X X.heap.size A r.nm → r.nm.length ≤ c → c ≤ maxLen → Calls Tryz.prog 29 #[.slice (some ⟨X.heap.size, 0, none⟩) 1 1] (X.alloc (.cells #[.slice A r.nm.length c] 25)) (En.OutP (X.alloc (.cells #[.slice A r.nm.length c] 25)) (En.putS [r.nm]))) := Lib.hid fun X A c hX hx h1 h2 =>
    En.rput_any ((Rws.one hx (Nat.le_refl _) h1 h2).more (by simp)) 1 1 rfl (by have := HTL.out; omega) (HGT.out _ (hX.alloc hX.size _))
  unfold En.OutP at HPU
  have hh := HF.out
  unfold hc at hh
  have HC7 : Hid (∀ (W : World), BlkIs W w.heap.size 36 (rc r v1 v2).toArray → W.cell? ⟨w.heap.size, 107, none⟩ = some (.string (str r.nm))) := Lib.hid fun W h => hh W h 0 _ rfl
  clear hk hs hG hkd HRW HGT HF hh
  generalize rc r v1 v2 = X at *
  generalize Ho.holdS (r.nm, []) = ok at *
  generalize En.putS [r.nm] = t at *
  generalize str r.nm = s0 at *
  generalize r.nm = nm at *
  go_enter Tryz.func10, Tryz.ntmps10
  go_upto_region 24 with fail
  generalize (w.alloc (.cells X.toArray 36)).alloc (.cells #[.int .u8 5] 5) = W2 at *
  have hsz2 := HB2.out.size
  clear c00 c01
  have c107 := HC7.out W2 HX2.out
  go_wp2_with fail
  refine (HMY.out W2).mono ?_
  rintro e w3 ⟨rfl, hb3⟩
  have HB3 := Lib.hid (HB2.out.trans (hb3.mono hsz2))
  have HK3 := Lib.hid (own_kept HK2.out hb3 (Nat.le_refl _))
  have HX3 : Hid (BlkIs w3 w.heap.size 36 X.toArray) := Lib.hid ((hb3.block _ HX2.out.lt).trans HX2.out)
  have hsz3 := HB3.out.size
  clear hb3 HB2 HK2 HX2 HMY c107
  cases ok with
  | false =>
    go_wp2_with fail
    refine bodyPost_ret (results_tmp2 rfl _ _ _) rfl ?_
    rw [show out = ([], 160) from HOUT.out.trans (by simp)]
    unfold EncRP
    exact ⟨HB3.out, _, rfl, .inr ⟨by decide, rfl⟩⟩
  | true =>
    have c107 := HC7.out w3 HX3.out
    obtain ⟨c0, w5, hrun0, h0c, h0m, h0b, h0k, h0s⟩ := HC0.out w3
    replace h0s := Lib.hid h0s
    have HB5 := Lib.hid (HB3.out.trans (h0k.mono hsz3))
    have HT0 := Lib.hid (h0b.more (by have := h0s.out; omega : w3.heap.size + 1 ≤ w5.heap.size))
    have HB6 := Lib.hid (HB5.out.alloc HB5.out.size (.cells #[.slice (some ⟨w3.heap.size, 0, none⟩) nm.length c0] 25))
    have HK6 : Hid (Own5 (w5.alloc (.cells #[.slice (some ⟨w3.heap.size, 0, none⟩) nm.length c0] 25)) w.heap.size _ [5]) := Lib.hid (own_kept HK3.out (h0k.trans ((Below.refl _ w5).alloc h0k.size _)) (Nat.le_refl _))
    have HPV := Lib.hid (HPU.out w5 (some ⟨w3.heap.size, 0, none⟩) c0 HB5.out HT0.out h0c h0m)
    clear h0c h0m h0b h0k h0s HT0 HPU HC0 HX3 HC7 HB5 HB3 HK3
    generalize nm.length = n0 at *
    go_wp2_with fail
    refine HPV.out.mono ?_
    rintro e w8 ⟨v8, rfl, ho8, hb8⟩
    have HB8 := Lib.hid (HB6.out.trans (hb8.mono HB6.out.size))
    have HK8 := Lib.hid (own_kept HK6.out hb8 (Nat.le_refl _))
    have HV8 := Lib.hid ho8
    obtain ⟨A8, c8, rfl, _, _⟩ := own_slice ho8
    have hsz8 := HB8.out.size
    clear ho8 hb8 HPV HB6 HK6 hrun0 c107
    generalize htn : t.length = tn at *
    have HTN := Lib.hid htn
    clear htn
    go_wp2_with (first
      | (refine app5 (.tmp 107) (.tmp 113) rfl rfl w.heap.size _ [5] t rfl HK8.out _ _ _ (by rw [HTN.out]; rfl) HV8.out.bts (by have := HTL.out; simp only [List.length_cons, List.length_nil]; rw [HTN.out]; omega) (by omega) ?_; intro v9 w9 h9 g9; have HO9 : Hid (Own5 w9 w.heap.size v9 ([5] ++ t)) := Lib.hid h9; have HB9 := Lib.hid (HB8.out.grown g9 HB8.out.size (En.own5_low HK8.out)); clear h9 g9)
      | fail)
    refine bodyPost_ret (results_tmp2 rfl _ _ _) rfl ?_
    rw [show out = (5 :: t, 0) from HOUT.out.trans (by simp)]
    unfold EncRP
    exact ⟨HB9.out, v9, rfl, .inl ⟨rfl, HO9.out⟩⟩
set_option maxHeartbeats 1600000 in
theorem renc_no {w : World} {X : List Value} {r : R} (hR : RecAt w w.heap.size X r) (hk1 : r.kind ≠ 1) (hk2 : r.kind ≠ 2) (hk3 : r.kind ≠ 3) (hk4 : r.kind ≠ 4) (hk5 : r.kind ≠ 5) :
    Calls Tryz.prog 10 #[.agg X.toArray] w (EncRP w (encR r)) := by
  rw [enc_no hk1 hk2 hk3 hk4 hk5]
  have h00 : X[0]? = some (.int .i64 r.kind) := by
    obtain ⟨v1, v2, rfl, _, _⟩ := hR
    rfl
  clear hR
  generalize r.kind = k at *
  have q1 : (k == 1) = false := by simpa using hk1
  have q2 : (k == 2) = false := by simpa using hk2
  have q3 : (k == 3) = false := by simpa using hk3
  have q4 : (k == 4) = false := by simpa using hk4
  have q5 : (k == 5) = false := by simpa using hk5
  have HB2 : Hid (Below w.heap.size w ((w.alloc (.cells X.toArray 36)).alloc (.cells #[.int .u8 (k % 256)] 5))) := Lib.hid (below2 w _ _)
  have c00 : (w.alloc (.cells X.toArray 36)).cell? ⟨w.heap.size, 0, none⟩ = some (.int .i64 k) := (BlkIs.new w 36 _).get h00
  have c01 : ((w.alloc (.cells X.toArray 36)).alloc (.cells #[.int .u8 (k % 256)] 5)).cell? ⟨w.heap.size, 0, none⟩ = some (.int .i64 k) := ((BlkIs.new w 36 _).alloc _).get h00
  clear h00
  go_enter Tryz.func10, Tryz.ntmps10
  go_wp2_with fail
  refine bodyPost_ret (results_tmp2 rfl _ _ _) rfl ?_
  unfold EncRP
  exact ⟨HB2.out, _, rfl, .inr ⟨by decide, rfl⟩⟩
theorem rEncode_any {w : World} {X : List Value} {r : R} (hR : RecAt w w.heap.size X r) (hs : SmallR r) (hG : En.GlT w) :
    Calls Tryz.prog 10 #[.agg X.toArray] w (EncRP w (encR r)) := by
  by_cases h1 : r.kind = 1
  · exact renc_1 hR hs hG h1
  by_cases h2 : r.kind = 2
  · exact renc_2 hR h2
  by_cases h3 : r.kind = 3
  · exact renc_3 hR h3
  by_cases h4 : r.kind = 4
  · exact renc_4 hR hs hG h4
  by_cases h5 : r.kind = 5
  · exact renc_5 hR hs hG h5
  exact renc_no hR h1 h2 h3 h4 h5
end Rc
end Go.Proofs.YteapnkedpmcokaaGreatDoor
