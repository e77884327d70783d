/- The document's Stuff. Conditions: as stated at each. -/
import Derived.Test.YtdbmcbnohldolaaDtLines
namespace Go.Proofs.Ytdbmcbnohldolaa
set_option maxRecDepth 100000
namespace Dt
open Go.RowKit Go Go.Proofs.Ytdbmcbnohldolaa.Hd
set_option maxHeartbeats 1600000 in
theorem rstuff_any {w : World} {A : Option Addr} {l : L} (h : Bts w w.heap.size A l) (c : Nat) (hl : l.length ≤ 100000) :
    Calls Try.prog 14 #[.slice A l.length c] w fun e w' => ∃ v, e = .returned v ∧ Own5 w' w.heap.size v (stuff l) ∧ Below w.heap.size w w' := by
  have HC := Lib.hid (rclose_any h (Nat.le_refl _) c (by omega))
  have hcl := close_len l
  have hwl := wire_bound l
  have HLB := Lib.hid (lines_line (close l))
  have HLL := Lib.hid (lines_len (close l))
  have hst : stuff l = wire (lines (close l)) ++ [46, 13, 10] := rfl
  rw [hst]
  have HLI : Hid (∀ w A c, Bts w w.heap.size A (close l) → (close l).length ≤ c → c ≤ maxLen → Calls Try.prog 21 #[.slice A (close l).length c] w (LinesP w (lines (close l)))) := Lib.hid fun w A c h1 h2 h3 => rlines_any h1 c h2 h3 (by omega)
  have hm : (lines (close l)).length ≤ 200000 := Nat.le_trans (lines_count _) (by omega)
  clear h hst
  generalize l.length = n at *
  generalize hls : lines (close l) = ls at *
  clear hls
  go_enter Try.func14, Try.ntmps14
  go_wp2_with fail
  refine HC.out.mono ?_
  rintro e w1 ⟨v1, rfl, ho1, hb1⟩
  obtain ⟨A1, c1, rfl, hc1, hm1⟩ := own_slice ho1
  have HO1 := Lib.hid ho1
  clear ho1
  have HL2 := Lib.hid (HLI.out w1 A1 c1 (Own5.bts HO1.out) hc1 hm1)
  generalize (close l).length = nc at *
  have HB1 := Lib.hid hb1
  go_wp2_with fail
  refine HL2.out.mono ?_
  rintro e w2 ⟨v2, y2, rfl, hr2, hb2⟩
  obtain ⟨A2, c2, rfl, hc2, hm2⟩ := hr2.slice
  have HR2 := Lib.hid hr2
  have HB2 := Lib.hid hb2
  have hs1 := hb1.size
  have hs2 := hb2.size
  clear hr2
  generalize hml : ls.length = m at *
  have HM := Lib.hid hml
  clear hml
  unfold maxLen at *
  go_wp2_with fail
  go_loopw [3, 16] (fun x z wr => ∃ k : Nat, k ≤ m ∧ z = .int .i64 k ∧ Own5 wr w1.heap.size x (wire (ls.take k)) ∧ RowS wr w1.heap.size w1.heap.size (.slice A2 m c2) ls ∧ Below w1.heap.size w1 wr) (fun _ z _ => m - (intOf z).toNat)
  case atStart => exact ⟨0, Nat.zero_le _, rfl, Own5.nil _ _, HR2.out, HB2.out⟩
  case round =>
    obtain ⟨k, hk, rfl, hown, hrow, hbel⟩ := hrel
    have HOW := Lib.hid hown
    have HRW := Lib.hid hrow
    have HBE := Lib.hid hbel
    have hsz := hbel.size
    clear hown hrow hbel
    by_cases hlt : k < m
    · have hk' : k < ls.length := by rw [HM.out]; exact hlt
      obtain ⟨g, A3, c3, rfl, hg, hcell, hc3, hm3, hbt⟩ := HRW.out.at_ hk'
      have hx2 := (HLB.out _ (get_mem hk')).len
      have hxl := HLL.out _ (get_mem hk')
      have HTN := Lib.hid (take_next hk')
      have HWT : Hid ((wire (ls.take k)).length ≤ 300000) := Lib.hid (Nat.le_trans (wire_take ls k) (by omega))
      have hfit := wire_take ls (k + 1)
      obtain ⟨g3, o3, rfl, hg3, hb3⟩ := bts_at_ hbt (by omega)
      have hc0 := hb3 0 (by omega)
      rw [Nat.add_zero] at hc0
      have e0 : ((((ls.getD k []).getD 0 0).toNat : Int) == 46) = ((ls.getD k []).getD 0 0 == 46) := eq_byte _ 46
      have HD1 := Lib.hid (fun h => (dot_t (x := ls.getD k []) h hx2).1)
      have HD2 := Lib.hid (fun h => (dot_f (x := ls.getD k []) h).1)
      have HBT := Lib.hid hbt
      clear hbt hb3
      generalize hxe : ls.getD k [] = x at *
      generalize x.getD 0 0 = c0 at *
      generalize hxn : x.length = xn at *
      have HXN := Lib.hid hxn
      clear hxe hxn hk'
      have hkm : (k : Int) < (m : Int) := by omega
      have hx0 : 0 < xn := by omega
      by_cases h46 : c0 = 46
      · subst h46
        have HD := Lib.hid (HD1.out rfl)
        clear HD1 HD2
        go_wp2_with (first
          | (refine app5 (.tmp 24) (.tmp 25) rfl rfl w1.heap.size _ (wire (ls.take k)) [46] rfl (own_kept HOW.out ((Below.refl wr.heap.size wr).alloc (Nat.le_refl _) _) (Nat.le_refl _)) (wr.heap.size + 1) (some ⟨wr.heap.size, 0, none⟩) 1 rfl (bts_new wr [46] _ _ rfl) (by have := HWT.out; simp; omega) (by simp; omega) ?_; intro v4 w4 h1 h2; have H4 := Lib.hid (show Own5 w4 w1.heap.size v4 (wire (ls.take k) ++ [46]) from h1); have HR4 := Lib.hid ((HRW.out.kept ((Below.refl wr.heap.size wr).alloc (Nat.le_refl _) (.cells #[.int .u8 46] 5)) (Nat.le_refl _) hsz).other (own_kept HOW.out ((Below.refl wr.heap.size wr).alloc (Nat.le_refl _) (.cells #[.int .u8 46] 5)) (Nat.le_refl _)) (Nat.le_refl _) (by simp; omega) h2); have b4 := (HBE.out.alloc hsz (.cells #[.int .u8 46] 5)).grown h2 (by simp; omega) (fun k hk => (HOW.out.lt k hk).1); have s4 := b4.size; have hb4 := (Below.refl w1.heap.size wr).alloc hsz (.cells #[.int .u8 46] 5) |>.grown h2 (by simp; omega) (fun k hk => (HOW.out.lt k hk).1); clear h1 h2)
          | (refine app5 (.tmp 27) (.tmp 28) rfl rfl w1.heap.size _ (wire (ls.take k) ++ [46]) x rfl H4.out w1.heap.size (some ⟨g3, o3, none⟩) c3 (by rw [HXN.out]; rfl) (HBT.out.below hb4) (by rw [HXN.out]; have := HWT.out; simp; omega) s4 ?_; intro v5 w5 h1 h2; have H5 := Lib.hid (show Own5 w5 w1.heap.size v5 ((wire (ls.take k) ++ [46]) ++ x) from h1); have HR5 := Lib.hid (HR4.out.other H4.out (Nat.le_refl _) s4 h2); have b5 := b4.grown h2 s4 (fun k hk => (H4.out.lt k hk).1); clear h1 h2)
          | fail)
        go_roundw
        case rel => exact ⟨k + 1, by omega, by go_num, by rw [HTN.out, wire_snoc, HD.out]; have := H5.out; rw [List.append_assoc] at this; exact this, HR5.out, b5⟩
        case measure => simp [intOf]; omega
      · have h46' : (c0 == 46) = false := by simpa using h46
        rw [h46'] at e0
        have HD := Lib.hid (HD2.out h46)
        clear HD1 HD2 h46 h46'
        go_wp2_with (first
          | (refine app5 (.tmp 27) (.tmp 28) rfl rfl w1.heap.size _ (wire (ls.take k)) x rfl HOW.out w1.heap.size (some ⟨g3, o3, none⟩) c3 (by rw [HXN.out]; rfl) HBT.out (by rw [HXN.out]; have := HWT.out; omega) hsz ?_; intro v5 w5 h1 h2; have H5 := Lib.hid (show Own5 w5 w1.heap.size v5 (wire (ls.take k) ++ x) from h1); have HR5 := Lib.hid (HRW.out.other HOW.out (Nat.le_refl _) hsz h2); have b5 := HBE.out.grown h2 hsz (fun k hk => (HOW.out.lt k hk).1); clear h1 h2)
          | fail)
        go_roundw
        case rel => exact ⟨k + 1, by omega, by go_num, by rw [HTN.out, wire_snoc, HD.out]; exact H5.out, HR5.out, b5⟩
        case measure => simp [intOf]; omega
    · have hkm : ¬ (k : Int) < (m : Int) := by omega
      have HW : Hid (wire (ls.take k) = wire ls) := Lib.hid (by rw [List.take_of_length_le (by rw [HM.out]; omega)])
      rw [HW.out] at HOW
      go_wp2_with (first
        | (refine app5 (.tmp 31) (.tmp 32) rfl rfl w1.heap.size _ (wire ls) [46, 13, 10] rfl (own_kept HOW.out ((Below.refl wr.heap.size wr).alloc (Nat.le_refl _) _) (Nat.le_refl _)) (wr.heap.size + 1) (some ⟨wr.heap.size, 0, none⟩) 3 rfl (bts_new wr [46, 13, 10] _ _ rfl) (by simp; omega) (by simp; omega) ?_; intro v4 w4 h1 h2; have H4 := Lib.hid (show Own5 w4 w1.heap.size v4 (wire ls ++ [46, 13, 10]) from h1); have b4 := (HBE.out.alloc hsz (.cells #[.int .u8 46, .int .u8 13, .int .u8 10] 5)).grown h2 (by simp; omega) (fun k hk => (HOW.out.lt k hk).1); clear h1 h2)
        | fail)
      go_ret
      exact ⟨_, rfl, own_more H4.out hs1, HB1.out.trans (b4.mono hs1)⟩
end Dt
end Go.Proofs.Ytdbmcbnohldolaa
