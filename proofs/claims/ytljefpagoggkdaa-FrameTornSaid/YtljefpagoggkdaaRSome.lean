/- Contract of the document's Next where a record stands. Conditions: as stated. -/
import Derived.Test.YtljefpagoggkdaaRNext
import Derived.Deep.RegionHeld3
namespace Go.Proofs.Ytljefpagoggkdaa
open Go.RowKit Go
set_option maxHeartbeats 1600000 in
theorem rnext_eight (A : Option Addr) (B : Nat) (l : List UInt8) (w : World) (hbt : Bts w B A l) (hB : B ≤ w.heap.size) (hl : l.length ≤ 8) (hn : cutN l = some 0) :
    Calls Try.prog 17 #[.slice A l.length 8] w fun e w' => RSome w B l 0 e w' := by
  obtain ⟨h1, h2, _, h4⟩ := cutN_yes hn
  obtain ⟨ad, rfl, _, _⟩ := hbt.at_ (show 0 < l.length by omega)
  have hnum : Calls Try.prog 26 #[.slice (some ad) l.length 8] w fun e w' => e = .returned (.int .u32 0) ∧ ∃ n, w' = w.drewN n := by
    have := number_any _ _ 8 _ _ hbt (by omega) (by omega)
    rw [← h1] at this
    exact this
  rw [List.take_zero] at h4
  have hL4 : (l.drop 4).length = l.length - 4 := by simp
  have hR4 := hbt.drop_eq 4
  have hWord := fun k0 k => number_q (some (ad.add 4)) B 4 (l.length - 4) (l.drop 4) (w.drewN k0) k (hR4.below (drewN_below _ _ _)) hL4 (by omega) (by omega)
  have hCrc := fun k0 k => rcrc_q (some ad) B 0 0 [] (w.drewN k0) k Cs.nil rfl (by omega)
  have hx : (((crc [] : Nat) : Int) != ((num4 (l.drop 4) : Nat) : Int)) = false := by
    simp only [bne_eq_false_iff_eq]
    omega
  generalize num4 (l.drop 4) = z2 at *
  generalize crc [] = z1 at *
  clear h4 hL4 hR4 h1 hn
  have n2 : decide ((l.length : Int) - 8 < 0) = false := by simp; omega
  have b1 : 4 ≤ l.length := by omega
  have b2 : 8 ≤ l.length := by omega
  go_enter Try.func17, Try.ntmps17
  go_wp2_with fail
  refine hnum.mono ?_
  rintro e w' ⟨rfl, k0, rfl⟩
  replace hWord := hWord k0
  replace hCrc := hCrc k0
  have hB1 : B ≤ (w.drewN k0).heap.size := hB
  have HK := Lib.hid (drewN_below w w.heap.size k0)
  have hsz : (w.drewN k0).heap.size = w.heap.size := rfl
  generalize w.drewN k0 = w1 at *
  go_wp2_with fail
  go_quiet (first | (go_at_call 13; exact hCrc _) | (go_at_call 26; exact hWord _))
  go_wp2_with fail
  have HK2 := Lib.hid (HK.out.trans (drewN_below w1 _ nq))
  have hsz2 : (w1.drewN nq).heap.size = w.heap.size := hsz
  generalize w1.drewN nq = w2 at *
  clear hsz hB1
  have HZ := Lib.hid hsz2
  clear hsz2
  have HN3 : Hid (w.heap.size ≤ w2.drew.heap.size) := by
    have h : w.heap.size ≤ w2.heap.size := by rw [← HZ.out]; exact Nat.le_refl _
    exact Lib.hid h
  have HO : Hid (Own5 w2.drew w.heap.size (.slice none 0 0) []) := by
    have h := Own5.nil w2.drew w.heap.size
    exact Lib.hid h
  have HR3 : Bts w2.drew B (some ad) [] := Cs.nil
  have x1 : IntKind.i64.wrap 0 = 0 := IntWalk.i64_in _ (by omega)
  have x2 : IntKind.i64.wrap (8 + 0) = 8 := IntWalk.i64_in _ (by omega)
  have x3 : IntKind.i64.wrap 8 = 8 := IntWalk.i64_in _ (by omega)
  have b4 : (8 : Int) ≤ (l.length : Int) := by omega
  have b5 : ¬ (l.length : Int) < 8 := by omega
  go_region_held3 (fun _ => True) (first | trivial) (first | (refine step5 (.const (.slice none 0 0)) (.tmp 39) (by rfl) (by rfl) w.heap.size (.slice none 0 0) [] [] 0 (by rfl) HO.out B (some ad) 0 (by rfl) rfl HR3 (by simp) HN3.out ?_; intro v3 w3 ho3 hg3))
  have HB3 := Lib.hid (grown_below (HK2.out.drew) (Nat.le_refl _) HO.out hg3)
  have HO3 := Lib.hid ho3
  have HS3 := Lib.hid (hbt.below (HB3.out.mono hB))
  clear ho3 hg3
  go_wp2_with fail
  refine bodyPost_ret (v := .tuple #[v3, .slice (some ad) 0 0, .bool true]) (by simp [results, Try.results17, go_sem]) rfl ?_
  exact ⟨v3, some ad, 0, by simp; omega, HO3.out, HS3.out.drop_all (8 + 0) hl, by simp; omega, by unfold maxLen; omega, HB3.out⟩
set_option maxHeartbeats 1600000 in
theorem rnext_in (A : Option Addr) (B c : Nat) (l : List UInt8) (w : World) (n : Nat) (hbt : Bts w B A l) (hB : B ≤ w.heap.size) (hl : l.length ≤ c) (hc : c ≤ maxLen) (hm : l.length ≤ 1000000000) (hn : cutN l = some n) (c8 : ¬ c = 8) (cn : ¬ c = 8 + n) :
    Calls Try.prog 17 #[.slice A l.length c] w fun e w' => RSome w B l n e w' := by
  obtain ⟨h1, h2, h3, h4⟩ := cutN_yes hn
  obtain ⟨ad, rfl, _, _⟩ := hbt.at_ (show 0 < l.length by omega)
  have hnum := number_any _ _ c _ _ hbt (by omega) (by omega)
  have HC := Lib.hid hc
  unfold maxLen at hc
  have hw := num4_lt l
  subst h1
  have hL : ((l.drop 8).take (num4 l)).length = num4 l := by simp; omega
  have hL4 : (l.drop 4).length = l.length - 4 := by simp
  have hL8 : (l.drop (8 + num4 l)).length = l.length - (8 + num4 l) := by simp
  have hR4 := hbt.drop_eq 4
  have HR : Bts w B (some (ad.add 8)) ((l.drop 8).take (num4 l)) := (hbt.drop_eq 8).take _
  have HS : Bts w B (some (ad.add (8 + num4 l))) (l.drop (8 + num4 l)) := hbt.drop_eq (8 + num4 l)
  have hWord := fun k0 k => number_q (some (ad.add 4)) B (c - 4) (l.length - 4) (l.drop 4) (w.drewN k0) k (hR4.below (drewN_below _ _ _)) hL4 (by omega) (by omega)
  have hCrc := fun k0 k => rcrc_q (some (ad.add 8)) B (c - 8) (num4 l) _ (w.drewN k0) k (HR.below (drewN_below _ _ _)) hL (by omega)
  have hx : (((crc ((l.drop 8).take (num4 l)) : Nat) : Int) != ((num4 (l.drop 4) : Nat) : Int)) = false := by
    simp only [bne_eq_false_iff_eq]
    omega
  have n1 : decide (1000000 < (num4 l : Int)) = false := by simp; omega
  have n2 : decide ((l.length : Int) - 8 < (num4 l : Int)) = false := by simp; omega
  have b1 : 4 ≤ l.length := by omega
  have b3 : (num4 l : Int) ≤ 1000000 := by omega
  have e88 : 8 + num4 l - 8 = num4 l := by omega
  have HL := Lib.hid hL
  have HL8 := Lib.hid hL8
  have HE := Lib.hid e88
  clear hn h4 hL hL4 hL8 hR4 e88
  go_enter Try.func17, Try.ntmps17
  go_wp2_with fail
  refine hnum.mono ?_
  rintro e w' ⟨rfl, k0, rfl⟩
  replace hWord := hWord k0
  replace hCrc := hCrc k0
  have HR1 := HR.below (drewN_below w B k0)
  have HS1 := HS.below (drewN_below w B k0)
  have hB1 : B ≤ (w.drewN k0).heap.size := hB
  have HK := Lib.hid (drewN_below w w.heap.size k0)
  have hsz : (w.drewN k0).heap.size = w.heap.size := rfl
  generalize w.drewN k0 = w1 at *
  go_wp2_with fail
  go_quiet (first | (go_at_call 13; exact hCrc _) | (go_at_call 26; exact hWord _))
  go_wp2_with fail
  have HR2 := HR1.below (drewN_below w1 B nq)
  have HS2 := HS1.below (drewN_below w1 B nq)
  have HK2 := Lib.hid (HK.out.trans (drewN_below w1 _ nq))
  have hsz2 : (w1.drewN nq).heap.size = w.heap.size := hsz
  have hB2 : B ≤ (w1.drewN nq).heap.size := hB1
  generalize w1.drewN nq = w2 at *
  clear HR1 HS1 HR hsz hB1
  have HZ := Lib.hid hsz2
  clear hsz2
  have x1 : IntKind.i64.wrap (num4 l : Int) = (num4 l : Int) := IntWalk.i64_in _ (by omega)
  have x2 : IntKind.i64.wrap (8 + (num4 l : Int)) = 8 + (num4 l : Int) := IntWalk.i64_in _ (by omega)
  have x3 : (0 : Int) ≤ 8 + (num4 l : Int) := by omega
  have x4 : 8 + (num4 l : Int) ≤ (c : Int) := by omega
  have x5 : 8 + (num4 l : Int) ≤ (l.length : Int) := by omega
  have x6 : (8 + (num4 l : Int)).toNat = 8 + num4 l := by omega
  have x7 : max (8 + (num4 l : Int)) 0 = 8 + (num4 l : Int) := by omega
  have x8 : (8 : Int) ≤ 8 + (num4 l : Int) := by omega
  have HR3 := HR2.below ((Below.refl B w2).drew)
  have HN3 : Hid (w.heap.size ≤ w2.drew.heap.size) := by
    have h : w.heap.size ≤ w2.heap.size := by rw [← HZ.out]; exact Nat.le_refl _
    exact Lib.hid h
  have HL63 : Hid (([] : List UInt8).length + num4 l ≤ 1000000000) := by
    have h : ([] : List UInt8).length + num4 l ≤ 1000000000 := by simp; omega
    exact Lib.hid h
  have HO : Hid (Own5 w2.drew w.heap.size (.slice none 0 0) []) := by
    have h := Own5.nil w2.drew w.heap.size
    exact Lib.hid h
  go_region_held3 (fun _ => True) (first | trivial) (first | (refine step5 (.const (.slice none 0 0)) (.tmp 39) (by rfl) (by rfl) w.heap.size (.slice none 0 0) [] ((l.drop 8).take (num4 l)) (num4 l) (by rfl) HO.out B (some (ad.add 8)) (c - 8) (by rfl) HL.out HR3 HL63.out HN3.out ?_; intro v3 w3 ho3 hg3))
  have HB3 := Lib.hid (grown_below (HK2.out.drew) (Nat.le_refl _) HO.out hg3)
  have HO3 := Lib.hid ho3
  have HS3 := Lib.hid (hbt.below (HB3.out.mono hB))
  clear ho3 hg3
  go_wp2_with fail
  refine bodyPost_ret (v := .tuple #[v3, .slice (some (ad.add (8 + num4 l))) (l.length - (8 + num4 l)) (c - (8 + num4 l)), .bool true]) (by simp [results, Try.results17, go_sem]) rfl ?_
  exact ⟨v3, _, c - (8 + num4 l), by rw [HL8.out], HO3.out, HS3.out.drop_eq (8 + num4 l), by rw [HL8.out]; omega, by have := HC.out; omega, HB3.out⟩
set_option maxHeartbeats 1600000 in
theorem rnext_whole (A : Option Addr) (B c : Nat) (l : List UInt8) (w : World) (n : Nat) (hbt : Bts w B A l) (hB : B ≤ w.heap.size) (hl : l.length ≤ c) (hc : c ≤ maxLen) (hm : l.length ≤ 1000000000) (hn : cutN l = some n) (c8 : ¬ c = 8) (cn : c = 8 + n) :
    Calls Try.prog 17 #[.slice A l.length c] w fun e w' => RSome w B l n e w' := by
  obtain ⟨h1, h2, h3, h4⟩ := cutN_yes hn
  obtain ⟨ad, rfl, _, _⟩ := hbt.at_ (show 0 < l.length by omega)
  have hw := num4_lt l
  subst h1
  subst cn
  have hz : ¬ num4 l = 0 := by omega
  have hz2 : ¬ 8 + num4 l = 4 := by omega
  have hnum := number_any _ _ (8 + num4 l) _ _ hbt (by omega) (by omega)
  have HC := Lib.hid hc
  unfold maxLen at hc
  have hL : ((l.drop 8).take (num4 l)).length = num4 l := by simp; omega
  have hL4 : (l.drop 4).length = l.length - 4 := by simp
  have hL8 : (l.drop (8 + num4 l)).length = l.length - (8 + num4 l) := by simp
  have hR4 := hbt.drop_eq 4
  have HR : Bts w B (some (ad.add 8)) ((l.drop 8).take (num4 l)) := (hbt.drop_eq 8).take _
  have HS : Bts w B (some (ad.add (8 + num4 l))) (l.drop (8 + num4 l)) := hbt.drop_eq (8 + num4 l)
  have hWord := fun k0 k => number_q (some (ad.add 4)) B (8 + num4 l - 4) (l.length - 4) (l.drop 4) (w.drewN k0) k (hR4.below (drewN_below _ _ _)) hL4 (by omega) (by omega)
  have hCrc := fun k0 k => rcrc_q (some (ad.add 8)) B (num4 l) (num4 l) _ (w.drewN k0) k (HR.below (drewN_below _ _ _)) hL (by omega)
  have hx : (((crc ((l.drop 8).take (num4 l)) : Nat) : Int) != ((num4 (l.drop 4) : Nat) : Int)) = false := by
    simp only [bne_eq_false_iff_eq]
    omega
  have n1 : decide (1000000 < (num4 l : Int)) = false := by simp; omega
  have n2 : decide ((l.length : Int) - 8 < (num4 l : Int)) = false := by simp; omega
  have b1 : 4 ≤ l.length := by omega
  have b3 : (num4 l : Int) ≤ 1000000 := by omega
  have e88 : 8 + num4 l - 8 = num4 l := by omega
  have HL := Lib.hid hL
  have HL8 := Lib.hid hL8
  have HE := Lib.hid e88
  clear hn h4 hL hL4 hL8 hR4 e88
  go_enter Try.func17, Try.ntmps17
  go_wp2_with fail
  refine hnum.mono ?_
  rintro e w' ⟨rfl, k0, rfl⟩
  replace hWord := hWord k0
  replace hCrc := hCrc k0
  have HR1 := HR.below (drewN_below w B k0)
  have HS1 := HS.below (drewN_below w B k0)
  have hB1 : B ≤ (w.drewN k0).heap.size := hB
  have HK := Lib.hid (drewN_below w w.heap.size k0)
  have hsz : (w.drewN k0).heap.size = w.heap.size := rfl
  generalize w.drewN k0 = w1 at *
  go_wp2_with fail
  go_quiet (first | (go_at_call 13; exact hCrc _) | (go_at_call 26; exact hWord _))
  go_wp2_with fail
  have HR2 := HR1.below (drewN_below w1 B nq)
  have HS2 := HS1.below (drewN_below w1 B nq)
  have HK2 := Lib.hid (HK.out.trans (drewN_below w1 _ nq))
  have hsz2 : (w1.drewN nq).heap.size = w.heap.size := hsz
  have hB2 : B ≤ (w1.drewN nq).heap.size := hB1
  generalize w1.drewN nq = w2 at *
  clear HR1 HS1 HR hsz hB1
  have HZ := Lib.hid hsz2
  clear hsz2
  have x1 : IntKind.i64.wrap (num4 l : Int) = (num4 l : Int) := IntWalk.i64_in _ (by omega)
  have x2 : IntKind.i64.wrap (8 + (num4 l : Int)) = 8 + (num4 l : Int) := IntWalk.i64_in _ (by omega)
  have x3 : (0 : Int) ≤ 8 + (num4 l : Int) := by omega
  have x4 : 8 + (num4 l : Int) ≤ ((8 + num4 l : Nat) : Int) := by omega
  have x5 : 8 + (num4 l : Int) ≤ (l.length : Int) := by omega
  have x6 : (8 + (num4 l : Int)).toNat = 8 + num4 l := by omega
  have x7 : max (8 + (num4 l : Int)) 0 = 8 + (num4 l : Int) := by omega
  have x8 : (8 : Int) ≤ 8 + (num4 l : Int) := by omega
  have HR3 := HR2.below ((Below.refl B w2).drew)
  have HN3 : Hid (w.heap.size ≤ w2.drew.heap.size) := by
    have h : w.heap.size ≤ w2.heap.size := by rw [← HZ.out]; exact Nat.le_refl _
    exact Lib.hid h
  have HL63 : Hid (([] : List UInt8).length + num4 l ≤ 1000000000) := by
    have h : ([] : List UInt8).length + num4 l ≤ 1000000000 := by simp; omega
    exact Lib.hid h
  have HO : Hid (Own5 w2.drew w.heap.size (.slice none 0 0) []) := by
    have h := Own5.nil w2.drew w.heap.size
    exact Lib.hid h
  go_region_held3 (fun _ => True) (first | trivial) (first | (refine step5 (.const (.slice none 0 0)) (.tmp 39) (by rfl) (by rfl) w.heap.size (.slice none 0 0) [] ((l.drop 8).take (num4 l)) (num4 l) (by rfl) HO.out B (some (ad.add 8)) (num4 l) (by rfl) HL.out HR3 HL63.out HN3.out ?_; intro v3 w3 ho3 hg3))
  have HB3 := Lib.hid (grown_below (HK2.out.drew) (Nat.le_refl _) HO.out hg3)
  have HO3 := Lib.hid ho3
  have HS3 := Lib.hid (hbt.below (HB3.out.mono hB))
  clear ho3 hg3
  go_wp2_with fail
  refine bodyPost_ret (v := .tuple #[v3, .slice (some ad) 0 0, .bool true]) (by simp [results, Try.results17, go_sem]) rfl ?_
  exact ⟨v3, some ad, 0, by rw [show (l.drop (8 + num4 l)).length = 0 from by rw [HL8.out]; omega], HO3.out, HS3.out.drop_all (8 + num4 l) (by omega), by rw [HL8.out]; omega, by unfold maxLen; omega, HB3.out⟩
theorem rnext_some (A : Option Addr) (B c : Nat) (l : List UInt8) (w : World) (n : Nat) (hbt : Bts w B A l) (hB : B ≤ w.heap.size) (hl : l.length ≤ c) (hc : c ≤ maxLen) (hm : l.length ≤ 1000000000) (hn : cutN l = some n) :
    Calls Try.prog 17 #[.slice A l.length c] w fun e w' => RSome w B l n e w' := by
  have h2 := (cutN_yes hn).2.1
  by_cases c8 : c = 8
  · subst c8
    obtain rfl : n = 0 := by omega
    exact rnext_eight A B l w hbt hB hl hn
  · by_cases cn : c = 8 + n
    · exact rnext_whole A B c l w n hbt hB hl hc hm hn c8 cn
    · exact rnext_in A B c l w n hbt hB hl hc hm hn c8 cn
end Go.Proofs.Ytljefpagoggkdaa
