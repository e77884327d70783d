/- frame.cut. Conditions: as stated. -/
import Derived.Test.YtidadjlhnlmfkaaGreatDoorFlCrc
import Derived.Test.YtidadjlhnlmfkaaGreatDoorFlWord
namespace Go.Proofs.YtidadjlhnlmfkaaGreatDoor
set_option maxRecDepth 100000
open Go.RowKit Go
def CutNone (W : World) (A : Option Addr) (c : Nat) (l : List UInt8) (e : Ending) (w' : World) : Prop :=
  e = .returned (.tuple #[.slice none 0 0, .slice A l.length c, .bool false]) ∧ ∃ m, w' = W.drewN m
def CutSome (W : World) (B : Nat) (l : List UInt8) (n : Nat) (e : Ending) (w' : World) : Prop :=
  ∃ A1 c1 A2 c2, e = .returned (.tuple #[.slice A1 ((l.drop 8).take n).length c1, .slice A2 (l.drop (8 + n)).length c2, .bool true]) ∧ Bts W B A1 ((l.drop 8).take n) ∧ ((l.drop 8).take n).length ≤ c1 ∧ c1 ≤ maxLen ∧
    Bts W B A2 (l.drop (8 + n)) ∧ (l.drop (8 + n)).length ≤ c2 ∧ c2 ≤ maxLen ∧ ∃ m, w' = W.drewN m
theorem crc_q (A : Option Addr) (B c n : Nat) (l : List UInt8) (w : World) (k : Nat) (h : Bts w B A l) (hn : l.length = n) (hl : n ≤ 1000000000) :
    Calls Tryz.prog 69 #[.slice A n c] (w.drewN k) fun e w' => e = .returned (.int .u32 (crc l : Nat)) ∧ ∃ m, w' = w.drewN m := by
  subst hn
  exact (crc_any A B c l _ (h.below (drewN_below w B k)) hl).mono fun _ _ ⟨he, hw⟩ => ⟨he, k, hw.symm⟩
theorem word_q (A : Option Addr) (B c n : Nat) (l : List UInt8) (w : World) (k : Nat) (h : Bts w B A l) (hn : l.length = n) (hl : n ≤ 1000000000) (h4 : 4 ≤ n) :
    Calls Tryz.prog 100 #[.slice A n c] (w.drewN k) fun e w' => e = .returned (.int .u32 (num4 l : Nat)) ∧ ∃ m, w' = w.drewN m := by
  subst hn
  exact (word_any A B c l _ (h.below (drewN_below w B k)) hl h4).mono fun _ _ ⟨he, hw⟩ => ⟨he, k, hw.symm⟩
set_option maxHeartbeats 800000 in
theorem cut_none (A : Option Addr) (B c : Nat) (l : List UInt8) (w : World) (hbt : Bts w B A l) (hl : l.length ≤ c) (hm : l.length ≤ 1000000000) (hn : cutN l = none) :
    Calls Tryz.prog 89 #[.slice A l.length c] w fun e w' => CutNone w A c l e w' := by
  have HN := Lib.hid hn
  clear hn
  by_cases h8 : l.length < 8
  · clear HN
    go_enter Tryz.func89, Tryz.ntmps89
    go_wp2_with fail
    refine bodyPost_ret (v := .tuple #[.slice none 0 0, .slice A l.length c, .bool false]) (by simp [results, Tryz.results89, go_sem]) rfl ⟨rfl, 0, rfl⟩
  · have hw := num4_lt l
    by_cases hbig : 1000000 < num4 l
    · go_enter Tryz.func89, Tryz.ntmps89
      go_wp2_with (go_at_call 100; refine (word_any _ _ _ _ _ hbt (by omega) (by omega)).mono ?_; rintro e w' ⟨rfl, rfl⟩)
      refine bodyPost_ret (v := .tuple #[.slice none 0 0, .slice A l.length c, .bool false]) (by simp [results, Tryz.results89, go_sem]) rfl ⟨rfl, 0, rfl⟩
    · by_cases hlong : l.length - 8 < num4 l
      · have hlong' : (l.length : Int) - 8 < (num4 l : Int) := by omega
        go_enter Tryz.func89, Tryz.ntmps89
        go_wp2_with (go_at_call 100; refine (word_any _ _ _ _ _ hbt (by omega) (by omega)).mono ?_; rintro e w' ⟨rfl, rfl⟩)
        refine bodyPost_ret (v := .tuple #[.slice none 0 0, .slice A l.length c, .bool false]) (by simp [results, Tryz.results89, go_sem]) rfl ⟨rfl, 0, rfl⟩
      · obtain ⟨ad, rfl, _, _⟩ := hbt.at_ (show 0 < l.length by omega)
        have hne : crc ((l.drop 8).take (num4 l)) ≠ num4 (l.drop 4) := fun e => by
          have := HN.out
          unfold cutN at this
          rw [if_neg h8, if_neg hbig, if_neg hlong, if_pos e] at this
          cases this
        have HE := Lib.hid hne
        clear hne
        go_enter Tryz.func89, Tryz.ntmps89
        go_wp2_with (go_at_call 100; refine (word_any _ _ _ _ _ hbt (by omega) (by omega)).mono ?_; rintro e w' ⟨rfl, rfl⟩)
        all_goals
          have hL : ((l.drop 8).take (num4 l)).length = num4 l := by simp; omega
          have hL4 : (l.drop 4).length = l.length - 4 := by simp
          have hR4 := hbt.drop_eq 4
          have hR : Bts w B (some (ad.add 8)) ((l.drop 8).take (num4 l)) ∧ (c = 8 → Bts w B (some ad) ((l.drop 8).take (num4 l))) :=
            ⟨(hbt.drop_eq 8).take _, fun e => (hbt.drop_all 8 (by omega)).take _⟩
          have HR := Lib.hid hR
          have HL := Lib.hid hL
          have HL4 := Lib.hid hL4
          have b1 : 4 ≤ l.length := by omega
          clear hR hL hL4
          go_quiet (first | (go_at_call 69; exact crc_q _ _ _ _ _ _ _ HR.out.1 HL.out (by omega)) | (go_at_call 69; exact crc_q _ _ _ _ _ _ _ (HR.out.2 (by assumption)) HL.out (by omega)) | (go_at_call 100; exact word_q _ _ _ _ _ _ _ hR4 HL4.out (by omega) (by omega)))
          have hx : (((crc ((l.drop 8).take (num4 l)) : Nat) : Int) != ((num4 (l.drop 4) : Nat) : Int)) = true := by
            have := HE.out
            simp only [bne_iff_ne, ne_eq]
            omega
          go_wp2_with fail
        · refine bodyPost_ret (v := .tuple #[.slice none 0 0, .slice (some ad) l.length 8, .bool false]) (by simp [results, Tryz.results89, go_sem]) rfl ⟨by rw [show c = 8 from by assumption], _, rfl⟩
        · refine bodyPost_ret (v := .tuple #[.slice none 0 0, .slice (some ad) l.length c, .bool false]) (by simp [results, Tryz.results89, go_sem]) rfl ⟨rfl, _, rfl⟩
set_option maxHeartbeats 1600000 in
theorem cut_in (A : Option Addr) (B c : Nat) (l : List UInt8) (w : World) (n : Nat) (hbt : Bts w B A l) (hl : l.length ≤ c) (hc : c ≤ maxLen) (hm : l.length ≤ 1000000000) (hn : cutN l = some n) (c8 : ¬ c = 8) (cn : ¬ c = 8 + n) :
    Calls Tryz.prog 89 #[.slice A l.length c] w fun e w' => CutSome w B l n e w' := by
  obtain ⟨h1, h2, h3, h4⟩ := cutN_yes hn
  obtain ⟨ad, rfl, _, _⟩ := hbt.at_ (show 0 < l.length by omega)
  have HC := Lib.hid hc
  unfold maxLen at hc
  have hw := num4_lt l
  have hL : ((l.drop 8).take n).length = n := by simp; omega
  have hL4 : (l.drop 4).length = l.length - 4 := by simp
  have hL8 : (l.drop (8 + n)).length = l.length - (8 + n) := by simp
  have hR4 := hbt.drop_eq 4
  have HR : Bts w B (some (ad.add 8)) ((l.drop 8).take n) := (hbt.drop_eq 8).take _
  have HS : Bts w B (some (ad.add (8 + n))) (l.drop (8 + n)) := hbt.drop_eq (8 + n)
  have hWord := fun k => word_q (some (ad.add 4)) B (c - 4) (l.length - 4) (l.drop 4) w k hR4 hL4 (by omega) (by omega)
  have HX : Hid (crc ((l.drop 8).take n) = num4 (l.drop 4)) := Lib.hid h4
  clear hn h4
  have hx : (((crc ((l.drop 8).take n) : Nat) : Int) != ((num4 (l.drop 4) : Nat) : Int)) = false := by
    have := HX.out
    simp only [bne_eq_false_iff_eq]
    omega
  subst h1
  have e88 : 8 + num4 l - 8 = num4 l := by omega
  have n1 : ¬ 1000000 < num4 l := by omega
  have n2 : ¬ l.length - 8 < num4 l := by omega
  have b1 : 4 ≤ l.length := by omega
  have HL := Lib.hid hL
  have HL8 := Lib.hid hL8
  have HE := Lib.hid e88
  clear hL hL4 hL8 e88
  go_enter Tryz.func89, Tryz.ntmps89
  go_wp2_with (go_at_call 100; refine (word_any _ _ _ _ _ hbt (by omega) (by omega)).mono ?_; rintro e w' ⟨rfl, rfl⟩)
  go_quiet (first | (go_at_call 69; exact crc_q _ _ _ _ _ _ _ HR HL.out (by omega)) | (go_at_call 100; exact hWord _))
  go_wp2_with fail
  go_quiet (fail)
  go_wp2_with fail
  refine bodyPost_ret (v := .tuple #[.slice (some ⟨ad.block, ad.off + 8, none⟩) (8 + num4 l - 8) (c - 8), .slice (some (ad.add (8 + num4 l))) (l.length - (8 + num4 l)) (c - (8 + num4 l)), .bool true]) (by simp [results, Tryz.results89, go_sem]) rfl ?_
  refine ⟨_, c - 8, _, c - (8 + num4 l), by rw [HE.out, HL.out, HL8.out]; rfl, HR, by rw [HL.out]; omega, by have := HC.out; omega, ?_, by rw [HL8.out]; omega, by have := HC.out; omega, ?_⟩
  · exact HS
  · exact ⟨_, World.drewN_drewN _ _ _⟩
set_option maxHeartbeats 1600000 in
theorem cut_eight (A : Option Addr) (B : Nat) (l : List UInt8) (w : World) (hbt : Bts w B A l) (hl : l.length ≤ 8) (hn : cutN l = some 0) :
    Calls Tryz.prog 89 #[.slice A l.length 8] w fun e w' => CutSome w B l 0 e w' := by
  obtain ⟨h1, h2, _, h4⟩ := cutN_yes hn
  obtain ⟨ad, rfl, _, _⟩ := hbt.at_ (show 0 < l.length by omega)
  have hR4 := hbt.drop_eq 4
  have hw1 : Calls Tryz.prog 100 #[.slice (some ad) l.length 8] w fun e w' => e = .returned (.int .u32 0) ∧ w = w' := by
    have := word_any (some ad) B 8 l w hbt (by omega) (by omega)
    rw [← h1] at this
    exact this
  have hWord := fun k => word_q (some (ad.add 4)) B 4 (l.length - 4) (l.drop 4) w k hR4 (by simp) (by omega) (by omega)
  have hCrc := fun k => crc_q (some ad) B 0 0 [] w k Cs.nil rfl (by omega)
  rw [List.take_zero] at h4
  have hx : (((crc [] : Nat) : Int) != ((num4 (l.drop 4) : Nat) : Int)) = false := by
    simp only [bne_eq_false_iff_eq]
    omega
  have b1 : 4 ≤ l.length := by omega
  have b2 : 8 ≤ l.length := by omega
  generalize num4 (l.drop 4) = z2 at *
  generalize crc [] = z1 at *
  have HS : Bts w B (some ad) (l.drop 8) := hbt.drop_all 8 hl
  clear hn h1 h4 h2
  go_enter Tryz.func89, Tryz.ntmps89
  go_wp2_with (go_at_call 100; refine hw1.mono ?_; rintro e w' ⟨rfl, rfl⟩)
  go_quiet (first | (go_at_call 69; exact hCrc _) | (go_at_call 100; exact hWord _))
  go_wp2_with fail
  go_quiet (fail)
  go_wp2_with fail
  refine bodyPost_ret (v := .tuple #[.slice (some ad) 0 0, .slice (some ad) 0 0, .bool true]) (by simp [results, Tryz.results89, go_sem]) rfl ?_
  refine ⟨some ad, 0, some ad, 0, by simp; omega, Cs.nil, by simp, by unfold maxLen; omega, HS, by simp; omega, by unfold maxLen; omega, ?_⟩
  exact ⟨_, World.drewN_drewN _ _ _⟩
set_option maxHeartbeats 1600000 in
theorem cut_whole (A : Option Addr) (B c : Nat) (l : List UInt8) (w : World) (n : Nat) (hbt : Bts w B A l) (hl : l.length ≤ c) (hc : c ≤ maxLen) (hm : l.length ≤ 1000000000) (hn : cutN l = some n) (c8 : ¬ c = 8) (cn : c = 8 + n) :
    Calls Tryz.prog 89 #[.slice A l.length c] w fun e w' => CutSome w B l n e w' := by
  obtain ⟨h1, h2, h3, h4⟩ := cutN_yes hn
  obtain ⟨ad, rfl, _, _⟩ := hbt.at_ (show 0 < l.length by omega)
  have HC := Lib.hid hc
  unfold maxLen at hc
  have hw := num4_lt l
  have hL : ((l.drop 8).take n).length = n := by simp; omega
  have hL4 : (l.drop 4).length = l.length - 4 := by simp
  have hL8 : (l.drop (8 + n)).length = l.length - (8 + n) := by simp
  have hR4 := hbt.drop_eq 4
  have HR : Bts w B (some (ad.add 8)) ((l.drop 8).take n) := (hbt.drop_eq 8).take _
  have HS : Bts w B (some (ad.add (8 + n))) (l.drop (8 + n)) := hbt.drop_eq (8 + n)
  have hWord := fun k => word_q (some (ad.add 4)) B (c - 4) (l.length - 4) (l.drop 4) w k hR4 hL4 (by omega) (by omega)
  have HX : Hid (crc ((l.drop 8).take n) = num4 (l.drop 4)) := Lib.hid h4
  clear hn h4
  have hx : (((crc ((l.drop 8).take n) : Nat) : Int) != ((num4 (l.drop 4) : Nat) : Int)) = false := by
    have := HX.out
    simp only [bne_eq_false_iff_eq]
    omega
  subst h1
  have e88 : 8 + num4 l - 8 = num4 l := by omega
  have n1 : ¬ 1000000 < num4 l := by omega
  have n2 : ¬ l.length - 8 < num4 l := by omega
  have b1 : 4 ≤ l.length := by omega
  have HL := Lib.hid hL
  have HL8 := Lib.hid hL8
  have HE := Lib.hid e88
  clear hL hL4 hL8 e88
  subst cn
  have hz : ¬ num4 l = 0 := by omega
  have hz2 : ¬ 8 + num4 l = 4 := by omega
  have HS' : Bts w B (some ad) (l.drop (8 + num4 l)) := hbt.drop_all (8 + num4 l) (by omega)
  go_enter Tryz.func89, Tryz.ntmps89
  go_wp2_with (go_at_call 100; refine (word_any _ _ _ _ _ hbt (by omega) (by omega)).mono ?_; rintro e w' ⟨rfl, rfl⟩)
  go_quiet (first | (go_at_call 69; exact crc_q _ _ _ _ _ _ _ HR HL.out (by omega)) | (go_at_call 100; exact hWord _))
  go_wp2_with fail
  go_quiet (fail)
  go_wp2_with fail
  refine bodyPost_ret (v := .tuple #[.slice (some ⟨ad.block, ad.off + 8, none⟩) (8 + num4 l - 8) (num4 l), .slice (some ad) (l.length - (8 + num4 l)) 0, .bool true]) (by simp [results, Tryz.results89, go_sem]) rfl ?_
  refine ⟨_, num4 l, some ad, 0, by rw [HE.out, HL.out, HL8.out]; rfl, HR, by rw [HL.out]; exact Nat.le_refl _, by have := HC.out; omega, HS', by rw [HL8.out]; omega, by unfold maxLen; omega, ?_⟩
  exact ⟨_, World.drewN_drewN _ _ _⟩
theorem cut_some (A : Option Addr) (B c : Nat) (l : List UInt8) (w : World) (n : Nat) (hbt : Bts w B A l) (hl : l.length ≤ c) (hc : c ≤ maxLen) (hm : l.length ≤ 1000000000) (hn : cutN l = some n) :
    Calls Tryz.prog 89 #[.slice A l.length c] w fun e w' => CutSome w B l n e w' := by
  have h2 := (cutN_yes hn).2.1
  by_cases c8 : c = 8
  · subst c8
    obtain rfl : n = 0 := by omega
    exact cut_eight A B l w hbt hl hn
  · by_cases cn : c = 8 + n
    · exact cut_whole A B c l w n hbt hl hc hm hn c8 cn
    · exact cut_in A B c l w n hbt hl hc hm hn c8 cn
end Go.Proofs.YtidadjlhnlmfkaaGreatDoor
