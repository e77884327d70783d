/- The walk of MerkleRight. Conditions: as stated. -/
import Derived.Test.YtfgdochpnnkpmaaDoorMkLGrown
namespace Go.Proofs.YtfgdochpnnkpmaaDoor
set_option maxRecDepth 100000
open Go.RowKit Go
set_option maxHeartbeats 3200000 in
theorem lright_yy (A : Option Addr) (n c : Nat) (L : List (List UInt8)) (i : Nat) (m : Nat) (w : World) (hn : L.length = n) (h20 : n ≤ 20) (hc : n ≤ c) (hm : c ≤ maxLen) (h : Hs w w.heap.size A L) (hg : Glob w) (hi : i < n) (hm1 : 1 ≤ m) (hmn : m ≤ n) :
    Calls Tryd.prog 4 #[.slice A n c, .int .i64 (i : Int), .int .i64 (m : Int)] w fun e w' => e = .returned (.bool true) ∧ Below w.heap.size w w' := by
  have GS := Lib.hid hg.size
  have HG : Hid (∀ W, Below w.heap.size w W → Glob W) := Lib.hid fun W hb => hg.below hb GS.out
  have HH : Hid (∀ W, Below w.heap.size w W → Hs W W.heap.size A L) := Lib.hid fun W hb => (h.below hb).more hb.size
  have HAW : Hid (∀ W, Below w.heap.size w W → Calls Tryd.prog 13 #[] W fun e w' => e = .returned (.bool true) ∧ Below W.heap.size W w') := Lib.hid fun W hb => awake_any W (HG.out W hb)
  have hrl := rootS_length h.1
  have HRT : Hid (∀ W, Below w.heap.size w W → Calls Tryd.prog 19 #[.slice A n c] W fun e w' => e = .returned (.agg (bv (rootS L)).toArray) ∧ Below W.heap.size W w') := Lib.hid fun W hb => root_any A n c L W hn (by omega) hc hm (HH.out W hb) (HG.out W hb)
  have HPR : Hid (∀ W, Below w.heap.size w W → Calls Tryd.prog 17 #[.slice A n c, .int .i64 (i : Int)] W fun e w' => ∃ v, e = .returned (.tuple #[v, .int .i64 0]) ∧ OwnH w' W.heap.size v (wayS L i) ∧ Below W.heap.size W w') := Lib.hid fun W hb => proof_yes A n c i L W hn hi (by omega) hc hm (HH.out W hb) (HG.out W hb)
  obtain ⟨g, o, rfl, hgB, hr⟩ := h.at_ (k := i) (by rw [hn]; exact hi)
  have hx := h.1.getD (k := i) (by rw [hn]; exact hi)
  have hway := up_way n L i (by omega) (by rw [hn]; exact hi)
  rw [hn] at hway
  have hwl := (wayS_sms n L i (by omega) h.1).2
  rw [hn] at hwl
  generalize L.getD i [] = x at *
  have HX := Lib.hid hx
  have HR := Lib.hid hr
  have hi0 : 0 ≤ (i : Int) := by omega
  have hin : (i : Int) < (n : Int) := by omega
  have HGR : Hid (∀ W, Below w.heap.size w W → Calls Tryd.prog 20 #[.slice (some ⟨g, o, none⟩) n c, .int .i64 (m : Int)] W fun e w' => ∃ v, e = .returned (.tuple #[v, .int .i64 0]) ∧ OwnH w' W.heap.size v (subS L m true) ∧ Below W.heap.size W w') := Lib.hid fun W hb => growth_yes (some ⟨g, o, none⟩) n c m L W hn hm1 hmn (by omega) hc hm (HH.out W hb) (HG.out W hb)
  have hsub := both_sub n L m true (rootS (L.take m)) (by omega) hm1 (by omega) (fun _ => rfl)
  rw [hn] at hsub
  have hgl := (subS_sms n L m true (by omega) hm1 (by omega) h.1).2
  rw [hn] at hgl
  have hrm := rootS_length (h.1.take m)
  have HRM : Hid (∀ W, Below w.heap.size w W → Calls Tryd.prog 19 #[.slice (some ⟨g, o, none⟩) m c] W fun e w' => e = .returned (.agg (bv (rootS (L.take m))).toArray) ∧ Below W.heap.size W w') := Lib.hid fun W hb => root_any (some ⟨g, o, none⟩) m c (L.take m) W (by rw [List.length_take]; omega) (by omega) (by omega) hm ((HH.out W hb).take m) (HG.out W hb)
  have hcut := cutH_lo (some ⟨g, o, none⟩) n c m hmn hc
  have HCUT := Lib.hid hcut
  generalize rootS (L.take m) = rm at *
  have HRL2 := Lib.hid hrm
  have hm0 : 0 ≤ (m : Int) := by omega
  have hmn' : (m : Int) ≤ (n : Int) := by omega
  generalize rootS L = rt at *
  have HRL := Lib.hid hrl
  have HWAY := Lib.hid hway
  have HWL := Lib.hid hwl
  have HSUB := Lib.hid hsub
  have HGL := Lib.hid hgl
  clear hrl h hg hn hc hm hway hwl hx hr hsub hgl hrm hcut
  have hbw : Below w.heap.size w w := Below.refl _ _
  go_enter Tryd.func4, Tryd.ntmps4
  go_wp2_with fail
  refine (HAW.out _ hbw).mono ?_
  rintro e w2 ⟨rfl, hb2⟩
  clear HAW
  go_wp2_with (first
    | (go_at_call 14; refine (few_yes _ _ _ _ h20).mono ?_; rintro e w3 ⟨rfl, rfl⟩)
    | fail)
  refine (HPR.out _ hb2).mono ?_
  rintro e w4 ⟨v4, rfl, ho4, hb4⟩
  have k4 : Below w.heap.size w w4 := hb2.trans (hb4.mono hb2.size)
  obtain ⟨A4, c4, ev4, hc4, hm4⟩ := ho4.slice
  obtain ⟨n4, hn4⟩ : ∃ n4, n4 = (wayS L i).length := ⟨_, rfl⟩
  rw [← hn4] at ev4 hc4
  subst ev4
  have HS4 := Lib.hid ho4.hs
  have HN4 := Lib.hid hn4
  clear hb4 ho4 hn4 HPR
  have HVF : Hid (∀ W, Below w4.heap.size w4 W → Calls Tryd.prog 18 #[.agg (bv rt).toArray, .int .i64 (n : Int), .int .i64 (i : Int), .agg (bv x).toArray, .slice A4 n4 c4] W fun e w' => e = .returned (.bool true) ∧ Below W.heap.size W w') := Lib.hid fun W hb => by
    have := verify_any rt x A4 n4 c4 n i (wayS L i) W HRL.out HX.out HN4.out.symm (by have := HWL.out; have := HN4.out; omega) hc4 hm4 ((HS4.out.below hb).more hb.size) (by omega) (by omega) (HG.out W (k4.trans (hb.mono k4.size)))
    rw [HWAY.out] at this
    simpa using this
  clear hc4 hm4
  go_wp2_with fail
  have kd : Below w4.heap.size w4 w4.drew := (Below.refl _ w4).drew
  have KEEP : Hid (∀ W, Below w4.heap.size w4 W → Below w.heap.size w W ∧ W.rangeAt g (o + i * 32) (bv x)) := Lib.hid fun W hb => ⟨k4.trans (hb.mono k4.size), range_below HR.out (k4.trans (hb.mono k4.size)) hgB⟩
  refine wp_region_held_drew (S := (fun W => Below w4.heap.size w4 W)) (by kernel_rfl) (kd) (fun hHeld => ?_)
  refine wpAnyH_take (i := 0) (v := .int .i64 0) rfl (by kernel_rfl) (by kernel_rfl) (by kernel_rfl) (fun _ _ _ h => h) (Or.inl ⟨by rfl, fun w hS => by first | (go_simp; done) | (go_simp; with_reducible rfl)⟩) hHeld ?_
  try simp only [Act.put, List.getElem_toArray, List.getElem_cons_zero, List.setIfInBounds_toArray, List.set_cons_zero, List.set_cons_succ]
  refine wpAnyH_take (i := 1) (v := .bool true) rfl (by kernel_rfl) (by kernel_rfl) (by kernel_rfl) (fun _ _ _ h => h) (Or.inl ⟨by rfl, fun w hS => by first | (go_simp; done) | (go_simp; with_reducible rfl)⟩) hHeld ?_
  try simp only [Act.put, List.getElem_toArray, List.getElem_cons_zero, List.getElem_cons_succ, List.setIfInBounds_toArray, List.set_cons_zero, List.set_cons_succ]
  refine wpAnyH_take (i := 2) (v := .bool true) rfl (by kernel_rfl) (by kernel_rfl) (by kernel_rfl) (fun _ _ _ h => h) (Or.inl ⟨by rfl, fun w hS => by first | (go_simp; done) | (go_simp; with_reducible rfl)⟩) hHeld ?_
  try simp only [Act.put, List.getElem_toArray, List.getElem_cons_zero, List.getElem_cons_succ, List.setIfInBounds_toArray, List.set_cons_zero, List.set_cons_succ]
  refine wpAnyH_take (i := 3) (v := .slice (some ⟨g, o, none⟩) n c) rfl (by kernel_rfl) (by kernel_rfl) (by kernel_rfl) (fun _ _ _ h => h) (Or.inl ⟨by rfl, fun w hS => by first | (go_simp; done) | (go_simp; with_reducible rfl)⟩) hHeld ?_
  try simp only [Act.put, List.getElem_toArray, List.getElem_cons_zero, List.getElem_cons_succ, List.setIfInBounds_toArray, List.set_cons_zero, List.set_cons_succ]
  refine wpAnyH_take (i := 5) (v := .slice (some ⟨g, o, none⟩) n c) rfl (by kernel_rfl) (by kernel_rfl) (by kernel_rfl) (fun _ _ _ h => h) (Or.inl ⟨by rfl, fun w hS => by first | (go_simp; done) | (go_simp; with_reducible rfl)⟩) hHeld ?_
  try simp only [Act.put, List.getElem_toArray, List.getElem_cons_zero, List.getElem_cons_succ, List.setIfInBounds_toArray, List.set_cons_zero, List.set_cons_succ]
  refine wpAnyH_take (i := 6) (v := .int .i64 n) rfl (by kernel_rfl) (by kernel_rfl) (by kernel_rfl) (fun _ _ _ h => h) (Or.inl ⟨by rfl, fun w hS => by first | (go_simp; done) | (go_simp; with_reducible rfl)⟩) hHeld ?_
  try simp only [Act.put, List.getElem_toArray, List.getElem_cons_zero, List.getElem_cons_succ, List.setIfInBounds_toArray, List.set_cons_zero, List.set_cons_succ]
  refine wpAnyH_take (i := 7) (v := .int .i64 i) rfl (by kernel_rfl) (by kernel_rfl) (by kernel_rfl) (fun _ _ _ h => h) (Or.inl ⟨by rfl, fun w hS => by first | (go_simp; done) | (go_simp; with_reducible rfl)⟩) hHeld ?_
  try simp only [Act.put, List.getElem_toArray, List.getElem_cons_zero, List.getElem_cons_succ, List.setIfInBounds_toArray, List.set_cons_zero, List.set_cons_succ]
  refine wpAnyH_take (i := 8) (v := .slice (some ⟨g, o, none⟩) n c) rfl (by kernel_rfl) (by kernel_rfl) (by kernel_rfl) (fun _ _ _ h => h) (Or.inl ⟨by rfl, fun w hS => by first | (go_simp; done) | (go_simp; with_reducible rfl)⟩) hHeld ?_
  try simp only [Act.put, List.getElem_toArray, List.getElem_cons_zero, List.getElem_cons_succ, List.setIfInBounds_toArray, List.set_cons_zero, List.set_cons_succ]
  refine wpAnyH_take (i := 9) (v := .int .i64 i) rfl (by kernel_rfl) (by kernel_rfl) (by kernel_rfl) (fun _ _ _ h => h) (Or.inl ⟨by rfl, fun w hS => by first | (go_simp; done) | (go_simp; with_reducible rfl)⟩) hHeld ?_
  try simp only [Act.put, List.getElem_toArray, List.getElem_cons_zero, List.getElem_cons_succ, List.setIfInBounds_toArray, List.set_cons_zero, List.set_cons_succ]
  refine wpAnyH_take (i := 10) (v := .pointer (some ⟨g, o + i * 32, none⟩)) rfl (by kernel_rfl) (by kernel_rfl) (by kernel_rfl) (fun _ _ _ h => h) (Or.inl ⟨by rfl, fun w hS => by first | (go_simp; done) | (go_simp; with_reducible rfl)⟩) hHeld ?_
  try simp only [Act.put, List.getElem_toArray, List.getElem_cons_zero, List.getElem_cons_succ, List.setIfInBounds_toArray, List.set_cons_zero, List.set_cons_succ]
  refine wpAnyH_take (i := 11) (v := _) rfl (by kernel_rfl) (by kernel_rfl) (by kernel_rfl) (fun _ _ _ h => h) (yieldsIf_load_mid (by rfl) 22 (.tmp 32) rfl g (o + i * 32) rfl (bv x) _ (fun w h => (KEEP.out w h).2) Tryd.underlying22 rfl (isz26s HX.out)) hHeld ?_
  try simp only [Act.put, List.getElem_toArray, List.getElem_cons_zero, List.getElem_cons_succ, List.setIfInBounds_toArray, List.set_cons_zero, List.set_cons_succ]
  refine wpAnyH_take (i := 12) (v := .slice A4 n4 c4) rfl (by kernel_rfl) (by kernel_rfl) (by kernel_rfl) (fun _ _ _ h => h) (Or.inl ⟨by rfl, fun w hS => by first | (go_simp; done) | (go_simp; with_reducible rfl)⟩) hHeld ?_
  try simp only [Act.put, List.getElem_toArray, List.getElem_cons_zero, List.getElem_cons_succ, List.setIfInBounds_toArray, List.set_cons_zero, List.set_cons_succ]
  refine wpAnyH_ready (rs := [4]) (by kernel_rfl) (by simp) ?_
  refine AllReadyH.cons rfl (fun K hK => ?_) AllReadyH.nil
  go_simp
  go_wp2_with (go_at_call 19; refine (HRT.out _ (KEEP.out _ kd).1).mono ?_; rintro e w5 ⟨rfl, hb5⟩; have k5 := kd.trans (hb5.mono kd.size))
  refine hK.out _ _ ?_ (fun hHeld => ?_)
  · exact k5
  clear hK K
  try simp only [Act.put, List.getElem_toArray, List.getElem_cons_zero, List.getElem_cons_succ, List.setIfInBounds_toArray, List.set_cons_zero, List.set_cons_succ]
  refine wpAnyH_ready (rs := [13]) (by kernel_rfl) (by simp) ?_
  refine AllReadyH.cons rfl (fun K hK => ?_) AllReadyH.nil
  go_simp
  go_wp2_with (go_at_call 18; refine (HVF.out _ k5).mono ?_; clear HVF; rintro e w6 ⟨rfl, hb6⟩; have k6 := k5.trans (hb6.mono k5.size))
  refine hK.out _ _ ?_ (fun hHeld => ?_)
  · exact k6
  clear hK K
  try simp only [Act.put, List.getElem_toArray, List.getElem_cons_zero, List.getElem_cons_succ, List.setIfInBounds_toArray, List.set_cons_zero, List.set_cons_succ]
  refine wpAnyH_take (i := 14) (v := .bool false) rfl (by kernel_rfl) (by kernel_rfl) (by kernel_rfl) (fun _ _ _ h => h) (Or.inl ⟨by rfl, fun w hS => by first | (go_simp; done) | (go_simp; with_reducible rfl)⟩) hHeld ?_
  try simp only [Act.put, List.getElem_toArray, List.getElem_cons_zero, List.getElem_cons_succ, List.setIfInBounds_toArray, List.set_cons_zero, List.set_cons_succ]
  refine wpAnyH_take (i := 15) (v := .bool false) rfl (by kernel_rfl) (by kernel_rfl) (by kernel_rfl) (fun _ _ _ h => h) (Or.inl ⟨by rfl, fun w hS => by first | (go_simp; done) | (go_simp; with_reducible rfl)⟩) hHeld ?_
  try simp only [Act.put, List.getElem_toArray, List.getElem_cons_zero, List.getElem_cons_succ, List.setIfInBounds_toArray, List.set_cons_zero, List.set_cons_succ]
  refine wpAnyH_done (by kernel_rfl) ?_ _
  have K6 := (KEEP.out _ k6).1
  clear hb5 hb6 k5 k6 kd KEEP
  go_wp2_with fail
  refine (HGR.out _ K6).mono ?_
  rintro e w7 ⟨v7, rfl, ho7, hb7⟩
  have k7 : Below w.heap.size w w7 := K6.trans (hb7.mono K6.size)
  obtain ⟨A7, c7, ev7, hc7, hm7⟩ := ho7.slice
  obtain ⟨n7, hn7⟩ : ∃ n7, n7 = (subS L m true).length := ⟨_, rfl⟩
  rw [← hn7] at ev7 hc7
  subst ev7
  have HS7 := Lib.hid ho7.hs
  have HN7 := Lib.hid hn7
  clear hb7 ho7 hn7 HGR K6
  have HGW : Hid (∀ W, Below w7.heap.size w7 W → Calls Tryd.prog 15 #[.agg (bv rm).toArray, .int .i64 (m : Int), .agg (bv rt).toArray, .int .i64 (n : Int), .slice A7 n7 c7] W fun e w' => e = .returned (.bool true) ∧ Below W.heap.size W w') := Lib.hid fun W hb => by
    have := grown_any rm rt A7 n7 c7 m n (subS L m true) W HRL2.out HRL.out HN7.out.symm (by have := HGL.out; have := HN7.out; omega) hc7 hm7 ((HS7.out.below hb).more hb.size) hm1 hmn (by omega) (HG.out W (k7.trans (hb.mono k7.size)))
    rw [HSUB.out] at this
    simpa using this
  clear hc7 hm7
  have hcut := HCUT.out
  go_wp2_with fail
  refine (HRM.out _ k7).mono ?_
  rintro e w8 ⟨rfl, hb8⟩
  have k8 := k7.trans (hb8.mono k7.size)
  clear hcut HRM
  go_wp2_with fail
  refine (HRT.out _ k8).mono ?_
  rintro e w9 ⟨rfl, hb9⟩
  have k9 := k8.trans (hb9.mono k8.size)
  clear HRT
  go_wp2_with fail
  refine (HGW.out _ (hb8.trans (hb9.mono hb8.size))).mono ?_
  rintro e w10 ⟨rfl, hb10⟩
  go_wp2_with fail
  go_ret
  exact ⟨rfl, k9.trans (hb10.mono k9.size)⟩
set_option maxHeartbeats 3200000 in
theorem lright_yn (A : Option Addr) (n c : Nat) (L : List (List UInt8)) (i : Nat) (m : Int) (w : World) (hn : L.length = n) (h20 : n ≤ 20) (hc : n ≤ c) (hm : c ≤ maxLen) (h : Hs w w.heap.size A L) (hg : Glob w) (hi : i < n) (hmg : m < 1 ∨ (n : Int) < m) :
    Calls Tryd.prog 4 #[.slice A n c, .int .i64 (i : Int), .int .i64 m] w fun e w' => e = .returned (.bool true) ∧ Below w.heap.size w w' := by
  have GS := Lib.hid hg.size
  have HG : Hid (∀ W, Below w.heap.size w W → Glob W) := Lib.hid fun W hb => hg.below hb GS.out
  have HH : Hid (∀ W, Below w.heap.size w W → Hs W W.heap.size A L) := Lib.hid fun W hb => (h.below hb).more hb.size
  have HAW : Hid (∀ W, Below w.heap.size w W → Calls Tryd.prog 13 #[] W fun e w' => e = .returned (.bool true) ∧ Below W.heap.size W w') := Lib.hid fun W hb => awake_any W (HG.out W hb)
  have hrl := rootS_length h.1
  have HRT : Hid (∀ W, Below w.heap.size w W → Calls Tryd.prog 19 #[.slice A n c] W fun e w' => e = .returned (.agg (bv (rootS L)).toArray) ∧ Below W.heap.size W w') := Lib.hid fun W hb => root_any A n c L W hn (by omega) hc hm (HH.out W hb) (HG.out W hb)
  have HPR : Hid (∀ W, Below w.heap.size w W → Calls Tryd.prog 17 #[.slice A n c, .int .i64 (i : Int)] W fun e w' => ∃ v, e = .returned (.tuple #[v, .int .i64 0]) ∧ OwnH w' W.heap.size v (wayS L i) ∧ Below W.heap.size W w') := Lib.hid fun W hb => proof_yes A n c i L W hn hi (by omega) hc hm (HH.out W hb) (HG.out W hb)
  obtain ⟨g, o, rfl, hgB, hr⟩ := h.at_ (k := i) (by rw [hn]; exact hi)
  have hx := h.1.getD (k := i) (by rw [hn]; exact hi)
  have hway := up_way n L i (by omega) (by rw [hn]; exact hi)
  rw [hn] at hway
  have hwl := (wayS_sms n L i (by omega) h.1).2
  rw [hn] at hwl
  generalize L.getD i [] = x at *
  have HX := Lib.hid hx
  have HR := Lib.hid hr
  have hi0 : 0 ≤ (i : Int) := by omega
  have hin : (i : Int) < (n : Int) := by omega
  have HGR : Hid (∀ W, Calls Tryd.prog 20 #[.slice (some ⟨g, o, none⟩) n c, .int .i64 m] W fun e w' => e = .returned (.tuple #[.slice none 0 0, .int .i64 1]) ∧ W = w') := Lib.hid fun W => growth_no (some ⟨g, o, none⟩) n c m W hmg
  generalize rootS L = rt at *
  have HRL := Lib.hid hrl
  have HWAY := Lib.hid hway
  have HWL := Lib.hid hwl
  clear hrl h hg hn hc hm hway hwl hx hr hmg
  have hbw : Below w.heap.size w w := Below.refl _ _
  go_enter Tryd.func4, Tryd.ntmps4
  go_wp2_with fail
  refine (HAW.out _ hbw).mono ?_
  rintro e w2 ⟨rfl, hb2⟩
  clear HAW
  go_wp2_with (first
    | (go_at_call 14; refine (few_yes _ _ _ _ h20).mono ?_; rintro e w3 ⟨rfl, rfl⟩)
    | fail)
  refine (HPR.out _ hb2).mono ?_
  rintro e w4 ⟨v4, rfl, ho4, hb4⟩
  have k4 : Below w.heap.size w w4 := hb2.trans (hb4.mono hb2.size)
  obtain ⟨A4, c4, ev4, hc4, hm4⟩ := ho4.slice
  obtain ⟨n4, hn4⟩ : ∃ n4, n4 = (wayS L i).length := ⟨_, rfl⟩
  rw [← hn4] at ev4 hc4
  subst ev4
  have HS4 := Lib.hid ho4.hs
  have HN4 := Lib.hid hn4
  clear hb4 ho4 hn4 HPR
  have HVF : Hid (∀ W, Below w4.heap.size w4 W → Calls Tryd.prog 18 #[.agg (bv rt).toArray, .int .i64 (n : Int), .int .i64 (i : Int), .agg (bv x).toArray, .slice A4 n4 c4] W fun e w' => e = .returned (.bool true) ∧ Below W.heap.size W w') := Lib.hid fun W hb => by
    have := verify_any rt x A4 n4 c4 n i (wayS L i) W HRL.out HX.out HN4.out.symm (by have := HWL.out; have := HN4.out; omega) hc4 hm4 ((HS4.out.below hb).more hb.size) (by omega) (by omega) (HG.out W (k4.trans (hb.mono k4.size)))
    rw [HWAY.out] at this
    simpa using this
  clear hc4 hm4
  go_wp2_with fail
  have kd : Below w4.heap.size w4 w4.drew := (Below.refl _ w4).drew
  have KEEP : Hid (∀ W, Below w4.heap.size w4 W → Below w.heap.size w W ∧ W.rangeAt g (o + i * 32) (bv x)) := Lib.hid fun W hb => ⟨k4.trans (hb.mono k4.size), range_below HR.out (k4.trans (hb.mono k4.size)) hgB⟩
  refine wp_region_held_drew (S := (fun W => Below w4.heap.size w4 W)) (by kernel_rfl) (kd) (fun hHeld => ?_)
  refine wpAnyH_take (i := 0) (v := .int .i64 0) rfl (by kernel_rfl) (by kernel_rfl) (by kernel_rfl) (fun _ _ _ h => h) (Or.inl ⟨by rfl, fun w hS => by first | (go_simp; done) | (go_simp; with_reducible rfl)⟩) hHeld ?_
  try simp only [Act.put, List.getElem_toArray, List.getElem_cons_zero, List.setIfInBounds_toArray, List.set_cons_zero, List.set_cons_succ]
  refine wpAnyH_take (i := 1) (v := .bool true) rfl (by kernel_rfl) (by kernel_rfl) (by kernel_rfl) (fun _ _ _ h => h) (Or.inl ⟨by rfl, fun w hS => by first | (go_simp; done) | (go_simp; with_reducible rfl)⟩) hHeld ?_
  try simp only [Act.put, List.getElem_toArray, List.getElem_cons_zero, List.getElem_cons_succ, List.setIfInBounds_toArray, List.set_cons_zero, List.set_cons_succ]
  refine wpAnyH_take (i := 2) (v := .bool true) rfl (by kernel_rfl) (by kernel_rfl) (by kernel_rfl) (fun _ _ _ h => h) (Or.inl ⟨by rfl, fun w hS => by first | (go_simp; done) | (go_simp; with_reducible rfl)⟩) hHeld ?_
  try simp only [Act.put, List.getElem_toArray, List.getElem_cons_zero, List.getElem_cons_succ, List.setIfInBounds_toArray, List.set_cons_zero, List.set_cons_succ]
  refine wpAnyH_take (i := 3) (v := .slice (some ⟨g, o, none⟩) n c) rfl (by kernel_rfl) (by kernel_rfl) (by kernel_rfl) (fun _ _ _ h => h) (Or.inl ⟨by rfl, fun w hS => by first | (go_simp; done) | (go_simp; with_reducible rfl)⟩) hHeld ?_
  try simp only [Act.put, List.getElem_toArray, List.getElem_cons_zero, List.getElem_cons_succ, List.setIfInBounds_toArray, List.set_cons_zero, List.set_cons_succ]
  refine wpAnyH_take (i := 5) (v := .slice (some ⟨g, o, none⟩) n c) rfl (by kernel_rfl) (by kernel_rfl) (by kernel_rfl) (fun _ _ _ h => h) (Or.inl ⟨by rfl, fun w hS => by first | (go_simp; done) | (go_simp; with_reducible rfl)⟩) hHeld ?_
  try simp only [Act.put, List.getElem_toArray, List.getElem_cons_zero, List.getElem_cons_succ, List.setIfInBounds_toArray, List.set_cons_zero, List.set_cons_succ]
  refine wpAnyH_take (i := 6) (v := .int .i64 n) rfl (by kernel_rfl) (by kernel_rfl) (by kernel_rfl) (fun _ _ _ h => h) (Or.inl ⟨by rfl, fun w hS => by first | (go_simp; done) | (go_simp; with_reducible rfl)⟩) hHeld ?_
  try simp only [Act.put, List.getElem_toArray, List.getElem_cons_zero, List.getElem_cons_succ, List.setIfInBounds_toArray, List.set_cons_zero, List.set_cons_succ]
  refine wpAnyH_take (i := 7) (v := .int .i64 i) rfl (by kernel_rfl) (by kernel_rfl) (by kernel_rfl) (fun _ _ _ h => h) (Or.inl ⟨by rfl, fun w hS => by first | (go_simp; done) | (go_simp; with_reducible rfl)⟩) hHeld ?_
  try simp only [Act.put, List.getElem_toArray, List.getElem_cons_zero, List.getElem_cons_succ, List.setIfInBounds_toArray, List.set_cons_zero, List.set_cons_succ]
  refine wpAnyH_take (i := 8) (v := .slice (some ⟨g, o, none⟩) n c) rfl (by kernel_rfl) (by kernel_rfl) (by kernel_rfl) (fun _ _ _ h => h) (Or.inl ⟨by rfl, fun w hS => by first | (go_simp; done) | (go_simp; with_reducible rfl)⟩) hHeld ?_
  try simp only [Act.put, List.getElem_toArray, List.getElem_cons_zero, List.getElem_cons_succ, List.setIfInBounds_toArray, List.set_cons_zero, List.set_cons_succ]
  refine wpAnyH_take (i := 9) (v := .int .i64 i) rfl (by kernel_rfl) (by kernel_rfl) (by kernel_rfl) (fun _ _ _ h => h) (Or.inl ⟨by rfl, fun w hS => by first | (go_simp; done) | (go_simp; with_reducible rfl)⟩) hHeld ?_
  try simp only [Act.put, List.getElem_toArray, List.getElem_cons_zero, List.getElem_cons_succ, List.setIfInBounds_toArray, List.set_cons_zero, List.set_cons_succ]
  refine wpAnyH_take (i := 10) (v := .pointer (some ⟨g, o + i * 32, none⟩)) rfl (by kernel_rfl) (by kernel_rfl) (by kernel_rfl) (fun _ _ _ h => h) (Or.inl ⟨by rfl, fun w hS => by first | (go_simp; done) | (go_simp; with_reducible rfl)⟩) hHeld ?_
  try simp only [Act.put, List.getElem_toArray, List.getElem_cons_zero, List.getElem_cons_succ, List.setIfInBounds_toArray, List.set_cons_zero, List.set_cons_succ]
  refine wpAnyH_take (i := 11) (v := _) rfl (by kernel_rfl) (by kernel_rfl) (by kernel_rfl) (fun _ _ _ h => h) (yieldsIf_load_mid (by rfl) 22 (.tmp 32) rfl g (o + i * 32) rfl (bv x) _ (fun w h => (KEEP.out w h).2) Tryd.underlying22 rfl (isz26s HX.out)) hHeld ?_
  try simp only [Act.put, List.getElem_toArray, List.getElem_cons_zero, List.getElem_cons_succ, List.setIfInBounds_toArray, List.set_cons_zero, List.set_cons_succ]
  refine wpAnyH_take (i := 12) (v := .slice A4 n4 c4) rfl (by kernel_rfl) (by kernel_rfl) (by kernel_rfl) (fun _ _ _ h => h) (Or.inl ⟨by rfl, fun w hS => by first | (go_simp; done) | (go_simp; with_reducible rfl)⟩) hHeld ?_
  try simp only [Act.put, List.getElem_toArray, List.getElem_cons_zero, List.getElem_cons_succ, List.setIfInBounds_toArray, List.set_cons_zero, List.set_cons_succ]
  refine wpAnyH_ready (rs := [4]) (by kernel_rfl) (by simp) ?_
  refine AllReadyH.cons rfl (fun K hK => ?_) AllReadyH.nil
  go_simp
  go_wp2_with (go_at_call 19; refine (HRT.out _ (KEEP.out _ kd).1).mono ?_; rintro e w5 ⟨rfl, hb5⟩; have k5 := kd.trans (hb5.mono kd.size))
  refine hK.out _ _ ?_ (fun hHeld => ?_)
  · exact k5
  clear hK K
  try simp only [Act.put, List.getElem_toArray, List.getElem_cons_zero, List.getElem_cons_succ, List.setIfInBounds_toArray, List.set_cons_zero, List.set_cons_succ]
  refine wpAnyH_ready (rs := [13]) (by kernel_rfl) (by simp) ?_
  refine AllReadyH.cons rfl (fun K hK => ?_) AllReadyH.nil
  go_simp
  go_wp2_with (go_at_call 18; refine (HVF.out _ k5).mono ?_; clear HVF; rintro e w6 ⟨rfl, hb6⟩; have k6 := k5.trans (hb6.mono k5.size))
  refine hK.out _ _ ?_ (fun hHeld => ?_)
  · exact k6
  clear hK K
  try simp only [Act.put, List.getElem_toArray, List.getElem_cons_zero, List.getElem_cons_succ, List.setIfInBounds_toArray, List.set_cons_zero, List.set_cons_succ]
  refine wpAnyH_take (i := 14) (v := .bool false) rfl (by kernel_rfl) (by kernel_rfl) (by kernel_rfl) (fun _ _ _ h => h) (Or.inl ⟨by rfl, fun w hS => by first | (go_simp; done) | (go_simp; with_reducible rfl)⟩) hHeld ?_
  try simp only [Act.put, List.getElem_toArray, List.getElem_cons_zero, List.getElem_cons_succ, List.setIfInBounds_toArray, List.set_cons_zero, List.set_cons_succ]
  refine wpAnyH_take (i := 15) (v := .bool false) rfl (by kernel_rfl) (by kernel_rfl) (by kernel_rfl) (fun _ _ _ h => h) (Or.inl ⟨by rfl, fun w hS => by first | (go_simp; done) | (go_simp; with_reducible rfl)⟩) hHeld ?_
  try simp only [Act.put, List.getElem_toArray, List.getElem_cons_zero, List.getElem_cons_succ, List.setIfInBounds_toArray, List.set_cons_zero, List.set_cons_succ]
  refine wpAnyH_done (by kernel_rfl) ?_ _
  have K6 := (KEEP.out _ k6).1
  clear hb5 hb6 k5 k6 kd KEEP
  go_wp2_with fail
  refine (HGR.out _).mono ?_
  rintro e w7 ⟨rfl, rfl⟩
  go_wp2_with fail
  go_ret
  exact ⟨rfl, K6⟩
set_option maxHeartbeats 3200000 in
theorem lright_ny (A : Option Addr) (n c : Nat) (L : List (List UInt8)) (i : Int) (m : Nat) (w : World) (hn : L.length = n) (h20 : n ≤ 20) (hc : n ≤ c) (hm : c ≤ maxLen) (h : Hs w w.heap.size A L) (hg : Glob w) (hi : i < 0 ∨ (n : Int) ≤ i) (hm1 : 1 ≤ m) (hmn : m ≤ n) :
    Calls Tryd.prog 4 #[.slice A n c, .int .i64 i, .int .i64 (m : Int)] w fun e w' => e = .returned (.bool true) ∧ Below w.heap.size w w' := by
  have GS := Lib.hid hg.size
  have HG : Hid (∀ W, Below w.heap.size w W → Glob W) := Lib.hid fun W hb => hg.below hb GS.out
  have HH : Hid (∀ W, Below w.heap.size w W → Hs W W.heap.size A L) := Lib.hid fun W hb => (h.below hb).more hb.size
  have HAW : Hid (∀ W, Below w.heap.size w W → Calls Tryd.prog 13 #[] W fun e w' => e = .returned (.bool true) ∧ Below W.heap.size W w') := Lib.hid fun W hb => awake_any W (HG.out W hb)
  have hrl := rootS_length h.1
  have HRT : Hid (∀ W, Below w.heap.size w W → Calls Tryd.prog 19 #[.slice A n c] W fun e w' => e = .returned (.agg (bv (rootS L)).toArray) ∧ Below W.heap.size W w') := Lib.hid fun W hb => root_any A n c L W hn (by omega) hc hm (HH.out W hb) (HG.out W hb)
  have HPR : Hid (∀ W, Calls Tryd.prog 17 #[.slice A n c, .int .i64 i] W fun e w' => e = .returned (.tuple #[.slice none 0 0, .int .i64 1]) ∧ W = w') := Lib.hid fun W => proof_no A n c i W hi
  have HGR : Hid (∀ W, Below w.heap.size w W → Calls Tryd.prog 20 #[.slice A n c, .int .i64 (m : Int)] W fun e w' => ∃ v, e = .returned (.tuple #[v, .int .i64 0]) ∧ OwnH w' W.heap.size v (subS L m true) ∧ Below W.heap.size W w') := Lib.hid fun W hb => growth_yes A n c m L W hn hm1 hmn (by omega) hc hm (HH.out W hb) (HG.out W hb)
  have hsub := both_sub n L m true (rootS (L.take m)) (by omega) hm1 (by omega) (fun _ => rfl)
  rw [hn] at hsub
  have hgl := (subS_sms n L m true (by omega) hm1 (by omega) h.1).2
  rw [hn] at hgl
  have hrm := rootS_length (h.1.take m)
  have HRM : Hid (∀ W, Below w.heap.size w W → Calls Tryd.prog 19 #[.slice A m c] W fun e w' => e = .returned (.agg (bv (rootS (L.take m))).toArray) ∧ Below W.heap.size W w') := Lib.hid fun W hb => root_any A m c (L.take m) W (by rw [List.length_take]; omega) (by omega) (by omega) hm ((HH.out W hb).take m) (HG.out W hb)
  have hcut := cutH_lo A n c m hmn hc
  have HCUT := Lib.hid hcut
  generalize rootS (L.take m) = rm at *
  have HRL2 := Lib.hid hrm
  have hm0 : 0 ≤ (m : Int) := by omega
  have hmn' : (m : Int) ≤ (n : Int) := by omega
  generalize rootS L = rt at *
  have HRL := Lib.hid hrl
  have HSUB := Lib.hid hsub
  have HGL := Lib.hid hgl
  clear hrl h hg hn hc hm hi hsub hgl hrm hcut
  have hbw : Below w.heap.size w w := Below.refl _ _
  go_enter Tryd.func4, Tryd.ntmps4
  go_wp2_with fail
  refine (HAW.out _ hbw).mono ?_
  rintro e w2 ⟨rfl, hb2⟩
  clear HAW
  go_wp2_with (first
    | (go_at_call 14; refine (few_yes _ _ _ _ h20).mono ?_; rintro e w3 ⟨rfl, rfl⟩)
    | fail)
  refine (HPR.out _).mono ?_
  rintro e w6 ⟨rfl, rfl⟩
  have K6 := hb2
  go_wp2_with fail
  refine wp_region_held_drew (S := (fun _ => True)) (by kernel_rfl) (trivial) (fun hHeld => ?_)
  refine wpAnyH_take (i := 0) (v := .int .i64 1) rfl (by kernel_rfl) (by kernel_rfl) (by kernel_rfl) (fun _ _ _ h => h) (Or.inl ⟨by rfl, fun w hS => by first | (go_simp; done) | (go_simp; with_reducible rfl)⟩) hHeld ?_
  try simp only [Act.put, List.getElem_toArray, List.getElem_cons_zero, List.setIfInBounds_toArray, List.set_cons_zero, List.set_cons_succ]
  refine wpAnyH_take (i := 1) (v := .bool false) rfl (by kernel_rfl) (by kernel_rfl) (by kernel_rfl) (fun _ _ _ h => h) (Or.inl ⟨by rfl, fun w hS => by first | (go_simp; done) | (go_simp; with_reducible rfl)⟩) hHeld ?_
  try simp only [Act.put, List.getElem_toArray, List.getElem_cons_zero, List.getElem_cons_succ, List.setIfInBounds_toArray, List.set_cons_zero, List.set_cons_succ]
  refine wpAnyH_take (i := 2) (v := .bool false) rfl (by kernel_rfl) (by kernel_rfl) (by kernel_rfl) (fun _ _ _ h => h) (Or.inl ⟨by rfl, fun w hS => by first | (go_simp; done) | (go_simp; with_reducible rfl)⟩) hHeld ?_
  try simp only [Act.put, List.getElem_toArray, List.getElem_cons_zero, List.getElem_cons_succ, List.setIfInBounds_toArray, List.set_cons_zero, List.set_cons_succ]
  refine wpAnyH_take (i := 3) (v := undef) rfl (by kernel_rfl) (by kernel_rfl) (by kernel_rfl) (fun _ _ _ h => h) (Or.inr ⟨by rfl, rfl⟩) hHeld ?_
  try simp only [Act.put, List.getElem_toArray, List.getElem_cons_zero, List.getElem_cons_succ, List.setIfInBounds_toArray, List.set_cons_zero, List.set_cons_succ]
  refine wpAnyH_take (i := 5) (v := undef) rfl (by kernel_rfl) (by kernel_rfl) (by kernel_rfl) (fun _ _ _ h => h) (Or.inr ⟨by rfl, rfl⟩) hHeld ?_
  try simp only [Act.put, List.getElem_toArray, List.getElem_cons_zero, List.getElem_cons_succ, List.setIfInBounds_toArray, List.set_cons_zero, List.set_cons_succ]
  refine wpAnyH_take (i := 6) (v := undef) rfl (by kernel_rfl) (by kernel_rfl) (by kernel_rfl) (fun _ _ _ h => h) (Or.inr ⟨by rfl, rfl⟩) hHeld ?_
  try simp only [Act.put, List.getElem_toArray, List.getElem_cons_zero, List.getElem_cons_succ, List.setIfInBounds_toArray, List.set_cons_zero, List.set_cons_succ]
  refine wpAnyH_take (i := 7) (v := undef) rfl (by kernel_rfl) (by kernel_rfl) (by kernel_rfl) (fun _ _ _ h => h) (Or.inr ⟨by rfl, rfl⟩) hHeld ?_
  try simp only [Act.put, List.getElem_toArray, List.getElem_cons_zero, List.getElem_cons_succ, List.setIfInBounds_toArray, List.set_cons_zero, List.set_cons_succ]
  refine wpAnyH_take (i := 8) (v := undef) rfl (by kernel_rfl) (by kernel_rfl) (by kernel_rfl) (fun _ _ _ h => h) (Or.inr ⟨by rfl, rfl⟩) hHeld ?_
  try simp only [Act.put, List.getElem_toArray, List.getElem_cons_zero, List.getElem_cons_succ, List.setIfInBounds_toArray, List.set_cons_zero, List.set_cons_succ]
  refine wpAnyH_take (i := 9) (v := undef) rfl (by kernel_rfl) (by kernel_rfl) (by kernel_rfl) (fun _ _ _ h => h) (Or.inr ⟨by rfl, rfl⟩) hHeld ?_
  try simp only [Act.put, List.getElem_toArray, List.getElem_cons_zero, List.getElem_cons_succ, List.setIfInBounds_toArray, List.set_cons_zero, List.set_cons_succ]
  refine wpAnyH_take (i := 10) (v := undef) rfl (by kernel_rfl) (by kernel_rfl) (by kernel_rfl) (fun _ _ _ h => h) (Or.inr ⟨by rfl, rfl⟩) hHeld ?_
  try simp only [Act.put, List.getElem_toArray, List.getElem_cons_zero, List.getElem_cons_succ, List.setIfInBounds_toArray, List.set_cons_zero, List.set_cons_succ]
  refine wpAnyH_take (i := 11) (v := undef) rfl (by kernel_rfl) (by kernel_rfl) (by kernel_rfl) (fun _ _ _ h => h) (Or.inr ⟨by rfl, rfl⟩) hHeld ?_
  try simp only [Act.put, List.getElem_toArray, List.getElem_cons_zero, List.getElem_cons_succ, List.setIfInBounds_toArray, List.set_cons_zero, List.set_cons_succ]
  refine wpAnyH_take (i := 12) (v := undef) rfl (by kernel_rfl) (by kernel_rfl) (by kernel_rfl) (fun _ _ _ h => h) (Or.inr ⟨by rfl, rfl⟩) hHeld ?_
  try simp only [Act.put, List.getElem_toArray, List.getElem_cons_zero, List.getElem_cons_succ, List.setIfInBounds_toArray, List.set_cons_zero, List.set_cons_succ]
  refine wpAnyH_take (i := 4) (v := undef) rfl (by kernel_rfl) (by kernel_rfl) (by kernel_rfl) (fun _ _ _ h => h) (Or.inr ⟨by rfl, rfl⟩) hHeld ?_
  try simp only [Act.put, List.getElem_toArray, List.getElem_cons_zero, List.getElem_cons_succ, List.setIfInBounds_toArray, List.set_cons_zero, List.set_cons_succ]
  refine wpAnyH_take (i := 13) (v := undef) rfl (by kernel_rfl) (by kernel_rfl) (by kernel_rfl) (fun _ _ _ h => h) (Or.inr ⟨by rfl, rfl⟩) hHeld ?_
  try simp only [Act.put, List.getElem_toArray, List.getElem_cons_zero, List.getElem_cons_succ, List.setIfInBounds_toArray, List.set_cons_zero, List.set_cons_succ]
  refine wpAnyH_take (i := 14) (v := undef) rfl (by kernel_rfl) (by kernel_rfl) (by kernel_rfl) (fun _ _ _ h => h) (Or.inr ⟨by rfl, rfl⟩) hHeld ?_
  try simp only [Act.put, List.getElem_toArray, List.getElem_cons_zero, List.getElem_cons_succ, List.setIfInBounds_toArray, List.set_cons_zero, List.set_cons_succ]
  refine wpAnyH_take (i := 15) (v := .bool false) rfl (by kernel_rfl) (by kernel_rfl) (by kernel_rfl) (fun _ _ _ h => h) (Or.inl ⟨by rfl, fun w hS => by first | (go_simp; done) | (go_simp; with_reducible rfl)⟩) hHeld ?_
  try simp only [Act.put, List.getElem_toArray, List.getElem_cons_zero, List.getElem_cons_succ, List.setIfInBounds_toArray, List.set_cons_zero, List.set_cons_succ]
  refine wpAnyH_done (by kernel_rfl) ?_ _
  replace K6 := K6.drew
  go_wp2_with fail
  refine (HGR.out _ K6).mono ?_
  rintro e w7 ⟨v7, rfl, ho7, hb7⟩
  have k7 : Below w.heap.size w w7 := K6.trans (hb7.mono K6.size)
  obtain ⟨A7, c7, ev7, hc7, hm7⟩ := ho7.slice
  obtain ⟨n7, hn7⟩ : ∃ n7, n7 = (subS L m true).length := ⟨_, rfl⟩
  rw [← hn7] at ev7 hc7
  subst ev7
  have HS7 := Lib.hid ho7.hs
  have HN7 := Lib.hid hn7
  clear hb7 ho7 hn7 HGR K6
  have HGW : Hid (∀ W, Below w7.heap.size w7 W → Calls Tryd.prog 15 #[.agg (bv rm).toArray, .int .i64 (m : Int), .agg (bv rt).toArray, .int .i64 (n : Int), .slice A7 n7 c7] W fun e w' => e = .returned (.bool true) ∧ Below W.heap.size W w') := Lib.hid fun W hb => by
    have := grown_any rm rt A7 n7 c7 m n (subS L m true) W HRL2.out HRL.out HN7.out.symm (by have := HGL.out; have := HN7.out; omega) hc7 hm7 ((HS7.out.below hb).more hb.size) hm1 hmn (by omega) (HG.out W (k7.trans (hb.mono k7.size)))
    rw [HSUB.out] at this
    simpa using this
  clear hc7 hm7
  have hcut := HCUT.out
  go_wp2_with fail
  refine (HRM.out _ k7).mono ?_
  rintro e w8 ⟨rfl, hb8⟩
  have k8 := k7.trans (hb8.mono k7.size)
  clear hcut HRM
  go_wp2_with fail
  refine (HRT.out _ k8).mono ?_
  rintro e w9 ⟨rfl, hb9⟩
  have k9 := k8.trans (hb9.mono k8.size)
  clear HRT
  go_wp2_with fail
  refine (HGW.out _ (hb8.trans (hb9.mono hb8.size))).mono ?_
  rintro e w10 ⟨rfl, hb10⟩
  go_wp2_with fail
  go_ret
  exact ⟨rfl, k9.trans (hb10.mono k9.size)⟩
set_option maxHeartbeats 3200000 in
theorem lright_nn (A : Option Addr) (n c : Nat) (L : List (List UInt8)) (i : Int) (m : Int) (w : World) (hn : L.length = n) (h20 : n ≤ 20) (hc : n ≤ c) (hm : c ≤ maxLen) (h : Hs w w.heap.size A L) (hg : Glob w) (hi : i < 0 ∨ (n : Int) ≤ i) (hmg : m < 1 ∨ (n : Int) < m) :
    Calls Tryd.prog 4 #[.slice A n c, .int .i64 i, .int .i64 m] w fun e w' => e = .returned (.bool true) ∧ Below w.heap.size w w' := by
  have GS := Lib.hid hg.size
  have HG : Hid (∀ W, Below w.heap.size w W → Glob W) := Lib.hid fun W hb => hg.below hb GS.out
  have HH : Hid (∀ W, Below w.heap.size w W → Hs W W.heap.size A L) := Lib.hid fun W hb => (h.below hb).more hb.size
  have HAW : Hid (∀ W, Below w.heap.size w W → Calls Tryd.prog 13 #[] W fun e w' => e = .returned (.bool true) ∧ Below W.heap.size W w') := Lib.hid fun W hb => awake_any W (HG.out W hb)
  have hrl := rootS_length h.1
  have HRT : Hid (∀ W, Below w.heap.size w W → Calls Tryd.prog 19 #[.slice A n c] W fun e w' => e = .returned (.agg (bv (rootS L)).toArray) ∧ Below W.heap.size W w') := Lib.hid fun W hb => root_any A n c L W hn (by omega) hc hm (HH.out W hb) (HG.out W hb)
  have HPR : Hid (∀ W, Calls Tryd.prog 17 #[.slice A n c, .int .i64 i] W fun e w' => e = .returned (.tuple #[.slice none 0 0, .int .i64 1]) ∧ W = w') := Lib.hid fun W => proof_no A n c i W hi
  have HGR : Hid (∀ W, Calls Tryd.prog 20 #[.slice A n c, .int .i64 m] W fun e w' => e = .returned (.tuple #[.slice none 0 0, .int .i64 1]) ∧ W = w') := Lib.hid fun W => growth_no A n c m W hmg
  generalize rootS L = rt at *
  have HRL := Lib.hid hrl
  clear hrl h hg hn hc hm hi hmg
  have hbw : Below w.heap.size w w := Below.refl _ _
  go_enter Tryd.func4, Tryd.ntmps4
  go_wp2_with fail
  refine (HAW.out _ hbw).mono ?_
  rintro e w2 ⟨rfl, hb2⟩
  clear HAW
  go_wp2_with (first
    | (go_at_call 14; refine (few_yes _ _ _ _ h20).mono ?_; rintro e w3 ⟨rfl, rfl⟩)
    | fail)
  refine (HPR.out _).mono ?_
  rintro e w6 ⟨rfl, rfl⟩
  have K6 := hb2
  go_wp2_with fail
  refine wp_region_held_drew (S := (fun _ => True)) (by kernel_rfl) (trivial) (fun hHeld => ?_)
  refine wpAnyH_take (i := 0) (v := .int .i64 1) rfl (by kernel_rfl) (by kernel_rfl) (by kernel_rfl) (fun _ _ _ h => h) (Or.inl ⟨by rfl, fun w hS => by first | (go_simp; done) | (go_simp; with_reducible rfl)⟩) hHeld ?_
  try simp only [Act.put, List.getElem_toArray, List.getElem_cons_zero, List.setIfInBounds_toArray, List.set_cons_zero, List.set_cons_succ]
  refine wpAnyH_take (i := 1) (v := .bool false) rfl (by kernel_rfl) (by kernel_rfl) (by kernel_rfl) (fun _ _ _ h => h) (Or.inl ⟨by rfl, fun w hS => by first | (go_simp; done) | (go_simp; with_reducible rfl)⟩) hHeld ?_
  try simp only [Act.put, List.getElem_toArray, List.getElem_cons_zero, List.getElem_cons_succ, List.setIfInBounds_toArray, List.set_cons_zero, List.set_cons_succ]
  refine wpAnyH_take (i := 2) (v := .bool false) rfl (by kernel_rfl) (by kernel_rfl) (by kernel_rfl) (fun _ _ _ h => h) (Or.inl ⟨by rfl, fun w hS => by first | (go_simp; done) | (go_simp; with_reducible rfl)⟩) hHeld ?_
  try simp only [Act.put, List.getElem_toArray, List.getElem_cons_zero, List.getElem_cons_succ, List.setIfInBounds_toArray, List.set_cons_zero, List.set_cons_succ]
  refine wpAnyH_take (i := 3) (v := undef) rfl (by kernel_rfl) (by kernel_rfl) (by kernel_rfl) (fun _ _ _ h => h) (Or.inr ⟨by rfl, rfl⟩) hHeld ?_
  try simp only [Act.put, List.getElem_toArray, List.getElem_cons_zero, List.getElem_cons_succ, List.setIfInBounds_toArray, List.set_cons_zero, List.set_cons_succ]
  refine wpAnyH_take (i := 5) (v := undef) rfl (by kernel_rfl) (by kernel_rfl) (by kernel_rfl) (fun _ _ _ h => h) (Or.inr ⟨by rfl, rfl⟩) hHeld ?_
  try simp only [Act.put, List.getElem_toArray, List.getElem_cons_zero, List.getElem_cons_succ, List.setIfInBounds_toArray, List.set_cons_zero, List.set_cons_succ]
  refine wpAnyH_take (i := 6) (v := undef) rfl (by kernel_rfl) (by kernel_rfl) (by kernel_rfl) (fun _ _ _ h => h) (Or.inr ⟨by rfl, rfl⟩) hHeld ?_
  try simp only [Act.put, List.getElem_toArray, List.getElem_cons_zero, List.getElem_cons_succ, List.setIfInBounds_toArray, List.set_cons_zero, List.set_cons_succ]
  refine wpAnyH_take (i := 7) (v := undef) rfl (by kernel_rfl) (by kernel_rfl) (by kernel_rfl) (fun _ _ _ h => h) (Or.inr ⟨by rfl, rfl⟩) hHeld ?_
  try simp only [Act.put, List.getElem_toArray, List.getElem_cons_zero, List.getElem_cons_succ, List.setIfInBounds_toArray, List.set_cons_zero, List.set_cons_succ]
  refine wpAnyH_take (i := 8) (v := undef) rfl (by kernel_rfl) (by kernel_rfl) (by kernel_rfl) (fun _ _ _ h => h) (Or.inr ⟨by rfl, rfl⟩) hHeld ?_
  try simp only [Act.put, List.getElem_toArray, List.getElem_cons_zero, List.getElem_cons_succ, List.setIfInBounds_toArray, List.set_cons_zero, List.set_cons_succ]
  refine wpAnyH_take (i := 9) (v := undef) rfl (by kernel_rfl) (by kernel_rfl) (by kernel_rfl) (fun _ _ _ h => h) (Or.inr ⟨by rfl, rfl⟩) hHeld ?_
  try simp only [Act.put, List.getElem_toArray, List.getElem_cons_zero, List.getElem_cons_succ, List.setIfInBounds_toArray, List.set_cons_zero, List.set_cons_succ]
  refine wpAnyH_take (i := 10) (v := undef) rfl (by kernel_rfl) (by kernel_rfl) (by kernel_rfl) (fun _ _ _ h => h) (Or.inr ⟨by rfl, rfl⟩) hHeld ?_
  try simp only [Act.put, List.getElem_toArray, List.getElem_cons_zero, List.getElem_cons_succ, List.setIfInBounds_toArray, List.set_cons_zero, List.set_cons_succ]
  refine wpAnyH_take (i := 11) (v := undef) rfl (by kernel_rfl) (by kernel_rfl) (by kernel_rfl) (fun _ _ _ h => h) (Or.inr ⟨by rfl, rfl⟩) hHeld ?_
  try simp only [Act.put, List.getElem_toArray, List.getElem_cons_zero, List.getElem_cons_succ, List.setIfInBounds_toArray, List.set_cons_zero, List.set_cons_succ]
  refine wpAnyH_take (i := 12) (v := undef) rfl (by kernel_rfl) (by kernel_rfl) (by kernel_rfl) (fun _ _ _ h => h) (Or.inr ⟨by rfl, rfl⟩) hHeld ?_
  try simp only [Act.put, List.getElem_toArray, List.getElem_cons_zero, List.getElem_cons_succ, List.setIfInBounds_toArray, List.set_cons_zero, List.set_cons_succ]
  refine wpAnyH_take (i := 4) (v := undef) rfl (by kernel_rfl) (by kernel_rfl) (by kernel_rfl) (fun _ _ _ h => h) (Or.inr ⟨by rfl, rfl⟩) hHeld ?_
  try simp only [Act.put, List.getElem_toArray, List.getElem_cons_zero, List.getElem_cons_succ, List.setIfInBounds_toArray, List.set_cons_zero, List.set_cons_succ]
  refine wpAnyH_take (i := 13) (v := undef) rfl (by kernel_rfl) (by kernel_rfl) (by kernel_rfl) (fun _ _ _ h => h) (Or.inr ⟨by rfl, rfl⟩) hHeld ?_
  try simp only [Act.put, List.getElem_toArray, List.getElem_cons_zero, List.getElem_cons_succ, List.setIfInBounds_toArray, List.set_cons_zero, List.set_cons_succ]
  refine wpAnyH_take (i := 14) (v := undef) rfl (by kernel_rfl) (by kernel_rfl) (by kernel_rfl) (fun _ _ _ h => h) (Or.inr ⟨by rfl, rfl⟩) hHeld ?_
  try simp only [Act.put, List.getElem_toArray, List.getElem_cons_zero, List.getElem_cons_succ, List.setIfInBounds_toArray, List.set_cons_zero, List.set_cons_succ]
  refine wpAnyH_take (i := 15) (v := .bool false) rfl (by kernel_rfl) (by kernel_rfl) (by kernel_rfl) (fun _ _ _ h => h) (Or.inl ⟨by rfl, fun w hS => by first | (go_simp; done) | (go_simp; with_reducible rfl)⟩) hHeld ?_
  try simp only [Act.put, List.getElem_toArray, List.getElem_cons_zero, List.getElem_cons_succ, List.setIfInBounds_toArray, List.set_cons_zero, List.set_cons_succ]
  refine wpAnyH_done (by kernel_rfl) ?_ _
  replace K6 := K6.drew
  go_wp2_with fail
  refine (HGR.out _).mono ?_
  rintro e w7 ⟨rfl, rfl⟩
  go_wp2_with fail
  go_ret
  exact ⟨rfl, K6⟩
set_option maxHeartbeats 800000 in
theorem lright_any (A : Option Addr) (n c : Nat) (L : List (List UInt8)) (i m : Int) (w : World) (hn : L.length = n) (hc : n ≤ c) (hm : c ≤ maxLen) (h : Hs w w.heap.size A L) (hg : Glob w) :
    Calls Tryd.prog 4 #[.slice A n c, .int .i64 i, .int .i64 m] w fun e w' => e = .returned (.bool true) ∧ Below w.heap.size w w' := by
  by_cases h20 : n ≤ 20
  · by_cases hi : 0 ≤ i ∧ i < n
    · obtain ⟨i, rfl⟩ : ∃ j : Nat, i = (j : Int) := ⟨i.toNat, by omega⟩
      by_cases hmm : 1 ≤ m ∧ m ≤ n
      · obtain ⟨m, rfl⟩ : ∃ j : Nat, m = (j : Int) := ⟨m.toNat, by omega⟩
        exact lright_yy A n c L i m w hn h20 hc hm h hg (by omega) (by omega) (by omega)
      · exact lright_yn A n c L i m w hn h20 hc hm h hg (by omega) (by omega)
    · by_cases hmm : 1 ≤ m ∧ m ≤ n
      · obtain ⟨m, rfl⟩ : ∃ j : Nat, m = (j : Int) := ⟨m.toNat, by omega⟩
        exact lright_ny A n c L i m w hn h20 hc hm h hg (by omega) (by omega) (by omega)
      · exact lright_nn A n c L i m w hn h20 hc hm h hg (by omega) (by omega)
  · have GS := Lib.hid hg.size
    have HAW : Hid (∀ W, Below w.heap.size w W → Calls Tryd.prog 13 #[] W fun e w' => e = .returned (.bool true) ∧ Below W.heap.size W w') := Lib.hid fun W hb => awake_any W (hg.below hb GS.out)
    have hbw : Below w.heap.size w w := Below.refl _ _
    clear h hn hc hm hg
    go_enter Tryd.func4, Tryd.ntmps4
    go_wp2_with fail
    refine (HAW.out _ hbw).mono ?_
    rintro e w2 ⟨rfl, hb2⟩
    go_wp2_with (first
      | (go_at_call 14; refine (few_no _ _ _ _ h20).mono ?_; rintro e w3 ⟨rfl, rfl⟩)
      | fail)
    go_ret
    exact ⟨rfl, hb2⟩
end Go.Proofs.YtfgdochpnnkpmaaDoor
