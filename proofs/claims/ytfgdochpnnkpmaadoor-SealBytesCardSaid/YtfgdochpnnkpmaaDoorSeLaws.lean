/- The walks of SealBytes, SealOf, SealHolds, SealChains. Conditions: as stated. -/
import Derived.Test.YtfgdochpnnkpmaaDoorSeAwake
import Derived.Test.YtfgdochpnnkpmaaDoorMkMore
namespace Go.Proofs.YtfgdochpnnkpmaaDoor
set_option maxRecDepth 100000
open Go.RowKit Go
set_option maxHeartbeats 1600000 in
theorem lbytes_any (s : Sl) (w : World) (hs : s.ok) (hg : Glob w) :
    Calls Tryd.prog 7 #[.agg (sc s).toArray] w fun e w' => e = .returned (.bool true) ∧ Below w.heap.size w w' := by
  have GS := Lib.hid hg.size
  have HS := Lib.hid hs
  have h0 : BlkIs (w.alloc (.cells (sc s).toArray 39)) w.heap.size 39 (sc s).toArray := BlkIs.new w _ _
  have hb := below1 w (.cells (sc s).toArray 39)
  have HG : Hid (∀ W, Below w.heap.size w W → Glob W) := Lib.hid fun W hb => hg.below hb GS.out
  have HAW : Hid (∀ W, Below w.heap.size w W → Calls Tryd.prog 23 #[] W fun e w' => e = .returned (.bool true) ∧ Below W.heap.size W w') := Lib.hid fun W hb => awake6 W (HG.out W hb)
  have heq := fun w => run_eq24 (sumS s) (sumS s) (sumS_length s) (sumS_length s) w
  rw [show (sumS s == sumS s) = true by simp] at heq
  have HL := Lib.hid (bytesS_length hs)
  clear hs hg
  go_enter Tryd.func7, Tryd.ntmps7
  go_wp2_with fail
  refine (HAW.out _ hb).mono ?_
  rintro e w2 ⟨rfl, hb2⟩
  have KEEP : Hid (∀ W, Below w2.heap.size w2 W → Below w.heap.size w W ∧ W.rangeAt w.heap.size 0 (sc s)) := Lib.hid fun W h =>
    ⟨(hb.trans (hb2.mono (by simp))).trans (h.mono ((hb.trans (hb2.mono (by simp))).size)), blk_rng ((h.block _ (by have := hb2.size; have := h0.lt; omega)).trans ((hb2.block _ h0.lt).trans h0))⟩
  clear h0 hb hb2 HAW
  go_wp2_with fail
  have kd : Below w2.heap.size w2 w2.drew := (Below.refl _ w2).drew
  refine wp_region_held_drew (S := (fun W => Below w2.heap.size w2 W)) (by kernel_rfl) (kd) (fun hHeld => ?_)
  refine wpAnyH_take (i := 0) (v := _) rfl (by kernel_rfl) (by kernel_rfl) (by kernel_rfl) (fun _ _ _ h => h) (yieldsIf_load_mid (by rfl) 39 (.tmp 1) rfl w.heap.size 0 rfl (sc s) _ (fun w h => (KEEP.out w h).2) Tryd.underlying39 rfl (isz39s HS.out)) hHeld ?_
  try simp only [Act.put, List.getElem_toArray, List.getElem_cons_zero, List.setIfInBounds_toArray, List.set_cons_zero, List.set_cons_succ]
  refine wpAnyH_take (i := 3) (v := _) rfl (by kernel_rfl) (by kernel_rfl) (by kernel_rfl) (fun _ _ _ h => h) (yieldsIf_load_mid (by rfl) 39 (.tmp 1) rfl w.heap.size 0 rfl (sc s) _ (fun w h => (KEEP.out w h).2) Tryd.underlying39 rfl (isz39s HS.out)) hHeld ?_
  try simp only [Act.put, List.getElem_toArray, List.getElem_cons_zero, List.getElem_cons_succ, List.setIfInBounds_toArray, List.set_cons_zero, List.set_cons_succ]
  refine wpAnyH_ready (rs := [1]) (by kernel_rfl) (by simp) ?_
  refine AllReadyH.cons rfl (fun K hK => ?_) AllReadyH.nil
  go_simp
  go_wp2_with (go_at_call 27; refine (bytes_any s _ HS.out).mono ?_; rintro e w3 ⟨g3, rfl, hB3, hg3, hb3⟩; have k3 := kd.trans (hb3.mono kd.size))
  refine hK.out _ _ ?_ (fun hHeld => ?_)
  · exact k3
  clear hK K
  try simp only [Act.put, List.getElem_toArray, List.getElem_cons_zero, List.getElem_cons_succ, List.setIfInBounds_toArray, List.set_cons_zero, List.set_cons_succ]
  have HT3 : Hid (∀ W, Below w3.heap.size w3 W → (convert 45 9 (.slice (some ⟨g3, 0, none⟩) 72 72)).run Tryd.prog W = .ok (.string (str (bytesS s))) W) := Lib.hid fun W h => by
    have := run_str (w := W) (A := some ⟨g3, 0, none⟩) (B := g3 + 1) Tryd.prog Tryd.underlying45 Tryd.underlying5 Tryd.underlying9 72 (l := bytesS s) (BlkIs.bts ((h.block _ hB3.lt).trans hB3) (Nat.lt_succ_self _))
    rw [HL.out] at this
    exact this
  clear hb3 hg3 hB3
  refine wpAnyH_more (S' := (fun W => Below w2.heap.size w2 W ∧ Below w3.heap.size w3 W)) (fun _ h => h.1) ?_
  replace hHeld : ((fun W => Below w2.heap.size w2 W ∧ Below w3.heap.size w3 W)) _ := ⟨k3, Below.refl _ _⟩
  refine wpAnyH_take (i := 2) (v := .string (str (bytesS s))) rfl (by kernel_rfl) (by kernel_rfl) (by kernel_rfl) (fun _ _ _ h => h) (Or.inl ⟨by rfl, fun w hS => by (have hc := HT3.out _ hS.2; first | (go_simp; done) | (go_simp; with_reducible rfl))⟩) hHeld ?_
  try simp only [Act.put, List.getElem_toArray, List.getElem_cons_zero, List.getElem_cons_succ, List.setIfInBounds_toArray, List.set_cons_zero, List.set_cons_succ]
  refine wpAnyH_ready (rs := [4]) (by kernel_rfl) (by simp) ?_
  refine AllReadyH.cons rfl (fun K hK => ?_) AllReadyH.nil
  go_simp
  go_wp2_with (go_at_call 28; refine (rbytes_any s _ HS.out).mono ?_; rintro e w4 ⟨A4, c4, rfl, hc4, hm4, hB4, hb4⟩; have k4 := k3.trans (hb4.mono k3.size); have k43 : Below w3.heap.size w3 w4 := hb4)
  refine hK.out _ _ ?_ (fun hHeld => ?_)
  · exact ⟨k4, k43⟩
  clear hK K
  try simp only [Act.put, List.getElem_toArray, List.getElem_cons_zero, List.getElem_cons_succ, List.setIfInBounds_toArray, List.set_cons_zero, List.set_cons_succ]
  have HT4 : Hid (∀ W, Below w4.heap.size w4 W → (convert 45 9 (.slice A4 72 c4)).run Tryd.prog W = .ok (.string (str (bytesS s))) W) := Lib.hid fun W h => by
    have := run_str (w := W) (A := A4) (B := w4.heap.size) Tryd.prog Tryd.underlying45 Tryd.underlying5 Tryd.underlying9 c4 (l := bytesS s) (hB4.below h)
    rw [HL.out] at this
    exact this
  clear hb4 hB4 hc4 hm4
  refine wpAnyH_more (S' := (fun W => Below w2.heap.size w2 W ∧ Below w3.heap.size w3 W ∧ Below w4.heap.size w4 W)) (fun _ h => ⟨h.1, h.2.1⟩) ?_
  replace hHeld : ((fun W => Below w2.heap.size w2 W ∧ Below w3.heap.size w3 W ∧ Below w4.heap.size w4 W)) _ := ⟨k4, k43, Below.refl _ _⟩
  refine wpAnyH_take (i := 5) (v := .string (str (bytesS s))) rfl (by kernel_rfl) (by kernel_rfl) (by kernel_rfl) (fun _ _ _ h => h) (Or.inl ⟨by rfl, fun w hS => by (have hc := HT4.out _ hS.2.2; first | (go_simp; done) | (go_simp; with_reducible rfl))⟩) hHeld ?_
  try simp only [Act.put, List.getElem_toArray, List.getElem_cons_zero, List.getElem_cons_succ, List.setIfInBounds_toArray, List.set_cons_zero, List.set_cons_succ]
  clear HT3 HT4
  generalize str (bytesS s) = T at *
  refine wpAnyH_take (i := 6) (v := .bool true) rfl (by kernel_rfl) (by kernel_rfl) (by kernel_rfl) (fun _ _ _ h => h) (Or.inl ⟨by rfl, fun w hS => by first | (go_simp; done) | (go_simp; with_reducible rfl)⟩) hHeld ?_
  try simp only [Act.put, List.getElem_toArray, List.getElem_cons_zero, List.getElem_cons_succ, List.setIfInBounds_toArray, List.set_cons_zero, List.set_cons_succ]
  refine wpAnyH_take (i := 7) (v := .bool true) rfl (by kernel_rfl) (by kernel_rfl) (by kernel_rfl) (fun _ _ _ h => h) (Or.inl ⟨by rfl, fun w hS => by first | (go_simp; done) | (go_simp; with_reducible rfl)⟩) hHeld ?_
  try simp only [Act.put, List.getElem_toArray, List.getElem_cons_zero, List.getElem_cons_succ, List.setIfInBounds_toArray, List.set_cons_zero, List.set_cons_succ]
  refine wpAnyH_take (i := 8) (v := _) rfl (by kernel_rfl) (by kernel_rfl) (by kernel_rfl) (fun _ _ _ h => h) (yieldsIf_load_mid (by rfl) 39 (.tmp 1) rfl w.heap.size 0 rfl (sc s) _ (fun w h => (KEEP.out w h.1).2) Tryd.underlying39 rfl (isz39s HS.out)) hHeld ?_
  try simp only [Act.put, List.getElem_toArray, List.getElem_cons_zero, List.getElem_cons_succ, List.setIfInBounds_toArray, List.set_cons_zero, List.set_cons_succ]
  refine wpAnyH_take (i := 10) (v := _) rfl (by kernel_rfl) (by kernel_rfl) (by kernel_rfl) (fun _ _ _ h => h) (yieldsIf_load_mid (by rfl) 39 (.tmp 1) rfl w.heap.size 0 rfl (sc s) _ (fun w h => (KEEP.out w h.1).2) Tryd.underlying39 rfl (isz39s HS.out)) hHeld ?_
  try simp only [Act.put, List.getElem_toArray, List.getElem_cons_zero, List.getElem_cons_succ, List.setIfInBounds_toArray, List.set_cons_zero, List.set_cons_succ]
  refine wpAnyH_ready (rs := [9]) (by kernel_rfl) (by simp) ?_
  refine AllReadyH.cons rfl (fun K hK => ?_) AllReadyH.nil
  go_simp
  go_wp2_with (go_at_call 29; refine (sum_seal s _ HS.out (HG.out _ (KEEP.out _ k4).1)).mono ?_; rintro e w5 ⟨rfl, hb5⟩; have k5 := k4.trans (hb5.mono k4.size))
  refine hK.out _ _ ?_ (fun hHeld => ?_)
  · exact ⟨k5, k43.trans (hb5.mono k43.size), hb5⟩
  clear hK K
  try simp only [Act.put, List.getElem_toArray, List.getElem_cons_zero, List.getElem_cons_succ, List.setIfInBounds_toArray, List.set_cons_zero, List.set_cons_succ]
  refine wpAnyH_ready (rs := [11]) (by kernel_rfl) (by simp) ?_
  refine AllReadyH.cons rfl (fun K hK => ?_) AllReadyH.nil
  go_simp
  go_wp2_with (go_at_call 30; refine (rsum_seal s _ HS.out).mono ?_; rintro e w6 ⟨rfl, hb6⟩; have k6 := k5.trans (hb6.mono k5.size))
  refine hK.out _ _ ?_ (fun hHeld => ?_)
  · exact ⟨k6, (k43.trans (hb5.mono k43.size)).trans (hb6.mono (k43.trans (hb5.mono k43.size)).size), hb5.trans (hb6.mono hb5.size)⟩
  clear hK K
  try simp only [Act.put, List.getElem_toArray, List.getElem_cons_zero, List.getElem_cons_succ, List.setIfInBounds_toArray, List.set_cons_zero, List.set_cons_succ]
  refine wpAnyH_take (i := 12) (v := .bool true) rfl (by kernel_rfl) (by kernel_rfl) (by kernel_rfl) (fun _ _ _ h => h) (Or.inl ⟨by rfl, fun w hS => by first | (go_simp; done) | (go_simp; with_reducible rfl)⟩) hHeld ?_
  try simp only [Act.put, List.getElem_toArray, List.getElem_cons_zero, List.getElem_cons_succ, List.setIfInBounds_toArray, List.set_cons_zero, List.set_cons_succ]
  refine wpAnyH_take (i := 13) (v := .bool true) rfl (by kernel_rfl) (by kernel_rfl) (by kernel_rfl) (fun _ _ _ h => h) (Or.inl ⟨by rfl, fun w hS => by first | (go_simp; done) | (go_simp; with_reducible rfl)⟩) hHeld ?_
  try simp only [Act.put, List.getElem_toArray, List.getElem_cons_zero, List.getElem_cons_succ, List.setIfInBounds_toArray, List.set_cons_zero, List.set_cons_succ]
  refine wpAnyH_take (i := 14) (v := .bool true) rfl (by kernel_rfl) (by kernel_rfl) (by kernel_rfl) (fun _ _ _ h => h) (Or.inl ⟨by rfl, fun w hS => by first | (go_simp; done) | (go_simp; with_reducible rfl)⟩) hHeld ?_
  try simp only [Act.put, List.getElem_toArray, List.getElem_cons_zero, List.getElem_cons_succ, List.setIfInBounds_toArray, List.set_cons_zero, List.set_cons_succ]
  refine wpAnyH_done (by kernel_rfl) ?_ _
  go_wp2_with fail
  go_ret
  exact ⟨rfl, (KEEP.out _ k6).1⟩
end Go.Proofs.YtfgdochpnnkpmaaDoor
