/- Contracts of frame.Put and the document's Put. Conditions: as stated. -/
import Derived.Test.YtljefpagoggkdaaWrite
namespace Go.Proofs.Ytljefpagoggkdaa
open Go.RowKit Go
theorem Rws.one {w : World} {B : Nat} {A : Option Addr} {l : List UInt8} {c : Nat} (h : Bts w B A l) (hB : B ≤ w.heap.size) (hl : l.length ≤ c) (hc : c ≤ maxLen) :
    Rws (w.alloc (.cells #[.slice A l.length c] 22)) (w.heap.size + 1) (some ⟨w.heap.size, 0, none⟩) [l] := fun k r hk => by
  rcases k with _ | k
  · obtain rfl : l = r := by simpa using hk
    refine ⟨_, A, c, rfl, by simp, ?_, hl, hc, (h.below (((Below.refl w.heap.size w).alloc (Nat.le_refl _) _).mono hB)).more (by omega)⟩
    rw [add_0]
    exact (cell_of_row _ w.heap.size 0 #[.slice A l.length c] 22 (0, 0) (heap_alloc_new w _)).trans rfl
  · simp at hk
theorem wr_one (l : List UInt8) : wr [l] = rec1 l := by simp [wr]
set_option maxHeartbeats 400000 in
theorem put_any (A : Option Addr) (B c : Nat) (l : List UInt8) (w : World) (h : Bts w B A l) (hB : B ≤ w.heap.size) (hl : l.length ≤ c) (hc : c ≤ maxLen) (hm : l.length ≤ 1000000) :
    Calls Try.prog 14 #[.slice A l.length c] w fun e w' => Wrote w w.heap.size (rec1 l) e w' := by
  have hr := Rws.one h hB hl hc
  have hw := write_any _ _ 1 [l] _ hr (by simp) (by simp) (by simpa using hm) (by simp [took]; omega)
  rw [wr_one] at hw
  have hb := (Below.refl w.heap.size w).alloc (Nat.le_refl _) (.cells #[.slice A l.length c] 22)
  clear hr
  go_enter Try.func14, Try.ntmps14
  go_wp2_with fail
  refine hw.mono ?_
  rintro e w2 ⟨v2, rfl, ho2, hb2⟩
  have ho3 := Lib.hid (own_more ho2 (show w.heap.size ≤ _ by simp))
  have hb3 := Lib.hid (hb.trans (hb2.mono (by simp)))
  clear ho2 hb2 hw hb
  go_wp2_with fail
  exact bodyPost_ret (by simp [results, Try.results14, go_sem]) rfl ⟨_, rfl, ho3.out, hb3.out⟩
set_option maxHeartbeats 800000 in
theorem rput_any (A : Option Addr) (B c : Nat) (l : List UInt8) (w : World) (h : Bts w B A l) (hB : B ≤ w.heap.size) (hm : l.length ≤ 1000000) :
    Calls Try.prog 15 #[.slice A l.length c] w fun e w' => Wrote w w.heap.size (rec1 l) e w' := by
  have hcrc := crc_lt l
  go_enter Try.func15, Try.ntmps15
  go_wp2_with fail
  refine (four_any _ _ (by omega)).mono ?_
  rintro e w1 ⟨v1, rfl, ho1, hb1⟩
  have HO1 := Lib.hid ho1
  have HB1 := Lib.hid hb1
  have h1 := h.below (hb1.mono hB)
  clear ho1 hb1
  go_wp2_with fail
  refine (rcrc_any _ _ _ _ _ h1 (by omega)).mono ?_
  rintro e w' ⟨rfl, rfl⟩
  go_wp2_with fail
  refine (four_any _ _ (by omega)).mono ?_
  rintro e w2 ⟨v2, rfl, ho2, hb2⟩
  have HB2 := Lib.hid (HB1.out.trans (hb2.mono HB1.out.size))
  have h2 := h1.below (hb2.mono (Nat.le_trans hB HB1.out.size))
  have hk := own_kept HO1.out hb2 (Nat.le_refl _)
  clear hb2
  obtain ⟨A2, c2, rfl, _⟩ := own_slice ho2
  have hs2 := Own5.bts ho2
  clear ho2
  go_wp2_with (first
    | (at_builtin; refine app5 (.tmp 10) (.tmp 13) rfl rfl w.heap.size _ (le4 l.length) (le4 (crc l)) rfl hk _ _ c2 rfl hs2 (by simp only [le4_length]; omega) HB2.out.size ?_; intro v3 w3 hown3 hg3; have HB3 := Lib.hid (grown_below HB2.out (Nat.le_refl _) hk hg3); have h3 := h.below (HB3.out.mono hB); clear hk hg3 hs2 h1 h2)
    | (at_builtin; refine app5 (.tmp 14) (.tmp 15) rfl rfl w.heap.size _ (le4 l.length ++ le4 (crc l)) l rfl hown3 _ _ c rfl h3 (by simp only [List.length_append, le4_length]; omega) HB3.out.size ?_; intro v4 w4 hown4 hg4))
  have HB4 := Lib.hid (grown_below HB3.out (Nat.le_refl _) hown3 hg4)
  have HO4 := Lib.hid hown4
  clear hown4 hg4 hown3
  go_wp2_with fail
  refine bodyPost_ret (by simp [results, Try.results15, go_sem]; rfl) rfl ⟨_, rfl, ?_, HB4.out⟩
  have := HO4.out
  rw [List.append_assoc] at this
  exact this
end Go.Proofs.Ytljefpagoggkdaa
