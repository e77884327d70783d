/- token.word. Conditions: as stated at each. -/
import Derived.Test.YtbhkppleomnjjaaTkSmall
import Derived.Test.YtbhkppleomnjjaaShelf
import Derived.Laws.OwnMore
namespace Go.Proofs.Ytbhkppleomnjjaa
set_option maxRecDepth 100000
namespace Tk
open Go.RowKit Go Go.Proofs.Ytbhkppleomnjjaa.Pa
theorem own5_set {w : World} {N n g c : Nat} {l : L} (h : Own5 w N (.slice (some ⟨g, 0, none⟩) n c) l) (j : Nat) (u : UInt8) :
    Own5 (w.setCell ⟨g, j, none⟩ (.int .u8 (u.toNat : Int))) N (.slice (some ⟨g, 0, none⟩) n c) (l.set j u) := by
  have e : (bv l).set j (.int .u8 (u.toNat : Int)) = bv (l.set j u) := by
    unfold bv; rw [List.map_set]
  unfold Own5 at h ⊢
  rw [List.length_set, ← e]
  refine ⟨by rw [List.length_set]; exact h.1, ?_⟩
  rcases h.2 with ⟨hn, _⟩ | ⟨g', cap, cur, hv, hn, hh, h1, h2, h3, h4⟩
  · cases hn
  · injection hv with hv1 hvn hv2
    injection hv1 with hv1
    injection hv1 with hv1
    subst hv1
    subst hv2
    refine .inr ⟨g, c, cur.setIfInBounds j (.int .u8 (u.toNat : Int)), ?_, hn, ?_, h1, h2, by simpa using h3, ?_⟩
    · rw [hvn]
    · simp [World.setCell, Array.getElem?_modify, hh]
    · rw [Array.toList_setIfInBounds, List.take_set, h4]
theorem own5_cell {w : World} {N n g c : Nat} {l : L} (h : Own5 w N (.slice (some ⟨g, 0, none⟩) n c) l) {j : Nat} (hj : j < l.length) : w.cell? ⟨g, j, none⟩ = some (.int .u8 ((l.getD j 0).toNat : Int)) := by
  obtain ⟨ad, e, _, hc⟩ := (Own5.bts h).at_ hj
  injection e with e
  subst e
  rwa [show (⟨g, 0, none⟩ : Addr).add j = ⟨g, j, none⟩ by simp [Addr.add]; rintro rfl; rfl] at hc
theorem own5_froz {w : World} {N n g c : Nat} {l : L} (h : Own5 w N (.slice (some ⟨g, 0, none⟩) n c) l) (hn : n = l.length) (j : Nat) : w.frozen? ⟨g, j, none⟩ = false := by
  subst hn
  exact World.ownsRow.frozenAt h j
theorem clone_any {w : World} {B : Nat} {ad : Addr} {l : L} (h : Bts w B (some ad) l) (c : Nat) (hl : l.length ≤ 1000000) :
    Calls Try.prog 25 #[.slice (some ad) l.length c] w fun e w' => ∃ v', e = .returned v' ∧ Own5 w' w.heap.size v' l ∧ Below w.heap.size w w' := by
  refine (Try.bytes_Clone_at ad l.length c (numsOf l) w (numsOf_length l) (by omega) (bts_cells h)).mono fun e w' ⟨v', h1, h2, _, h4⟩ => ⟨v', h1, ?_, h4⟩
  unfold Own5
  rw [← nums_val]
  exact h2
theorem own5_some {w : World} {N : Nat} {v : Value} {l : L} (h : Own5 w N v l) (hne : l ≠ []) : ∃ g c, v = .slice (some ⟨g, 0, none⟩) l.length c ∧ N ≤ g ∧ g < w.heap.size := by
  have hl := List.length_pos_iff.2 hne
  obtain ⟨g, cap, hv, h1, h2⟩ := World.ownsRow.form h hl
  exact ⟨g, cap, hv, h1, h2⟩
set_option maxHeartbeats 800000 in
theorem word_any {w : World} {B : Nat} {A : Option Addr} {r : L} (h : Bts w B A r) (c : Nat) (hc : r.length ≤ c) (hne : r ≠ []) (hl : r.length ≤ 1000000) :
    Calls Try.prog 17 #[.slice A r.length c] w fun e w' => e = .returned (.string (str (wordS r))) ∧ Below w.heap.size w w' := by
  have hpos := List.length_pos_iff.2 hne
  obtain ⟨ad, rfl, _, _⟩ := h.at_ hpos
  obtain ⟨t, ht⟩ : ∃ t, t = r.take 32 := ⟨_, rfl⟩
  have htl : t.length = min r.length 32 := by rw [ht, List.length_take, Nat.min_comm]
  have hw : wordS r = t.map lowB := by rw [ht]; rfl
  have hb : Bts w B (some ad) t := by rw [ht]; exact h.take 32
  have htn : t ≠ [] := List.length_pos_iff.1 (by rw [htl]; omega)
  rw [hw]
  have HC : Hid (∀ c, Calls Try.prog 25 #[.slice (some ad) t.length c] w fun e w' => ∃ g c', e = .returned (.slice (some ⟨g, 0, none⟩) t.length c') ∧ Hid (w.heap.size ≤ g ∧ Own5 w' w.heap.size (.slice (some ⟨g, 0, none⟩) t.length c') t ∧ Below w.heap.size w w')) := Lib.hid fun c => (clone_any hb c (by omega)).mono fun e w' ⟨v', h1, h2, h3⟩ => by
    obtain ⟨g, c', rfl, h4, _⟩ := own5_some h2 htn
    exact ⟨g, c', h1, Lib.hid ⟨h4, h2, h3⟩⟩
  have HST : Hid (∀ w B A c, Bts w B A (lowK 0 t.length t) → (convert 22 9 (.slice A t.length c)).run Try.prog w = .ok (.string (str (t.map lowB))) w) := Lib.hid fun w B A c h => by
    have := run_str Try.prog Try.underlying22 Try.underlying5 Try.underlying9 c h
    rw [lowK_length, low_all] at this
    exact this
  have HSTART : Hid (lowK 0 0 t = t) := Lib.hid (lowK_start 0 t)
  have HNEXT := Lib.hid (fun k h1 h2 => lowK_next (s := 0) (k := k) (l := t) h1 h2)
  have HGD := Lib.hid (fun k (hk : k < t.length) => (lowK_getD (s := 0) (k := k) hk).trans (if_neg (by omega)))
  have HLEN := Lib.hid (fun k => lowK_length 0 k t)
  have hmin : min (r.length : Int) 32 = (t.length : Int) := by rw [htl]; omega
  have hm2 : t.length ≤ 32 := by rw [htl]; omega
  have hm3 : t.length ≤ c := by rw [htl]; omega
  generalize str (t.map lowB) = sf at *
  generalize hmm : t.length = m at *
  clear hw ht htn htl h hb hpos hne
  go_enter Try.func17, Try.ntmps17
  go_wp2_with (first
    | (refine (HC.out _).mono ?_; rintro e w1 ⟨g, c1, rfl, H1⟩)
    | fail)
  have HG := Lib.hid H1.out.1
  have HST0 : Hid (Own5 w1 w.heap.size (.slice (some ⟨g, 0, none⟩) m c1) (lowK 0 0 t) ∧ Below w.heap.size w w1) := Lib.hid ⟨by rw [HSTART.out]; exact H1.out.2.1, H1.out.2.2⟩
  have hmc : m ≤ c1 := by
    obtain ⟨A, c2, e, h1, _⟩ := own_slice (show w1.ownsRow _ _ _ _ _ _ from H1.out.2.1)
    injection e with _ _ e2
    omega
  go_loopw [4, 5, 14] (fun _ _ x wr => ∃ k : Nat, k ≤ m ∧ x = .int .i64 k ∧ Hid (Own5 wr w.heap.size (.slice (some ⟨g, 0, none⟩) m c1) (lowK 0 k t) ∧ Below w.heap.size w wr)) (fun _ _ x _ => m - (intOf x).toNat)
  case atStart => exact ⟨0, Nat.zero_le _, rfl, HST0⟩
  case round =>
    obtain ⟨k, hk, rfl, HR⟩ := hrel
    by_cases hlt : k < m
    · obtain ⟨how, hbel⟩ := HR.out
      have hkl : k < (lowK 0 k t).length := by rw [HLEN.out]; exact hlt
      have hcell := own5_cell how hkl
      have hf := own5_froz how (HLEN.out k).symm k
      have hgl : g < wr.heap.size := World.block_lt_of_cell? wr _ hcell
      rw [HGD.out k hlt] at hcell
      have hnx := HNEXT.out k (Nat.zero_le _) hlt
      have hown2 := own5_set how k (lowB (t.getD k 0))
      rw [hnx] at hown2
      have HB2 := Lib.hid (And.intro hown2 (hbel.setCell (show w.heap.size ≤ (⟨g, k, none⟩ : Addr).block from HG.out) (.int .u8 ((lowB (t.getD k 0)).toNat : Int))))
      have HSM := Lib.hid (fun w => lsmall_any (t.getD k 0) w)
      clear how hbel hown2 hnx hkl HR
      generalize t.getD k 0 = cc at *
      go_wp2_with (first
        | (refine (HSM.out _).mono ?_; rintro e w3 ⟨rfl, rfl⟩)
        | fail)
      go_roundw
      case rel => exact ⟨k + 1, by omega, by go_num, HB2⟩
      case measure => simp [intOf]; omega
    · obtain rfl : k = m := by omega
      obtain ⟨how, hbel⟩ := HR.out
      have hs2 := HST.out _ _ _ c1 (Own5.bts how)
      have HBE := Lib.hid hbel
      clear how hbel HR
      go_wp2_with fail
      go_ret
      exact ⟨rfl, HBE.out⟩
end Tk
end Go.Proofs.Ytbhkppleomnjjaa
