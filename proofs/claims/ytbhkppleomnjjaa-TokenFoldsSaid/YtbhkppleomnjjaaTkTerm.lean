/- token.Term; rows of texts compared. Conditions: as stated at each. -/
import Derived.Test.YtbhkppleomnjjaaTkWords
import Derived.BigQuiet
namespace Go.Proofs.Ytbhkppleomnjjaa
set_option maxRecDepth 100000
namespace Tk
open Go.RowKit Go.Shelf Go Go.Proofs.Ytbhkppleomnjjaa.Pa
theorem getD_map (ps : List L) (j : Nat) (h : j < ps.length) : (ps.map str).getD j ByteArray.empty = str (ps.getD j []) := by
  simp [List.getD, h]
theorem map_str_inj : ∀ {a b : List L}, a.map str = b.map str → a = b
  | [], [], _ => rfl
  | [], _ :: _, h => by cases h
  | _ :: _, [], h => by cases h
  | x :: a, y :: b, h => by
    injection h with h1 h2
    rw [str_inj.1 h1, map_str_inj h2]
/-- a text made bytes, with its room. -/
theorem run_byt2 (l : L) (hl : l.length ≤ 1000000) (w : World) : ∃ c w', (convert 9 22 (.string (str l))).run Try.prog w = .ok (.slice (some ⟨w.heap.size, 0, none⟩) l.length c) w' ∧ l.length ≤ c ∧ c ≤ maxLen ∧ Byt w' w.heap.size l ∧ Below w.heap.size w w' := by
  obtain ⟨c, w', hrun, h1, h2⟩ := run_byt l w
  refine ⟨c, w', hrun, ?_, ?_, h1, h2⟩
  all_goals
    have h3 := run_bytes_of_string (P := Try.prog) w 9 22 5 (str l) Try.underlying9 Try.underlying22 Try.underlying5
    rw [h3] at hrun
    injection hrun with hv _
    injection hv with _ _ hc
    rw [← hc]
  · have := grownCap_ge w (str l).size 0 5
    rwa [str_size] at this ⊢
  · exact grownCap_le_maxLen w _ 0 5 (by rw [str_size]; unfold maxLen; omega)
theorem equal_any {w : World} {B : Nat} {A : Option Addr} {ps : List L} (h : Tx w B A ps) (n c g : Nat) (hn : ps.length = n) (s : L) (hg : w.cell? ⟨g, 0, none⟩ = some (.string (str s))) (hl : n ≤ 1000000) :
    Calls Try.prog 22 #[.slice A n c, .slice (some ⟨g, 0, none⟩) 1 1] w fun e w' => e = .returned (.bool (decide (ps = [s]))) ∧ ∃ q, w' = w.drewN q := by
  rcases Nat.eq_zero_or_pos n with h0 | h0
  · subst h0
    obtain rfl := List.eq_nil_of_length_eq_zero hn
    refine (Try.slices_Equal_string_empty A (some ⟨g, 0, none⟩) c 1 1 w (by omega)).mono fun e w' ⟨h1, h2⟩ => ⟨?_, 0, h2⟩
    rw [h1]
    simp
  · obtain ⟨g1, o1, rfl, _, _⟩ := h.els 0 (by omega)
    refine (Try.slices_Equal_string g1 o1 n c g 0 1 1 (ps.map str) [str s] w (by simp [hn]) (by simp) (by omega) (by omega) (fun j hj => ?_) (fun j hj => ?_)).mono fun e w' ⟨h1, h2⟩ => ⟨?_, h2⟩
    · rw [List.length_map] at hj
      obtain ⟨g2, o2, e, _, hc⟩ := h.els j hj
      injection e with e
      injection e with e1 e2
      subst e1; subst e2
      rw [getD_map ps j hj]
      exact hc w (Below.refl _ _)
    · obtain rfl : j = 0 := by simpa using hj
      exact hg
    · rw [h1]
      congr 2
      have e1 : (ps.map str).take n = ps.map str := List.take_of_length_le (by simp [hn])
      have e2 : ([str s] : List ByteArray).take 1 = [s].map str := rfl
      rw [e1, e2]
      exact decide_eq_decide.2 ⟨fun h => map_str_inj h, fun h => by rw [h]⟩
theorem drewN_below (w : World) (B q : Nat) : Below B w (w.drewN q) := ⟨rfl, rfl, rfl, Nat.le_refl _, fun _ _ => rfl⟩
set_option maxHeartbeats 800000 in
theorem term_any (s : L) (w : World) (hl : s.length ≤ 1000000) :
    Calls Try.prog 14 #[.string (str s)] w fun e w' => e = .returned (.bool (termS s)) ∧ Below w.heap.size w w' := by
  have hsz := str_size s
  by_cases h32 : s.length ≤ 32
  · have hti := term_iff s h32
    obtain ⟨c, w2, hrun, hc1, hc2, hby, hb2⟩ := run_byt2 s hl w
    have HW := Lib.hid (words_any hby.bts c hc1 hc2 (by omega))
    have HB2 := Lib.hid hb2
    have HTI : Hid (decide (wordsS s = [s]) = termS s) := Lib.hid (by
      cases h : termS s with
      | true => exact decide_eq_true (hti.2 h)
      | false => exact decide_eq_false (fun e => by rw [hti.1 e] at h; cases h))
    have hwl : (wordsS s).length ≤ 32 := Nat.le_trans (words_len s) h32
    have HEQ : Hid (∀ (X : World) (A : Option Addr) (c' : Nat), OwnT X w2.heap.size (.slice A (wordsS s).length c') (wordsS s) → Calls Try.prog 22 #[.slice A (wordsS s).length c', .slice (some ⟨X.heap.size, 0, none⟩) 1 1] (X.alloc (.cells #[.string (str s)] 9)) fun e w' => e = .returned (.bool (termS s)) ∧ ∃ q, w' = (X.alloc (.cells #[.string (str s)] 9)).drewN q) := Lib.hid fun X A c' h => by
      have h1 := ((OwnT.tx h).below (belowA X (.cells #[.string (str s)] 9)))
      have h2 : (X.alloc (.cells #[.string (str s)] 9)).cell? ⟨X.heap.size, 0, none⟩ = some (.string (str s)) := (cell_of_row _ X.heap.size 0 #[.string (str s)] 9 (0, 0) (heap_alloc_new X _)).trans rfl
      have h3 := equal_any h1 (wordsS s).length c' X.heap.size rfl s h2 (by omega)
      rw [HTI.out] at h3
      exact h3
    clear hby hb2 hti
    generalize str s = t at *
    generalize hn : s.length = n at *
    generalize termS s = r at *
    clear hn
    go_enter Try.func14, Try.ntmps14
    go_wp2_with (first
      | (go_at_call 10; refine HW.out.mono ?_; rintro e w3 ⟨v, rfl, ho, hb3⟩; obtain ⟨A3, c3, rfl, _, _⟩ := own_slice ho; have HE := Lib.hid (HEQ.out w3 A3 c3 ho); have HB3 := Lib.hid (HB2.out.trans (hb3.mono HB2.out.size)); clear ho hb3 HEQ)
      | (go_at_call 22; refine HE.out.mono ?_; rintro e w4 ⟨rfl, q, rfl⟩)
      | fail)
    go_ret
    exact ⟨rfl, (HB3.out.alloc HB3.out.size _).trans (drewN_below _ _ _)⟩
  · have hf : termS s = false := by
      cases h : termS s with
      | false => rfl
      | true => exact absurd (term_len h) h32
    rw [hf]
    generalize str s = t at *
    go_enter Try.func14, Try.ntmps14
    go_wp2_with fail
    go_ret
    exact ⟨rfl, Below.refl _ _⟩
theorem els_of {w : World} {A : Option Addr} {ls : List L} {n : Nat} (h : Tx w w.heap.size A ls) (hn : ls.length = n) : ∀ k, k < n → ∃ g o, A = some ⟨g, o, none⟩ ∧ g < w.heap.size ∧ ∀ X, Below w.heap.size w X → X.cell? ⟨g, o + k, none⟩ = some (.string (str (ls.getD k []))) := fun k hk => h.els k (by omega)
set_option maxHeartbeats 800000 in
theorem same_any {w : World} {A A' : Option Addr} {ls : List L} (h : Tx w w.heap.size A ls) (h' : Tx w w.heap.size A' ls) (n c c' : Nat) (hn : ls.length = n) (hnb : n ≤ 1000000) :
    Calls Try.prog 9 #[.slice A n c, .slice A' n c'] w fun e w' => e = .returned (.bool true) ∧ Below w.heap.size w w' := by
  have HEL := Lib.hid (els_of h hn)
  have HEL' := Lib.hid (els_of h' hn)
  clear h h' hn
  go_enter Try.func9, Try.ntmps9
  go_wp2_with fail
  go_loopw [5, 13] (fun _ i wr => ∃ k : Nat, k ≤ n ∧ i = .int .i64 k ∧ Below w.heap.size w wr) (fun _ i _ => n - (intOf i).toNat)
  case atStart => exact ⟨0, Nat.zero_le _, rfl, Below.refl _ _⟩
  case round =>
    obtain ⟨k, hk, rfl, hbel⟩ := hrel
    by_cases hlt : k < n
    · obtain ⟨g, o, rfl, hg, hall⟩ := HEL.out k hlt
      obtain ⟨g', o', rfl, hg', hall'⟩ := HEL'.out k hlt
      have y0 := hall wr hbel
      have z0 := hall' wr hbel
      have hgr : g < wr.heap.size := World.block_lt_of_cell? wr _ y0
      have hgr' : g' < wr.heap.size := World.block_lt_of_cell? wr _ z0
      have HB := Lib.hid hbel
      have hkn : (k : Int) < (n : Int) := by omega
      clear hall hall' hbel
      generalize str (ls.getD k []) = s0 at *
      go_wp2_with fail
      go_quiet (fail)
      go_wp2_with fail
      go_roundw
      case rel => exact ⟨k + 1, by omega, by go_num, HB.out.trans (drewN_below _ _ _)⟩
      case measure => simp [intOf]; omega
    · obtain rfl : k = n := by omega
      have HB := Lib.hid hbel
      go_wp2_with fail
      go_ret
      exact ⟨rfl, HB.out⟩
end Tk
end Go.Proofs.Ytbhkppleomnjjaa
