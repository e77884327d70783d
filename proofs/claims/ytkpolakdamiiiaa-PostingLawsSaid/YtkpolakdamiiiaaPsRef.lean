/- The document's words on lists: whether one rises, has a number, is another; slices.Contains. Conditions: as stated at each. -/
import Derived.Test.YtkpolakdamiiiaaPsMerge
namespace Go.Proofs.Ytkpolakdamiiiaa
set_option maxRecDepth 100000
namespace Ps
open Go.RowKit Go
attribute [local go_sem] Oper.semAt_some
variable {w : World} {D n c : Nat} {A : Option Addr} {l : List Int}
theorem alk_t {A B C : World} (h : Alk A B) (k : Alk B C) : Alk A C := ⟨k.1.trans h.1, k.2.1.trans h.2.1, k.2.2.1.trans h.2.2.1, k.2.2.2.trans h.2.2.2⟩
theorem mem_at {l : List Int} {x : Int} : x ∈ l ↔ ∃ k, k < l.length ∧ l.getD k 0 = x := by
  rw [List.mem_iff_getElem]
  constructor
  · rintro ⟨k, hk, h⟩
    exact ⟨k, hk, by simp [List.getD, hk, h]⟩
  · rintro ⟨k, hk, h⟩
    exact ⟨k, hk, by simpa [List.getD, hk] using h⟩
set_option maxHeartbeats 1600000 in
theorem rhas_any (hl : l.length = n) (h : Ints w D A l) (x : Int) (hn : n ≤ 1000000) :
    Calls Try.prog 21 #[.slice A n c, .int .i64 x] w fun e w' => e = .returned (.bool (decide (x ∈ l))) ∧ w = w' := by
  have HI := Lib.hid h
  have HL := Lib.hid hl
  clear h hl
  go_enter Try.func21, Try.ntmps21
  go_wp2_with fail
  go_loopw [6, 9] (fun _ y wr => ∃ k : Nat, y = .int .i64 k ∧ k ≤ n ∧ wr = w ∧ Hid (∀ j, j < k → l.getD j 0 ≠ x)) (fun _ y _ => n - (intOf y).toNat)
  case atStart => exact ⟨0, rfl, Nat.zero_le _, rfl, Lib.hid (fun j hj => by omega)⟩
  case round =>
    obtain ⟨k, rfl, hk, rfl, HR⟩ := hrel
    by_cases hlt : k < n
    · obtain ⟨ad, rfl, _, ck⟩ := HI.out.at_ (k := k) (by rw [HL.out]; exact hlt)
      by_cases hx : l.getD k 0 = x
      · have hm : decide (x ∈ l) = true := decide_eq_true (mem_at.2 ⟨k, by rw [HL.out]; exact hlt, hx⟩)
        rw [hx] at ck
        have HM := Lib.hid hm
        clear hm hx
        go_wp2_with fail
        go_ret
        exact ⟨by rw [HM.out]; rfl, rfl⟩
      · have HX := Lib.hid hx
        have hxb : (l.getD k 0 == x) = false := by simpa using hx
        clear hx
        generalize hg : l.getD k 0 = y at *
        go_wp2_with fail
        go_roundw
        case rel => exact ⟨k + 1, by go_num, by omega, trivial, Lib.hid (fun j hj => by
          rcases Nat.lt_or_ge j k with h | h
          · exact HR.out j h
          · rw [show j = k by omega, hg]; exact HX.out)⟩
        case measure => simp [intOf]; omega
    · have hm : decide (x ∈ l) = false := decide_eq_false (fun h => by
        obtain ⟨j, hj, h⟩ := mem_at.1 h
        exact HR.out j (by rw [HL.out] at hj; omega) h)
      have HM := Lib.hid hm
      clear hm
      go_wp2_with fail
      go_ret
      exact ⟨by rw [HM.out]; rfl, rfl⟩
set_option maxHeartbeats 1600000 in
theorem index_any (hl : l.length = n) (h : Ints w D A l) (x : Int) (hn : n ≤ 1000000) :
    Calls Try.prog 32 #[.slice A n c, .int .i64 x] w fun e w' => (∃ z : Int, e = .returned (.int .i64 z) ∧ (0 ≤ z ↔ x ∈ l)) ∧ w = w' := by
  have HI := Lib.hid h
  have HL := Lib.hid hl
  clear h hl
  go_enter Try.func32, Try.ntmps32
  go_wp2_with fail
  go_loopw [5, 8] (fun _ y wr => ∃ k : Nat, y = .int .i64 k ∧ k ≤ n ∧ wr = w ∧ Hid (∀ j, j < k → l.getD j 0 ≠ x)) (fun _ y _ => n - (intOf y).toNat)
  case atStart => exact ⟨0, rfl, Nat.zero_le _, rfl, Lib.hid (fun j hj => by omega)⟩
  case round =>
    obtain ⟨k, rfl, hk, rfl, HR⟩ := hrel
    by_cases hlt : k < n
    · obtain ⟨ad, rfl, _, ck⟩ := HI.out.at_ (k := k) (by rw [HL.out]; exact hlt)
      by_cases hx : l.getD k 0 = x
      · have hm : x ∈ l := mem_at.2 ⟨k, by rw [HL.out]; exact hlt, hx⟩
        have HM := Lib.hid hm
        rw [hx] at ck
        clear hm hx
        go_wp2_with fail
        go_ret
        exact ⟨⟨k, rfl, fun _ => HM.out, fun _ => by omega⟩, rfl⟩
      · have HX := Lib.hid hx
        have hxb : (x == l.getD k 0) = false := by simpa using fun e => hx e.symm
        clear hx
        generalize hg : l.getD k 0 = y at *
        go_wp2_with fail
        go_roundw
        case rel => exact ⟨k + 1, by go_num, by omega, trivial, Lib.hid (fun j hj => by
          rcases Nat.lt_or_ge j k with h | h
          · exact HR.out j h
          · rw [show j = k by omega, hg]; exact HX.out)⟩
        case measure => simp [intOf]; omega
    · have hm : ¬ x ∈ l := fun h => by
        obtain ⟨j, hj, h⟩ := mem_at.1 h
        exact HR.out j (by rw [HL.out] at hj; omega) h
      have HM := Lib.hid hm
      clear hm
      go_wp2_with fail
      go_ret
      exact ⟨⟨-1, rfl, fun h => by omega, fun h => (HM.out h).elim⟩, rfl⟩
set_option maxHeartbeats 1600000 in
theorem contains_any (hl : l.length = n) (h : Ints w D A l) (x : Int) (hn : n ≤ 1000000) :
    Calls Try.prog 25 #[.slice A n c, .int .i64 x] w fun e w' => e = .returned (.bool (decide (x ∈ l))) ∧ w = w' := by
  have HC := Lib.hid (index_any (c := c) hl h x hn)
  clear h hl
  go_enter Try.func25, Try.ntmps25
  go_wp2_with fail
  refine HC.out.mono ?_
  rintro e w' ⟨⟨z, rfl, hz⟩, rfl⟩
  have HZ : Hid (decide (0 ≤ z) = decide (x ∈ l)) := Lib.hid (by rw [decide_eq_decide]; exact hz)
  clear hz HC
  dsimp only
  go_wp2_with fail
  go_ret
  rw [← HZ.out]
  exact ⟨rfl, rfl⟩
set_option maxHeartbeats 1600000 in
theorem has_any (hl : l.length = n) (h : Ints w D A l) (x : Int) (hn : n ≤ 1000000) :
    Calls Try.prog 20 #[.slice A n c, .int .i64 x] w fun e w' => e = .returned (.bool (decide (x ∈ l))) ∧ w = w' := by
  have HC := Lib.hid (contains_any (c := c) hl h x hn)
  clear h hl
  generalize decide (x ∈ l) = b at *
  go_enter Try.func20, Try.ntmps20
  go_wp2_with fail
  refine HC.out.mono ?_
  rintro e w' ⟨rfl, rfl⟩
  clear HC
  dsimp only
  go_wp2_with fail
  go_ret
  exact ⟨rfl, rfl⟩
set_option maxHeartbeats 1600000 in
theorem same_any {A2 : Option Addr} {m c2 D2 : Nat} {l2 : List Int} (hl : l.length = n) (h : Ints w D A l) (hl2 : l2.length = m) (h2 : Ints w D2 A2 l2) (hn : n ≤ 1000000) :
    Calls Try.prog 12 #[.slice A n c, .slice A2 m c2] w fun e w' => e = .returned (.bool (decide (l = l2))) ∧ Alk w w' := by
  have HI := Lib.hid h
  have HI2 := Lib.hid h2
  have HL := Lib.hid hl
  have HL2 := Lib.hid hl2
  clear h hl h2 hl2
  by_cases hnm : n = m
  · subst hnm
    go_enter Try.func12, Try.ntmps12
    go_wp2_with fail
    go_loopw [5, 13] (fun _ y wr => ∃ k : Nat, y = .int .i64 k ∧ k ≤ n ∧ Hid (Alk w wr ∧ ∀ j, j < k → l.getD j 0 = l2.getD j 0)) (fun _ y _ => n - (intOf y).toNat)
    case atStart => exact ⟨0, rfl, Nat.zero_le _, Lib.hid ⟨⟨rfl, rfl, rfl, rfl⟩, fun j hj => by omega⟩⟩
    case round =>
      obtain ⟨k, rfl, hk, HR⟩ := hrel
      by_cases hlt : k < n
      · have hAl := HR.out.1
        have hwc : ∀ a : Addr, wr.cell? a = w.cell? a := fun a => by unfold World.cell?; rw [hAl.1]
        obtain ⟨ad, rfl, _, ck⟩ := HI.out.at_ (k := k) (by rw [HL.out]; exact hlt)
        obtain ⟨ad2, rfl, _, ck2⟩ := HI2.out.at_ (k := k) (by rw [HL2.out]; exact hlt)
        rw [← hwc] at ck ck2
        clear hwc hAl
        by_cases hx : l.getD k 0 = l2.getD k 0
        · have HX := Lib.hid hx
          rw [hx] at ck
          clear hx
          generalize hg : l2.getD k 0 = y at *
          go_wp2_with fail
          go_quiet (fail)
          go_wp2_with fail
          go_roundw
          case rel => exact ⟨k + 1, by go_num, by omega, Lib.hid ⟨alk_t HR.out.1 ⟨rfl, rfl, rfl, rfl⟩, fun j hj => by
            rcases Nat.lt_or_ge j k with h | h
            · exact HR.out.2 j h
            · rw [show j = k by omega, hg]; exact HX.out⟩⟩
          case measure => simp [intOf]; omega
        · have hm : decide (l = l2) = false := decide_eq_false (fun e => hx (by rw [e]))
          have HM := Lib.hid hm
          have hxb : (l.getD k 0 == l2.getD k 0) = false := by simpa using hx
          clear hm hx
          generalize l.getD k 0 = y1 at *
          generalize l2.getD k 0 = y2 at *
          go_wp2_with fail
          go_quiet (fail)
          go_wp2_with fail
          go_ret
          exact ⟨by rw [HM.out]; rfl, alk_t HR.out.1 ⟨rfl, rfl, rfl, rfl⟩⟩
      · have hm : decide (l = l2) = true := decide_eq_true (by
          apply List.ext_getElem (by rw [HL.out, HL2.out])
          intro i h1 h2
          have := HR.out.2 i (by rw [HL.out] at h1; omega)
          simpa [List.getD, h1, h2] using this)
        have HM := Lib.hid hm
        clear hm
        go_wp2_with fail
        go_ret
        exact ⟨by rw [HM.out]; rfl, HR.out.1⟩
  · have hm : decide (l = l2) = false := decide_eq_false (fun e => hnm (by rw [← HL.out, ← HL2.out, e]))
    rw [hm]
    clear HI HI2 HL HL2 hm
    go_enter Try.func12, Try.ntmps12
    go_wp2_with fail
    go_ret
    exact ⟨rfl, rfl, rfl, rfl, rfl⟩
theorem not_up {l : List Int} {k : Nat} (hk : k + 1 < l.length) (h : ¬ l.getD k 0 < l.getD (k + 1) 0) : ¬ Up l := fun hu => by
  have := List.pairwise_iff_getElem.1 hu k (k + 1) (by omega) hk (by omega)
  refine h ?_
  simpa [List.getD, hk, (show k < l.length by omega)] using this
theorem is_up {l : List Int} (h : ∀ k, k + 1 < l.length → l.getD k 0 < l.getD (k + 1) 0) : Up l := by
  have := up_cut (l := l) l.length 0 (by omega) (fun i _ hi => h i (by omega))
  simpa using this
set_option maxHeartbeats 1600000 in
theorem rcheck_any (hl : l.length = n) (h : Ints w D A l) (hn : n ≤ 1000000) :
    Calls Try.prog 11 #[.slice A n c] w fun e w' => (∃ b : Bool, e = .returned (.bool b) ∧ (b = true ↔ Up l)) ∧ Alk w w' := by
  have HI := Lib.hid h
  have HL := Lib.hid hl
  clear h hl
  go_enter Try.func11, Try.ntmps11
  go_wp2_with fail
  go_loopw [3] (fun y wr => ∃ k : Nat, y = .int .i64 ((k : Int) + 1) ∧ k ≤ n ∧ Hid (Alk w wr ∧ ∀ j, j < k → j + 1 < n → l.getD j 0 < l.getD (j + 1) 0)) (fun y _ => n + 1 - (intOf y).toNat)
  case atStart => exact ⟨0, rfl, Nat.zero_le _, Lib.hid ⟨⟨rfl, rfl, rfl, rfl⟩, fun j hj => by omega⟩⟩
  case round =>
    obtain ⟨k, rfl, hk, HR⟩ := hrel
    by_cases hlt : k + 1 < n
    · have hAl := HR.out.1
      have hwc : ∀ a : Addr, wr.cell? a = w.cell? a := fun a => by unfold World.cell?; rw [hAl.1]
      obtain ⟨ad, hA1, _, ck⟩ := HI.out.at_ (k := k) (by rw [HL.out]; omega)
      obtain ⟨ad2, hA2, _, ck2⟩ := HI.out.at_ (k := k + 1) (by rw [HL.out]; exact hlt)
      subst hA1
      injection hA2 with hA2
      subst hA2
      rw [← hwc] at ck ck2
      replace ck2 : wr.cell? ⟨ad.block, ad.off + (k + 1), none⟩ = some (.int .i64 (l.getD (k + 1) 0)) := by simpa [Addr.add] using ck2
      clear hwc hAl
      by_cases hx : l.getD k 0 < l.getD (k + 1) 0
      · have HX := Lib.hid hx
        have hx2 : ¬ l.getD (k + 1) 0 ≤ l.getD k 0 := by omega
        clear hx
        generalize hg : l.getD k 0 = y1 at *
        generalize hg2 : l.getD (k + 1) 0 = y2 at *
        go_wp2_with fail
        go_quiet (fail)
        go_wp2_with fail
        go_roundw
        case rel => exact ⟨k + 1, by go_num, by omega, Lib.hid ⟨alk_t HR.out.1 ⟨rfl, rfl, rfl, rfl⟩, fun j hj hj2 => by
          rcases Nat.lt_or_ge j k with h | h
          · exact HR.out.2 j h hj2
          · rw [show j = k by omega, hg, hg2]; exact HX.out⟩⟩
        case measure => simp [intOf]; omega
      · have HX := Lib.hid (not_up (l := l) (k := k) (by rw [HL.out]; exact hlt) hx)
        have hx2 : l.getD (k + 1) 0 ≤ l.getD k 0 := by omega
        clear hx
        generalize l.getD k 0 = y1 at *
        generalize l.getD (k + 1) 0 = y2 at *
        go_wp2_with fail
        go_quiet (fail)
        go_wp2_with fail
        go_ret
        exact ⟨⟨false, rfl, fun h => (by cases h), fun h => (HX.out h).elim⟩, alk_t HR.out.1 ⟨rfl, rfl, rfl, rfl⟩⟩
    · have HX : Hid (Up l) := Lib.hid (is_up (fun j hj => by rw [HL.out] at hj; exact HR.out.2 j (by omega) hj))
      go_wp2_with fail
      go_ret
      exact ⟨⟨true, rfl, fun _ => HX.out, fun _ => rfl⟩, HR.out.1⟩
end Ps
end Go.Proofs.Ytkpolakdamiiiaa
