/- strings.ContainsAny at the bytes 13 10, of any text. Conditions: as stated at each. -/
import Derived.Test.YtliaciojlcajdaaDoorHdAny
import Derived.Test.YtliaciojlcajdaaDoorHdRef
namespace Go.Proofs.YtliaciojlcajdaaDoor
set_option maxRecDepth 100000
namespace Hd
open Go.RowKit Go Go.Proofs.YtliaciojlcajdaaDoor.Pa
theorem decode_cont (s : ByteArray) (i k : Nat) (h0 : 128 ≤ (s.get! i).toNat) (hk : k < (Utf8.decode s i).2) : 128 ≤ (s.get! (i + k)).toNat := by
  by_cases hz : k = 0
  · subst hz; exact h0
  · have h4 : (Utf8.decode s i).2 ≤ 4 := by
      simp only [Utf8.decode]
      repeat' split
      all_goals simp
    have hn : ¬ (s.get! (i + 0)).toNat < 128 := by rw [Nat.add_zero]; omega
    rcases (show k = 1 ∨ k = 2 ∨ k = 3 by omega) with rfl | rfl | rfl
    all_goals
      simp only [Utf8.decode, hn, if_false] at hk
      repeat' split at hk
      all_goals simp_all
      all_goals omega
theorem get_str (l : List UInt8) (i : Nat) (h : i < (str l).size) : (str l).get! i = l.getD i 0 := by
  have := get_at (str l) i h
  rw [Nat.add_zero] at this
  rw [this, str_at l i h]
theorem iterAt_below {w wr : World} {s : ByteArray} (p : Nat) (h : Below w.heap.size w wr) : Below w.heap.size w (wr.iterAt w.heap.size s p) := by
  refine ⟨h.os, h.tape, h.output, ?_, fun k hk => ?_⟩
  · simp only [World.iterAt, Array.size_setIfInBounds]; exact h.size
  · rw [← h.block k hk]
    simp only [World.iterAt]
    rw [Array.getElem?_setIfInBounds_ne (by omega)]
def endB (c : UInt8) : Bool := c == 13 || c == 10
theorem endB_ix (c : UInt8) : (0 : Int) ≤ Lib.indexByte [13, 10] c ↔ endB c = true := by
  have h : ∀ n : Fin 256, decide ((0 : Int) ≤ Lib.indexByte [13, 10] (UInt8.ofNat n)) = endB (UInt8.ofNat n) := by decide +kernel
  have := h ⟨c.toNat, c.toNat_lt⟩
  simp only [UInt8.ofNat_toNat] at this
  rw [← this, decide_eq_true_iff]
theorem getD_lt (l : List UInt8) (j : Nat) (h : j < l.length) : l.getD j 0 = l[j] := by simp [List.getD, h]
theorem useset_no (n : Int) (w : World) (h : n ≤ 8) : Calls Tryd.prog 82 #[.int .i64 n] w fun e w' => e = .returned (.bool false) ∧ w = w' := by
  have h8 : ¬ (8 : Int) < n := by omega
  go_enter Tryd.func82, Tryd.ntmps82
  go_wp2_with fail
  go_ret
  exact ⟨rfl, rfl⟩
def AnyP (w : World) (l : List UInt8) (e : Ending) (w' : World) : Prop := ∃ r : Int, e = .returned (.int .i64 r) ∧ decide (0 ≤ r) = l.any endB ∧ Below w.heap.size w w'
set_option maxHeartbeats 3200000 in
theorem iany_short (l : List UInt8) (w : World) (hl : l.length ≤ 8) : Calls Tryd.prog 65 #[.string (str l), .string ⟨#[13, 10]⟩] w (AnyP w l) := by
  obtain ⟨s, hs⟩ : ∃ s, s = str l := ⟨_, rfl⟩
  rw [← hs]
  have hsz : s.size = l.length := by rw [hs, str_size]
  have HNO : Hid ((∀ j, j < s.size → endB (l.getD j 0) = false) → l.any endB = false) := Lib.hid fun h => by
    rw [List.any_eq_false]
    intro c hc
    obtain ⟨i, hi, rfl⟩ := List.mem_iff_getElem.1 hc
    have := h i (by omega)
    rw [getD_lt l i hi] at this
    rw [this]; simp
  have HYES : Hid (∀ j, j < s.size → endB (l.getD j 0) = true → l.any endB = true) := Lib.hid fun j hj h => by
    rw [List.any_eq_true]
    refine ⟨l[j]'(by omega), List.getElem_mem _, ?_⟩
    rw [getD_lt l j (by omega)] at h
    exact h
  have HAT : Hid (∀ j (h : j < s.size), s[j]'h = l.getD j 0) := Lib.hid fun j h => by
    subst hs
    exact str_at l j h
  have HGT : Hid (∀ j, j < s.size → s.get! j = l.getD j 0) := Lib.hid fun j h => by
    subst hs
    exact get_str l j h
  have HHI := Lib.hid (fun r w => irune_hi r w)
  have HSE := Lib.hid (fun w => useset_no (s.size : Int) w (by omega))
  have hs8 : s.size ≤ 8 := by omega
  clear hs hsz hl
  go_enter Tryd.func65, Tryd.ntmps65
  go_wp2_with (refine (HSE.out _).mono ?_; rintro e w' ⟨rfl, rfl⟩)
  go_loopg [9, 10] s.size (fun g _ _ wx => ∃ i : Nat, s.size ≤ i + g ∧ wx.heap[w.heap.size]? = some (.stringIter s i) ∧ Below w.heap.size w wx ∧ ∀ j, j < i → j < s.size → endB (l.getD j 0) = false)
  case atStart => exact ⟨0, by omega, World.iter_heap _ _ _, (Below.refl _ _).alloc (Nat.le_refl _) _, fun j hj => absurd hj (Nat.not_lt_zero _)⟩
  case round =>
    obtain ⟨i, hig, hit, hbel, hno⟩ := hrel
    by_cases hi : i < s.size
    · cases gk with
      | zero => omega
      | succ g =>
        have hx : s[i]'hi = l.getD i 0 := HAT.out i hi
        have HNOI := Lib.hid hno
        rcases Nat.lt_or_ge (l.getD i 0).toNat 128 with h128 | h128
        · have hnx : ∀ ty, (Instr.next (.pointer (some ⟨w.heap.size, 0, none⟩)) true ty).run Tryd.prog wr = .ok (.tuple #[.bool true, .int .i64 i, .int .i32 (l.getD i 0).toNat]) (wr.iterAt w.heap.size s (i + 1)) := fun ty => by
            rw [Lib.run_next_ascii_at wr w.heap.size s i ty hit hi (by rw [hx]; exact h128), hx]
          have hb2 := iterAt_below (s := s) (i + 1) hbel
          have hit2 := Lib.iterAt_heap wr w.heap.size s i (i + 1) hit
          generalize wr.iterAt w.heap.size s (i + 1) = w2 at *
          have hxc := endB_ix (l.getD i 0)
          have HIA := Lib.hid (fun w => (Tryd.strings_IndexRune_ascii ⟨#[13, 10]⟩ ((l.getD i 0).toNat : Int) w (by omega) (by omega)).mono (R' := fun e w' => e = .returned (.int .i64 (Lib.indexByte [13, 10] (((l.getD i 0).toNat : Int)).toNat.toUInt8)) ∧ w = w') fun e w' h => ⟨h.1, h.2.symm⟩)
          rw [show (((l.getD i 0).toNat : Int)).toNat.toUInt8 = l.getD i 0 by simp] at HIA
          have HY := Lib.hid (HYES.out i hi)
          clear hno hx hbel hit
          generalize hc : l.getD i 0 = c at *
          have HC := Lib.hid hc
          clear hc
          generalize hix : Lib.indexByte [13, 10] c = ix at *
          cases he : endB c with
          | true =>
            have h0 : (0 : Int) ≤ ix := hxc.2 he
            have hy := HY.out he
            have HF := Lib.hid (And.intro hy hb2)
            clear hxc hy
            go_wp2_with (refine (HIA.out _).mono ?_; rintro e w' ⟨rfl, rfl⟩)
            go_ret
            exact ⟨(i : Nat), rfl, by rw [HF.out.1]; simp, HF.out.2⟩
          | false =>
            have h0 : ¬ (0 : Int) ≤ ix := fun h => by rw [hxc.1 h] at he; cases he
            have HF := Lib.hid (And.intro he (And.intro hit2 hb2))
            clear hxc he
            go_wp2_with (refine (HIA.out _).mono ?_; rintro e w' ⟨rfl, rfl⟩)
            go_roundg g
            case measure => omega
            case rel =>
              refine ⟨i + 1, by omega, HF.out.2.1, HF.out.2.2, fun j hj hjs => ?_⟩
              rcases Nat.lt_or_ge j i with h | h
              · exact HNOI.out j h hjs
              · obtain rfl : j = i := by omega
                rw [HC.out]
                exact HF.out.1
        · have hg : s.get! i = l.getD i 0 := HGT.out i hi
          obtain ⟨d1, d2⟩ := decode_high s i hi (by rw [hx]; exact h128)
          have HCT : Hid (∀ k, k < (Utf8.decode s i).2 → i + k < s.size → endB (l.getD (i + k) 0) = false) := Lib.hid fun k hk hks => by
            have := decode_cont s i k (by rw [hg]; exact h128) hk
            rw [HGT.out (i + k) hks] at this
            unfold endB
            rw [Bool.or_eq_false_iff, beq_eq_false_iff_ne, beq_eq_false_iff_ne]
            refine ⟨fun e => ?_, fun e => ?_⟩
            · rw [e] at this; exact absurd this (by decide)
            · rw [e] at this; exact absurd this (by decide)
          have hnx := fun ty => Lib.run_next_any_at (P := Tryd.prog) wr w.heap.size s i ty hit hi
          have hb2 := iterAt_below (s := s) (i + (Utf8.decode s i).2) hbel
          have hit2 := Lib.iterAt_heap wr w.heap.size s i (i + (Utf8.decode s i).2) hit
          generalize wr.iterAt w.heap.size s (i + (Utf8.decode s i).2) = w2 at *
          generalize (Utf8.decode s i).1 = r at *
          generalize (Utf8.decode s i).2 = dw at *
          have HIR := Lib.hid (irune_hi (r : Nat) w2 (by omega))
          have h0 : ¬ (0 : Int) ≤ -1 := by decide
          have hlt2 : w.heap.size < w2.heap.size := (Array.getElem?_eq_some_iff.1 hit2).1
          have HF := Lib.hid (And.intro hit2 (And.intro hb2 (And.intro hlt2 (And.intro d2 hig))))
          clear hno hx hbel hit hg h128 hb2 hit2 d1 d2 hlt2
          go_wp2_with (refine HIR.out.mono ?_; rintro e w3 ⟨rfl, hb3⟩)
          have hd2 := HF.out.2.2.2.1
          go_roundg g
          case measure => omega
          case rel =>
            refine ⟨i + dw, by omega, (hb3.block _ HF.out.2.2.1).trans HF.out.1, HF.out.2.1.trans (hb3.mono (by have := HF.out.2.2.1; omega)), fun j hj hjs => ?_⟩
            rcases Nat.lt_or_ge j i with h | h
            · exact HNOI.out j h hjs
            · have := HCT.out (j - i) (by omega) (by omega)
              rwa [show i + (j - i) = j by omega] at this
    · have HF : Hid (l.any endB = false ∧ Below w.heap.size w wr) := Lib.hid ⟨HNO.out (fun j hj => hno j (by omega) hj), hbel⟩
      have hnx := fun ty => Lib.run_next_end_at (P := Tryd.prog) wr w.heap.size s i ty hit hi
      clear hno hbel
      go_wp2_with fail
      go_ret
      exact ⟨-1, rfl, by rw [HF.out.1]; rfl, HF.out.2⟩
end Hd
end Go.Proofs.YtliaciojlcajdaaDoor
