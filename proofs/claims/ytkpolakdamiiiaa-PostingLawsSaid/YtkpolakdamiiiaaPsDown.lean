/- container/heap's down over the heap of lists. Conditions: as stated at each. -/
import Derived.Test.YtkpolakdamiiiaaPsUp
namespace Go.Proofs.Ytkpolakdamiiiaa
set_option maxRecDepth 100000
namespace Ps
open Go.RowKit Go
attribute [local go_sem] Oper.semAt_some
theorem swp_far {H : List E} {i j x : Nat} (hi : i ≠ x) (hj : j ≠ x) : (swp H i j).getD x E0 = H.getD x E0 := by
  unfold swp
  rw [List.getD_eq_getElem?_getD, List.getElem?_set_ne hj, List.getElem?_set_ne hi, ← List.getD_eq_getElem?_getD]
/-- what down leaves. -/
structure DnP (w w' : World) (D P n : Nat) (p : Nat → Prop) (H H' : List E) : Prop where
  hp : Hp w' D P p H'
  perm : H'.Perm H
  key : HpK (ky H') n
  far : ∀ x, n ≤ x → H'.getD x E0 = H.getD x E0
  tk : Tk (hq p P) w w'
/-- between two rounds of down's. -/
structure DnR (w w' : World) (D P n m : Nat) (p : Nat → Prop) (H H' : List E) : Prop where
  hp : Hp w' D P p H'
  perm : H'.Perm H
  key : DnK (ky H') n m
  far : ∀ x, n ≤ x → H'.getD x E0 = H.getD x E0
  tk : Tk (hq p P) w w'
theorem DnR.step {w w' w2 : World} {D P n m j : Nat} {p : Nat → Prop} {H H' : List E} (h : DnR w w' D P n m p H H') (hl : n ≤ H'.length) (hj : 0 < j) (hn : j < n) (hp : (j - 1) / 2 = m) (hk : ky H' j < ky H' m) (hm : ∀ c, 0 < c → c < n → (c - 1) / 2 = m → ky H' j ≤ ky H' c) (h2 : Hp w2 D P p (swp H' m j)) (t2 : Tk (hq p P) w' w2) : DnR w w2 D P n j p H (swp H' m j) :=
  ⟨h2, (swp_perm (by omega) (by omega)).trans h.perm, dn_congr (dn_step h.key hj hn hp hk hm) (fun x _ => swp_ky (by omega) (by omega) x), fun x hx => (swp_far (by omega) (by omega)).trans (h.far x hx), h.tk.trans t2⟩
theorem DnR.stop {w w' w2 : World} {D P n m : Nat} {p : Nat → Prop} {H H' : List E} (h : DnR w w' D P n m p H H') (hk : ∀ c, 0 < c → c < n → (c - 1) / 2 = m → ky H' m ≤ ky H' c) (h2 : Hp w2 D P p H') (t2 : Tk (hq p P) w' w2) : DnP w w2 D P n p H H' :=
  ⟨h2, h.perm, dn_end h.key hk, h.far, h.tk.trans t2⟩
def DnQ (w : World) (D P n : Nat) (p : Nat → Prop) (H : List E) (e : Ending) (w' : World) : Prop := ∃ b H', e = .returned (.bool b) ∧ DnP w w' D P n p H H'
set_option maxHeartbeats 12800000 in
theorem down_any {w : World} {D P : Nat} {p : Nat → Prop} {H : List E} (h : Hp w D P p H) {n : Nat} (h0 : 0 < H.length) (hn : n ≤ H.length) (hN : H.length ≤ 100000) (hd : DnK (ky H) n 0) :
    Calls Try.prog 36 #[ifc P, .int .i64 0, .int .i64 n] w (DnQ w D P n p H) := by
  obtain ⟨N, hnl⟩ : ∃ N, H.length = N := ⟨_, rfl⟩
  have HI := Lib.hid (DnR.mk h (List.Perm.refl _) hd (fun _ _ => rfl) (Tk.refl (hq p P) w))
  rw [hnl] at h0 hn hN
  clear h hd
  go_enter Try.func36, Try.ntmps36
  go_wp2_with fail
  go_loopw [7, 8, 9, 10] (fun x _ _ _ wr => ∃ (m : Nat) (H' : List E), x = .int .i64 m ∧ m < N ∧ H'.length = N ∧ Hid (DnR w wr D P n m p H H')) (fun x _ _ _ _ => N - (intOf x).toNat)
  case atStart => exact ⟨0, H, by go_num, h0, hnl, HI⟩
  case round =>
    obtain ⟨m, H', rfl, hm, hl, HR⟩ := hrel
    rcases Nat.lt_or_ge (2 * m + 1) n with h1 | h1
    rotate_left
    · go_wp2_with fail
      go_ret
      exact ⟨_, H', rfl, HR.out.stop (fun c h2 h3 h4 => by omega) HR.out.hp (Tk.refl _ _)⟩
    · rcases Nat.lt_or_ge (2 * m + 1 + 1) n with h2 | h2
      rotate_left
      · skip
        have HMIN : Hid (∀ c, 0 < c → c < n → (c - 1) / 2 = m → ky H' (2 * m + 1) ≤ ky H' c) := Lib.hid (fun c h3 h4 h5 => by rw [show c = 2 * m + 1 by omega]; exact Int.le_refl _)
        obtain ⟨v3, hb3, hc3⟩ := HR.out.hp.less (i := 2 * m + 1) (j := m) (by omega) (by omega)
        rw [show ((2 * m + 1 : Nat) : Int) = 2 * (m : Int) + 1 by omega] at hc3
        by_cases hlt : ky H' (2 * m + 1) < ky H' m
        · rw [decide_eq_true hlt] at hc3
          have HC3 := Lib.hid hc3
          have HLT := Lib.hid hlt
          have hmt := m_val row_less hb3
          clear hc3 hb3 hlt
          go_wp2_with fail
          refine HC3.out.mono ?_
          rintro e w4 ⟨rfl, hp4, ht4⟩
          obtain ⟨v5, hb5, hc5⟩ := hp4.swap (i := m) (j := 2 * m + 1) (by omega) (by omega)
          rw [show ((2 * m + 1 : Nat) : Int) = 2 * (m : Int) + 1 by omega] at hc5
          have HT4 := Lib.hid (ht4)
          have HC5 := Lib.hid hc5
          clear HC3 hmt hp4 ht4 hc5
          have hmt := m_val row_swap hb5
          clear hb5
          go_wp2_with fail
          refine HC5.out.mono ?_
          rintro e w6 ⟨rfl, hp6, ht6⟩
          have HR6 := Lib.hid (HR.out.step (by omega) (j := 2 * m + 1) (by omega) (by omega) (by omega) HLT.out HMIN.out hp6 (HT4.out.trans ht6))
          clear hp6 ht6 hmt HC5 HT4
          go_wp2_with fail
          go_roundw
          case rel => exact ⟨2 * m + 1, swp H' m (2 * m + 1), by go_num, by omega, by rw [swp_length]; exact hl, HR6⟩
          case measure => simp [intOf]; omega
        · rw [decide_eq_false hlt] at hc3
          have HC3 := Lib.hid hc3
          have HLT := Lib.hid hlt
          have hmt := m_val row_less hb3
          clear hc3 hb3 hlt
          go_wp2_with fail
          refine HC3.out.mono ?_
          rintro e w4 ⟨rfl, hp4, ht4⟩
          have HS := Lib.hid (HR.out.stop (fun c h2 h3 h4 => by have := HMIN.out c h2 h3 h4; have := HLT.out; omega) hp4 (ht4))
          clear hp4 ht4 hmt HC3 HMIN HLT
          go_wp2_with fail
          go_ret
          exact ⟨_, H', rfl, HS.out⟩
      · obtain ⟨v1, hb1, hc1⟩ := HR.out.hp.less (i := 2 * m + 1 + 1) (j := 2 * m + 1) (by omega) (by omega)
        rw [show ((2 * m + 1 + 1 : Nat) : Int) = 2 * (m : Int) + 1 + 1 by omega, show ((2 * m + 1 : Nat) : Int) = 2 * (m : Int) + 1 by omega] at hc1
        by_cases hl1 : ky H' (2 * m + 1 + 1) < ky H' (2 * m + 1)
        · rw [decide_eq_true hl1] at hc1
          have HC1 := Lib.hid hc1
          have HL1 := Lib.hid hl1
          have hmt := m_val row_less hb1
          clear hc1 hb1 hl1
          go_wp2_with fail
          refine HC1.out.mono ?_
          rintro e w2 ⟨rfl, hp2, ht2⟩
          have HP2 := Lib.hid hp2
          have HT2 := Lib.hid ht2
          clear HC1 hmt hp2 ht2
          have HMIN : Hid (∀ c, 0 < c → c < n → (c - 1) / 2 = m → ky H' (2 * m + 1 + 1) ≤ ky H' c) := Lib.hid (fun c h3 h4 h5 => by rcases (by omega : c = 2 * m + 1 ∨ c = 2 * m + 1 + 1) with rfl | rfl; exact Int.le_of_lt HL1.out; exact Int.le_refl _)
          obtain ⟨v3, hb3, hc3⟩ := HP2.out.less (i := 2 * m + 1 + 1) (j := m) (by omega) (by omega)
          rw [show ((2 * m + 1 + 1 : Nat) : Int) = 2 * (m : Int) + 1 + 1 by omega] at hc3
          by_cases hlt : ky H' (2 * m + 1 + 1) < ky H' m
          · rw [decide_eq_true hlt] at hc3
            have HC3 := Lib.hid hc3
            have HLT := Lib.hid hlt
            have hmt := m_val row_less hb3
            clear hc3 hb3 hlt
            go_wp2_with fail
            refine HC3.out.mono ?_
            rintro e w4 ⟨rfl, hp4, ht4⟩
            obtain ⟨v5, hb5, hc5⟩ := hp4.swap (i := m) (j := 2 * m + 1 + 1) (by omega) (by omega)
            rw [show ((2 * m + 1 + 1 : Nat) : Int) = 2 * (m : Int) + 1 + 1 by omega] at hc5
            have HT4 := Lib.hid (HT2.out.trans ht4)
            have HC5 := Lib.hid hc5
            clear HC3 hmt hp4 ht4 hc5
            have hmt := m_val row_swap hb5
            clear hb5
            go_wp2_with fail
            refine HC5.out.mono ?_
            rintro e w6 ⟨rfl, hp6, ht6⟩
            have HR6 := Lib.hid (HR.out.step (by omega) (j := 2 * m + 1 + 1) (by omega) (by omega) (by omega) HLT.out HMIN.out hp6 (HT4.out.trans ht6))
            clear hp6 ht6 hmt HC5 HT4
            go_wp2_with fail
            go_roundw
            case rel => exact ⟨2 * m + 1 + 1, swp H' m (2 * m + 1 + 1), by go_num, by omega, by rw [swp_length]; exact hl, HR6⟩
            case measure => simp [intOf]; omega
          · rw [decide_eq_false hlt] at hc3
            have HC3 := Lib.hid hc3
            have HLT := Lib.hid hlt
            have hmt := m_val row_less hb3
            clear hc3 hb3 hlt
            go_wp2_with fail
            refine HC3.out.mono ?_
            rintro e w4 ⟨rfl, hp4, ht4⟩
            have HS := Lib.hid (HR.out.stop (fun c h2 h3 h4 => by have := HMIN.out c h2 h3 h4; have := HLT.out; omega) hp4 (HT2.out.trans ht4))
            clear hp4 ht4 hmt HC3 HMIN HLT
            go_wp2_with fail
            go_ret
            exact ⟨_, H', rfl, HS.out⟩
        · rw [decide_eq_false hl1] at hc1
          have HC1 := Lib.hid hc1
          have HL1 := Lib.hid hl1
          have hmt := m_val row_less hb1
          clear hc1 hb1 hl1
          go_wp2_with fail
          refine HC1.out.mono ?_
          rintro e w2 ⟨rfl, hp2, ht2⟩
          have HP2 := Lib.hid hp2
          have HT2 := Lib.hid ht2
          clear HC1 hmt hp2 ht2
          have HMIN : Hid (∀ c, 0 < c → c < n → (c - 1) / 2 = m → ky H' (2 * m + 1) ≤ ky H' c) := Lib.hid (fun c h3 h4 h5 => by rcases (by omega : c = 2 * m + 1 ∨ c = 2 * m + 1 + 1) with rfl | rfl; exact Int.le_refl _; (have := HL1.out; omega))
          obtain ⟨v3, hb3, hc3⟩ := HP2.out.less (i := 2 * m + 1) (j := m) (by omega) (by omega)
          rw [show ((2 * m + 1 : Nat) : Int) = 2 * (m : Int) + 1 by omega] at hc3
          by_cases hlt : ky H' (2 * m + 1) < ky H' m
          · rw [decide_eq_true hlt] at hc3
            have HC3 := Lib.hid hc3
            have HLT := Lib.hid hlt
            have hmt := m_val row_less hb3
            clear hc3 hb3 hlt
            go_wp2_with fail
            refine HC3.out.mono ?_
            rintro e w4 ⟨rfl, hp4, ht4⟩
            obtain ⟨v5, hb5, hc5⟩ := hp4.swap (i := m) (j := 2 * m + 1) (by omega) (by omega)
            rw [show ((2 * m + 1 : Nat) : Int) = 2 * (m : Int) + 1 by omega] at hc5
            have HT4 := Lib.hid (HT2.out.trans ht4)
            have HC5 := Lib.hid hc5
            clear HC3 hmt hp4 ht4 hc5
            have hmt := m_val row_swap hb5
            clear hb5
            go_wp2_with fail
            refine HC5.out.mono ?_
            rintro e w6 ⟨rfl, hp6, ht6⟩
            have HR6 := Lib.hid (HR.out.step (by omega) (j := 2 * m + 1) (by omega) (by omega) (by omega) HLT.out HMIN.out hp6 (HT4.out.trans ht6))
            clear hp6 ht6 hmt HC5 HT4
            go_wp2_with fail
            go_roundw
            case rel => exact ⟨2 * m + 1, swp H' m (2 * m + 1), by go_num, by omega, by rw [swp_length]; exact hl, HR6⟩
            case measure => simp [intOf]; omega
          · rw [decide_eq_false hlt] at hc3
            have HC3 := Lib.hid hc3
            have HLT := Lib.hid hlt
            have hmt := m_val row_less hb3
            clear hc3 hb3 hlt
            go_wp2_with fail
            refine HC3.out.mono ?_
            rintro e w4 ⟨rfl, hp4, ht4⟩
            have HS := Lib.hid (HR.out.stop (fun c h2 h3 h4 => by have := HMIN.out c h2 h3 h4; have := HLT.out; omega) hp4 (HT2.out.trans ht4))
            clear hp4 ht4 hmt HC3 HMIN HLT
            go_wp2_with fail
            go_ret
            exact ⟨_, H', rfl, HS.out⟩
end Ps
end Go.Proofs.Ytkpolakdamiiiaa
