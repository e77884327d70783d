/- container/heap's up over the heap of lists. Conditions: as stated at each. -/
import Derived.Test.YtkpolakdamiiiaaPsOps
namespace Go.Proofs.Ytkpolakdamiiiaa
set_option maxRecDepth 100000
namespace Ps
open Go.RowKit Go
attribute [local go_sem] Oper.semAt_some
/-- the heap as an interface. -/
abbrev ifc (P : Nat) : Value := .iface 43 (.pointer (some ⟨P, 0, none⟩))
theorem half {m : Nat} (h : 0 < m) : ((m : Int) - 1).tdiv 2 = (((m - 1) / 2 : Nat) : Int) := by
  rw [show (m : Int) - 1 = ((m - 1 : Nat) : Int) by omega]
  rfl
set_option maxHeartbeats 3200000 in
theorem up_any {w : World} {D P : Nat} {p : Nat → Prop} {H : List E} (h : Hp w D P p H) {j : Nat} (hj : j < H.length) (hn : H.length ≤ 100000) (hu : UpK (ky H) H.length j) :
    Calls Try.prog 33 #[ifc P, .int .i64 j] w fun e w' => e = .returned (.tuple #[]) ∧ ∃ H', Hp w' D P p H' ∧ H'.Perm H ∧ HpK (ky H') H'.length ∧ Tk (hq p P) w w' := by
  obtain ⟨n, hnl⟩ : ∃ n, H.length = n := ⟨_, rfl⟩
  have HI := Lib.hid h
  have HU := Lib.hid hu
  rw [hnl] at hj hn HU
  clear h hu
  go_enter Try.func33, Try.ntmps33
  go_wp2_with fail
  go_loopw [1, 4] (fun x _ wr => ∃ (m : Nat) (H' : List E), x = .int .i64 m ∧ m < n ∧ H'.length = n ∧ Hid (Hp wr D P p H' ∧ H'.Perm H ∧ UpK (ky H') n m ∧ Tk (hq p P) w wr)) (fun x _ _ => (intOf x).toNat)
  case atStart => exact ⟨j, H, rfl, hj, hnl, Lib.hid ⟨HI.out, List.Perm.refl _, HU.out, Tk.refl _ _⟩⟩
  case round =>
    obtain ⟨m, H', rfl, hm, hl, HR⟩ := hrel
    rcases Nat.eq_zero_or_pos m with h0 | h0
    · subst h0
      go_wp2_with fail
      go_end0
      exact ⟨rfl, H', HR.out.1, HR.out.2.1, by rw [hl]; exact up_end0 HR.out.2.2.1, HR.out.2.2.2⟩
    · obtain ⟨i, hi⟩ : ∃ i, (m - 1) / 2 = i := ⟨_, rfl⟩
      obtain ⟨v, hb, hc⟩ := HR.out.1.less (i := m) (j := i) (by omega) (by omega)
      have hmt := m_val row_less hb
      have HQ : ((m : Int) - 1).tdiv 2 = (i : Int) := by rw [half h0, hi]
      by_cases hlt : ky H' m < ky H' i
      · rw [decide_eq_true hlt] at hc
        have HC := Lib.hid hc
        have HLT := Lib.hid hlt
        clear hc hb hlt
        go_wp2_with fail
        refine HC.out.mono ?_
        rintro e w1 ⟨rfl, hp1, ht1⟩
        obtain ⟨v1, hb1, hc1⟩ := hp1.swap (i := i) (j := m) (by omega) (by omega)
        have HT1 := Lib.hid ht1
        have HC1 := Lib.hid hc1
        clear HC hmt hp1 ht1 hc1
        have hmt := m_val row_swap hb1
        clear hb1
        go_wp2_with fail
        refine HC1.out.mono ?_
        rintro e w2 ⟨rfl, hp2, ht2⟩
        have HR2 := Lib.hid (And.intro hp2 (HT1.out.trans ht2))
        clear hp2 ht2 hmt HC1 HT1
        go_wp2_with fail
        go_roundw
        case rel =>
          refine ⟨i, swp H' i m, by go_num, by omega, by rw [swp_length]; exact hl, Lib.hid ⟨HR2.out.1, (swp_perm (by omega) (by omega)).trans HR.out.2.1, ?_, HR.out.2.2.2.trans HR2.out.2⟩⟩
          have hs := up_step HR.out.2.2.1 h0 hm (by rw [hi]; exact HLT.out)
          rw [hi] at hs
          exact up_congr hs (by omega) (fun x _ => swp_ky (by omega) (by omega) x)
        case measure => simp [intOf]; omega
      · rw [decide_eq_false hlt] at hc
        have HC := Lib.hid hc
        have HLT := Lib.hid hlt
        clear hc hb hlt
        go_wp2_with fail
        refine HC.out.mono ?_
        rintro e w1 ⟨rfl, hp1, ht1⟩
        have HR2 := Lib.hid (And.intro hp1 ht1)
        clear hp1 ht1 hmt HC
        go_wp2_with fail
        go_end0
        exact ⟨rfl, H', HR2.out.1, HR.out.2.1, by rw [hl]; exact up_end HR.out.2.2.1 (by have := HLT.out; rw [hi]; omega), HR.out.2.2.2.trans HR2.out.2⟩
end Ps
end Go.Proofs.Ytkpolakdamiiiaa
