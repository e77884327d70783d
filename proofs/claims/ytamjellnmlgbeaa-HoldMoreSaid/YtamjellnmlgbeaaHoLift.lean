/- hold.Lift, hold.Names. Conditions: as stated at each. -/
import Derived.Test.YtamjellnmlgbeaaHoPlace
namespace Go.Proofs.Ytamjellnmlgbeaa
set_option maxRecDepth 100000
namespace Ho
open Go.RowKit Go Go.Proofs.Ytamjellnmlgbeaa.Pa Go.Proofs.Ytamjellnmlgbeaa.Rt
theorem lift_1 {l : List R} {nm : L} (c : hasN l nm = false) : liftE l nm = 3 ∧ liftS l nm = [] := by
  unfold liftE liftS
  rw [c]
  exact ⟨rfl, rfl⟩
theorem lift_2 {l : List R} {nm : L} (c : hasN l nm = true) : liftE l nm = 0 ∧ liftS l nm = liftL l nm := by
  unfold liftE liftS
  rw [c]
  exact ⟨rfl, rfl⟩
set_option maxHeartbeats 3200000 in
theorem lift_any {w0 : World} {B : Nat} {A : Option Addr} {l : List R} (nm : L) (hp : Prs w0 B A (cvR l)) (hB : B ≤ w0.heap.size) (n c : Nat) (hn : l.length = n) (hn1 : n ≤ 1000) (hok : OkH l) :
    Calls Try.prog 12 #[.slice A n c, .string (str nm)] w0 (OutE w0 (liftS l nm) (liftE l nm)) := by
  have HFD := Lib.hid (find_any nm hp hB n c hn hn1)
  have HOF : Hid (∀ X, Below w0.heap.size w0 X → Calls Try.prog 19 #[.slice A n c, .func (.func 20) #[] #[]] X (OutH X l)) := Lib.hid fun X hX => of_own (hp.below (hX.mono hB)) (Nat.le_trans hB hX.size) n c hn hn1 hok
  have HP1 := Lib.hid (lift_1 (l := l) (nm := nm))
  have HP2 := Lib.hid (lift_2 (l := l) (nm := nm))
  have HL := Lib.hid hn
  clear hp hn hok
  unfold FindP at HFD
  generalize str nm = s0 at *
  go_enter Try.func12, Try.ntmps12
  go_wp2_with fail
  refine HFD.out.mono ?_
  rintro e w1 ⟨z, rfl, hz, hb1⟩
  have HB1 := Lib.hid hb1
  clear hb1 HFD
  rcases hz with ⟨rfl, hz⟩ | ⟨k, rfl, hk, hz, hlt⟩
  · have HE := Lib.hid (HP1.out hz)
    clear hz HP1 HP2
    go_wp2_with fail
    refine bodyPost_ret (results_tmp2 rfl _ _ _) rfl ?_
    exact ⟨.slice none 0 0, by rw [HE.out.1]; rfl, by rw [HE.out.2]; exact OwnH.nil _ _, HB1.out⟩
  · have HE := Lib.hid (HP2.out hz)
    rw [HL.out] at hk
    have hk0 : (0 : Int) ≤ k := by omega
    have HLT := Lib.hid hlt
    clear hz HP1 HP2 hlt
    go_wp2_with (first
      | (go_at_call 19; refine (HOF.out _ HB1.out).mono ?_; rintro e w2 ⟨v2, rfl, ho2, hb2⟩; obtain ⟨A2, c2, rfl, _, _⟩ := ho2.slice; have HO2 := Lib.hid ho2; have HB2 := Lib.hid hb2; clear ho2 hb2; rw [HL.out] at HO2 ⊢)
      | fail)
    have HDE := Lib.hid (delete_any (k := k) HO2.out HB2.out.size hk HL.out hn1)
    go_wp2_with (first
      | (go_at_call 22; refine HDE.out.mono ?_; rintro e w3 ⟨v3, rfl, ho3, hb3⟩; have HO3 := Lib.hid ho3; have HB3 := Lib.hid hb3; clear ho3 hb3)
      | fail)
    refine bodyPost_ret (results_tmp2 rfl _ _ _) rfl ?_
    exact ⟨v3, by rw [HE.out.1]; rfl, by rw [HE.out.2, HLT.out]; exact HO3.out.more HB1.out.size, (HB1.out.trans (HB2.out.mono HB1.out.size)).trans (HB3.out.mono HB1.out.size)⟩
set_option maxHeartbeats 800000 in
theorem names_any {w0 : World} {B : Nat} {A : Option Addr} {l : List R} (hp : Prs w0 B A (cvR l)) (hB : B ≤ w0.heap.size) (n c : Nat) (hn : l.length = n) (hn1 : n ≤ 1000) (hok : OkH l) :
    Calls Try.prog 14 #[.slice A n c] w0 (OutT w0 (l.map Prod.fst)) := by
  have HOF := Lib.hid (of_called hp hB n c hn hn1 hok)
  clear hp hn hok
  unfold OutT at *
  go_enter Try.func14, Try.ntmps14
  go_wp2_with (first
    | (refine HOF.out.mono ?_; rintro e w2 ⟨v2, rfl, ho2, hb2⟩; have HO2 := Lib.hid ho2; clear ho2)
    | fail)
  go_ret
  exact ⟨v2, rfl, HO2.out, hb2⟩
end Ho
end Go.Proofs.Ytamjellnmlgbeaa
