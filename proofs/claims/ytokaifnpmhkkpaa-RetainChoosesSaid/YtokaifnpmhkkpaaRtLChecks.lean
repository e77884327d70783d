/- RetainChecks' walk; classes with their slice's room. Conditions: as stated at each. -/
import Derived.Test.YtokaifnpmhkkpaaRtLaws
import Derived.Test.YtokaifnpmhkkpaaRtRCheck
import Derived.Test.YtokaifnpmhkkpaaRtOpen
namespace Go.Proofs.Ytokaifnpmhkkpaa
set_option maxRecDepth 100000
namespace Rt
open Go.RowKit Go Go.Proofs.Ytokaifnpmhkkpaa.Pa
set_option maxHeartbeats 800000 in
theorem lchecks_any {w : World} {A A2 : Option Addr} {l : List C} {rs : List R} (h : Prs w w.heap.size A (cvC l)) (c : Nat) (hok : OkC l ∧ l.length ≤ c) (h2 : Prs w w.heap.size A2 (cvR rs)) (c2 : Nat) (hor : OkR rs) :
    Calls Try.prog 3 #[.slice A l.length c, .slice A2 rs.length c2] w fun e w' => e = .returned (.bool true) ∧ Below w.heap.size w w' := by
  have HA := Lib.hid awake_any
  have HF := Lib.hid (fun X => few_any A A2 none l.length c rs.length c2 0 0 ⟨#[]⟩ 0 X)
  by_cases hl : l.length ≤ 101 ∧ rs.length ≤ 101
  · have HC := Lib.hid (fun X (hX : Below w.heap.size w X) => check_any (h.below hX) (h2.below hX) hX.size l.length c rs.length c2 rfl rfl hok.1 hor)
    have HR := Lib.hid (fun X (hX : Below w.heap.size w X) => rcheck_any (h.below hX) (h2.below hX) hX.size l.length c rs.length c2 rfl rfl hok.2 hok.1 hor)
    unfold CheckP at HC HR
    rw [decide_eq_true (show l.length ≤ 101 ∧ rs.length ≤ 101 ∧ 0 ≤ 20 by omega)] at HF
    generalize errC (checkS l rs) = r at *
    clear h h2 hok hor hl
    generalize l.length = n at *
    generalize rs.length = n2 at *
    go_enter Try.func3, Try.ntmps3
    go_wp2_with (first
      | (go_at_call 9; refine (HA.out _).mono ?_; rintro e w1 ⟨rfl, hb1⟩)
      | (go_at_call 10; refine (HF.out _).mono ?_; rintro e w2 ⟨rfl, hb2⟩; have hb12 := hb1.trans (hb2.mono hb1.size))
      | (go_at_call 11; refine (HC.out _ hb12).mono ?_; rintro e w3 ⟨rfl, hb3⟩; have hb13 := hb12.trans (hb3.mono hb12.size))
      | (go_at_call 12; refine (HR.out _ hb13).mono ?_; rintro e w4 ⟨rfl, hb4⟩)
      | fail)
    go_ret
    exact ⟨by simp, hb13.trans (hb4.mono hb13.size)⟩
  · rw [decide_eq_false (show ¬ (l.length ≤ 101 ∧ rs.length ≤ 101 ∧ 0 ≤ 20) by omega)] at HF
    clear h h2 hok hor hl
    generalize l.length = n at *
    generalize rs.length = n2 at *
    go_enter Try.func3, Try.ntmps3
    go_wp2_with (first
      | (go_at_call 9; refine (HA.out _).mono ?_; rintro e w1 ⟨rfl, hb1⟩)
      | (go_at_call 10; refine (HF.out _).mono ?_; rintro e w2 ⟨rfl, hb2⟩; have hb12 := hb1.trans (hb2.mono hb1.size))
      | fail)
    go_ret
    exact ⟨rfl, hb12⟩
end Rt
open Go.ChangeShapes Go.WideShapes Go.ChangeAt Go.RowKit Go
section
variable {H : Type} {enc : TypeId × Value → H}
set_option maxRecDepth 100000 in
theorem open_cc {W : World} {v : Value} {d : DataW H} {p : List MemPlace} (hv : Value.okWide Try.prog W .any 0 22 v) (h : DataW.Trod enc Try.prog W 0 (fun _ => true) true 22 v d p) (hw : ∀ n ∈ d.weights Try.prog 22, n ≤ reachBytes) :
    ∃ A c l, v = .slice A (List.length (α := Rt.C) l) c ∧ Rt.Prs W W.heap.size A (Rt.cvC l) ∧ (Rt.OkC l ∧ l.length ≤ c) := by
  obtain ⟨A, c, l, rfl, g, y⟩ := open_cl hv h hw
  obtain ⟨fuel, hf⟩ := h
  refine ⟨A, c, l, rfl, g, y, ?_⟩
  rcases Deep.open_slice_pairs Try.underlying22 Try.underlying34 (by kernel_rfl) rfl rfl (by kernel_rfl) (by kernel_rfl) hf with ⟨hcs, _⟩ | ⟨x, len, cap, m, n, V0, V1, D0, D1, P0, P1, hcs, _, hl, _⟩
  · simp [Value.cells] at hcs
    obtain ⟨_, hcs, _⟩ := hcs
    rw [hcs]; exact Nat.zero_le _
  · simp [Value.cells] at hcs
    obtain ⟨_, e1, e2⟩ := hcs
    rw [e1, e2]; exact hl
end
end Go.Proofs.Ytokaifnpmhkkpaa
