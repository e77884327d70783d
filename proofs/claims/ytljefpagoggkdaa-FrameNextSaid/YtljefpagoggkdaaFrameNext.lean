/- The first record of any bytes, and what stands behind it, are the document's: the statement of layer 2 on Next, for every input. Conditions: none. -/
import Derived.Test.YtljefpagoggkdaaRows
import Derived.Test.YtljefpagoggkdaaOpen
import Derived.Test.YtljefpagoggkdaaNext
namespace Go.Proofs.Ytljefpagoggkdaa.frameNext
open Go.ChangeShapes Go.WideShapes Go.ChangeAt Go.RowKit
theorem few_one {l : List UInt8} (h : fewB [l] = true) : l.length ≤ 2000 := (few_len h).2 l (by simp)
set_option maxHeartbeats 1600000 in
theorem walk (A : Option Addr) (c : Nat) (l : List UInt8) {w : World} (h : Bts w w.heap.size A l) (hl : l.length ≤ c) (hc : c ≤ maxLen) :
    Calls Try.prog 5 #[.slice A l.length c] w fun e w' => e = .returned (.bool true) ∧ Below w.heap.size w w' := by
  go_enter Try.func5, Try.ntmps5
  go_wp2_with (go_at_call 10; refine (awake_any _).mono ?_; rintro e w1 ⟨rfl, hb⟩)
  have h1 := h.below hb
  have hb2 := hb.alloc hb.size (.cells #[.slice A l.length c] 22)
  have hf := few_any _ _ 1 [l] _ (Rws.one h1 hb.size hl hc) (by unfold maxLen; simp)
  clear hb
  cases hs : fewB [l]
  · rw [hs] at hf
    clear hs
    refine hf.mono ?_
    rintro e w' ⟨rfl, rfl⟩
    have HB := Lib.hid hb2
    clear hb2
    go_wp2_with fail
    go_ret
    exact ⟨rfl, HB.out⟩
  · rw [hs] at hf
    have hsm := few_one hs
    clear hs
    refine hf.mono ?_
    rintro e w' ⟨rfl, rfl⟩
    clear hf
    have h2 := h.below hb2
    have HB := Lib.hid hb2
    clear hb2 h1
    cases hn : cutN l with
    | none =>
      have HN := Lib.hid hn
      clear hn
      go_wp2_with fail
      refine (next_none _ _ _ _ _ h2 HB.out.size hl (by omega) HN.out).mono ?_
      rintro e w3 ⟨v1, v2, rfl, ho1, ho2, hb3⟩
      have h3 := h2.below (hb3.mono HB.out.size)
      have HB3 := Lib.hid (HB.out.trans (hb3.mono HB.out.size))
      have HO1 := Lib.hid ho1
      have HO2 := Lib.hid ho2
      clear hb3 h2 ho1 ho2
      go_wp2_with fail
      refine (rnext_none _ _ _ _ _ h3 hl (by omega) HN.out).mono ?_
      rintro e w4 ⟨rfl, k0, rfl⟩
      have HB4 := Lib.hid (HB3.out.trans (drewN_below w3 _ k0))
      have g1 := own_kept HO1.out (drewN_below w3 _ k0) (Nat.le_refl _)
      have g2 := own_kept HO2.out (drewN_below w3 _ k0) (Nat.le_refl _)
      have g3 := h3.below (drewN_below w3 _ k0)
      clear h3
      generalize w3.drewN k0 = w5 at *
      obtain ⟨A1, c1, rfl, _⟩ := own_slice g1
      obtain ⟨A2, c2, rfl, _⟩ := own_slice g2
      have s1 := run_str Try.prog Try.underlying22 Try.underlying5 Try.underlying9 c1 (Own5.bts g1)
      have s2 := run_str Try.prog Try.underlying22 Try.underlying5 Try.underlying9 c2 (Own5.bts g2)
      have s3 : (convert 22 9 (.slice none 0 0)).run Try.prog w5 = .ok (.string (str [])) w5 := run_str (w := w5) (A := none) (B := 0) Try.prog Try.underlying22 Try.underlying5 Try.underlying9 0 (l := []) Cs.nil
      have s4 := run_str Try.prog Try.underlying22 Try.underlying5 Try.underlying9 c g3
      change (convert 22 9 (.slice A1 0 c1)).run Try.prog w5 = .ok (.string (str [])) w5 at s1
      clear g1 g2 g3
      generalize str [] = z0 at *
      generalize str l = z1 at *
      go_wp2_with fail
      go_ret
      exact ⟨by simp, HB4.out⟩
    | some n =>
      have HN := Lib.hid hn
      clear hn
      go_wp2_with fail
      refine (next_some _ _ _ _ _ n h2 HB.out.size hl hc (by omega) HN.out).mono ?_
      rintro e w3 ⟨v1, v2, rfl, ho1, ho2, hb3⟩
      have h3 := h2.below (hb3.mono HB.out.size)
      have HB3 := Lib.hid (HB.out.trans (hb3.mono HB.out.size))
      have HO1 := Lib.hid ho1
      have HO2 := Lib.hid ho2
      clear hb3 h2 ho1 ho2
      go_wp2_with fail
      refine (rnext_some _ _ _ _ _ n h3 HB3.out.size hl hc (by omega) HN.out).mono ?_
      rintro e w4 ⟨v3, A4, c4, rfl, ho3, g4, _, _, hb4⟩
      have HB4 := Lib.hid (HB3.out.trans (hb4.mono HB3.out.size))
      have g1 := own_kept HO1.out hb4 (Nat.le_refl _)
      have g2 := own_kept HO2.out hb4 (Nat.le_refl _)
      clear h3 hb4
      obtain ⟨A1, c1, rfl, _⟩ := own_slice g1
      obtain ⟨A2, c2, rfl, _⟩ := own_slice g2
      obtain ⟨A3, c3, rfl, _⟩ := own_slice ho3
      have s1 := run_str Try.prog Try.underlying22 Try.underlying5 Try.underlying9 c1 (Own5.bts g1)
      have s2 := run_str Try.prog Try.underlying22 Try.underlying5 Try.underlying9 c2 (Own5.bts g2)
      have s3 := run_str Try.prog Try.underlying22 Try.underlying5 Try.underlying9 c3 (Own5.bts ho3)
      have s4 := run_str Try.prog Try.underlying22 Try.underlying5 Try.underlying9 c4 g4
      clear g1 g2 ho3 g4
      generalize (l.drop 8).take n = r1 at *
      generalize l.drop (8 + n) = r2 at *
      go_wp2_with fail
      go_ret
      exact ⟨by simp, HB4.out⟩
set_option maxRecDepth 100000 in
theorem lifted (os : Os) (started : os.Started) (H : Type) (enc : TypeId × Value → H) :
    ReturnsInHanded {} Try.checked os 5 .any (Rows.frameNextSpec.pre6 enc Try.prog Try.f5 Rows.frameNextRow.domain false) (Rows.frameNextSpec.post enc Try.prog Try.f5 false true false false) := by
  refine returnsInHanded_of_change (C := Try.checked) own started (by kernel_rfl) Try.func5
    (ChangeSpec.witness6 (enc := enc) (C := Try.checked) false ⟨#[], #[.slice none 0 0], []⟩ 8 (by kernel_rfl) (by kernel_rfl) (by kernel_rfl) (by kernel_rfl)) ?_
  intro W base args ds gs before hval0 hW _ _
  have hval : ∀ (j : Nat) t v, Try.f5.params[j]? = some t → args[j]? = some v → Value.okWide Try.prog W .any base t v := hval0
  have hW' := hW
  obtain ⟨p, q, hA0, hV, rfl, hfz, hnd⟩ := hW
  have hA : DataW.TrodAll enc Try.prog W 0 (fun _ => true) true Try.f5.params.toList args.toList ds p := hA0
  rw [Try.params5] at hA hval
  obtain ⟨v0, vs0, d0, ds0, p0, q0, hargs, rfl, rfl, h0, r0⟩ := trodAll_cons hA
  obtain ⟨rfl, rfl, rfl⟩ := trodAll_nil r0
  obtain rfl : args = #[v0] := by cases args; simp_all
  obtain ⟨rfl, rfl⟩ := trodVars_none hV
  have lt0 : ∀ x ∈ p0, x.block < W.heap.size := by obtain ⟨m, hm⟩ := h0; exact DataW.trod_lt m _ _ _ hm
  obtain ⟨A0, c0, l0, rfl, g0, le0, mx0⟩ := open_b (hval 0 22 v0 rfl rfl) h0
  clear hA0 hval0
  refine (walk A0 c0 l0 g0 le0 mx0 (w := W)).mono fun e W' ⟨he, bel⟩ => ?_
  subst he
  exact ⟨_, rfl, _, _, _, [], _, [], hW', trodAll_mk1 (shut_bool Try.underlying4 _), (trodAll_cons_mk (Below.trod laidOut (by kernel_rfl) (of_decide_eq_true (by kernel_rfl)) h0 bel lt0) trodAll_mk0), rfl, bel.frame _, fun h => by cases h⟩
theorem over : Rows.frameNextRow.holds Try.pinned (OpenSpec.ofChange Rows.frameNextSpec) :=
  OpenClaim.holds_of_wide 5 Try.f5 rfl rfl rfl rfl rfl rfl rfl ⟨rfl, rfl, rfl, rfl, rfl⟩ rfl rfl rfl rfl rfl (by kernel_rfl) Try.func5 (by kernel_rfl)
    (of_decide_eq_true (by kernel_rfl)) (by unfold Func.isWrapper; first | (rw [if_pos (by decide +kernel)]; kernel_rfl) | (rw [if_neg (by decide +kernel)]; exact ⟨rfl, rfl⟩))
    (fun os started H enc _ => lifted os started H enc)
theorem proved : Rows.FrameNextSaid := over
#print axioms proved
end Go.Proofs.Ytljefpagoggkdaa.frameNext
