/- Any bytes as a record are the document's: the statement of layer 2 on Put, for every input. Conditions: none. -/
import Derived.Test.YtljefpagoggkdaaRows
import Derived.Test.YtljefpagoggkdaaOpen
namespace Go.Proofs.Ytljefpagoggkdaa.framePuts
open Go.ChangeShapes Go.WideShapes Go.ChangeAt Go.RowKit
theorem few_one {l : List UInt8} (h : fewB [l] = true) : l.length ≤ 2000 := (few_len h).2 l (by simp)
set_option maxHeartbeats 800000 in
theorem walk (A : Option Addr) (c : Nat) (l : List UInt8) {w : World} (h : Bts w w.heap.size A l) (hl : l.length ≤ c) (hc : c ≤ maxLen) :
    Calls Try.prog 4 #[.slice A l.length c] w fun e w' => e = .returned (.bool true) ∧ Below w.heap.size w w' := by
  go_enter Try.func4, Try.ntmps4
  go_wp2_with (go_at_call 10; refine (awake_any _).mono ?_; rintro e w1 ⟨rfl, hb⟩)
  have h1 := h.below hb
  have hb2 := hb.alloc hb.size (.cells #[.slice A l.length c] 22)
  have hf := few_any _ _ 1 [l] _ (Rws.one h1 hb.size hl hc) (by unfold maxLen; simp)
  clear hb
  cases hs : fewB [l]
  · rw [hs] at hf
    clear hs
    refine hf.mono ?_
    rintro e w' ⟨rfl, rfl⟩
    have HB := Lib.hid hb2
    clear hb2
    go_wp2_with fail
    go_ret
    exact ⟨rfl, HB.out⟩
  · rw [hs] at hf
    have hsm := few_one hs
    clear hs
    refine hf.mono ?_
    rintro e w' ⟨rfl, rfl⟩
    clear hf
    have h2 := h.below hb2
    have HB := Lib.hid hb2
    clear hb2 h1
    go_wp2_with fail
    refine (put_any _ _ _ _ _ h2 HB.out.size hl hc (by omega)).mono ?_
    rintro e w3 ⟨v3, rfl, ho3, hb3⟩
    have h3 := h2.below (hb3.mono HB.out.size)
    have HB3 := Lib.hid (HB.out.trans (hb3.mono HB.out.size))
    clear hb3 h2
    have HO3 := Lib.hid ho3
    clear ho3
    go_wp2_with fail
    refine (rput_any _ _ _ _ _ h3 HB3.out.size (by omega)).mono ?_
    rintro e w4 ⟨v4, rfl, ho4, hb4⟩
    have HB4 := Lib.hid (HB3.out.trans (hb4.mono HB3.out.size))
    have ho5 := own_kept HO3.out hb4 (Nat.le_refl _)
    obtain ⟨A3, c3, rfl, _⟩ := own_slice ho5
    obtain ⟨A4, c4, rfl, _⟩ := own_slice ho4
    have hs1 := run_str Try.prog Try.underlying22 Try.underlying5 Try.underlying9 c3 (Own5.bts ho5)
    have hs2 := run_str Try.prog Try.underlying22 Try.underlying5 Try.underlying9 c4 (Own5.bts ho4)
    clear hb4 ho5 ho4 h3
    go_wp2_with fail
    go_ret
    exact ⟨by simp, HB4.out⟩
set_option maxRecDepth 100000 in
theorem lifted (os : Os) (started : os.Started) (H : Type) (enc : TypeId × Value → H) :
    ReturnsInHanded {} Try.checked os 4 .any (Rows.framePutsSpec.pre6 enc Try.prog Try.f4 Rows.framePutsRow.domain false) (Rows.framePutsSpec.post enc Try.prog Try.f4 false true false false) := by
  refine returnsInHanded_of_change (C := Try.checked) own started (by kernel_rfl) Try.func4
    (ChangeSpec.witness6 (enc := enc) (C := Try.checked) false ⟨#[], #[.slice none 0 0], []⟩ 8 (by kernel_rfl) (by kernel_rfl) (by kernel_rfl) (by kernel_rfl)) ?_
  intro W base args ds gs before hval0 hW _ _
  have hval : ∀ (j : Nat) t v, Try.f4.params[j]? = some t → args[j]? = some v → Value.okWide Try.prog W .any base t v := hval0
  have hW' := hW
  obtain ⟨p, q, hA0, hV, rfl, hfz, hnd⟩ := hW
  have hA : DataW.TrodAll enc Try.prog W 0 (fun _ => true) true Try.f4.params.toList args.toList ds p := hA0
  rw [Try.params4] at hA hval
  obtain ⟨v0, vs0, d0, ds0, p0, q0, hargs, rfl, rfl, h0, r0⟩ := trodAll_cons hA
  obtain ⟨rfl, rfl, rfl⟩ := trodAll_nil r0
  obtain rfl : args = #[v0] := by cases args; simp_all
  obtain ⟨rfl, rfl⟩ := trodVars_none hV
  have lt0 : ∀ x ∈ p0, x.block < W.heap.size := by obtain ⟨m, hm⟩ := h0; exact DataW.trod_lt m _ _ _ hm
  obtain ⟨A0, c0, l0, rfl, g0, le0, mx0⟩ := open_b (hval 0 22 v0 rfl rfl) h0
  clear hA0 hval0
  refine (walk A0 c0 l0 g0 le0 mx0 (w := W)).mono fun e W' ⟨he, bel⟩ => ?_
  subst he
  exact ⟨_, rfl, _, _, _, [], _, [], hW', trodAll_mk1 (shut_bool Try.underlying4 _), (trodAll_cons_mk (Below.trod laidOut (by kernel_rfl) (of_decide_eq_true (by kernel_rfl)) h0 bel lt0) trodAll_mk0), rfl, bel.frame _, fun h => by cases h⟩
theorem over : Rows.framePutsRow.holds Try.pinned (OpenSpec.ofChange Rows.framePutsSpec) :=
  OpenClaim.holds_of_wide 4 Try.f4 rfl rfl rfl rfl rfl rfl rfl ⟨rfl, rfl, rfl, rfl, rfl⟩ rfl rfl rfl rfl rfl (by kernel_rfl) Try.func4 (by kernel_rfl)
    (of_decide_eq_true (by kernel_rfl)) (by unfold Func.isWrapper; first | (rw [if_pos (by decide +kernel)]; kernel_rfl) | (rw [if_neg (by decide +kernel)]; exact ⟨rfl, rfl⟩))
    (fun os started H enc _ => lifted os started H enc)
theorem proved : Rows.FramePutsSaid := over
#print axioms proved
end Go.Proofs.Ytljefpagoggkdaa.framePuts
