/- All records at the beginning of any bytes are the document's: the statement of layer 2 on All, for every input. Conditions: none. -/
import Derived.Test.YtljefpagoggkdaaRows
import Derived.Test.YtljefpagoggkdaaOpen
import Derived.Test.YtljefpagoggkdaaAll
namespace Go.Proofs.Ytljefpagoggkdaa.frameAll
open Go.ChangeShapes Go.WideShapes Go.ChangeAt Go.RowKit
theorem few_one {l : List UInt8} (h : fewB [l] = true) : l.length ≤ 2000 := (few_len h).2 l (by simp)
set_option maxHeartbeats 1600000 in
theorem walk (A : Option Addr) (c : Nat) (l : List UInt8) {w : World} (h : Bts w w.heap.size A l) (hl : l.length ≤ c) (hc : c ≤ maxLen) :
    Calls Try.prog 6 #[.slice A l.length c] w fun e w' => e = .returned (.bool true) ∧ Below w.heap.size w w' := by
  go_enter Try.func6, Try.ntmps6
  go_wp2_with (go_at_call 10; refine (awake_any _).mono ?_; rintro e w1 ⟨rfl, hb⟩)
  have h1 := h.below hb
  have hb2 := hb.alloc hb.size (.cells #[.slice A l.length c] 22)
  have hf := few_any _ _ 1 [l] _ (Rws.one h1 hb.size hl hc) (by unfold maxLen; simp)
  clear hb
  cases hs : fewB [l]
  · rw [hs] at hf
    clear hs
    refine hf.mono ?_
    rintro e w' ⟨rfl, rfl⟩
    have HB := Lib.hid hb2
    clear hb2
    go_wp2_with fail
    go_ret
    exact ⟨rfl, HB.out⟩
  · rw [hs] at hf
    have hsm := few_one hs
    clear hs
    refine hf.mono ?_
    rintro e w' ⟨rfl, rfl⟩
    clear hf
    have h2 := (h.below hb2).more hb2.size
    have HB := Lib.hid hb2
    clear hb2 h1
    go_wp2_with fail
    refine (all_any _ _ _ _ h2 hl hc (by omega)).mono ?_
    rintro e w3 ⟨v3, rfl, o3, hb3⟩
    have h3 := (h2.below hb3).more hb3.size
    have HB3 := Lib.hid (HB.out.trans (hb3.mono HB.out.size))
    have HO3 := Lib.hid o3
    clear hb3 h2 o3
    go_wp2_with fail
    refine (rall_any _ _ _ _ h3 hl hc (by omega)).mono ?_
    rintro e w4 ⟨v4, rfl, o4, hb4⟩
    have HB4 := Lib.hid (HB3.out.trans (hb4.mono HB3.out.size))
    have o5 := HO3.out.kept hb4 (Nat.le_refl _)
    obtain ⟨A5, c5, rfl, e5, m5⟩ := o5.slice
    obtain ⟨A4, c4, rfl, e4, _⟩ := o4.slice
    have hsame := same_any A5 A4 w4.heap.size c5 c4 (recs l) w4 o5.rws o4.rws (Nat.le_trans e5 m5)
    clear hb4 o5 o4 h3 e5 e4 m5
    generalize recs l = ll at *
    go_wp2_with fail
    refine hsame.mono ?_
    rintro e w6 ⟨rfl, hb6⟩
    have HB6 := Lib.hid (HB4.out.trans (hb6.mono HB4.out.size))
    clear hb6
    go_wp2_with fail
    go_ret
    exact ⟨rfl, HB6.out⟩
set_option maxRecDepth 100000 in
theorem lifted (os : Os) (started : os.Started) (H : Type) (enc : TypeId × Value → H) :
    ReturnsInHanded {} Try.checked os 6 .any (Rows.frameAllSpec.pre6 enc Try.prog Try.f6 Rows.frameAllRow.domain false) (Rows.frameAllSpec.post enc Try.prog Try.f6 false true false false) := by
  refine returnsInHanded_of_change (C := Try.checked) own started (by kernel_rfl) Try.func6
    (ChangeSpec.witness6 (enc := enc) (C := Try.checked) false ⟨#[], #[.slice none 0 0], []⟩ 8 (by kernel_rfl) (by kernel_rfl) (by kernel_rfl) (by kernel_rfl)) ?_
  intro W base args ds gs before hval0 hW _ _
  have hval : ∀ (j : Nat) t v, Try.f6.params[j]? = some t → args[j]? = some v → Value.okWide Try.prog W .any base t v := hval0
  have hW' := hW
  obtain ⟨p, q, hA0, hV, rfl, hfz, hnd⟩ := hW
  have hA : DataW.TrodAll enc Try.prog W 0 (fun _ => true) true Try.f6.params.toList args.toList ds p := hA0
  rw [Try.params6] at hA hval
  obtain ⟨v0, vs0, d0, ds0, p0, q0, hargs, rfl, rfl, h0, r0⟩ := trodAll_cons hA
  obtain ⟨rfl, rfl, rfl⟩ := trodAll_nil r0
  obtain rfl : args = #[v0] := by cases args; simp_all
  obtain ⟨rfl, rfl⟩ := trodVars_none hV
  have lt0 : ∀ x ∈ p0, x.block < W.heap.size := by obtain ⟨m, hm⟩ := h0; exact DataW.trod_lt m _ _ _ hm
  obtain ⟨A0, c0, l0, rfl, g0, le0, mx0⟩ := open_b (hval 0 22 v0 rfl rfl) h0
  clear hA0 hval0
  refine (walk A0 c0 l0 g0 le0 mx0 (w := W)).mono fun e W' ⟨he, bel⟩ => ?_
  subst he
  exact ⟨_, rfl, _, _, _, [], _, [], hW', trodAll_mk1 (shut_bool Try.underlying4 _), (trodAll_cons_mk (Below.trod laidOut (by kernel_rfl) (of_decide_eq_true (by kernel_rfl)) h0 bel lt0) trodAll_mk0), rfl, bel.frame _, fun h => by cases h⟩
theorem over : Rows.frameAllRow.holds Try.pinned (OpenSpec.ofChange Rows.frameAllSpec) :=
  OpenClaim.holds_of_wide 6 Try.f6 rfl rfl rfl rfl rfl rfl rfl ⟨rfl, rfl, rfl, rfl, rfl⟩ rfl rfl rfl rfl rfl (by kernel_rfl) Try.func6 (by kernel_rfl)
    (of_decide_eq_true (by kernel_rfl)) (by unfold Func.isWrapper; first | (rw [if_pos (by decide +kernel)]; kernel_rfl) | (rw [if_neg (by decide +kernel)]; exact ⟨rfl, rfl⟩))
    (fun os started H enc _ => lifted os started H enc)
theorem proved : Rows.FrameAllSaid := over
#print axioms proved
end Go.Proofs.Ytljefpagoggkdaa.frameAll
