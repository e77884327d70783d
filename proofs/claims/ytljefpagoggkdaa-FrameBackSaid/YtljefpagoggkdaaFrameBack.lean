/- Records that are written are found again, whatever stands behind, unless that begins with a record: the statement of layer 2, for every input. Conditions: none. -/
import Derived.Test.YtljefpagoggkdaaRows
import Derived.Test.YtljefpagoggkdaaOpen
import Derived.Test.YtljefpagoggkdaaAll
namespace Go.Proofs.Ytljefpagoggkdaa.frameBack
open Go.ChangeShapes Go.WideShapes Go.ChangeAt Go.RowKit
theorem few_one {l : List UInt8} (h : fewB [l] = true) : l.length ≤ 2000 := (few_len h).2 l (by simp)
set_option maxHeartbeats 1600000 in
theorem walk (A : Option Addr) (c : Nat) (ll : List (List UInt8)) {w : World} (h : Rws w w.heap.size A ll) (hl : ll.length ≤ c) (hc : c ≤ maxLen)
    (A' : Option Addr) (c' : Nat) (m : List UInt8) (h' : Bts w w.heap.size A' m) (hl' : m.length ≤ c') (hc' : c' ≤ maxLen) :
    Calls Try.prog 7 #[.slice A ll.length c, .slice A' m.length c'] w fun e w' => e = .returned (.bool true) ∧ Below w.heap.size w w' := by
  go_enter Try.func7, Try.ntmps7
  go_wp2_with (go_at_call 10; refine (awake_any _).mono ?_; rintro e w1 ⟨rfl, hb⟩)
  have h1 := h.below hb
  have h1' := h'.below hb
  have HB := Lib.hid hb
  have hf := few_any _ _ c ll _ h1 (by omega)
  have hf2 := few_any _ _ 1 [m] _ (Rws.one h1' hb.size hl' hc') (by unfold maxLen; simp)
  have HB2 := Lib.hid (hb.alloc hb.size (.cells #[.slice A' m.length c'] 22))
  clear hb
  cases hs : fewB ll
  · rw [hs] at hf
    clear hs
    refine hf.mono ?_
    rintro e w' ⟨rfl, rfl⟩
    go_wp2_with fail
    go_ret
    exact ⟨rfl, HB.out⟩
  · rw [hs] at hf
    have HF := Lib.hid hs
    clear hs
    refine hf.mono ?_
    rintro e w' ⟨rfl, rfl⟩
    clear hf
    go_wp2_with fail
    cases hs : fewB [m]
    · rw [hs] at hf2
      clear hs
      refine hf2.mono ?_
      rintro e w' ⟨rfl, rfl⟩
      go_wp2_with fail
      go_ret
      exact ⟨rfl, HB2.out⟩
    · rw [hs] at hf2
      have hsm := few_one hs
      clear hs
      refine hf2.mono ?_
      rintro e w' ⟨rfl, rfl⟩
      clear hf2
      obtain ⟨fl, fr⟩ := few_len HF.out
      have ft := few_took HF.out
      have h2 := h.below HB2.out
      have h2' := h'.below HB2.out
      clear h1 h1'
      go_wp2_with fail
      refine (write_any _ _ c ll _ h2 HB2.out.size (by omega) (fun r hr => Nat.le_trans (fr r hr) (by omega)) (by omega)).mono ?_
      rintro e w3 ⟨v3, rfl, o3, hb3⟩
      have HB3 := Lib.hid (HB2.out.trans (hb3.mono HB2.out.size))
      have HO3 := Lib.hid o3
      have h3' := h'.below HB3.out
      clear hb3 o3 h2 h2'
      go_wp2_with fail
      cases hn : cutN m with
      | some n =>
        have HN := Lib.hid hn
        clear hn
        refine (rnext_some _ _ _ _ _ n h3' HB3.out.size hl' hc' (by omega) HN.out).mono ?_
        rintro e w4 ⟨v4, A4, c4, rfl, _, _, _, _, hb4⟩
        have HB4 := Lib.hid (HB3.out.trans (hb4.mono HB3.out.size))
        clear hb4
        go_wp2_with fail
        go_ret
        exact ⟨rfl, HB4.out⟩
      | none =>
        have HN := Lib.hid hn
        clear hn
        refine (rnext_none _ _ _ _ _ h3' hl' (by omega) HN.out).mono ?_
        rintro e w4 ⟨rfl, k0, rfl⟩
        have HB4 := Lib.hid (HB3.out.trans (drewN_below w3 _ k0))
        have o4 := own_kept HO3.out (drewN_below w3 _ k0) (Nat.le_refl _)
        generalize w3.drewN k0 = w4 at *
        obtain ⟨A3, c3, rfl, e3, _⟩ := own_slice o4
        have b4 := Own5.bts o4
        have h4' := h'.below HB4.out
        have HW := Lib.hid (wr_length ll)
        have hwl : (wr ll).length ≤ 100400 := by rw [HW.out]; exact ft
        go_wp2_with (first
          | (at_builtin; refine app5 (.const (.slice none 0 0)) (.tmp 41) rfl rfl w.heap.size _ [] (wr ll) rfl (Own5.nil _ _) _ _ c3 rfl b4 (by simp; omega) HB4.out.size ?_; intro v5 w5 o5 g5; have HB5 := Lib.hid (grown_below HB4.out (Nat.le_refl _) (Own5.nil w4 w.heap.size) g5); have h5' := h'.below HB5.out; clear g5)
          | (at_builtin; refine app5 (.tmp 42) (.tmp 43) rfl rfl w.heap.size _ (wr ll) m rfl o5 _ _ c' rfl h5' (by omega) HB5.out.size ?_; intro v6 w6 o6 g6))
        have HB6 := Lib.hid (grown_below HB5.out (Nat.le_refl _) o5 g6)
        obtain ⟨A6, c6, rfl, e6, m6⟩ := own_slice o6
        have hall := all_any A6 c6 (wr ll ++ m) w6 (Own5.bts o6) e6 m6 (by rw [List.length_append]; omega)
        clear g6 o5 o6
        refine hall.mono ?_
        rintro e w7 ⟨v7, rfl, o7, hb7⟩
        have hrec : recs (wr ll ++ m) = ll := by
          rw [recs_wr ll m (fun r hr => Nat.le_trans (fr r hr) (by omega)), recs_none HN.out, List.append_nil]
        rw [hrec] at o7
        have HB7 := Lib.hid (HB6.out.trans (hb7.mono HB6.out.size))
        obtain ⟨A7, c7, rfl, e7, m7⟩ := o7.slice
        have hsame := same_any A7 A w7.heap.size c7 c ll w7 o7.rws ((h.below HB7.out).more HB7.out.size) (Nat.le_trans hl hc)
        have ht : ((took (recs (wr ll ++ m)) : Nat) : Int) = (((wr ll).length : Nat) : Int) := by rw [hrec, HW.out]
        have HT := Lib.hid ht
        clear o7 hb7 hall ht hrec
        rw [HT.out]
        go_wp2_with fail
        refine hsame.mono ?_
        rintro e w8 ⟨rfl, hb8⟩
        have HB8 := Lib.hid (HB7.out.trans (hb8.mono HB7.out.size))
        clear hb8
        go_wp2_with fail
        go_ret
        exact ⟨rfl, HB8.out⟩
set_option maxRecDepth 100000 in
theorem lifted (os : Os) (started : os.Started) (H : Type) (enc : TypeId × Value → H) :
    ReturnsInHanded {} Try.checked os 7 .any (Rows.frameBackSpec.pre6 enc Try.prog Try.f7 Rows.frameBackRow.domain false) (Rows.frameBackSpec.post enc Try.prog Try.f7 false true false false) := by
  refine returnsInHanded_of_change (C := Try.checked) own started (by kernel_rfl) Try.func7
    (ChangeSpec.witness6 (enc := enc) (C := Try.checked) false ⟨#[], #[.slice none 0 0, .slice none 0 0], []⟩ 8 (by kernel_rfl) (by kernel_rfl) (by kernel_rfl) (by kernel_rfl)) ?_
  intro W base args ds gs before hval0 hW _ _
  have hval : ∀ (j : Nat) t v, Try.f7.params[j]? = some t → args[j]? = some v → Value.okWide Try.prog W .any base t v := hval0
  have hW' := hW
  obtain ⟨p, q, hA0, hV, rfl, hfz, hnd⟩ := hW
  have hA : DataW.TrodAll enc Try.prog W 0 (fun _ => true) true Try.f7.params.toList args.toList ds p := hA0
  rw [Try.params7] at hA hval
  obtain ⟨v0, vs0, d0, ds0, p0, q0, hargs, rfl, rfl, h0, r0⟩ := trodAll_cons hA
  obtain ⟨v1, vs1, d1, ds1, p1, q1, rfl, rfl, rfl, h1, r1⟩ := trodAll_cons r0
  obtain ⟨rfl, rfl, rfl⟩ := trodAll_nil r1
  obtain rfl : args = #[v0, v1] := by cases args; simp_all
  obtain ⟨rfl, rfl⟩ := trodVars_none hV
  have lt0 : ∀ x ∈ p0, x.block < W.heap.size := by obtain ⟨m, hm⟩ := h0; exact DataW.trod_lt m _ _ _ hm
  obtain ⟨A0, c0, l0, rfl, g0, le0, mx0⟩ := open_r (hval 0 35 v0 rfl rfl) h0
  have lt1 : ∀ x ∈ p1, x.block < W.heap.size := by obtain ⟨m, hm⟩ := h1; exact DataW.trod_lt m _ _ _ hm
  obtain ⟨A1, c1, l1, rfl, g1, le1, mx1⟩ := open_b (hval 1 22 v1 rfl rfl) h1
  clear hA0 hval0
  refine (walk A0 c0 l0 g0 le0 mx0 A1 c1 l1 g1 le1 mx1 (w := W)).mono fun e W' ⟨he, bel⟩ => ?_
  subst he
  exact ⟨_, rfl, _, _, _, [], _, [], hW', trodAll_mk1 (shut_bool Try.underlying4 _), (trodAll_cons_mk (Below.trod laidOut (by kernel_rfl) (of_decide_eq_true (by kernel_rfl)) h0 bel lt0) (trodAll_cons_mk (Below.trod laidOut (by kernel_rfl) (of_decide_eq_true (by kernel_rfl)) h1 bel lt1) trodAll_mk0)), rfl, bel.frame _, fun h => by cases h⟩
theorem over : Rows.frameBackRow.holds Try.pinned (OpenSpec.ofChange Rows.frameBackSpec) :=
  OpenClaim.holds_of_wide 7 Try.f7 rfl rfl rfl rfl rfl rfl rfl ⟨rfl, rfl, rfl, rfl, rfl⟩ rfl rfl rfl rfl rfl (by kernel_rfl) Try.func7 (by kernel_rfl)
    (of_decide_eq_true (by kernel_rfl)) (by unfold Func.isWrapper; first | (rw [if_pos (by decide +kernel)]; kernel_rfl) | (rw [if_neg (by decide +kernel)]; exact ⟨rfl, rfl⟩))
    (fun os started H enc _ => lifted os started H enc)
theorem proved : Rows.FrameBackSaid := over
#print axioms proved
end Go.Proofs.Ytljefpagoggkdaa.frameBack
