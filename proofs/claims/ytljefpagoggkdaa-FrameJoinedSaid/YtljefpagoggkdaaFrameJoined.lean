/- Records that are written one list behind the other are found as one list: the statement of layer 2, for every input. Conditions: none. -/
import Derived.Test.YtljefpagoggkdaaRows
import Derived.Test.YtljefpagoggkdaaOpen
import Derived.Test.YtljefpagoggkdaaTwo
namespace Go.Proofs.Ytljefpagoggkdaa.frameJoined
open Go.ChangeShapes Go.WideShapes Go.ChangeAt Go.RowKit
set_option maxHeartbeats 1600000 in
theorem walk (A : Option Addr) (c : Nat) (ll : List (List UInt8)) {w : World} (h : Rws w w.heap.size A ll) (hl : ll.length ≤ c) (hc : c ≤ maxLen)
    (A' : Option Addr) (c' : Nat) (mm : List (List UInt8)) (h' : Rws w w.heap.size A' mm) (hl' : mm.length ≤ c') (hc' : c' ≤ maxLen) :
    Calls Try.prog 9 #[.slice A ll.length c, .slice A' mm.length c'] w fun e w' => e = .returned (.bool true) ∧ Below w.heap.size w w' := by
  go_enter Try.func9, Try.ntmps9
  go_wp2_with (go_at_call 10; refine (awake_any _).mono ?_; rintro e w1 ⟨rfl, hb⟩)
  have h1 := h.below hb
  have h1' := h'.below hb
  have HB := Lib.hid hb
  have hf := few_any _ _ c ll _ h1 (by omega)
  have hf2 := few_any _ _ c' mm _ h1' (by omega)
  clear hb
  cases hs : fewB ll
  · rw [hs] at hf
    clear hs
    refine hf.mono ?_
    rintro e w' ⟨rfl, rfl⟩
    go_wp2_with fail
    go_ret
    exact ⟨rfl, HB.out⟩
  · rw [hs] at hf
    have HF := Lib.hid hs
    clear hs
    refine hf.mono ?_
    rintro e w' ⟨rfl, rfl⟩
    clear hf
    go_wp2_with fail
    cases hs : fewB mm
    · rw [hs] at hf2
      clear hs
      refine hf2.mono ?_
      rintro e w' ⟨rfl, rfl⟩
      go_wp2_with fail
      go_ret
      exact ⟨rfl, HB.out⟩
    · rw [hs] at hf2
      have HF' := Lib.hid hs
      clear hs
      refine hf2.mono ?_
      rintro e w' ⟨rfl, rfl⟩
      clear hf2
      obtain ⟨fl, fr⟩ := few_len HF.out
      have ft := few_took HF.out
      obtain ⟨fl', fr'⟩ := few_len HF'.out
      have ft' := few_took HF'.out
      go_wp2_with fail
      refine (write_any _ _ c ll _ h1 HB.out.size (by omega) (fun r hr => Nat.le_trans (fr r hr) (by omega)) (by omega)).mono ?_
      rintro e w3 ⟨v3, rfl, o3, hb3⟩
      have HB3 := Lib.hid (HB.out.trans (hb3.mono HB.out.size))
      have HO3 := Lib.hid o3
      have h3' := h'.below HB3.out
      clear hb3 o3 h1 h1'
      go_wp2_with fail
      refine (write_any _ _ c' mm _ h3' HB3.out.size (by omega) (fun r hr => Nat.le_trans (fr' r hr) (by omega)) (by omega)).mono ?_
      rintro e w4 ⟨v4, rfl, o4, hb4⟩
      have HB4 := Lib.hid (HB3.out.trans (hb4.mono HB3.out.size))
      have o3 := own_kept HO3.out hb4 (Nat.le_refl _)
      obtain ⟨A3, c3, rfl, e3, _⟩ := own_slice o3
      obtain ⟨A4, c4, rfl, e4, _⟩ := own_slice o4
      have b3 := Own5.bts o3
      have b4 := Own5.bts o4
      have HW := Lib.hid (wr_length ll)
      have HW' := Lib.hid (wr_length mm)
      have hwl : (wr ll).length ≤ 100400 := by rw [HW.out]; exact ft
      have hwl' : (wr mm).length ≤ 100400 := by rw [HW'.out]; exact ft'
      clear hb4 h3' o3 o4
      go_wp2_with (first
        | (at_builtin; refine app5 (.const (.slice none 0 0)) (.tmp 32) rfl rfl w4.heap.size _ [] (wr ll) rfl (Own5.nil _ _) _ _ c3 rfl b3 (by simp; omega) (Nat.le_refl _) ?_; intro v5 w5 o5 g5; have HB5 := Lib.hid (grown_below (Below.refl w4.heap.size w4) (Nat.le_refl _) (Own5.nil w4 w4.heap.size) g5); have b5 := b4.below HB5.out; clear g5)
        | (at_builtin; refine app5 (.tmp 33) (.tmp 34) rfl rfl w4.heap.size _ (wr ll) (wr mm) rfl o5 _ _ c4 rfl b5 (by omega) HB5.out.size ?_; intro v6 w6 o6 g6))
      have HB6 := Lib.hid (HB4.out.trans ((grown_below HB5.out (Nat.le_refl _) o5 g6).mono HB4.out.size))
      obtain ⟨A6, c6, rfl, e6, m6⟩ := own_slice o6
      have hall := all_any A6 c6 (wr ll ++ wr mm) w6 (Own5.bts o6) e6 m6 (by rw [List.length_append]; omega)
      clear g6 o5 o6 b3 b4 b5
      refine hall.mono ?_
      rintro e w7 ⟨v7, rfl, o7, hb7⟩
      have hrec : recs (wr ll ++ wr mm) = ll ++ mm := by
        have e0 : recs [] = [] := recs_none (by decide +kernel)
        have e1 : recs (wr mm) = mm := by
          have := recs_wr mm [] (fun r hr => Nat.le_trans (fr' r hr) (by omega))
          rw [List.append_nil, e0, List.append_nil] at this
          exact this
        rw [recs_wr ll (wr mm) (fun r hr => Nat.le_trans (fr r hr) (by omega)), e1]
      rw [hrec] at o7
      have HB7 := Lib.hid (HB6.out.trans (hb7.mono HB6.out.size))
      obtain ⟨A7, c7, rfl, e7, m7⟩ := o7.slice
      have ht : ((took (recs (wr ll ++ wr mm)) : Nat) : Int) = (((wr ll).length : Nat) : Int) + (((wr mm).length : Nat) : Int) := by rw [hrec, took_append, HW.out, HW'.out]; omega
      have HT := Lib.hid ht
      have r1 := (h.below HB7.out).more HB7.out.size
      have r2 := (h'.below HB7.out).more HB7.out.size
      have r7 := o7.rws
      clear o7 hb7 hall ht hrec
      rw [HT.out]
      obtain ⟨us, hu1, hu2⟩ := r1.vals
      obtain ⟨ts, ht1, ht2⟩ := r2.vals
      have HU := Lib.hid hu2.1
      have HV := Lib.hid ht2.1
      have HA := Lib.hid (hu2.append ht2)
      have h1u := hu2.one
      have h1t := ht2.one
      clear hu2 ht2 r1 r2
      have hb0 := Below.refl w7.heap.size w7
      have on := World.ownsRow_nil w7 w7.heap.size 22 1
      go_wp2_with (first
        | (at_builtin; refine appR (.const (.slice none 0 0)) (.tmp 56) rfl (by rfl) w7.heap.size _ [] us rfl on _ _ ll.length c rfl HU.out hu1 h1u (by simp; omega) (Nat.le_refl _) ?_; intro v8 w8 o8 g8; have HB8 := Lib.hid (grown_below hb0 (Nat.le_refl _) on g8); have ht8 := ht1.below HB8.out; clear g8)
        | (at_builtin; refine appR (.tmp 57) (.tmp 58) rfl (by rfl) w7.heap.size _ ([] ++ us) ts rfl o8 _ _ mm.length c' rfl HV.out ht8 h1t (by have := HU.out; simp; omega) HB8.out.size ?_; intro v9 w9 o9 g9))
      have HB9 := Lib.hid (grown_below HB8.out (Nat.le_refl _) o8 g9)
      obtain ⟨A9, c9, rfl, e9, _⟩ := own_slice o9
      have hl9 : ([] ++ us ++ ts).length = (ll ++ mm).length := by rw [List.nil_append]; exact HA.out.1
      have q1 := RowVs.rws (w := w9) (ll := ll ++ mm) (HA.out.below HB9.out) HB9.out.size o9
      have q7 := (r7.below HB9.out).more HB9.out.size
      rw [hl9, List.length_append]
      have hsame := same_any A7 A9 w9.heap.size c7 c9 (ll ++ mm) w9 q7 q1 (Nat.le_trans e7 m7)
      rw [List.length_append] at hsame
      with_reducible refine hsame.mono ?_
      rintro e w10 ⟨rfl, hb10⟩
      have HB10 := Lib.hid (HB7.out.trans ((HB9.out.mono HB7.out.size).trans (hb10.mono (Nat.le_trans HB7.out.size HB9.out.size))))
      clear hb10
      go_wp2_with fail
      go_ret
      exact ⟨rfl, HB10.out⟩
set_option maxRecDepth 100000 in
theorem lifted (os : Os) (started : os.Started) (H : Type) (enc : TypeId × Value → H) :
    ReturnsInHanded {} Try.checked os 9 .any (Rows.frameJoinedSpec.pre6 enc Try.prog Try.f9 Rows.frameJoinedRow.domain false) (Rows.frameJoinedSpec.post enc Try.prog Try.f9 false true false false) := by
  refine returnsInHanded_of_change (C := Try.checked) own started (by kernel_rfl) Try.func9
    (ChangeSpec.witness6 (enc := enc) (C := Try.checked) false ⟨#[], #[.slice none 0 0, .slice none 0 0], []⟩ 8 (by kernel_rfl) (by kernel_rfl) (by kernel_rfl) (by kernel_rfl)) ?_
  intro W base args ds gs before hval0 hW _ _
  have hval : ∀ (j : Nat) t v, Try.f9.params[j]? = some t → args[j]? = some v → Value.okWide Try.prog W .any base t v := hval0
  have hW' := hW
  obtain ⟨p, q, hA0, hV, rfl, hfz, hnd⟩ := hW
  have hA : DataW.TrodAll enc Try.prog W 0 (fun _ => true) true Try.f9.params.toList args.toList ds p := hA0
  rw [Try.params9] at hA hval
  obtain ⟨v0, vs0, d0, ds0, p0, q0, hargs, rfl, rfl, h0, r0⟩ := trodAll_cons hA
  obtain ⟨v1, vs1, d1, ds1, p1, q1, rfl, rfl, rfl, h1, r1⟩ := trodAll_cons r0
  obtain ⟨rfl, rfl, rfl⟩ := trodAll_nil r1
  obtain rfl : args = #[v0, v1] := by cases args; simp_all
  obtain ⟨rfl, rfl⟩ := trodVars_none hV
  have lt0 : ∀ x ∈ p0, x.block < W.heap.size := by obtain ⟨m, hm⟩ := h0; exact DataW.trod_lt m _ _ _ hm
  obtain ⟨A0, c0, l0, rfl, g0, le0, mx0⟩ := open_r (hval 0 35 v0 rfl rfl) h0
  have lt1 : ∀ x ∈ p1, x.block < W.heap.size := by obtain ⟨m, hm⟩ := h1; exact DataW.trod_lt m _ _ _ hm
  obtain ⟨A1, c1, l1, rfl, g1, le1, mx1⟩ := open_r (hval 1 35 v1 rfl rfl) h1
  clear hA0 hval0
  refine (walk A0 c0 l0 g0 le0 mx0 A1 c1 l1 g1 le1 mx1 (w := W)).mono fun e W' ⟨he, bel⟩ => ?_
  subst he
  exact ⟨_, rfl, _, _, _, [], _, [], hW', trodAll_mk1 (shut_bool Try.underlying4 _), (trodAll_cons_mk (Below.trod laidOut (by kernel_rfl) (of_decide_eq_true (by kernel_rfl)) h0 bel lt0) (trodAll_cons_mk (Below.trod laidOut (by kernel_rfl) (of_decide_eq_true (by kernel_rfl)) h1 bel lt1) trodAll_mk0)), rfl, bel.frame _, fun h => by cases h⟩
theorem over : Rows.frameJoinedRow.holds Try.pinned (OpenSpec.ofChange Rows.frameJoinedSpec) :=
  OpenClaim.holds_of_wide 9 Try.f9 rfl rfl rfl rfl rfl rfl rfl ⟨rfl, rfl, rfl, rfl, rfl⟩ rfl rfl rfl rfl rfl (by kernel_rfl) Try.func9 (by kernel_rfl)
    (of_decide_eq_true (by kernel_rfl)) (by unfold Func.isWrapper; first | (rw [if_pos (by decide +kernel)]; kernel_rfl) | (rw [if_neg (by decide +kernel)]; exact ⟨rfl, rfl⟩))
    (fun os started H enc _ => lifted os started H enc)
theorem proved : Rows.FrameJoinedSaid := over
#print axioms proved
end Go.Proofs.Ytljefpagoggkdaa.frameJoined
