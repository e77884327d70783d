/- Of records that are cut anywhere the first ones are found, as many as are whole: the statement of layer 2, for every input. Conditions: none. -/
import Derived.Test.YtljefpagoggkdaaRows
import Derived.Test.YtljefpagoggkdaaOpen
import Derived.Test.YtljefpagoggkdaaAll
namespace Go.Proofs.Ytljefpagoggkdaa.frameTorn
open Go.ChangeShapes Go.WideShapes Go.ChangeAt Go.RowKit
theorem same_n (A1 A2 : Option Addr) (B c1 c2 n1 n2 : Nat) (ll : List (List UInt8)) (w : World) (h1 : Rws w B A1 ll) (h2 : Rws w B A2 ll) (hl : ll.length ≤ maxLen) (e1 : ll.length = n1) (e2 : ll.length = n2) :
    Calls Try.prog 20 #[.slice A1 n1 c1, .slice A2 n2 c2] w fun e w' => e = .returned (.bool true) ∧ Below w.heap.size w w' := by
  subst e1
  subst e2
  exact same_any A1 A2 B c1 c2 ll w h1 h2 hl
theorem took_next (ll : List (List UInt8)) (k : Nat) (h : k < ll.length) : took (ll.take (k + 1)) = took (ll.take k) + (8 + (ll.getD k []).length) := by
  rw [List.take_succ_eq_append_getElem h, took_append, List.getD, List.getElem?_eq_getElem h, took_cons, took_nil]
  rfl
theorem took_take_le (ll : List (List UInt8)) (k : Nat) : took (ll.take k) ≤ took ll := by
  have : took ll = took (ll.take k) + took (ll.drop k) := by rw [← took_append, List.take_append_drop]
  omega
set_option maxHeartbeats 3200000 in
theorem walk (A : Option Addr) (c : Nat) (ll : List (List UInt8)) {w : World} (h : Rws w w.heap.size A ll) (hl : ll.length ≤ c) (hc : c ≤ maxLen)
    (n : Int) (wf : (Lit.int .i64 n).wf = true) :
    Calls Try.prog 8 #[.slice A ll.length c, .int .i64 n] w fun e w' => e = .returned (.bool true) ∧ Below w.heap.size w w' := by
  have hn : -9223372036854775808 ≤ n ∧ n ≤ 9223372036854775807 := by
    simpa [Lit.wf, IntKind.min, IntKind.max, IntKind.signed, IntKind.bits] using wf
  clear wf
  go_enter Try.func8, Try.ntmps8
  go_wp2_with (go_at_call 10; refine (awake_any _).mono ?_; rintro e w1 ⟨rfl, hb⟩)
  have h1 := h.below hb
  have HB := Lib.hid hb
  have hf := few_any _ _ c ll _ h1 (by omega)
  clear hb
  cases hs : fewB ll
  · rw [hs] at hf
    clear hs
    refine hf.mono ?_
    rintro e w' ⟨rfl, rfl⟩
    go_wp2_with fail
    go_ret
    exact ⟨rfl, HB.out⟩
  · rw [hs] at hf
    have HF := Lib.hid hs
    clear hs
    refine hf.mono ?_
    rintro e w' ⟨rfl, rfl⟩
    clear hf
    obtain ⟨fl, fr⟩ := few_len HF.out
    have ft := few_took HF.out
    go_wp2_with fail
    refine (write_any _ _ c ll _ h1 HB.out.size (by omega) (fun r hr => Nat.le_trans (fr r hr) (by omega)) (by omega)).mono ?_
    rintro e w3 ⟨v3, rfl, o3, hb3⟩
    have HB3 := Lib.hid (HB.out.trans (hb3.mono HB.out.size))
    obtain ⟨A3, c3, rfl, e3, m3⟩ := own_slice o3
    have b3 := Own5.bts o3
    have HW := Lib.hid (wr_length ll)
    have hwl : (wr ll).length ≤ 100400 := by rw [HW.out]; exact ft
    have FR := Lib.hid fr
    clear hb3 o3 h1 fr
    by_cases n0 : n < 0
    · go_wp2_with fail
      go_ret
      exact ⟨rfl, HB3.out⟩
    · by_cases n1 : ((wr ll).length : Int) < n
      · go_wp2_with fail
        go_ret
        exact ⟨rfl, HB3.out⟩
      · obtain ⟨k, rfl⟩ : ∃ k : Nat, n = (k : Int) := ⟨n.toNat, by omega⟩
        have hk : k ≤ (wr ll).length := by omega
        have ht : ((wr ll).take k).length = k := by simp; omega
        have hall := all_any A3 c3 ((wr ll).take k) w3 (b3.take k) (by omega) m3 (by omega)
        rw [ht] at hall
        have hk3 : (k : Int) ≤ (c3 : Int) := by omega
        clear ht b3
        go_wp2_with fail
        refine hall.mono ?_
        rintro e w7 ⟨v7, rfl, o7, hb7⟩
        have HB7 := Lib.hid (HB3.out.trans (hb7.mono HB3.out.size))
        obtain ⟨A7, c7, rfl, e7, m7⟩ := o7.slice
        have r7 := Lib.hid o7.rws
        have r0 := (h.below HB7.out).more HB7.out.size
        have hfl : (recs ((wr ll).take k)).length ≤ maxLen := Nat.le_trans e7 m7
        have HFL := Lib.hid hfl
        have hwk : (wr ll).length = took ll := HW.out
        have HK := Lib.hid hwk
        generalize hX : recs ((wr ll).take k) = X at *
        have HX := Lib.hid hX
        generalize hL : X.length = nX at *
        have HL := Lib.hid hL
        generalize hT : took X = tX at *
        have HT := Lib.hid hT
        have htX : (tX : Int) ≤ 1000000 := by
          have h1 := took_le ((wr ll).take k)
          rw [HX.out, HT.out] at h1
          simp at h1
          omega
        clear hb7 hall o7 hfl hX hL hT hwk e7 m7
        go_wp2_with fail
        go_loop [9, 45] (fun x i => ∃ j t : Nat, j ≤ ll.length ∧ i = .int .i64 j ∧ x = .int .i64 t ∧ took (ll.take j) = t ∧ t ≤ k) (fun _ i => ll.length - (intOf i).toNat)
        case atStart => exact ⟨0, 0, Nat.zero_le _, rfl, rfl, by simp [took], Nat.zero_le _⟩
        case round =>
          obtain ⟨j, t, hj, rfl, rfl, hjt, htk⟩ := hrel
          have HJ := Lib.hid hjt
          clear hjt
          by_cases hlt : j < ll.length
          · have hgr : ll[j]? = some (ll.getD j []) := by rw [List.getD, List.getElem?_eq_getElem hlt]; rfl
            have HG := Lib.hid hgr
            have HN := Lib.hid (took_next ll j hlt)
            have hrl := FR.out (ll.getD j []) (List.mem_of_getElem? hgr)
            obtain ⟨ad, Ak, ck, rfl, _, hcell, _, _, _⟩ := r0.at_ hlt
            generalize ll.getD j [] = r at *
            clear hgr
            have x1 : (0 : Int) ≤ (j : Int) := by omega
            have x2 : (j : Int) < (ll.length : Int) := by omega
            by_cases hgt : k < t + (8 + r.length)
            · have hgt' : (k : Int) < (t : Int) + (8 + (r.length : Int)) := by omega
              have hcut : X = ll.take j := by
                rw [← HX.out]
                exact recs_cut ll j k r HG.out (fun x hx => Nat.le_trans (FR.out x hx) (by omega)) (by rw [HJ.out]; exact htk) (by rw [HJ.out]; exact hgt)
              have hq : ((tX : Int) == (t : Int) + (8 + (r.length : Int)) - 8 - (r.length : Int)) = true := by
                have : tX = t := by rw [← HT.out, hcut, HJ.out]
                simp only [beq_iff_eq]
                omega
              have hsame := same_n A7 (some ad) w7.heap.size c7 c nX j X w7 r7.out (by rw [hcut]; exact r0.take j) (by rw [HL.out]; exact HFL.out) HL.out (by rw [hcut]; simp; omega)
              have HQ := Lib.hid hcut
              clear hcut
              go_wp2_with fail
              refine hsame.mono ?_
              rintro e w8 ⟨rfl, hb8⟩
              have HB8 := Lib.hid (HB7.out.trans (hb8.mono HB7.out.size))
              clear hb8
              go_wp2_with fail
              go_ret
              exact ⟨rfl, HB8.out⟩
            · have hle : (t : Int) + (8 + (r.length : Int)) ≤ (k : Int) := by omega
              go_wp2_with fail
              go_round
              case rel => exact ⟨j + 1, t + (8 + r.length), by omega, by go_num, by go_num, by rw [HN.out, HJ.out], by omega⟩
              case measure => simp [intOf]; omega
          · obtain rfl : j = ll.length := by omega
            have htt : took ll = t := by
              have := HJ.out
              rwa [List.take_length] at this
            have hcut : X = ll := by
              rw [← HX.out]
              exact recs_whole ll k (fun x hx => Nat.le_trans (FR.out x hx) (by omega)) (by rw [htt]; exact htk)
            have hq : ((tX : Int) == ((wr ll).length : Int)) = true := by
              have : tX = took ll := by rw [← HT.out, hcut]
              have h2 := HW.out
              simp only [beq_iff_eq]
              omega
            have hsame := same_n A7 A w7.heap.size c7 c nX ll.length X w7 r7.out (by rw [hcut]; exact r0) (by rw [HL.out]; exact HFL.out) HL.out (by rw [hcut])
            clear hcut htt
            go_wp2_with fail
            refine hsame.mono ?_
            rintro e w8 ⟨rfl, hb8⟩
            have HB8 := Lib.hid (HB7.out.trans (hb8.mono HB7.out.size))
            clear hb8
            go_wp2_with fail
            go_ret
            exact ⟨rfl, HB8.out⟩
set_option maxRecDepth 100000 in
theorem lifted (os : Os) (started : os.Started) (H : Type) (enc : TypeId × Value → H) :
    ReturnsInHanded {} Try.checked os 8 .any (Rows.frameTornSpec.pre6 enc Try.prog Try.f8 Rows.frameTornRow.domain false) (Rows.frameTornSpec.post enc Try.prog Try.f8 false true false false) := by
  refine returnsInHanded_of_change (C := Try.checked) own started (by kernel_rfl) Try.func8
    (ChangeSpec.witness6 (enc := enc) (C := Try.checked) false ⟨#[], #[.slice none 0 0, .int .i64 0], []⟩ 8 (by kernel_rfl) (by kernel_rfl) (by kernel_rfl) (by kernel_rfl)) ?_
  intro W base args ds gs before hval0 hW _ _
  have hval : ∀ (j : Nat) t v, Try.f8.params[j]? = some t → args[j]? = some v → Value.okWide Try.prog W .any base t v := hval0
  have hW' := hW
  obtain ⟨p, q, hA0, hV, rfl, hfz, hnd⟩ := hW
  have hA : DataW.TrodAll enc Try.prog W 0 (fun _ => true) true Try.f8.params.toList args.toList ds p := hA0
  rw [Try.params8] at hA hval
  obtain ⟨v0, vs0, d0, ds0, p0, q0, hargs, rfl, rfl, h0, r0⟩ := trodAll_cons hA
  obtain ⟨v1, vs1, d1, ds1, p1, q1, rfl, rfl, rfl, h1, r1⟩ := trodAll_cons r0
  obtain ⟨rfl, rfl, rfl⟩ := trodAll_nil r1
  obtain rfl : args = #[v0, v1] := by cases args; simp_all
  obtain ⟨rfl, rfl⟩ := trodVars_none hV
  have lt0 : ∀ x ∈ p0, x.block < W.heap.size := by obtain ⟨m, hm⟩ := h0; exact DataW.trod_lt m _ _ _ hm
  obtain ⟨A0, c0, l0, rfl, g0, le0, mx0⟩ := open_r (hval 0 35 v0 rfl rfl) h0
  obtain ⟨n1, rfl, rfl, rfl, wf1⟩ := open_int Try.underlying3 (hval 1 3 v1 rfl rfl) h1
  clear hA0 hval0
  refine (walk A0 c0 l0 g0 le0 mx0 n1 wf1 (w := W)).mono fun e W' ⟨he, bel⟩ => ?_
  subst he
  exact ⟨_, rfl, _, _, _, [], _, [], hW', trodAll_mk1 (shut_bool Try.underlying4 _), (trodAll_cons_mk (Below.trod laidOut (by kernel_rfl) (of_decide_eq_true (by kernel_rfl)) h0 bel lt0) (trodAll_cons_mk (shut_int Try.underlying3 wf1) trodAll_mk0)), rfl, bel.frame _, fun h => by cases h⟩
theorem over : Rows.frameTornRow.holds Try.pinned (OpenSpec.ofChange Rows.frameTornSpec) :=
  OpenClaim.holds_of_wide 8 Try.f8 rfl rfl rfl rfl rfl rfl rfl ⟨rfl, rfl, rfl, rfl, rfl⟩ rfl rfl rfl rfl rfl (by kernel_rfl) Try.func8 (by kernel_rfl)
    (of_decide_eq_true (by kernel_rfl)) (by unfold Func.isWrapper; first | (rw [if_pos (by decide +kernel)]; kernel_rfl) | (rw [if_neg (by decide +kernel)]; exact ⟨rfl, rfl⟩))
    (fun os started H enc _ => lifted os started H enc)
theorem proved : Rows.FrameTornSaid := over
#print axioms proved
end Go.Proofs.Ytljefpagoggkdaa.frameTorn
