/- The document's Encode. Conditions: as stated at each. -/
import Derived.Test.YtpfonpjcnpfipaaGreatDoorEnRow
import Derived.Test.YtpfonpjcnpfipaaGreatDoorEnSmall
import Derived.Test.YtpfonpjcnpfipaaGreatDoorEnRPut
import Derived.Test.YtpfonpjcnpfipaaGreatDoorRgMany
import Derived.Test.YtpfonpjcnpfipaaGreatDoorEnChks
namespace Go.Proofs.YtpfonpjcnpfipaaGreatDoor
set_option maxRecDepth 100000
namespace En
open Go.RowKit Go Go.Proofs.YtpfonpjcnpfipaaGreatDoor.Pa
attribute [local go_sem] Oper.semAt_some
def REncP (w : World) (m : M) (e : Ending) (w' : World) : Prop := Below w.heap.size w w' ∧ ((okB m = true ∧ ∃ v, e = .returned (.tuple #[v, .int .i64 0]) ∧ Own5 w' w.heap.size v (putS (fldS m))) ∨ (okB m = false ∧ e = .returned (.tuple #[.slice none 0 0, .int .i64 150])))
set_option maxHeartbeats 6400000 in
theorem rencode_any {w0 : World} {x : Value} {m : M} (h : MsgAt w0 w0.heap.size x m) (hs : SmallM m) (hG : GlT w0) :
    Calls Tryz.prog 15 #[x] w0 (REncP w0 m) := by
  obtain ⟨A, c, Ab, cb, rfl, hT, hc1, hc2, hB, hb1, hb2, hA⟩ := h
  obtain ⟨s1, s2, s3, s4, s5, s6, s7, s8, s9⟩ := hs
  obtain ⟨id, cls, fr, tos, t, body⟩ := m
  simp only at hT hc1 hc2 hB hb1 hb2 hA s1 s2 s3 s4 s5 s6 s7 s8 s9 ⊢
  have HOK : Hid (okB ⟨id, cls, fr, tos, t, body⟩ = (checkE (fr, tos, t) body.length && (decide (1 ≤ id ∧ id ≤ 1099511627776) && Rt.smallS 20 cls))) := Lib.hid rfl
  have HTOT0 : Hid (okB ⟨id, cls, fr, tos, t, body⟩ = true → (putS (fldS ⟨id, cls, fr, tos, t, body⟩)).length ≤ 600000) := Lib.hid fun h => enc_len h (by show t ≤ 9223372036854775807; omega)
  have HPO : Hid (okB ⟨id, cls, fr, tos, t, body⟩ = true → 1 ≤ id ∧ 0 ≤ t ∧ (∀ a ∈ tos, a.length ≤ 320)) := Lib.hid fun h => by
    obtain ⟨_, _, h3, h4, _, h6, _⟩ := ok_parts h
    exact ⟨h6.1, h3, fun a ha => mail_len (h4 a ha)⟩
  have HFD : Hid (fiveS ⟨id, cls, fr, tos, t, body⟩ ++ tos ++ [body] = fldS ⟨id, cls, fr, tos, t, body⟩) := Lib.hid (fld_is _).symm
  have HFL : Hid ((fiveS ⟨id, cls, fr, tos, t, body⟩).length = 5) := Lib.hid rfl
  have HFV : Hid ((fiveS ⟨id, cls, fr, tos, t, body⟩).getD 0 [] = dec id.toNat ∧ (fiveS ⟨id, cls, fr, tos, t, body⟩).getD 1 [] = cls ∧ (fiveS ⟨id, cls, fr, tos, t, body⟩).getD 2 [] = fr ∧ (fiveS ⟨id, cls, fr, tos, t, body⟩).getD 3 [] = dec t.toNat ∧ (fiveS ⟨id, cls, fr, tos, t, body⟩).getD 4 [] = dec tos.length) := Lib.hid ⟨rfl, rfl, rfl, rfl, rfl⟩
  have HSM : Hid (Rt.smallS 20 cls = (cls.all azB && decide (1 ≤ cls.length ∧ cls.length ≤ 20))) := Lib.hid rfl
  have HEL := Lib.hid hT.els
  have HBO := Lib.hid hB
  have HGT := Lib.hid (fun (X : World) (hX : Below w0.heap.size w0 X) => hG.below hX hG.lt)
  have hsc := str_size cls
  have hse := str_empty cls
  have HAT := Lib.hid (str_at cls)
  have HCV1 := Lib.hid (fun X => run_bts cls (by omega) X)
  have HCV2 := Lib.hid (fun X => run_bts fr (by omega) X)
  have HCK := Lib.hid (fun (X : World) (hb : Below w0.heap.size w0 X) => rCheck_any (w := X) (x := .agg #[.string (str fr), .slice A tos.length c, .int .i64 t]) (e := (fr, tos, t)) ⟨A, c, rfl, (hT.below hb).more hb.size, hc1, hc2⟩ ⟨s2, s3, s4, s5, s6⟩ Ab body.length cb)
  have HSML := Lib.hid (fun X => rsmall_any cls 20 (by omega) X)
  unfold REncP
  have hqn := BlkIs.new w0 28 #[.int .i64 id, .string (str cls), .string (str fr), .slice A tos.length c, .int .i64 t, .slice Ab body.length cb]
  have han : Below w0.heap.size w0 (w0.alloc (.cells #[.int .i64 id, .string (str cls), .string (str fr), .slice A tos.length c, .int .i64 t, .slice Ab body.length cb] 28)) := (Below.refl _ _).alloc (Nat.le_refl _) _
  have HALLS := Lib.hid (fun k (hk : k < cls.length) => And.intro (allK_succ (f := azB) hk) (fun h => allK_false (f := azB) hk h))
  clear hT hB hG s2 s3 hA
  generalize okB ⟨id, cls, fr, tos, t, body⟩ = ok at *
  generalize hFV : fiveS ⟨id, cls, fr, tos, t, body⟩ = FV at *
  generalize hFLD : fldS ⟨id, cls, fr, tos, t, body⟩ = FLD at *
  clear hFV hFLD
  generalize str cls = sc at *
  generalize str fr = sf at *
  generalize hn : tos.length = n at *
  generalize hbn : body.length = bn at *
  have HNN := Lib.hid hn
  have HBL := Lib.hid hbn
  clear hn hbn
  have HQ1 := Lib.hid hqn
  have HB1 := Lib.hid han
  generalize checkE (fr, tos, t) bn = ck at *
  generalize Rt.smallS 20 cls = sm at *
  unfold NumP at HCK
  have HCK1 := Lib.hid (HCK.out _ HB1.out)
  have z0 := (BlkIs.cell hqn 0).trans (rfl : _ = some (Value.int .i64 id))
  have z1 := (BlkIs.cell hqn 1).trans (rfl : _ = some (Value.string sc))
  have z2 := (BlkIs.cell hqn 2).trans (rfl : _ = some (Value.string sf))
  have z3 := (BlkIs.cell hqn 3).trans (rfl : _ = some (Value.slice A n c))
  have z4 := (BlkIs.cell hqn 4).trans (rfl : _ = some (Value.int .i64 t))
  have z5 := (BlkIs.cell hqn 5).trans (rfl : _ = some (Value.slice Ab bn cb))
  clear hqn han HCK HALLS hse
  generalize hcl : cls.length = cl at *
  have HCLL := Lib.hid hcl
  clear hcl
  go_enter Tryz.func15, Tryz.ntmps15
  cases ck with
  | false =>
    have HR : Hid (ok = false) := Lib.hid (by rw [HOK.out, Bool.false_and])
    have en : numE false = 150 := rfl
    rw [en] at HCK1
    go_wp2_with fail
    refine HCK1.out.mono ?_
    rintro e w2 ⟨rfl, hb2⟩
    have HB2 := Lib.hid (HB1.out.trans (hb2.mono HB1.out.size))
    clear hb2
    go_wp2_with fail
    refine bodyPost_ret (results_tmp2 rfl _ _ _) rfl ?_
    exact ⟨HB2.out, .inr ⟨HR.out, rfl⟩⟩
  | true =>
    rw [Bool.true_and] at HOK
    have en : numE true = 0 := rfl
    rw [en] at HCK1
    by_cases hi1 : id < 1
    · have HR : Hid (ok = false) := Lib.hid (by rw [HOK.out, decide_eq_false (by omega), Bool.false_and])
      go_wp2_with (first
        | (go_at_call 30; refine HCK1.out.mono ?_; rintro e w2 ⟨rfl, hb2⟩; have HB2 := Lib.hid (HB1.out.trans (hb2.mono HB1.out.size)); have z02 : w2.cell? ⟨w0.heap.size, 0, none⟩ = some (.int .i64 id) := (hb2.cell (p := ⟨w0.heap.size, 0, none⟩) (HQ1.out.lt)).trans z0; clear hb2)
        | fail)
      refine bodyPost_ret (results_tmp2 rfl _ _ _) rfl ?_
      exact ⟨HB2.out, .inr ⟨HR.out, rfl⟩⟩
    · by_cases hi2 : 1099511627776 < id
      · have HR : Hid (ok = false) := Lib.hid (by rw [HOK.out, decide_eq_false (by omega), Bool.false_and])
        go_wp2_with (first
          | (go_at_call 30; refine HCK1.out.mono ?_; rintro e w2 ⟨rfl, hb2⟩; have HB2 := Lib.hid (HB1.out.trans (hb2.mono HB1.out.size)); have z02 : w2.cell? ⟨w0.heap.size, 0, none⟩ = some (.int .i64 id) := (hb2.cell (p := ⟨w0.heap.size, 0, none⟩) (HQ1.out.lt)).trans z0; clear hb2)
          | fail)
        refine bodyPost_ret (results_tmp2 rfl _ _ _) rfl ?_
        exact ⟨HB2.out, .inr ⟨HR.out, rfl⟩⟩
      · rw [decide_eq_true (by omega : 1 ≤ id ∧ id ≤ 1099511627776), Bool.true_and] at HOK
        cases sm with
        | false =>
          have HR := HOK
          go_wp2_with (first
            | (go_at_call 30; refine HCK1.out.mono ?_; rintro e w2 ⟨rfl, hb2⟩; have HB2 := Lib.hid (HB1.out.trans (hb2.mono HB1.out.size)); have z02 : w2.cell? ⟨w0.heap.size, 0, none⟩ = some (.int .i64 id) := (hb2.cell (p := ⟨w0.heap.size, 0, none⟩) (HQ1.out.lt)).trans z0; have z12 : w2.cell? ⟨w0.heap.size, 1, none⟩ = some (.string sc) := (hb2.cell (p := ⟨w0.heap.size, 1, none⟩) (HQ1.out.lt)).trans z1; clear hb2)
            | (go_at_call 31; refine (HSML.out _).mono ?_; rintro e w3 ⟨rfl, rfl⟩)
            | fail)
          refine bodyPost_ret (results_tmp2 rfl _ _ _) rfl ?_
          exact ⟨HB2.out, .inr ⟨HR.out, rfl⟩⟩
        | true =>
          have HR := HOK
          clear HOK
          go_wp2_with (first
            | (go_at_call 30; refine HCK1.out.mono ?_; rintro e w2 ⟨rfl, hb2⟩; have HBX := Lib.hid (HB1.out.trans (hb2.mono HB1.out.size)); have HQX : Hid (BlkIs w2 w0.heap.size 28 #[.int .i64 id, .string sc, .string sf, .slice A n c, .int .i64 t, .slice Ab bn cb]) := Lib.hid ((hb2.block _ HQ1.out.lt).trans HQ1.out); have z02 : w2.cell? ⟨w0.heap.size, 0, none⟩ = some (.int .i64 id) := (hb2.cell (p := ⟨w0.heap.size, 0, none⟩) (HQ1.out.lt)).trans z0; have z12 : w2.cell? ⟨w0.heap.size, 1, none⟩ = some (.string sc) := (hb2.cell (p := ⟨w0.heap.size, 1, none⟩) (HQ1.out.lt)).trans z1; clear hb2)
            | (go_at_call 31; refine (HSML.out _).mono ?_; rintro e w3 ⟨rfl, rfl⟩)
            | fail)
          clear z0 z1 z2 z3 z4 z5 z02 z12 HB1 HQ1 HCK1 HSML
          obtain ⟨hid1, ht0, hto⟩ := HPO.out HR.out
          have HTO := Lib.hid (fun k (hk : k < n) X => run_bts (tos.getD k []) (by have := hto (tos.getD k []) (by simp [List.getD, HNN.out, hk]); omega) X)
          have HTOT := Lib.hid (HTOT0.out HR.out)
          have HDG0 := Lib.hid (fun X (hX : Below w0.heap.size w0 X) => rdigits_any id X (by omega) (by omega) (HGT.out X hX))
          have HDG3 := Lib.hid (fun X (hX : Below w0.heap.size w0 X) => rdigits_any t X (by omega) (by omega) (HGT.out X hX))
          have HDG4 := Lib.hid (fun X (hX : Below w0.heap.size w0 X) => rdigits_any (n : Int) X (by omega) (by omega) (HGT.out X hX))
          clear hto HPO HTOT0
          unfold OutS at HDG0 HDG3 HDG4
          generalize w2 = wX at *
          have hq5 : BlkIs wX.drew w0.heap.size 28 #[.int .i64 id, .string sc, .string sf, .slice A n c, .int .i64 t, .slice Ab bn cb] := HQX.out
          have hb5 : Below w0.heap.size w0 wX.drew := HBX.out.drew
          clear HQX HBX
          refine wp_region_held_drew (S := (fun Y => BlkIs Y w0.heap.size 28 #[.int .i64 id, .string sc, .string sf, .slice A n c, .int .i64 t, .slice Ab bn cb] ∧ Below w0.heap.size w0 Y)) (by kernel_rfl) (⟨hq5, hb5⟩) (fun hHeld => ?_)
          clear hq5 hb5
          generalize wX.drew = wD at *
          refine wpAnyH_take (i := 0) (v := .pointer (some ⟨w0.heap.size, 0, none⟩)) rfl (by kernel_rfl) (by kernel_rfl) (by kernel_rfl) (fun _ _ _ h => h) (Or.inl ⟨by rfl, fun w hS => by first | (go_simp; done) | (go_simp; with_reducible rfl)⟩) hHeld ?_
          try simp only [Act.put, List.getElem_toArray, List.getElem_cons_zero, List.setIfInBounds_toArray, List.set_cons_zero, List.set_cons_succ]
          refine wpAnyH_take (i := 1) (v := .int .i64 id) rfl (by kernel_rfl) (by kernel_rfl) (by kernel_rfl) (fun _ _ _ h => h) (Or.inl ⟨by rfl, fun w hS => by (have c0 := (BlkIs.cell hS.1 0).trans (rfl : _ = some (Value.int .i64 id)); first | (go_simp; done) | (go_simp; with_reducible rfl))⟩) hHeld ?_
          try simp only [Act.put, List.getElem_toArray, List.getElem_cons_zero, List.getElem_cons_succ, List.setIfInBounds_toArray, List.set_cons_zero, List.set_cons_succ]
          refine wpAnyH_take (i := 3) (v := .pointer (some ⟨w0.heap.size, 1, none⟩)) rfl (by kernel_rfl) (by kernel_rfl) (by kernel_rfl) (fun _ _ _ h => h) (Or.inl ⟨by rfl, fun w hS => by first | (go_simp; done) | (go_simp; with_reducible rfl)⟩) hHeld ?_
          try simp only [Act.put, List.getElem_toArray, List.getElem_cons_zero, List.getElem_cons_succ, List.setIfInBounds_toArray, List.set_cons_zero, List.set_cons_succ]
          refine wpAnyH_take (i := 4) (v := .string sc) rfl (by kernel_rfl) (by kernel_rfl) (by kernel_rfl) (fun _ _ _ h => h) (Or.inl ⟨by rfl, fun w hS => by (have c0 := (BlkIs.cell hS.1 1).trans (rfl : _ = some (Value.string sc)); first | (go_simp; done) | (go_simp; with_reducible rfl))⟩) hHeld ?_
          try simp only [Act.put, List.getElem_toArray, List.getElem_cons_zero, List.getElem_cons_succ, List.setIfInBounds_toArray, List.set_cons_zero, List.set_cons_succ]
          refine wpAnyH_take (i := 6) (v := .pointer (some ⟨w0.heap.size, 2, none⟩)) rfl (by kernel_rfl) (by kernel_rfl) (by kernel_rfl) (fun _ _ _ h => h) (Or.inl ⟨by rfl, fun w hS => by first | (go_simp; done) | (go_simp; with_reducible rfl)⟩) hHeld ?_
          try simp only [Act.put, List.getElem_toArray, List.getElem_cons_zero, List.getElem_cons_succ, List.setIfInBounds_toArray, List.set_cons_zero, List.set_cons_succ]
          refine wpAnyH_take (i := 7) (v := .pointer (some ⟨w0.heap.size, 2, none⟩)) rfl (by kernel_rfl) (by kernel_rfl) (by kernel_rfl) (fun _ _ _ h => h) (Or.inl ⟨by rfl, fun w hS => by first | (go_simp; done) | (go_simp; with_reducible rfl)⟩) hHeld ?_
          try simp only [Act.put, List.getElem_toArray, List.getElem_cons_zero, List.getElem_cons_succ, List.setIfInBounds_toArray, List.set_cons_zero, List.set_cons_succ]
          refine wpAnyH_take (i := 8) (v := .string sf) rfl (by kernel_rfl) (by kernel_rfl) (by kernel_rfl) (fun _ _ _ h => h) (Or.inl ⟨by rfl, fun w hS => by (have c0 := (BlkIs.cell hS.1 2).trans (rfl : _ = some (Value.string sf)); first | (go_simp; done) | (go_simp; with_reducible rfl))⟩) hHeld ?_
          try simp only [Act.put, List.getElem_toArray, List.getElem_cons_zero, List.getElem_cons_succ, List.setIfInBounds_toArray, List.set_cons_zero, List.set_cons_succ]
          refine wpAnyH_take (i := 10) (v := .pointer (some ⟨w0.heap.size, 2, none⟩)) rfl (by kernel_rfl) (by kernel_rfl) (by kernel_rfl) (fun _ _ _ h => h) (Or.inl ⟨by rfl, fun w hS => by first | (go_simp; done) | (go_simp; with_reducible rfl)⟩) hHeld ?_
          try simp only [Act.put, List.getElem_toArray, List.getElem_cons_zero, List.getElem_cons_succ, List.setIfInBounds_toArray, List.set_cons_zero, List.set_cons_succ]
          refine wpAnyH_take (i := 11) (v := .pointer (some ⟨w0.heap.size, 4, none⟩)) rfl (by kernel_rfl) (by kernel_rfl) (by kernel_rfl) (fun _ _ _ h => h) (Or.inl ⟨by rfl, fun w hS => by first | (go_simp; done) | (go_simp; with_reducible rfl)⟩) hHeld ?_
          try simp only [Act.put, List.getElem_toArray, List.getElem_cons_zero, List.getElem_cons_succ, List.setIfInBounds_toArray, List.set_cons_zero, List.set_cons_succ]
          refine wpAnyH_take (i := 12) (v := .int .i64 t) rfl (by kernel_rfl) (by kernel_rfl) (by kernel_rfl) (fun _ _ _ h => h) (Or.inl ⟨by rfl, fun w hS => by (have c0 := (BlkIs.cell hS.1 4).trans (rfl : _ = some (Value.int .i64 t)); first | (go_simp; done) | (go_simp; with_reducible rfl))⟩) hHeld ?_
          try simp only [Act.put, List.getElem_toArray, List.getElem_cons_zero, List.getElem_cons_succ, List.setIfInBounds_toArray, List.set_cons_zero, List.set_cons_succ]
          refine wpAnyH_take (i := 14) (v := .pointer (some ⟨w0.heap.size, 2, none⟩)) rfl (by kernel_rfl) (by kernel_rfl) (by kernel_rfl) (fun _ _ _ h => h) (Or.inl ⟨by rfl, fun w hS => by first | (go_simp; done) | (go_simp; with_reducible rfl)⟩) hHeld ?_
          try simp only [Act.put, List.getElem_toArray, List.getElem_cons_zero, List.getElem_cons_succ, List.setIfInBounds_toArray, List.set_cons_zero, List.set_cons_succ]
          refine wpAnyH_take (i := 15) (v := .pointer (some ⟨w0.heap.size, 3, none⟩)) rfl (by kernel_rfl) (by kernel_rfl) (by kernel_rfl) (fun _ _ _ h => h) (Or.inl ⟨by rfl, fun w hS => by first | (go_simp; done) | (go_simp; with_reducible rfl)⟩) hHeld ?_
          try simp only [Act.put, List.getElem_toArray, List.getElem_cons_zero, List.getElem_cons_succ, List.setIfInBounds_toArray, List.set_cons_zero, List.set_cons_succ]
          refine wpAnyH_take (i := 16) (v := .slice A n c) rfl (by kernel_rfl) (by kernel_rfl) (by kernel_rfl) (fun _ _ _ h => h) (Or.inl ⟨by rfl, fun w hS => by (have c0 := (BlkIs.cell hS.1 3).trans (rfl : _ = some (Value.slice A n c)); first | (go_simp; done) | (go_simp; with_reducible rfl))⟩) hHeld ?_
          try simp only [Act.put, List.getElem_toArray, List.getElem_cons_zero, List.getElem_cons_succ, List.setIfInBounds_toArray, List.set_cons_zero, List.set_cons_succ]
          refine wpAnyH_take (i := 17) (v := .int .i64 n) rfl (by kernel_rfl) (by kernel_rfl) (by kernel_rfl) (fun _ _ _ h => h) (Or.inl ⟨by rfl, fun w hS => by first | (go_simp; done) | (go_simp; with_reducible rfl)⟩) hHeld ?_
          try simp only [Act.put, List.getElem_toArray, List.getElem_cons_zero, List.getElem_cons_succ, List.setIfInBounds_toArray, List.set_cons_zero, List.set_cons_succ]
          refine wpAnyH_join [2, 5, 9, 13, 18] [31, 34, 38, 42, 47] _ _ _ (fun k v X => SlV X v (FV.getD k [])) 2 rfl (by kernel_rfl) (by decide) (by decide) rfl hHeld ?_ ?_
          · intro k i s xs X hk hs hx hS
            obtain ⟨x1, x2, x3, x4, x5, rfl⟩ : ∃ x1 x2 x3 x4 x5, xs = [x1, x2, x3, x4, x5] := by
              match xs, hx with
              | [a, b, c, d, e], _ => exact ⟨a, b, c, d, e, rfl⟩
            clear hx
            match k, hk, hs with
            | 0, hk, hs =>
              obtain rfl : 2 = i := by simpa using hk
              obtain rfl : 31 = s := by simpa using hs
              refine wpOp_step rfl (fun K hK => ?_)
              replace hK : Shut _ := hK
              simp only [setT, List.setIfInBounds_toArray, List.set_cons_succ, List.set_cons_zero]
              have HC := Lib.hid (HDG0.out X hS.2)
              have HS := Lib.hid hS
              clear hS
              go_simp
              go_wp2_with (first
                | (go_at_call 32; refine HC.out.mono ?_; rintro e Y ⟨Ax, cx, rfl, hbt, hc1, hc2, hby⟩; have HBY := Lib.hid hby; have HBT := Lib.hid (And.intro hbt (And.intro hc1 hc2)); clear hbt hc1 hc2 hby)
                | fail)
              refine hK.out _ _ ⟨?v0, ?e0, ?p0, ?s0, ?k0⟩
              case e0 => simp only [setT, List.setIfInBounds_toArray, List.set_cons_succ, List.set_cons_zero] <;> rfl
              case p0 => exact ⟨Ax, cx, by rw [HFV.out.1] <;> rfl, by rw [HFV.out.1]; exact HBT.out.1, by rw [HFV.out.1]; exact HBT.out.2.1, HBT.out.2.2⟩
              case s0 => exact ⟨(HBY.out.block _ HS.out.1.lt).trans HS.out.1, HS.out.2.trans (HBY.out.mono HS.out.2.size)⟩
              case k0 => exact fun j x hj => hj.below HBY.out
            | 1, hk, hs =>
              obtain rfl : 5 = i := by simpa using hk
              obtain rfl : 34 = s := by simpa using hs
              refine wpOp_step rfl (fun K hK => ?_)
              replace hK : Shut _ := hK
              simp only [setT, List.setIfInBounds_toArray, List.set_cons_succ, List.set_cons_zero]
              obtain ⟨cx, Y, hrun, hc1, hc2, hbt, hby, hsz⟩ := HCV1.out X
              have HS := Lib.hid hS
              have HBY := Lib.hid hby
              have HBT := Lib.hid hbt
              clear hS hby hbt
              go_simp
              refine hK.out _ _ ⟨?v1, ?e1, ?p1, ?s1, ?k1⟩
              case e1 => simp only [setT, List.setIfInBounds_toArray, List.set_cons_succ, List.set_cons_zero] <;> rfl
              case p1 => exact ⟨some ⟨X.heap.size, 0, none⟩, cx, by rw [HFV.out.2.1] <;> first | rfl | (rw [HCLL.out] <;> rfl), by rw [HFV.out.2.1]; exact HBT.out.more (by omega), by rw [HFV.out.2.1]; first | exact hc1 | (rw [HCLL.out]; exact hc1), hc2⟩
              case s1 => exact ⟨(HBY.out.block _ HS.out.1.lt).trans HS.out.1, HS.out.2.trans (HBY.out.mono HS.out.2.size)⟩
              case k1 => exact fun j x hj => hj.below HBY.out
            | 2, hk, hs =>
              obtain rfl : 9 = i := by simpa using hk
              obtain rfl : 38 = s := by simpa using hs
              refine wpOp_step rfl (fun K hK => ?_)
              replace hK : Shut _ := hK
              simp only [setT, List.setIfInBounds_toArray, List.set_cons_succ, List.set_cons_zero]
              obtain ⟨cx, Y, hrun, hc1, hc2, hbt, hby, hsz⟩ := HCV2.out X
              have HS := Lib.hid hS
              have HBY := Lib.hid hby
              have HBT := Lib.hid hbt
              clear hS hby hbt
              go_simp
              refine hK.out _ _ ⟨?v2, ?e2, ?p2, ?s2, ?k2⟩
              case e2 => simp only [setT, List.setIfInBounds_toArray, List.set_cons_succ, List.set_cons_zero] <;> rfl
              case p2 => exact ⟨some ⟨X.heap.size, 0, none⟩, cx, by rw [HFV.out.2.2.1] <;> first | rfl | (rw [HCLL.out] <;> rfl), by rw [HFV.out.2.2.1]; exact HBT.out.more (by omega), by rw [HFV.out.2.2.1]; first | exact hc1 | (rw [HCLL.out]; exact hc1), hc2⟩
              case s2 => exact ⟨(HBY.out.block _ HS.out.1.lt).trans HS.out.1, HS.out.2.trans (HBY.out.mono HS.out.2.size)⟩
              case k2 => exact fun j x hj => hj.below HBY.out
            | 3, hk, hs =>
              obtain rfl : 13 = i := by simpa using hk
              obtain rfl : 42 = s := by simpa using hs
              refine wpOp_step rfl (fun K hK => ?_)
              replace hK : Shut _ := hK
              simp only [setT, List.setIfInBounds_toArray, List.set_cons_succ, List.set_cons_zero]
              have HC := Lib.hid (HDG3.out X hS.2)
              have HS := Lib.hid hS
              clear hS
              go_simp
              go_wp2_with (first
                | (go_at_call 32; refine HC.out.mono ?_; rintro e Y ⟨Ax, cx, rfl, hbt, hc1, hc2, hby⟩; have HBY := Lib.hid hby; have HBT := Lib.hid (And.intro hbt (And.intro hc1 hc2)); clear hbt hc1 hc2 hby)
                | fail)
              refine hK.out _ _ ⟨?v3, ?e3, ?p3, ?s3, ?k3⟩
              case e3 => simp only [setT, List.setIfInBounds_toArray, List.set_cons_succ, List.set_cons_zero] <;> rfl
              case p3 => exact ⟨Ax, cx, by rw [HFV.out.2.2.2.1] <;> rfl, by rw [HFV.out.2.2.2.1]; exact HBT.out.1, by rw [HFV.out.2.2.2.1]; exact HBT.out.2.1, HBT.out.2.2⟩
              case s3 => exact ⟨(HBY.out.block _ HS.out.1.lt).trans HS.out.1, HS.out.2.trans (HBY.out.mono HS.out.2.size)⟩
              case k3 => exact fun j x hj => hj.below HBY.out
            | 4, hk, hs =>
              obtain rfl : 18 = i := by simpa using hk
              obtain rfl : 47 = s := by simpa using hs
              refine wpOp_step rfl (fun K hK => ?_)
              replace hK : Shut _ := hK
              simp only [setT, List.setIfInBounds_toArray, List.set_cons_succ, List.set_cons_zero]
              have HC := Lib.hid (HDG4.out X hS.2)
              have HS := Lib.hid hS
              clear hS
              go_simp
              go_wp2_with (first
                | (go_at_call 32; refine HC.out.mono ?_; rintro e Y ⟨Ax, cx, rfl, hbt, hc1, hc2, hby⟩; have HBY := Lib.hid hby; have HBT := Lib.hid (And.intro hbt (And.intro hc1 hc2)); clear hbt hc1 hc2 hby)
                | fail)
              refine hK.out _ _ ⟨?v4, ?e4, ?p4, ?s4, ?k4⟩
              case e4 => simp only [setT, List.setIfInBounds_toArray, List.set_cons_succ, List.set_cons_zero] <;> rfl
              case p4 => exact ⟨Ax, cx, by rw [HFV.out.2.2.2.2] <;> rfl, by rw [HFV.out.2.2.2.2]; exact HBT.out.1, by rw [HFV.out.2.2.2.2]; exact HBT.out.2.1, HBT.out.2.2⟩
              case s4 => exact ⟨(HBY.out.block _ HS.out.1.lt).trans HS.out.1, HS.out.2.trans (HBY.out.mono HS.out.2.size)⟩
              case k4 => exact fun j x hj => hj.below HBY.out
            | k + 5, hk, hs => simp at hk
          intro xs X hx hφ hS
          obtain ⟨x1, x2, x3, x4, x5, rfl⟩ : ∃ x1 x2 x3 x4 x5, xs = [x1, x2, x3, x4, x5] := by
            match xs, hx with
            | [a, b, c, d, e], _ => exact ⟨a, b, c, d, e, rfl⟩
          have hrow := RowP.lit (w := X) #[x1, x2, x3, x4, x5] FV (by rw [HFL.out]; rfl) (by rw [HFL.out]; decide) (fun k l hk => by
            have hk5 : k < 5 := by rw [← HFL.out]; exact (List.getElem?_eq_some_iff.1 hk).1
            have hx5 : ∃ x, [x1, x2, x3, x4, x5][k]? = some x := ⟨_, List.getElem?_eq_getElem (by simpa using hk5)⟩
            obtain ⟨x, hx⟩ := hx5
            refine ⟨x, by simpa using hx, ?_⟩
            have := hφ k x hx
            rwa [show FV.getD k [] = l by simp [List.getD, hk]] at this)
          rw [HFL.out] at hrow
          have HROW := Lib.hid hrow
          have HBX2 := Lib.hid (hS.2.alloc hS.2.size (.cells #[x1, x2, x3, x4, x5] 22))
          have HQX2 := Lib.hid (hS.1.alloc (.cells #[x1, x2, x3, x4, x5] 22))
          have hzX := hS.2.size
          have hlX := hS.1.lt
          have hHeld := hS
          clear hx hS hrow
          obtain ⟨B1, e1, rfl, _, _, _⟩ := hφ 0 x1 rfl
          obtain ⟨B2, e2, rfl, _, _, _⟩ := hφ 1 x2 rfl
          obtain ⟨B3, e3, rfl, _, _, _⟩ := hφ 2 x3 rfl
          obtain ⟨B4, e4, rfl, _, _, _⟩ := hφ 3 x4 rfl
          obtain ⟨B5, e5, rfl, _, _, _⟩ := hφ 4 x5 rfl
          clear hφ
          generalize (FV.getD 0 []).length = m1 at *
          generalize (FV.getD 1 []).length = m2 at *
          generalize (FV.getD 2 []).length = m3 at *
          generalize (FV.getD 3 []).length = m4 at *
          generalize (FV.getD 4 []).length = m5 at *
          simp only [setT, List.setIfInBounds_toArray, List.set_cons_succ, List.set_cons_zero]
          refine wpAnyH_ready (rs := [19]) (by kernel_rfl) (by simp) ?_
          refine AllReadyH.cons rfl (fun K hK => ?_) AllReadyH.nil
          go_simp
          refine hK.out _ _ ?_ (fun hHeld => ?_)
          · exact ⟨HQX2.out, HBX2.out⟩
          clear hK K
          try simp only [Act.put, List.getElem_toArray, List.getElem_cons_zero, List.getElem_cons_succ, List.setIfInBounds_toArray, List.set_cons_zero, List.set_cons_succ]
          refine wpAnyH_take (i := 20) (v := .slice (some ⟨X.heap.size, 0, none⟩) 5 5) rfl (by kernel_rfl) (by kernel_rfl) (by kernel_rfl) (fun _ _ _ h => h) (Or.inl ⟨by rfl, fun w hS => by first | (go_simp; done) | (go_simp; with_reducible rfl)⟩) hHeld ?_
          try simp only [Act.put, List.getElem_toArray, List.getElem_cons_zero, List.getElem_cons_succ, List.setIfInBounds_toArray, List.set_cons_zero, List.set_cons_succ]
          refine wpAnyH_done (by kernel_rfl) ?_ _
          generalize hw7 : X.alloc (.cells #[.slice B1 m1 e1, .slice B2 m2 e2, .slice B3 m3 e3, .slice B4 m4 e4, .slice B5 m5 e5] 22) = w7 at *
          clear hw7 hHeld
          generalize X.heap.size = b6 at *
          have z3 := (BlkIs.cell HQX2.out 3).trans (rfl : _ = some (Value.slice A n c))
          go_wp2_with fail
          go_loopw [4, 53] (fun x5 i wr => ∃ k : Nat, k ≤ n ∧ i = .int .i64 (k : Nat) ∧ Hid (RowP wr b6 x5 (FV ++ tos.take k)) ∧ Hid (Below w0.heap.size w0 wr) ∧ Hid (BlkIs wr w0.heap.size 28 #[.int .i64 id, .string sc, .string sf, .slice A n c, .int .i64 t, .slice Ab bn cb]) ∧ b6 ≤ wr.heap.size) (fun _ i _ => n + 1 - (intOf i).toNat)
          case atStart => exact ⟨0, Nat.zero_le _, rfl, Lib.hid (by rw [List.take_zero, List.append_nil]; exact HROW.out), HBX2, HQX2, by have := (HROW.out.low b6 rfl).2; omega⟩
          case round =>
            obtain ⟨k, hk, rfl, HRW, HBK, HQK, hb6⟩ := hrel
            clear HROW HBX2 HQX2 z3
            by_cases hlt : k < n
            · obtain ⟨g, o, rfl, hg, hXX⟩ := HEL.out k hlt
              have hcell := hXX wr HBK.out
              have hkn : (k : Int) < (n : Int) := by omega
              obtain ⟨cx, w8, hrun, hc1, hc2, hbt, hby, hsz⟩ := HTO.out k hlt wr
              have HTK : Hid (FV ++ tos.take (k + 1) = FV ++ tos.take k ++ [tos.getD k []]) := Lib.hid (by rw [List.take_succ_eq_append_getElem (by rw [HNN.out]; exact hlt), List.append_assoc]; simp [List.getD, HNN.out, hlt])
              have HKL : Hid ((FV ++ tos.take k).length + 1 ≤ 1000000000) := Lib.hid (by rw [List.length_append, HFL.out, List.length_take, HNN.out]; omega)
              have HB8 := Lib.hid (HBK.out.trans (hby.mono HBK.out.size))
              have HQ8 : Hid (BlkIs w8 w0.heap.size 28 #[.int .i64 id, .string sc, .string sf, .slice (some ⟨g, o, none⟩) n c, .int .i64 t, .slice Ab bn cb]) := Lib.hid ((hby.block _ HQK.out.lt).trans HQK.out)
              have HR8 := Lib.hid (HRW.out.below hby)
              have HBT := Lib.hid hbt
              have hlw := fun j hj => (HRW.out.low j hj).2
              obtain ⟨A5, c5, rfl, _, _⟩ := HRW.out.slice
              generalize hfl : (FV ++ tos.take k).length = fl at *
              have HFLL := Lib.hid hfl
              have HLW := Lib.hid hlw
              clear hfl hlw
              clear hXX hbt hby HRW
              generalize tos.getD k [] = p at *
              generalize hpl : p.length = pl at *
              have HPL := Lib.hid hpl
              clear hpl
              generalize str p = sp at *
              have HSW := Lib.hid hsz
              have HBA : Hid (Below w8.heap.size w8 (w8.alloc (.cells #[.slice (some ⟨wr.heap.size, 0, none⟩) pl cx] 22))) := Lib.hid ((Below.refl _ _).alloc (Nat.le_refl _) _)
              have HCE := Lib.hid ((cell_of_row _ w8.heap.size 0 #[.slice (some ⟨wr.heap.size, 0, none⟩) pl cx] 22 (0, 0) (heap_alloc_new w8 _)).trans rfl)
              clear hsz
              go_wp2_with (first
                | (refine lappR (.tmp 57) (.tmp 60) rfl rfl (v := .slice A5 fl c5) (l := p) (A := some ⟨wr.heap.size, 0, none⟩) (c := cx) rfl (HR8.out.below HBA.out) (.inr ⟨(HBT.out.below (HBA.out.mono (by rw [HSW.out]; omega))).more (by rw [World.size_alloc, HSW.out]; omega), fun ad e hc => by (injection e with e; subst e; exact absurd (HLW.out _ hc) (Nat.lt_irrefl _))⟩) (by rw [HPL.out]; exact hc1) hc2 (g := w8.heap.size) (c1 := 1) rfl (by rw [HPL.out]; exact HCE.out) (by rw [HFLL.out]; exact HKL.out) (by rw [World.size_alloc, HSW.out]; omega) ?_; intro v9 w9 h1 h2 h3; have HR9 := Lib.hid h1; have HB9 := Lib.hid ((HB8.out.alloc HB8.out.size (.cells #[.slice (some ⟨wr.heap.size, 0, none⟩) pl cx] 22)).grown h2 (by rw [World.size_alloc, HSW.out]; have := HBK.out.size; omega) (fun j hj => by have := h3 j hj; omega)); have HQ9 := Lib.hid ((HQ8.out.alloc (.cells #[.slice (some ⟨wr.heap.size, 0, none⟩) pl cx] 22)).grown h2 (fun e => by have := h3 _ e; omega)); have hz9 := h2.size; clear h1 h2 h3)
                | fail)
              have hz9' : b6 ≤ w9.heap.size := by rw [World.size_alloc, HSW.out] at hz9; omega
              clear hz9
              go_roundw
              case rel => exact ⟨k + 1, by omega, by go_num, Lib.hid (by rw [HTK.out]; exact HR9.out), HB9, HQ9, hz9'⟩
              case measure => simp [intOf]; omega
            · obtain rfl : k = n := by omega
              have hz : ¬ (k : Int) < (k : Int) := by omega
              have z5 := (BlkIs.cell HQK.out 5).trans (rfl : _ = some (Value.slice Ab bn cb))
              have HTK : Hid (FV ++ tos.take k ++ [body] = FLD) := Lib.hid (by rw [List.take_of_length_le (by rw [HNN.out]; omega)]; exact HFD.out)
              have HKL : Hid ((FV ++ tos.take k).length + 1 ≤ 1000000000) := Lib.hid (by rw [List.length_append, HFL.out, List.length_take, HNN.out]; omega)
              have HBA : Hid (Below wr.heap.size wr (wr.alloc (.cells #[.slice Ab bn cb] 22))) := Lib.hid ((Below.refl _ _).alloc (Nat.le_refl _) _)
              have HCE := Lib.hid ((cell_of_row _ wr.heap.size 0 #[.slice Ab bn cb] 22 (0, 0) (heap_alloc_new wr _)).trans rfl)
              have hel2 := El.old (HBO.out.below HBK.out) HBK.out.size (fun j hj => by have := (HRW.out.low j hj).1; omega)
              obtain ⟨A5, c5, rfl, _, _⟩ := HRW.out.slice
              have HEL2 : Hid (El wr (.slice A5 (FV ++ tos.take k).length c5) Ab body) := Lib.hid hel2
              clear hel2
              generalize hls : FV ++ tos.take k = ls at *
              clear hls
              generalize hfl : ls.length = fl at *
              have HFLL := Lib.hid hfl
              clear hfl
              go_wp2_with (first
                | (refine lappR (.tmp 63) (.tmp 66) rfl rfl (v := .slice A5 fl c5) (l := body) (A := Ab) (c := cb) rfl (HRW.out.below HBA.out) (HEL2.out.below HBA.out) (by rw [HBL.out]; exact hb1) hb2 (g := wr.heap.size) (c1 := 1) rfl (by rw [HBL.out]; exact HCE.out) (by rw [HFLL.out]; exact HKL.out) (by rw [World.size_alloc]; omega) ?_; intro v9 w9 h1 h2 h3; rw [HTK.out] at h1; have HB9 := Lib.hid ((HBK.out.alloc HBK.out.size (.cells #[.slice Ab bn cb] 22)).grown h2 (by rw [World.size_alloc]; have := HBK.out.size; omega) (fun j hj => by have := h3 j hj; omega)); obtain ⟨A9, c9, rfl, _, _⟩ := h1.slice; have HRS := Lib.hid h1.rws; have HPU := Lib.hid (rput_any HRS.out FLD.length c9 rfl (by have := HTOT.out; omega) (HGT.out _ HB9.out)); clear h1 h2 h3)
                | (go_at_call 33; refine HPU.out.mono ?_; rintro e w10 ⟨v10, rfl, ho10, hb10⟩; have HF := Lib.hid (And.intro (own_more ho10 HB9.out.size) (HB9.out.trans (hb10.mono HB9.out.size))); clear ho10 hb10)
                | fail)
              refine bodyPost_ret (results_tmp2 rfl _ _ _) rfl ?_
              exact ⟨HF.out.2, .inl ⟨HR.out, v10, rfl, HF.out.1⟩⟩
end En
end Go.Proofs.YtpfonpjcnpfipaaGreatDoor
