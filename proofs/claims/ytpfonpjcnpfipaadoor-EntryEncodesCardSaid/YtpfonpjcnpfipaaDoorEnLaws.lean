/- The statements on Check and Encode. Conditions: as stated at each. -/
import Derived.Test.YtpfonpjcnpfipaaDoorEnAwake
import Derived.Test.YtpfonpjcnpfipaaDoorEnEnc
import Derived.Test.YtpfonpjcnpfipaaDoorEnREncd
namespace Go.Proofs.YtpfonpjcnpfipaaDoor
set_option maxRecDepth 100000
namespace En
open Go.RowKit Go Go.Proofs.YtpfonpjcnpfipaaDoor.Pa
attribute [local go_sem] Oper.semAt_some
set_option maxHeartbeats 3200000 in
theorem lchecks_any {w0 : World} {x : Value} {m : M} (h : MsgAt w0 w0.heap.size x m) (hi : InM m) (hG : GlT w0) :
    Calls Tryd.prog 4 #[x] w0 fun e w' => e = .returned (.bool true) ∧ Below w0.heap.size w0 w' := by
  have h0 := h
  obtain ⟨A, c, Ab, cb, rfl, hT, hc1, hc2, hB, hb1, hb2, hA⟩ := h
  have HFW := Lib.hid (fun X (hX : Below w0.heap.size w0 X) => few_any ((h0.below hX).more hX.size) (by have := hi.fl; omega) (by have := hi.cl; omega))
  have HCK : Hid (∀ X, Below w0.heap.size w0 X → SmallM m → Calls Tryd.prog 13 #[.agg #[.string (str m.fr), .slice A m.tos.length c, .int .i64 m.at_], .slice Ab m.body.length cb] X (NumP X (checkE (m.fr, m.tos, m.at_) m.body.length))) := Lib.hid fun X hX hs => Check_any (e := (m.fr, m.tos, m.at_)) ⟨A, c, rfl, (hT.below hX).more hX.size, hc1, hc2⟩ ⟨hs.fl, hs.tl, hs.nl, hs.v0, hs.v1⟩ Ab m.body.length cb
  have HRC : Hid (∀ X, Below w0.heap.size w0 X → SmallM m → Calls Tryd.prog 14 #[.agg #[.string (str m.fr), .slice A m.tos.length c, .int .i64 m.at_], .slice Ab m.body.length cb] X (NumP X (checkE (m.fr, m.tos, m.at_) m.body.length))) := Lib.hid fun X hX hs => rCheck_any (e := (m.fr, m.tos, m.at_)) ⟨A, c, rfl, (hT.below hX).more hX.size, hc1, hc2⟩ ⟨hs.fl, hs.tl, hs.nl, hs.v0, hs.v1⟩ Ab m.body.length cb
  have HSM := Lib.hid hi.small
  have HAW := Lib.hid (fun X (hX : Below w0.heap.size w0 X) => awake_any X (hG.below hX hG.lt))
  clear h0 hT hB hG hi
  unfold NumP at HCK HRC
  unfold FewP at HFW
  generalize hck : numE (checkE (m.fr, m.tos, m.at_) m.body.length) = ck at *
  clear hck
  generalize str m.cls = sc at *
  generalize str m.fr = sf at *
  generalize m.tos.length = n at *
  generalize m.body.length = bn at *
  generalize m.at_ = t at *
  generalize m.id = id at *
  have hqn := BlkIs.new w0 32 #[.int .i64 id, .string sc, .string sf, .slice A n c, .int .i64 t, .slice Ab bn cb]
  have HB1 : Hid (Below w0.heap.size w0 (w0.alloc (.cells #[.int .i64 id, .string sc, .string sf, .slice A n c, .int .i64 t, .slice Ab bn cb] 32))) := Lib.hid ((Below.refl _ _).alloc (Nat.le_refl _) _)
  have HQ1 := Lib.hid hqn
  have HA1 := Lib.hid (HAW.out _ HB1.out)
  clear hqn HAW
  go_enter Tryd.func4, Tryd.ntmps4
  go_wp2_with fail
  refine HA1.out.mono ?_
  rintro e w2 ⟨rfl, hb2⟩
  have HB2 := Lib.hid (HB1.out.trans (hb2.mono HB1.out.size))
  have HQ2 : Hid (BlkIs w2 w0.heap.size 32 #[.int .i64 id, .string sc, .string sf, .slice A n c, .int .i64 t, .slice Ab bn cb]) := Lib.hid ((hb2.block _ HQ1.out.lt).trans HQ1.out)
  clear hb2 HA1 HB1 HQ1
  go_wp2_with fail
  have hq5 : BlkIs w2.drew w0.heap.size 32 #[.int .i64 id, .string sc, .string sf, .slice A n c, .int .i64 t, .slice Ab bn cb] := HQ2.out
  have hb5 : Below w0.heap.size w0 w2.drew := HB2.out.drew
  clear HQ2 HB2
  refine wp_region_held_drew (S := (fun Y => BlkIs Y w0.heap.size 32 #[.int .i64 id, .string sc, .string sf, .slice A n c, .int .i64 t, .slice Ab bn cb] ∧ Below w0.heap.size w0 Y)) (by kernel_rfl) (⟨hq5, hb5⟩) (fun hHeld => ?_)
  clear hq5 hb5
  generalize w2.drew = w3 at *
  have HH3 := Lib.hid hHeld
  refine wpAnyH_take (i := 0) (v := .agg #[.int .i64 id, .string sc, .string sf, .slice A n c, .int .i64 t, .slice Ab bn cb]) rfl (by kernel_rfl) (by kernel_rfl) (by kernel_rfl) (fun _ _ _ h => h) (Or.inl ⟨by rfl, fun w hS => by (have c0 := (BlkIs.cell hS.1 0).trans (rfl : _ = some (Value.int .i64 id)); have c1 := (BlkIs.cell hS.1 1).trans (rfl : _ = some (Value.string sc)); have c2 := (BlkIs.cell hS.1 2).trans (rfl : _ = some (Value.string sf)); have c3 := (BlkIs.cell hS.1 3).trans (rfl : _ = some (Value.slice A n c)); have c4 := (BlkIs.cell hS.1 4).trans (rfl : _ = some (Value.int .i64 t)); have c5 := (BlkIs.cell hS.1 5).trans (rfl : _ = some (Value.slice Ab bn cb)); first | (go_simp; done) | (go_simp; with_reducible rfl))⟩) hHeld ?_
  try simp only [Act.put, List.getElem_toArray, List.getElem_cons_zero, List.setIfInBounds_toArray, List.set_cons_zero, List.set_cons_succ]
  refine wpAnyH_ready (rs := [1]) (by kernel_rfl) (by simp) ?_
  refine AllReadyH.cons rfl (fun K hK => ?_) AllReadyH.nil
  go_simp
  go_wp2_with ((go_at_call 12; refine (HFW.out w3 HH3.out.2).mono ?_; rintro e w4 ⟨⟨b, rfl, hfew⟩, hb4⟩; have HFE := Lib.hid hfew; have HB4 := Lib.hid (HH3.out.2.trans (hb4.mono HH3.out.2.size)); have HQ4 : Hid (BlkIs w4 w0.heap.size 32 #[.int .i64 id, .string sc, .string sf, .slice A n c, .int .i64 t, .slice Ab bn cb]) := Lib.hid ((hb4.block _ HH3.out.1.lt).trans HH3.out.1); clear hfew hb4))
  refine hK.out _ _ ?_ (fun hHeld => ?_)
  · exact ⟨HQ4.out, HB4.out⟩
  clear hK K
  try simp only [Act.put, List.getElem_toArray, List.getElem_cons_zero, List.getElem_cons_succ, List.setIfInBounds_toArray, List.set_cons_zero, List.set_cons_succ]
  clear HH3 HFW
  cases b with
  | false =>
    refine wpAnyH_take (i := 2) (v := .bool true) rfl (by kernel_rfl) (by kernel_rfl) (by kernel_rfl) (fun _ _ _ h => h) (Or.inl ⟨by rfl, fun w hS => by first | (go_simp; done) | (go_simp; with_reducible rfl)⟩) hHeld ?_
    try simp only [Act.put, List.getElem_toArray, List.getElem_cons_zero, List.getElem_cons_succ, List.setIfInBounds_toArray, List.set_cons_zero, List.set_cons_succ]
    refine wpAnyH_take (i := 3) (v := .bool true) rfl (by kernel_rfl) (by kernel_rfl) (by kernel_rfl) (fun _ _ _ h => h) (Or.inl ⟨by rfl, fun w hS => by first | (go_simp; done) | (go_simp; with_reducible rfl)⟩) hHeld ?_
    try simp only [Act.put, List.getElem_toArray, List.getElem_cons_zero, List.getElem_cons_succ, List.setIfInBounds_toArray, List.set_cons_zero, List.set_cons_succ]
    refine wpAnyH_take (i := 4) (v := undef) rfl (by kernel_rfl) (by kernel_rfl) (by kernel_rfl) (fun _ _ _ h => h) (Or.inr ⟨by rfl, rfl⟩) hHeld ?_
    try simp only [Act.put, List.getElem_toArray, List.getElem_cons_zero, List.getElem_cons_succ, List.setIfInBounds_toArray, List.set_cons_zero, List.set_cons_succ]
    refine wpAnyH_take (i := 5) (v := undef) rfl (by kernel_rfl) (by kernel_rfl) (by kernel_rfl) (fun _ _ _ h => h) (Or.inr ⟨by rfl, rfl⟩) hHeld ?_
    try simp only [Act.put, List.getElem_toArray, List.getElem_cons_zero, List.getElem_cons_succ, List.setIfInBounds_toArray, List.set_cons_zero, List.set_cons_succ]
    refine wpAnyH_take (i := 6) (v := undef) rfl (by kernel_rfl) (by kernel_rfl) (by kernel_rfl) (fun _ _ _ h => h) (Or.inr ⟨by rfl, rfl⟩) hHeld ?_
    try simp only [Act.put, List.getElem_toArray, List.getElem_cons_zero, List.getElem_cons_succ, List.setIfInBounds_toArray, List.set_cons_zero, List.set_cons_succ]
    refine wpAnyH_take (i := 7) (v := undef) rfl (by kernel_rfl) (by kernel_rfl) (by kernel_rfl) (fun _ _ _ h => h) (Or.inr ⟨by rfl, rfl⟩) hHeld ?_
    try simp only [Act.put, List.getElem_toArray, List.getElem_cons_zero, List.getElem_cons_succ, List.setIfInBounds_toArray, List.set_cons_zero, List.set_cons_succ]
    refine wpAnyH_take (i := 8) (v := undef) rfl (by kernel_rfl) (by kernel_rfl) (by kernel_rfl) (fun _ _ _ h => h) (Or.inr ⟨by rfl, rfl⟩) hHeld ?_
    try simp only [Act.put, List.getElem_toArray, List.getElem_cons_zero, List.getElem_cons_succ, List.setIfInBounds_toArray, List.set_cons_zero, List.set_cons_succ]
    refine wpAnyH_take (i := 9) (v := undef) rfl (by kernel_rfl) (by kernel_rfl) (by kernel_rfl) (fun _ _ _ h => h) (Or.inr ⟨by rfl, rfl⟩) hHeld ?_
    try simp only [Act.put, List.getElem_toArray, List.getElem_cons_zero, List.getElem_cons_succ, List.setIfInBounds_toArray, List.set_cons_zero, List.set_cons_succ]
    refine wpAnyH_take (i := 10) (v := undef) rfl (by kernel_rfl) (by kernel_rfl) (by kernel_rfl) (fun _ _ _ h => h) (Or.inr ⟨by rfl, rfl⟩) hHeld ?_
    try simp only [Act.put, List.getElem_toArray, List.getElem_cons_zero, List.getElem_cons_succ, List.setIfInBounds_toArray, List.set_cons_zero, List.set_cons_succ]
    refine wpAnyH_take (i := 11) (v := undef) rfl (by kernel_rfl) (by kernel_rfl) (by kernel_rfl) (fun _ _ _ h => h) (Or.inr ⟨by rfl, rfl⟩) hHeld ?_
    try simp only [Act.put, List.getElem_toArray, List.getElem_cons_zero, List.getElem_cons_succ, List.setIfInBounds_toArray, List.set_cons_zero, List.set_cons_succ]
    refine wpAnyH_take (i := 12) (v := undef) rfl (by kernel_rfl) (by kernel_rfl) (by kernel_rfl) (fun _ _ _ h => h) (Or.inr ⟨by rfl, rfl⟩) hHeld ?_
    try simp only [Act.put, List.getElem_toArray, List.getElem_cons_zero, List.getElem_cons_succ, List.setIfInBounds_toArray, List.set_cons_zero, List.set_cons_succ]
    refine wpAnyH_take (i := 13) (v := undef) rfl (by kernel_rfl) (by kernel_rfl) (by kernel_rfl) (fun _ _ _ h => h) (Or.inr ⟨by rfl, rfl⟩) hHeld ?_
    try simp only [Act.put, List.getElem_toArray, List.getElem_cons_zero, List.getElem_cons_succ, List.setIfInBounds_toArray, List.set_cons_zero, List.set_cons_succ]
    refine wpAnyH_take (i := 14) (v := undef) rfl (by kernel_rfl) (by kernel_rfl) (by kernel_rfl) (fun _ _ _ h => h) (Or.inr ⟨by rfl, rfl⟩) hHeld ?_
    try simp only [Act.put, List.getElem_toArray, List.getElem_cons_zero, List.getElem_cons_succ, List.setIfInBounds_toArray, List.set_cons_zero, List.set_cons_succ]
    refine wpAnyH_take (i := 15) (v := .bool true) rfl (by kernel_rfl) (by kernel_rfl) (by kernel_rfl) (fun _ _ _ h => h) (Or.inl ⟨by rfl, fun w hS => by first | (go_simp; done) | (go_simp; with_reducible rfl)⟩) hHeld ?_
    try simp only [Act.put, List.getElem_toArray, List.getElem_cons_zero, List.getElem_cons_succ, List.setIfInBounds_toArray, List.set_cons_zero, List.set_cons_succ]
    refine wpAnyH_take (i := 16) (v := .bool true) rfl (by kernel_rfl) (by kernel_rfl) (by kernel_rfl) (fun _ _ _ h => h) (Or.inl ⟨by rfl, fun w hS => by first | (go_simp; done) | (go_simp; with_reducible rfl)⟩) hHeld ?_
    try simp only [Act.put, List.getElem_toArray, List.getElem_cons_zero, List.getElem_cons_succ, List.setIfInBounds_toArray, List.set_cons_zero, List.set_cons_succ]
    refine wpAnyH_done (by kernel_rfl) ?_ _
    go_wp2_with fail
    go_ret
    exact ⟨rfl, HB4.out⟩
  | true =>
    have HS := Lib.hid (HSM.out (HFE.out rfl))
    have HC1 := Lib.hid (HCK.out w4 HB4.out HS.out)
    refine wpAnyH_take (i := 2) (v := .bool false) rfl (by kernel_rfl) (by kernel_rfl) (by kernel_rfl) (fun _ _ _ h => h) (Or.inl ⟨by rfl, fun w hS => by first | (go_simp; done) | (go_simp; with_reducible rfl)⟩) hHeld ?_
    try simp only [Act.put, List.getElem_toArray, List.getElem_cons_zero, List.getElem_cons_succ, List.setIfInBounds_toArray, List.set_cons_zero, List.set_cons_succ]
    refine wpAnyH_take (i := 3) (v := .bool false) rfl (by kernel_rfl) (by kernel_rfl) (by kernel_rfl) (fun _ _ _ h => h) (Or.inl ⟨by rfl, fun w hS => by first | (go_simp; done) | (go_simp; with_reducible rfl)⟩) hHeld ?_
    try simp only [Act.put, List.getElem_toArray, List.getElem_cons_zero, List.getElem_cons_succ, List.setIfInBounds_toArray, List.set_cons_zero, List.set_cons_succ]
    refine wpAnyH_take (i := 4) (v := .pointer (some ⟨w0.heap.size, 2, none⟩)) rfl (by kernel_rfl) (by kernel_rfl) (by kernel_rfl) (fun _ _ _ h => h) (Or.inl ⟨by rfl, fun w hS => by first | (go_simp; done) | (go_simp; with_reducible rfl)⟩) hHeld ?_
    try simp only [Act.put, List.getElem_toArray, List.getElem_cons_zero, List.getElem_cons_succ, List.setIfInBounds_toArray, List.set_cons_zero, List.set_cons_succ]
    refine wpAnyH_take (i := 5) (v := .agg #[.string sf, .slice A n c, .int .i64 t]) rfl (by kernel_rfl) (by kernel_rfl) (by kernel_rfl) (fun _ _ _ h => h) (Or.inl ⟨by rfl, fun w hS => by (have c2 := (BlkIs.cell hS.1 2).trans (rfl : _ = some (Value.string sf)); have c3 := (BlkIs.cell hS.1 3).trans (rfl : _ = some (Value.slice A n c)); have c4 := (BlkIs.cell hS.1 4).trans (rfl : _ = some (Value.int .i64 t)); first | (go_simp; done) | (go_simp; with_reducible rfl))⟩) hHeld ?_
    try simp only [Act.put, List.getElem_toArray, List.getElem_cons_zero, List.getElem_cons_succ, List.setIfInBounds_toArray, List.set_cons_zero, List.set_cons_succ]
    refine wpAnyH_take (i := 6) (v := .pointer (some ⟨w0.heap.size, 5, none⟩)) rfl (by kernel_rfl) (by kernel_rfl) (by kernel_rfl) (fun _ _ _ h => h) (Or.inl ⟨by rfl, fun w hS => by first | (go_simp; done) | (go_simp; with_reducible rfl)⟩) hHeld ?_
    try simp only [Act.put, List.getElem_toArray, List.getElem_cons_zero, List.getElem_cons_succ, List.setIfInBounds_toArray, List.set_cons_zero, List.set_cons_succ]
    refine wpAnyH_take (i := 7) (v := .slice Ab bn cb) rfl (by kernel_rfl) (by kernel_rfl) (by kernel_rfl) (fun _ _ _ h => h) (Or.inl ⟨by rfl, fun w hS => by (have c5 := (BlkIs.cell hS.1 5).trans (rfl : _ = some (Value.slice Ab bn cb)); first | (go_simp; done) | (go_simp; with_reducible rfl))⟩) hHeld ?_
    try simp only [Act.put, List.getElem_toArray, List.getElem_cons_zero, List.getElem_cons_succ, List.setIfInBounds_toArray, List.set_cons_zero, List.set_cons_succ]
    refine wpAnyH_take (i := 9) (v := .pointer (some ⟨w0.heap.size, 2, none⟩)) rfl (by kernel_rfl) (by kernel_rfl) (by kernel_rfl) (fun _ _ _ h => h) (Or.inl ⟨by rfl, fun w hS => by first | (go_simp; done) | (go_simp; with_reducible rfl)⟩) hHeld ?_
    try simp only [Act.put, List.getElem_toArray, List.getElem_cons_zero, List.getElem_cons_succ, List.setIfInBounds_toArray, List.set_cons_zero, List.set_cons_succ]
    refine wpAnyH_take (i := 10) (v := .agg #[.string sf, .slice A n c, .int .i64 t]) rfl (by kernel_rfl) (by kernel_rfl) (by kernel_rfl) (fun _ _ _ h => h) (Or.inl ⟨by rfl, fun w hS => by (have c2 := (BlkIs.cell hS.1 2).trans (rfl : _ = some (Value.string sf)); have c3 := (BlkIs.cell hS.1 3).trans (rfl : _ = some (Value.slice A n c)); have c4 := (BlkIs.cell hS.1 4).trans (rfl : _ = some (Value.int .i64 t)); first | (go_simp; done) | (go_simp; with_reducible rfl))⟩) hHeld ?_
    try simp only [Act.put, List.getElem_toArray, List.getElem_cons_zero, List.getElem_cons_succ, List.setIfInBounds_toArray, List.set_cons_zero, List.set_cons_succ]
    refine wpAnyH_take (i := 11) (v := .pointer (some ⟨w0.heap.size, 5, none⟩)) rfl (by kernel_rfl) (by kernel_rfl) (by kernel_rfl) (fun _ _ _ h => h) (Or.inl ⟨by rfl, fun w hS => by first | (go_simp; done) | (go_simp; with_reducible rfl)⟩) hHeld ?_
    try simp only [Act.put, List.getElem_toArray, List.getElem_cons_zero, List.getElem_cons_succ, List.setIfInBounds_toArray, List.set_cons_zero, List.set_cons_succ]
    refine wpAnyH_take (i := 12) (v := .slice Ab bn cb) rfl (by kernel_rfl) (by kernel_rfl) (by kernel_rfl) (fun _ _ _ h => h) (Or.inl ⟨by rfl, fun w hS => by (have c5 := (BlkIs.cell hS.1 5).trans (rfl : _ = some (Value.slice Ab bn cb)); first | (go_simp; done) | (go_simp; with_reducible rfl))⟩) hHeld ?_
    try simp only [Act.put, List.getElem_toArray, List.getElem_cons_zero, List.getElem_cons_succ, List.setIfInBounds_toArray, List.set_cons_zero, List.set_cons_succ]
    refine wpAnyH_ready (rs := [8]) (by kernel_rfl) (by simp) ?_
    refine AllReadyH.cons rfl (fun K hK => ?_) AllReadyH.nil
    go_simp
    go_wp2_with ((go_at_call 13; refine HC1.out.mono ?_; rintro e w5 ⟨rfl, hb5⟩; have HB5 := Lib.hid (HB4.out.trans (hb5.mono HB4.out.size)); have HQ5 : Hid (BlkIs w5 w0.heap.size 32 #[.int .i64 id, .string sc, .string sf, .slice A n c, .int .i64 t, .slice Ab bn cb]) := Lib.hid ((hb5.block _ HQ4.out.lt).trans HQ4.out); clear hb5))
    refine hK.out _ _ ?_ (fun hHeld => ?_)
    · exact ⟨HQ5.out, HB5.out⟩
    clear hK K
    try simp only [Act.put, List.getElem_toArray, List.getElem_cons_zero, List.getElem_cons_succ, List.setIfInBounds_toArray, List.set_cons_zero, List.set_cons_succ]
    have HC2 := Lib.hid (HRC.out w5 HB5.out HS.out)
    refine wpAnyH_ready (rs := [13]) (by kernel_rfl) (by simp) ?_
    refine AllReadyH.cons rfl (fun K hK => ?_) AllReadyH.nil
    go_simp
    go_wp2_with ((go_at_call 14; refine HC2.out.mono ?_; rintro e w6 ⟨rfl, hb6⟩; have HB6 := Lib.hid (HB5.out.trans (hb6.mono HB5.out.size)); have HQ6 : Hid (BlkIs w6 w0.heap.size 32 #[.int .i64 id, .string sc, .string sf, .slice A n c, .int .i64 t, .slice Ab bn cb]) := Lib.hid ((hb6.block _ HQ5.out.lt).trans HQ5.out); clear hb6))
    refine hK.out _ _ ?_ (fun hHeld => ?_)
    · exact ⟨HQ6.out, HB6.out⟩
    clear hK K
    try simp only [Act.put, List.getElem_toArray, List.getElem_cons_zero, List.getElem_cons_succ, List.setIfInBounds_toArray, List.set_cons_zero, List.set_cons_succ]
    refine wpAnyH_take (i := 14) (v := .bool true) rfl (by kernel_rfl) (by kernel_rfl) (by kernel_rfl) (fun _ _ _ h => h) (Or.inl ⟨by rfl, fun w hS => by first | (go_simp; done) | (go_simp; with_reducible rfl)⟩) hHeld ?_
    try simp only [Act.put, List.getElem_toArray, List.getElem_cons_zero, List.getElem_cons_succ, List.setIfInBounds_toArray, List.set_cons_zero, List.set_cons_succ]
    refine wpAnyH_take (i := 15) (v := .bool true) rfl (by kernel_rfl) (by kernel_rfl) (by kernel_rfl) (fun _ _ _ h => h) (Or.inl ⟨by rfl, fun w hS => by first | (go_simp; done) | (go_simp; with_reducible rfl)⟩) hHeld ?_
    try simp only [Act.put, List.getElem_toArray, List.getElem_cons_zero, List.getElem_cons_succ, List.setIfInBounds_toArray, List.set_cons_zero, List.set_cons_succ]
    refine wpAnyH_take (i := 16) (v := .bool true) rfl (by kernel_rfl) (by kernel_rfl) (by kernel_rfl) (fun _ _ _ h => h) (Or.inl ⟨by rfl, fun w hS => by first | (go_simp; done) | (go_simp; with_reducible rfl)⟩) hHeld ?_
    try simp only [Act.put, List.getElem_toArray, List.getElem_cons_zero, List.getElem_cons_succ, List.setIfInBounds_toArray, List.set_cons_zero, List.set_cons_succ]
    refine wpAnyH_done (by kernel_rfl) ?_ _
    go_wp2_with fail
    go_ret
    exact ⟨rfl, HB6.out⟩
set_option maxHeartbeats 3200000 in
theorem lencodes_any {w0 : World} {x : Value} {m : M} (h : MsgAt w0 w0.heap.size x m) (hi : InM m) (hG : GlT w0) :
    Calls Tryd.prog 5 #[x] w0 fun e w' => e = .returned (.bool true) ∧ Below w0.heap.size w0 w' := by
  have h0 := h
  obtain ⟨A, c, Ab, cb, rfl, hT, hc1, hc2, hB, hb1, hb2, hA⟩ := h
  have HFW := Lib.hid (fun X (hX : Below w0.heap.size w0 X) => few_any ((h0.below hX).more hX.size) (by have := hi.fl; omega) (by have := hi.cl; omega))
  have HEN := Lib.hid (fun X (hX : Below w0.heap.size w0 X) (hs : SmallM m) => encode_any ((h0.below hX).more hX.size) hs (hG.below hX hG.lt))
  have HRE := Lib.hid (fun X (hX : Below w0.heap.size w0 X) (hs : SmallM m) => rencode_any ((h0.below hX).more hX.size) hs (hG.below hX hG.lt))
  have HSM := Lib.hid hi.small
  have HAW := Lib.hid (fun X (hX : Below w0.heap.size w0 X) => awake_any X (hG.below hX hG.lt))
  clear h0 hT hB hG hi
  unfold EncodeP at HEN
  unfold REncP at HRE
  unfold FewP at HFW
  generalize str m.cls = sc at *
  generalize str m.fr = sf at *
  generalize m.tos.length = n at *
  generalize m.body.length = bn at *
  generalize m.at_ = t at *
  generalize m.id = id at *
  have hqn := BlkIs.new w0 32 #[.int .i64 id, .string sc, .string sf, .slice A n c, .int .i64 t, .slice Ab bn cb]
  have HB1 : Hid (Below w0.heap.size w0 (w0.alloc (.cells #[.int .i64 id, .string sc, .string sf, .slice A n c, .int .i64 t, .slice Ab bn cb] 32))) := Lib.hid ((Below.refl _ _).alloc (Nat.le_refl _) _)
  have HQ1 := Lib.hid hqn
  have HA1 := Lib.hid (HAW.out _ HB1.out)
  clear hqn HAW
  go_enter Tryd.func5, Tryd.ntmps5
  go_wp2_with fail
  refine HA1.out.mono ?_
  rintro e w2 ⟨rfl, hb2⟩
  have HB2 := Lib.hid (HB1.out.trans (hb2.mono HB1.out.size))
  have HQ2 : Hid (BlkIs w2 w0.heap.size 32 #[.int .i64 id, .string sc, .string sf, .slice A n c, .int .i64 t, .slice Ab bn cb]) := Lib.hid ((hb2.block _ HQ1.out.lt).trans HQ1.out)
  clear hb2 HA1 HB1 HQ1
  have HF1 := Lib.hid (HFW.out w2 HB2.out)
  have z0 := (BlkIs.cell HQ2.out 0).trans (rfl : _ = some (Value.int .i64 id))
  have z1 := (BlkIs.cell HQ2.out 1).trans (rfl : _ = some (Value.string sc))
  have z2 := (BlkIs.cell HQ2.out 2).trans (rfl : _ = some (Value.string sf))
  have z3 := (BlkIs.cell HQ2.out 3).trans (rfl : _ = some (Value.slice A n c))
  have z4 := (BlkIs.cell HQ2.out 4).trans (rfl : _ = some (Value.int .i64 t))
  have z5 := (BlkIs.cell HQ2.out 5).trans (rfl : _ = some (Value.slice Ab bn cb))
  clear HFW
  go_wp2_with fail
  refine HF1.out.mono ?_
  rintro e w3 ⟨⟨b, rfl, hfew⟩, hb3⟩
  have HFE := Lib.hid hfew
  have HB3 := Lib.hid (HB2.out.trans (hb3.mono HB2.out.size))
  have HQ3 : Hid (BlkIs w3 w0.heap.size 32 #[.int .i64 id, .string sc, .string sf, .slice A n c, .int .i64 t, .slice Ab bn cb]) := Lib.hid ((hb3.block _ HQ2.out.lt).trans HQ2.out)
  clear hfew hb3 z0 z1 z2 z3 z4 z5 HF1 HQ2 HB2
  cases b with
  | false =>
    go_wp2_with fail
    go_ret
    exact ⟨rfl, HB3.out⟩
  | true =>
    have HS := Lib.hid (HSM.out (HFE.out rfl))
    have HE1 := Lib.hid (HEN.out w3 HB3.out HS.out)
    have z0 := (BlkIs.cell HQ3.out 0).trans (rfl : _ = some (Value.int .i64 id))
    have z1 := (BlkIs.cell HQ3.out 1).trans (rfl : _ = some (Value.string sc))
    have z2 := (BlkIs.cell HQ3.out 2).trans (rfl : _ = some (Value.string sf))
    have z3 := (BlkIs.cell HQ3.out 3).trans (rfl : _ = some (Value.slice A n c))
    have z4 := (BlkIs.cell HQ3.out 4).trans (rfl : _ = some (Value.int .i64 t))
    have z5 := (BlkIs.cell HQ3.out 5).trans (rfl : _ = some (Value.slice Ab bn cb))
    clear HEN HFE HSM
    go_wp2_with fail
    refine HE1.out.mono ?_
    rintro e w4 ⟨hb4, v4, rfl, hv4⟩
    have HB4 := Lib.hid (HB3.out.trans (hb4.mono HB3.out.size))
    have HQ4 : Hid (BlkIs w4 w0.heap.size 32 #[.int .i64 id, .string sc, .string sf, .slice A n c, .int .i64 t, .slice Ab bn cb]) := Lib.hid ((hb4.block _ HQ3.out.lt).trans HQ3.out)
    have HV4 := Lib.hid hv4
    have HR1 := Lib.hid (HRE.out w4 HB4.out HS.out)
    clear hb4 hv4 z0 z1 z2 z3 z4 z5 HE1 HQ3 HB3 HRE
    have z0 := (BlkIs.cell HQ4.out 0).trans (rfl : _ = some (Value.int .i64 id))
    have z1 := (BlkIs.cell HQ4.out 1).trans (rfl : _ = some (Value.string sc))
    have z2 := (BlkIs.cell HQ4.out 2).trans (rfl : _ = some (Value.string sf))
    have z3 := (BlkIs.cell HQ4.out 3).trans (rfl : _ = some (Value.slice A n c))
    have z4 := (BlkIs.cell HQ4.out 4).trans (rfl : _ = some (Value.int .i64 t))
    have z5 := (BlkIs.cell HQ4.out 5).trans (rfl : _ = some (Value.slice Ab bn cb))
    generalize hne : numE (okB m) = ne at *
    have HNE := Lib.hid hne
    clear hne
    go_wp2_with fail
    refine HR1.out.mono ?_
    rintro e w5 ⟨hb5, ⟨hok, v5, rfl, ho5⟩ | ⟨hok, rfl⟩⟩
    · have HB5 := Lib.hid (HB4.out.trans (hb5.mono HB4.out.size))
      have hn0 : ne = 0 := by rw [← HNE.out, hok]; rfl
      subst hn0
      rcases HV4.out with ⟨_, ho4⟩ | ⟨h, _⟩
      · obtain ⟨A4, c4, rfl, _, _⟩ := own_slice ho4
        obtain ⟨A5, c5, rfl, _, _⟩ := own_slice ho5
        have hs4 := conv_str (ho4.bts.below hb5) c4
        have hs5 := conv_str ho5.bts c5
        clear ho4 ho5 hb5 HV4 HR1
        generalize (putS (fldS m)).length = n9 at *
        generalize str (putS (fldS m)) = s9 at *
        go_wp2_with fail
        go_ret
        exact ⟨by simp, HB5.out⟩
      · rw [hok] at h; cases h
    · have HB5 := Lib.hid (HB4.out.trans (hb5.mono HB4.out.size))
      have hn0 : ne = 150 := by rw [← HNE.out, hok]; rfl
      subst hn0
      rcases HV4.out with ⟨h, _⟩ | ⟨_, rfl⟩
      · rw [hok] at h; cases h
      · have hs0 := conv_str (w := w5) (B := 0) (A := none) (l := []) Cs.nil 0
        have hs0 : (convert 22 9 (.slice none 0 0)).run Tryd.prog w5 = .ok (.string (str [])) w5 := hs0
        clear HV4 HR1 hb5
        generalize str [] = s9 at *
        go_wp2_with fail
        go_ret
        exact ⟨by simp, HB5.out⟩
end En
end Go.Proofs.YtpfonpjcnpfipaaDoor
