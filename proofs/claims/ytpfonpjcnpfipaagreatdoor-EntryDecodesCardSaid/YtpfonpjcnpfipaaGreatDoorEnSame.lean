/- Envelopes, messages that are alike. Conditions: as stated. -/
import Derived.Test.YtpfonpjcnpfipaaGreatDoorEnTx
import Derived.Deep.QuietTactic
import Derived.Deep.CutBlock
namespace Go.Proofs.YtpfonpjcnpfipaaGreatDoor
set_option maxRecDepth 100000
namespace En
open Go.RowKit Go Go.Proofs.YtpfonpjcnpfipaaGreatDoor.Pa
attribute [local go_sem] Oper.semAt_some
set_option maxHeartbeats 3200000 in
theorem rsame_any {w : World} {e : Env} {x y : Value} (hx : EnvAt w w.heap.size x e) (hy : EnvAt w w.heap.size y e) :
    Calls Tryz.prog 16 #[x, y] w fun r w' => r = .returned (.bool true) ∧ Below w.heap.size w w' := by
  obtain ⟨A1, c1, rfl, h1, hn1, hm1⟩ := hx
  obtain ⟨A2, c2, rfl, h2, hn2, hm2⟩ := hy
  have HE1 := Lib.hid h1.els
  have HE2 := Lib.hid h2.els
  have hn : e.2.1.length ≤ maxLen := by omega
  unfold maxLen at hn
  clear h1 h2 hn1 hm1 hn2 hm2
  generalize str e.1 = sf at *
  generalize e.2.1.length = n at *
  generalize e.2.2 = v at *
  generalize e.2.1 = ts at *
  have k0 : BlkIs (w.alloc (.cells #[.string sf, .slice A1 n c1, .int .i64 v] 26)) w.heap.size 26 #[.string sf, .slice A1 n c1, .int .i64 v] := BlkIs.new w _ _
  have k1 := BlkIs.new (w.alloc (.cells #[.string sf, .slice A1 n c1, .int .i64 v] 26)) 26 #[.string sf, .slice A2 n c2, .int .i64 v]
  rw [World.size_alloc] at k1
  have Q0 := Lib.hid (k0.alloc (.cells #[.string sf, .slice A2 n c2, .int .i64 v] 26))
  have Q1 := Lib.hid k1
  have HB : Hid (Below w.heap.size w ((w.alloc (.cells #[.string sf, .slice A1 n c1, .int .i64 v] 26)).alloc (.cells #[.string sf, .slice A2 n c2, .int .i64 v] 26))) := Lib.hid (((Below.refl _ w).alloc (Nat.le_refl _) _).alloc (by simp) _)
  clear k0 k1
  go_enter Tryz.func16, Tryz.ntmps16
  have z0 := (BlkIs.cell Q0.out 0).trans (rfl : _ = some (Value.string sf))
  have z1 := (BlkIs.cell Q0.out 1).trans (rfl : _ = some (Value.slice A1 n c1))
  have z2 := (BlkIs.cell Q0.out 2).trans (rfl : _ = some (Value.int .i64 v))
  have y0 := (BlkIs.cell Q1.out 0).trans (rfl : _ = some (Value.string sf))
  have y1 := (BlkIs.cell Q1.out 1).trans (rfl : _ = some (Value.slice A2 n c2))
  have y2 := (BlkIs.cell Q1.out 2).trans (rfl : _ = some (Value.int .i64 v))
  go_wp2_with fail
  clear z0 z1 z2 y0 y1 y2
  generalize (w.alloc (.cells #[.string sf, .slice A1 n c1, .int .i64 v] 26)).alloc (.cells #[.string sf, .slice A2 n c2, .int .i64 v] 26) = W at *
  go_loopw [30] (fun i wr => ∃ k j : Nat, k ≤ n ∧ i = .int .i64 k ∧ wr = W.drewN j) (fun i _ => n - (intOf i).toNat)
  case atStart => exact ⟨0, 0, Nat.zero_le _, rfl, rfl⟩
  case round =>
    obtain ⟨k, j, hk, rfl, rfl⟩ := hrel
    have hb1 : Below w.heap.size w (W.drewN j) := below_drewN HB.out j
    have q0 : BlkIs (W.drewN j) w.heap.size 26 #[.string sf, .slice A1 n c1, .int .i64 v] := Q0.out
    have q1 : BlkIs (W.drewN j) (w.heap.size + 1) 26 #[.string sf, .slice A2 n c2, .int .i64 v] := Q1.out
    by_cases hlt : k < n
    · obtain ⟨g1, o1, rfl, _, hX1⟩ := HE1.out k hlt
      obtain ⟨g2, o2, rfl, _, hX2⟩ := HE2.out k hlt
      have e1 := hX1 _ hb1
      have e2 := hX2 _ hb1
      have z1 := (BlkIs.cell q0 1).trans (rfl : _ = some (Value.slice (some ⟨g1, o1, none⟩) n c1))
      have y1 := (BlkIs.cell q1 1).trans (rfl : _ = some (Value.slice (some ⟨g2, o2, none⟩) n c2))
      generalize hw : W.drewN j = w1 at *
      have HW := Lib.hid hw
      clear hw hX1 hX2 hb1 q0 q1
      generalize ts.getD k [] = r at *
      have x1 : (0 : Int) ≤ (k : Int) := by omega
      have x2 : (k : Int) < (n : Int) := by omega
      go_wp2_with fail
      go_quiet (fail)
      go_wp2_with fail
      go_roundw
      case rel => exact ⟨k + 1, j + nq, by omega, by go_num, by rw [← HW.out, World.drewN_drewN]⟩
      case measure => simp [intOf]; omega
    · obtain rfl : k = n := by omega
      go_wp2_with fail
      go_ret
      exact ⟨rfl, hb1⟩
set_option maxHeartbeats 3200000 in
theorem Same_any {w : World} {m : M} {x y : Value} (hx : MsgAt w w.heap.size x m) (hy : MsgAt w w.heap.size y m) :
    Calls Tryz.prog 7 #[x, y] w fun r w' => r = .returned (.bool true) ∧ Below w.heap.size w w' := by
  obtain ⟨A1, c1, B1, d1, rfl, h1, hn1, hm1, g1, gl1, gm1, _⟩ := hx
  obtain ⟨A2, c2, B2, d2, rfl, h2, hn2, hm2, g2, gl2, gm2, _⟩ := hy
  have HSA : Hid (∀ X, Below w.heap.size w X → Calls Tryz.prog 16 #[.agg #[.string (str m.fr), .slice A1 m.tos.length c1, .int .i64 m.at_], .agg #[.string (str m.fr), .slice A2 m.tos.length c2, .int .i64 m.at_]] X fun r w' => r = .returned (.bool true) ∧ Below X.heap.size X w') := Lib.hid fun X hX => rsame_any (e := (m.fr, m.tos, m.at_)) ⟨A1, c1, rfl, (h1.below hX).more hX.size, hn1, hm1⟩ ⟨A2, c2, rfl, (h2.below hX).more hX.size, hn2, hm2⟩
  have HC1 := Lib.hid (fun X (hX : Below w.heap.size w X) => conv_str (g1.below hX) d1)
  have HC2 := Lib.hid (fun X (hX : Below w.heap.size w X) => conv_str (g2.below hX) d2)
  clear h1 h2 hn1 hm1 hn2 hm2 g1 g2 gl1 gm1 gl2 gm2
  generalize str m.cls = sc at *
  generalize str m.fr = sf at *
  generalize m.tos.length = n at *
  generalize str m.body = sb at *
  generalize m.body.length = bn at *
  generalize m.at_ = t at *
  generalize m.id = id at *
  have k0 : BlkIs (w.alloc (.cells #[.int .i64 id, .string sc, .string sf, .slice A1 n c1, .int .i64 t, .slice B1 bn d1] 28)) w.heap.size 28 #[.int .i64 id, .string sc, .string sf, .slice A1 n c1, .int .i64 t, .slice B1 bn d1] := BlkIs.new w _ _
  have k1 := BlkIs.new (w.alloc (.cells #[.int .i64 id, .string sc, .string sf, .slice A1 n c1, .int .i64 t, .slice B1 bn d1] 28)) 28 #[.int .i64 id, .string sc, .string sf, .slice A2 n c2, .int .i64 t, .slice B2 bn d2]
  rw [World.size_alloc] at k1
  have Q0 := Lib.hid (k0.alloc (.cells #[.int .i64 id, .string sc, .string sf, .slice A2 n c2, .int .i64 t, .slice B2 bn d2] 28))
  have Q1 := Lib.hid k1
  have HB : Hid (Below w.heap.size w ((w.alloc (.cells #[.int .i64 id, .string sc, .string sf, .slice A1 n c1, .int .i64 t, .slice B1 bn d1] 28)).alloc (.cells #[.int .i64 id, .string sc, .string sf, .slice A2 n c2, .int .i64 t, .slice B2 bn d2] 28))) := Lib.hid (((Below.refl _ w).alloc (Nat.le_refl _) _).alloc (by simp) _)
  clear k0 k1
  go_enter Tryz.func7, Tryz.ntmps7
  go_upto_region 1 with fail
  generalize (w.alloc (.cells #[.int .i64 id, .string sc, .string sf, .slice A1 n c1, .int .i64 t, .slice B1 bn d1] 28)).alloc (.cells #[.int .i64 id, .string sc, .string sf, .slice A2 n c2, .int .i64 t, .slice B2 bn d2] 28) = W at *
  have z0 := (BlkIs.cell Q0.out 0).trans (rfl : _ = some (Value.int .i64 id))
  have z1 := (BlkIs.cell Q0.out 1).trans (rfl : _ = some (Value.string sc))
  have z2 := (BlkIs.cell Q0.out 2).trans (rfl : _ = some (Value.string sf))
  have z3 := (BlkIs.cell Q0.out 3).trans (rfl : _ = some (Value.slice A1 n c1))
  have z4 := (BlkIs.cell Q0.out 4).trans (rfl : _ = some (Value.int .i64 t))
  have y0 := (BlkIs.cell Q1.out 0).trans (rfl : _ = some (Value.int .i64 id))
  have y1 := (BlkIs.cell Q1.out 1).trans (rfl : _ = some (Value.string sc))
  have y2 := (BlkIs.cell Q1.out 2).trans (rfl : _ = some (Value.string sf))
  have y3 := (BlkIs.cell Q1.out 3).trans (rfl : _ = some (Value.slice A2 n c2))
  have y4 := (BlkIs.cell Q1.out 4).trans (rfl : _ = some (Value.int .i64 t))
  have HSX := Lib.hid (HSA.out W HB.out)
  have HX5 : Hid (∀ Y, Below W.heap.size W Y → Y.cell? ⟨w.heap.size, 5, none⟩ = some (.slice B1 bn d1)) := Lib.hid fun Y hY => (hY.cell (p := ⟨w.heap.size, 5, none⟩) Q0.out.lt).trans ((BlkIs.cell Q0.out 5).trans rfl)
  have HX6 : Hid (∀ Y, Below W.heap.size W Y → Y.cell? ⟨w.heap.size + 1, 5, none⟩ = some (.slice B2 bn d2)) := Lib.hid fun Y hY => (hY.cell (p := ⟨w.heap.size + 1, 5, none⟩) Q1.out.lt).trans ((BlkIs.cell Q1.out 5).trans rfl)
  clear HSA
  go_wp2_with (first
    | (go_at_call 16; refine HSX.out.mono ?_; rintro e w2 ⟨rfl, hb2⟩; have HB2 := Lib.hid (HB.out.trans (hb2.mono HB.out.size)); have x5 := HX5.out w2 hb2; have x6 := HX6.out w2 hb2; have hc1 := HC1.out w2 HB2.out; have hc2 := HC2.out w2 HB2.out; clear hb2)
    | fail)
  go_ret
  exact ⟨by simp, HB2.out⟩
end En
end Go.Proofs.YtpfonpjcnpfipaaGreatDoor
