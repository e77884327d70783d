/- Envelopes that are alike. Conditions: as stated. -/
import Derived.Test.YtamekflgidfnfaaGreatDoorMiReadA
import Derived.Deep.QuietTactic
namespace Go.Proofs.YtamekflgidfnfaaGreatDoor
set_option maxRecDepth 100000
namespace Mi
open Go.RowKit Go Go.Proofs.YtamekflgidfnfaaGreatDoor.Pa
attribute [local go_sem] Oper.semAt_some
set_option maxHeartbeats 3200000 in
theorem rsame_any {w : World} {e : Env} {x y : Value} (hx : EnvAt w w.heap.size x e) (hy : EnvAt w w.heap.size y e) :
    Calls Tryz.prog 12 #[x, y] w fun r w' => r = .returned (.bool true) ∧ Below w.heap.size w w' := by
  obtain ⟨A1, c1, rfl, h1, hn1, hm1⟩ := hx
  obtain ⟨A2, c2, rfl, h2, hn2, hm2⟩ := hy
  have HE1 := Lib.hid h1.els
  have HE2 := Lib.hid h2.els
  have hn : e.2.1.length ≤ maxLen := by omega
  unfold maxLen at hn
  clear h1 h2 hn1 hm1 hn2 hm2
  generalize str e.1 = sf at *
  generalize e.2.1.length = n at *
  generalize e.2.2 = v at *
  generalize e.2.1 = ts at *
  have k0 : BlkIs (w.alloc (.cells #[.string sf, .slice A1 n c1, .int .i64 v] 34)) w.heap.size 34 #[.string sf, .slice A1 n c1, .int .i64 v] := BlkIs.new w _ _
  have k1 := BlkIs.new (w.alloc (.cells #[.string sf, .slice A1 n c1, .int .i64 v] 34)) 34 #[.string sf, .slice A2 n c2, .int .i64 v]
  rw [World.size_alloc] at k1
  have Q0 := Lib.hid (k0.alloc (.cells #[.string sf, .slice A2 n c2, .int .i64 v] 34))
  have Q1 := Lib.hid k1
  have HB : Hid (Below w.heap.size w ((w.alloc (.cells #[.string sf, .slice A1 n c1, .int .i64 v] 34)).alloc (.cells #[.string sf, .slice A2 n c2, .int .i64 v] 34))) := Lib.hid (((Below.refl _ w).alloc (Nat.le_refl _) _).alloc (by simp) _)
  clear k0 k1
  go_enter Tryz.func12, Tryz.ntmps12
  have z0 := (BlkIs.cell Q0.out 0).trans (rfl : _ = some (Value.string sf))
  have z1 := (BlkIs.cell Q0.out 1).trans (rfl : _ = some (Value.slice A1 n c1))
  have z2 := (BlkIs.cell Q0.out 2).trans (rfl : _ = some (Value.int .i64 v))
  have y0 := (BlkIs.cell Q1.out 0).trans (rfl : _ = some (Value.string sf))
  have y1 := (BlkIs.cell Q1.out 1).trans (rfl : _ = some (Value.slice A2 n c2))
  have y2 := (BlkIs.cell Q1.out 2).trans (rfl : _ = some (Value.int .i64 v))
  go_wp2_with fail
  clear z0 z1 z2 y0 y1 y2
  generalize (w.alloc (.cells #[.string sf, .slice A1 n c1, .int .i64 v] 34)).alloc (.cells #[.string sf, .slice A2 n c2, .int .i64 v] 34) = W at *
  go_loopw [30] (fun i wr => ∃ k j : Nat, k ≤ n ∧ i = .int .i64 k ∧ wr = W.drewN j) (fun i _ => n - (intOf i).toNat)
  case atStart => exact ⟨0, 0, Nat.zero_le _, rfl, rfl⟩
  case round =>
    obtain ⟨k, j, hk, rfl, rfl⟩ := hrel
    have hb1 : Below w.heap.size w (W.drewN j) := below_drewN HB.out j
    have q0 : BlkIs (W.drewN j) w.heap.size 34 #[.string sf, .slice A1 n c1, .int .i64 v] := Q0.out
    have q1 : BlkIs (W.drewN j) (w.heap.size + 1) 34 #[.string sf, .slice A2 n c2, .int .i64 v] := Q1.out
    by_cases hlt : k < n
    · obtain ⟨g1, o1, rfl, _, hX1⟩ := HE1.out k hlt
      obtain ⟨g2, o2, rfl, _, hX2⟩ := HE2.out k hlt
      have e1 := hX1 _ hb1
      have e2 := hX2 _ hb1
      have z1 := (BlkIs.cell q0 1).trans (rfl : _ = some (Value.slice (some ⟨g1, o1, none⟩) n c1))
      have y1 := (BlkIs.cell q1 1).trans (rfl : _ = some (Value.slice (some ⟨g2, o2, none⟩) n c2))
      generalize hw : W.drewN j = w1 at *
      have HW := Lib.hid hw
      clear hw hX1 hX2 hb1 q0 q1
      generalize ts.getD k [] = r at *
      have x1 : (0 : Int) ≤ (k : Int) := by omega
      have x2 : (k : Int) < (n : Int) := by omega
      go_wp2_with fail
      go_quiet (fail)
      go_wp2_with fail
      go_roundw
      case rel => exact ⟨k + 1, j + nq, by omega, by go_num, by rw [← HW.out, World.drewN_drewN]⟩
      case measure => simp [intOf]; omega
    · obtain rfl : k = n := by omega
      go_wp2_with fail
      go_ret
      exact ⟨rfl, hb1⟩
end Mi
end Go.Proofs.YtamekflgidfnfaaGreatDoor
