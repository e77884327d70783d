/- One hold: its name, whose it is, a copy of it; whether it may be. Conditions: as stated at each. -/
import Derived.Test.YtamjellnmlgbeaaHoFind
import Derived.Test.YtamjellnmlgbeaaHoUnfit
import Derived.Test.YtamjellnmlgbeaaPaFold
namespace Go.Proofs.Ytamjellnmlgbeaa
set_option maxRecDepth 100000
namespace Ho
open Go.RowKit Go Go.Proofs.Ytamjellnmlgbeaa.Pa Go.Proofs.Ytamjellnmlgbeaa.Rt
set_option maxHeartbeats 800000 in
theorem called_any (r : R) (w : World) (h1 : r.1.length ≤ 140737488355328) :
    Calls Try.prog 24 #[.agg #[.string (str r.1), .string (str r.2)]] w fun e w' => e = .returned (.string (str r.1)) ∧ Below w.heap.size w w' := by
  have HC := Lib.hid (fun X => clone_s r.1 X h1)
  have HB := Lib.hid (below_b w (.cells #[.string (str r.1), .string (str r.2)] 24))
  clear h1
  generalize str r.1 = s0 at *
  generalize str r.2 = s1 at *
  go_enter Try.func24, Try.ntmps24
  go_wp2_with (first | (go_at_call 36; refine (HC.out _).mono ?_; rintro e w1 ⟨rfl, hb1⟩) | fail)
  go_ret
  exact ⟨rfl, HB.out.trans (hb1.mono HB.out.size)⟩
set_option maxHeartbeats 800000 in
theorem who_any (r : R) (w : World) (h2 : r.2.length ≤ 140737488355328) :
    Calls Try.prog 25 #[.agg #[.string (str r.1), .string (str r.2)]] w fun e w' => e = .returned (.string (str (foldS r.2))) ∧ Below w.heap.size w w' := by
  have HC := Lib.hid (fun X => fold_any r.2 X h2)
  have HB := Lib.hid (below_b w (.cells #[.string (str r.1), .string (str r.2)] 24))
  clear h2
  generalize str r.1 = s0 at *
  generalize str (foldS r.2) = s2 at *
  generalize str r.2 = s1 at *
  go_enter Try.func25, Try.ntmps25
  go_wp2_with (first | (go_at_call 28; refine (HC.out _).mono ?_; rintro e w1 ⟨rfl, hb1⟩) | fail)
  go_ret
  exact ⟨rfl, HB.out.trans (hb1.mono HB.out.size)⟩
end Ho
end Go.Proofs.Ytamjellnmlgbeaa
