/- The walk of DigestSums. Conditions: as stated. -/
import Derived.Test.YtmckgbjkplkblaaDoorDgBack
import Derived.Test.YtmckgbjkplkblaaDoorDgRSum
namespace Go.Proofs.YtmckgbjkplkblaaDoor
open Go.RowKit Go
set_option maxRecDepth 100000 in
set_option maxHeartbeats 800000 in
theorem sums_any (A : Option Addr) (B c : Nat) (l : List UInt8) (w : World) (h : Bts w B A l) (hB : B ≤ w.heap.size) (hl : l.length ≤ c) (hc : c ≤ maxLen) (hg : Glob w) :
    Calls Tryd.prog 3 #[.slice A l.length c] w fun e w' => e = .returned (.bool true) ∧ Below w.heap.size w w' := by
  have HAW := Lib.hid (awake_any w hg)
  have hS := fun (w2 : World) (hb : Below w.heap.size w w2) (hm : l.length ≤ 900000000) => sum_any A B c l w2 (h.below (hb.mono hB)) (Nat.le_trans hB hb.size) hl hc hm (hg.below hb hg.size)
  have hR := fun (w2 : World) (hb : Below w.heap.size w w2) (hm : l.length ≤ 900000000) => rsum_any A B c l w2 (h.below (hb.mono hB)) (Nat.le_trans hB hb.size) hm
  have heq := fun w => run_eq24 (sha l) (sha l) (sha_length l) (sha_length l) w
  rw [show (sha l == sha l) = true by simp] at heq
  obtain ⟨n, hn⟩ : ∃ n, l.length = n := ⟨_, rfl⟩
  rw [hn] at hl hS hR ⊢
  clear hn hg h
  generalize (bv (sha l)).toArray = X at *
  by_cases h2 : n ≤ 2000
  · have n2 : ¬ (2000 : Int) < n := by omega
    have HS : Hid (∀ w2, Below w.heap.size w w2 → Calls Tryd.prog 8 #[.slice A n c] w2 fun e w' => e = .returned (.agg X) ∧ Below w2.heap.size w2 w') := Lib.hid fun w2 hb => hS w2 hb (by omega)
    have HR : Hid (∀ w2, Below w.heap.size w w2 → Calls Tryd.prog 9 #[.slice A n c] w2 fun e w' => e = .returned (.agg X) ∧ Below w2.heap.size w2 w') := Lib.hid fun w2 hb => hR w2 hb (by omega)
    clear hS hR
    go_enter Tryd.func3, Tryd.ntmps3
    go_wp2_with (first
      | (go_at_call 7; refine HAW.out.mono ?_; rintro e w2 ⟨rfl, hb2⟩; have HB2 := Lib.hid hb2; clear hb2)
      | (go_at_call 8; refine (HS.out w2 HB2.out).mono ?_; rintro e w3 ⟨rfl, hb3⟩; have HB3 : Hid (Below w.heap.size w w3) := Lib.hid (HB2.out.trans (hb3.mono HB2.out.size)); clear hb3)
      | (go_at_call 9; refine (HR.out w3 HB3.out).mono ?_; rintro e w4 ⟨rfl, hb4⟩; have HB4 : Hid (Below w.heap.size w w4) := Lib.hid (HB3.out.trans (hb4.mono HB3.out.size)); clear hb4)
      | fail)
    go_ret
    exact ⟨rfl, HB4.out⟩
  · have n2 : (2000 : Int) < n := by omega
    clear hS hR
    go_enter Tryd.func3, Tryd.ntmps3
    go_wp2_with (first
      | (go_at_call 7; refine HAW.out.mono ?_; rintro e w2 ⟨rfl, hb2⟩; have HB2 := Lib.hid hb2; clear hb2)
      | fail)
    go_ret
    exact ⟨rfl, HB2.out⟩
end Go.Proofs.YtmckgbjkplkblaaDoor
