/- The iterator over what stands between points; whether all of it fits. Conditions: as stated at each. -/
import Derived.RangeFuncNested
import Derived.RangeFuncBound
import Derived.RangeFuncBox
import Derived.RangeFuncCalls
import Derived.RangeFuncLeaves
import Derived.Shelf.Abstract
import Derived.Shelf.RegionOpen
import Derived.WalkKit
import Derived.OwnWalkIn
import Derived.TacticsInMore
import Derived.LoopNIn
import Derived.LoopIn
import Derived.Test.YtpfonpjcnpfipaaGreatDoorPaAtom
namespace Go.Proofs.YtpfonpjcnpfipaaGreatDoor
set_option maxRecDepth 100000
namespace Pa
open Go.RowKit Go.Shelf Go
attribute [local go_sem] Oper.semAt_some
abbrev Part : Type := { p : List UInt8 // p.length ≤ 1000000 }
def encP (x : Part) : Array Value := #[.string (str x.1)]
def szOf : Value → Nat
  | .string s => s.size
  | _ => 0
def oneB : Value → Nat
  | .bool true => 1
  | _ => 0
/-- between two rounds. -/
def PaSt (x3 x4 x5 : Value) (left : List (List UInt8)) : Prop :=
  ∃ (a r : List UInt8) (f : Bool), x3 = .string (str a) ∧ x4 = .string (str r) ∧ x5 = .bool f ∧ a.length ≤ 1000000 ∧ r.length ≤ 1000000 ∧ left = a :: (if f then parts r else [])
theorem grown_drewN (w : World) (n : Nat) : w.grownBy (w.drewN n) none := ⟨rfl, rfl, rfl, Nat.le_refl _, fun _ _ _ => rfl⟩
theorem below_drewN (w : World) (N n : Nat) : Below N w (w.drewN n) := ⟨rfl, rfl, rfl, Nat.le_refl _, fun _ _ => rfl⟩
theorem cut_st {l : List UInt8} (h : l.length ≤ 1000000) : PaSt (.string (str (ahead 46 l))) (.string (str (behind 46 l))) (.bool (has 46 l)) (parts l) := by
  refine ⟨_, _, _, rfl, rfl, rfl, Nat.le_trans (ahead_len _ _) h, ?_, ?_⟩
  · by_cases hm : (46 : UInt8) ∈ l
    · have := behind_len hm; omega
    · rw [(ahead_no hm).2]; simp
  · rw [parts_cut l]
    cases has 46 l <;> rfl
theorem cut_less {r : List UInt8} : 2 * szOf (.string (str (behind 46 r))) + oneB (.bool (has 46 r)) < 2 * szOf (.string (str r)) + 1 := by
  simp only [szOf, str_size]
  by_cases hm : (46 : UInt8) ∈ r
  · have := behind_len hm
    rw [has_t hm]; simp only [oneB]; omega
  · rw [has_f hm, (ahead_no hm).2]; simp [oneB]
set_option maxHeartbeats 1600000 in
theorem atoms_stops (n : Nat) (hn : 1 ≤ n) (w : World) (V N : Nat) (l : List UInt8) (hV : w.heap[V]? = some (.cells #[.string (str l)] 9 (0, 0))) (hN : N ≤ w.heap.size) (hm : l.length ≤ 1000000) :
    SeqStopsK Fence.wide n Tryz.prog 85 #[.pointer (some ⟨V, 0, none⟩)] encP (Below N) (fun xs => xs.map Subtype.val = parts l) (fun pre => pre.map Subtype.val <+: parts l) (l.length + 1) w := fun lp J Jx W hW hJ hJx hY h0 => by
  refine callsIn_of_wp Tryz.func85 rfl trivial ?_ rfl
  have hVl : V < w.heap.size := (Array.getElem?_eq_some_iff.1 hV).1
  have hv : W.cell? ⟨V, 0, none⟩ = some (.string (str l)) := (hW.cell (p := ⟨V, 0, none⟩) hVl).trans (cell_of_row w V 0 _ 9 (0, 0) hV)
  have hNW := hW.mono hN
  simp only [Tryz.ntmps85, List.size_toArray, List.length_cons, List.length_nil, Nat.reduceAdd, Nat.reduceSub, Array.replicate_succ, Array.replicate_zero, List.push_toArray, List.append_toArray, List.nil_append, List.cons_append]
  gi_wp2_with fail
  refine ⟨trivial, ?_⟩
  refine (callsIn_wide.2 (cut_any 46 l _ hm)).mono ?_
  rintro e w1 ⟨rfl, k0, rfl⟩
  have HST := Lib.hid (cut_st hm)
  have HJ := Lib.hid (hJ _ _ _ _ h0 (grown_drewN W k0) (fun r e => by cases e))
  have HK := Lib.hid (hNW.trans (below_drewN W N k0))
  clear h0
  generalize W.drewN k0 = w1 at *
  generalize str (ahead 46 l) = s3 at *
  generalize str (behind 46 l) = s4 at *
  generalize has 46 l = b5 at *
  gi_wp2_with fail
  gi_loopw [3, 4, 5] (fun x3 x4 x5 wr => ∃ pre left, J pre wr ∧ Below N w wr ∧ PaSt x3 x4 x5 left ∧ pre.map Subtype.val ++ left = parts l) (fun _ x4 x5 _ => 2 * szOf x4 + oneB x5)
  case atStart => exact ⟨[], parts l, HJ.out, HK.out, HST.out, rfl⟩
  case round =>
    obtain ⟨pre, left, hj, hk, hs, he⟩ := hrel
    obtain ⟨a, r, f, rfl, rfl, rfl, ha, hr, hleft⟩ := hs
    have hlen : pre.length < l.length + 1 := by
      have h1 := congrArg List.length he
      have h2 := parts_len l
      rw [hleft] at h1
      simp at h1
      omega
    obtain ⟨fn, tmps, assign, body, hy, hR⟩ := hY pre ⟨a, ha⟩ wr hj hlen
    dsimp only [encP] at hy
    have HE := Lib.hid he
    have HL := Lib.hid hleft
    have HR := Lib.hid hr
    clear he hj hleft hr
    gi_wp2_with fail
    refine hR.mono ?_
    rintro e W3 (⟨rfl, hJ3, hK3⟩ | ⟨rfl, hJx3⟩)
    · have HJ3 := Lib.hid hJ3
      have HK3 := Lib.hid (hk.trans hK3)
      clear hJ3 hR hy
      cases f with
      | false =>
        gi_wp2_with fail
        go_end0
        refine ⟨⟨_, rfl⟩, .inl ⟨_, ?_, HJ3.out⟩⟩
        rw [← HE.out, HL.out]
        simp
      | true =>
        have HC := Lib.hid (fun W => cut_any 46 r W HR.out)
        have HS2 := Lib.hid (cut_st HR.out)
        have HM2 := Lib.hid (cut_less (r := r))
        gi_wp2_with fail
        refine ⟨trivial, ?_⟩
        refine (callsIn_wide.2 (HC.out _)).mono ?_
        rintro e w4 ⟨rfl, k4, rfl⟩
        have HJ4 := Lib.hid (hJ _ _ _ _ HJ3.out (grown_drewN W3 k4) (fun r e => by cases e))
        have HK4 := Lib.hid (HK3.out.trans (below_drewN W3 N k4))
        generalize W3.drewN k4 = w5 at *
        generalize str (ahead 46 r) = t3 at *
        generalize str (behind 46 r) = t4 at *
        generalize has 46 r = t5 at *
        gi_wp2_with fail
        go_roundw
        case rel => exact ⟨_, _, HJ4.out, HK4.out, HS2.out, by rw [← HE.out, HL.out]; simp⟩
        case measure => exact HM2.out
    · gi_wp2_with fail
      go_end0
      refine ⟨⟨_, rfl⟩, .inr ⟨_, ?_, hJx3⟩⟩
      rw [← HE.out, HL.out]
      exact ⟨_, by rw [List.map_append, List.append_assoc]; rfl⟩
end Pa
end Go.Proofs.YtpfonpjcnpfipaaGreatDoor
