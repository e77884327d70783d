/- The iterator over a slice of one name: its contract for whatever loop keeps what it reads. Conditions: as stated at each. -/
import Derived.RangeFuncNested
import Derived.RangeFuncBound
import Derived.RangeFuncCalls
import Derived.RangeFuncLeaves
import Derived.Shelf.Abstract
import Derived.Shelf.RegionOpen
import Derived.WalkKit
import Derived.OwnWalkIn
import Derived.TacticsInMore
import Derived.LoopNIn
import Derived.LoopIn
import Derived.Test.YtlcnpddkppikgaaRead
namespace Go.Proofs.Ytlcnpddkppikgaa
open Go.RowKit Go.Shelf Go
attribute [local go_sem] Oper.semAt_some
/-- what a round keeps: below n0 all but the blocks of p. -/
def Kq (n0 : Nat) (p : Nat → Prop) (W W' : World) : Prop := W.heap.size ≤ W'.heap.size ∧ ∀ i, i < n0 → ¬ p i → W'.heap[i]? = W.heap[i]?
theorem Kq.trans {n0 : Nat} {p : Nat → Prop} {A B C : World} (h : Kq n0 p A B) (k : Kq n0 p B C) : Kq n0 p A C :=
  ⟨Nat.le_trans h.1 k.1, fun i hi hp => (k.2 i hi hp).trans (h.2 i hi hp)⟩
theorem Kq.book {n0 : Nat} {p : Nat → Prop} {w : World} (hn : n0 ≤ w.heap.size) (W : World) (l : Nat) (o o' : Obj) (hl : w.heap.size ≤ l) (_ : W.heap[l]? = some o) (_ : o.isCells = false) (_ : o.isWalk = false) : Kq n0 p W (W.putObj l o') :=
  ⟨by simp, fun i hi _ => World.putObj_heap_other (by omega)⟩
theorem Kq.of_tn {n0 : Nat} {p : Nat → Prop} {W W' : World} (h : Tn p W W') (hn : n0 ≤ W.heap.size) : Kq n0 p W W' := ⟨h.size, fun i hi hp => h.block i (by omega) hp⟩
set_option maxHeartbeats 1000000 in
theorem vals_stops (n : Nat) (hn : 1 ≤ n) (w : World) (n0 V C cap : Nat) (p : Nat → Prop) (hV : BlkIs w V 51 #[.slice (some ⟨C, 0, none⟩) 1 cap]) (hC : w.cell? ⟨C, 0, none⟩ = some (.string nA)) :
    SeqStopsK Fence.wide n Try.prog 29 #[.pointer (some ⟨V, 0, none⟩)] (fun _ : Unit => #[Value.string nA]) (Kq n0 p) (fun xs => xs = [()]) (fun pre => pre = [()]) 1 w := fun l J Jx W hW hJ hJx hY h0 => by
  refine callsIn_of_wp Try.func29 rfl trivial ?_ rfl
  have hv : W.cell? ⟨V, 0, none⟩ = some (.slice (some ⟨C, 0, none⟩) 1 cap) := (hW.cell (p := ⟨V, 0, none⟩) hV.lt).trans (hV.cell 0)
  have hc : W.cell? ⟨C, 0, none⟩ = some (.string nA) := (hW.cell (p := ⟨C, 0, none⟩) (World.block_lt_of_cell? w _ hC)).trans hC
  simp only [Try.ntmps29, List.size_toArray, List.length_cons, List.length_nil, Nat.reduceAdd, Nat.reduceSub, Array.replicate_succ, Array.replicate_zero, List.push_toArray, List.append_toArray, List.nil_append, List.cons_append]
  gi_wp2
  gi_loopw [7] (fun i wr => (i = .int .i64 0 ∧ J [] wr ∧ wr.cell? ⟨C, 0, none⟩ = some (.string nA)) ∨ (i = .int .i64 1 ∧ J [()] wr)) (fun i _ => 1 - (intOf i).toNat)
  case atStart => exact .inl ⟨rfl, h0, hc⟩
  case round =>
    rcases hrel with ⟨rfl, hj, hcc⟩ | ⟨rfl, hj⟩
    · obtain ⟨fn, tmps, assign, body, hy, hR⟩ := hY [] () wr hj (by simp)
      gi_wp2
      refine hR.mono ?_
      rintro e W3 (⟨rfl, hJ3, _⟩ | ⟨rfl, hJx3⟩)
      · gi_wp2
        go_roundw
        case rel => exact .inr ⟨rfl, hJ3⟩
        case measure => simp [intOf]
      · gi_wp2
        refine bodyPost_ret (results_none rfl _ _ _) rfl ?_
        exact ⟨⟨_, rfl⟩, .inr ⟨[()], rfl, hJx3⟩⟩
    · gi_wp2
      go_end0
      exact ⟨⟨_, rfl⟩, .inl ⟨[()], rfl, hj⟩⟩
end Go.Proofs.Ytlcnpddkppikgaa
