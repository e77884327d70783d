/- Contracts of Verify: the program's, the document's. Conditions: as stated at each. -/
import Derived.Test.YtlbmieeimnjncaaDoorMkVerify
import Derived.Test.YtlbmieeimnjncaaDoorMkIn
namespace Go.Proofs.YtlbmieeimnjncaaDoor
set_option maxRecDepth 100000
open Go.RowKit Go
theorem load_want {ops : Array Oper} {rest : List Oper} {op : Oper} {a : Act} {w : World} {Q : Exit → Act → World → Prop} (hw : Region.wanted op (yielded ops a.tmps) = true) (ty : TypeId) (x : Operand) (ho : op.op = .load ty x)
    (b o : Nat) (hx : a.eval x = .pointer (some ⟨b, o, none⟩)) (cs : List Value) (d : TypeDesc) (hc : w.rangeAt b o cs)
    (hu : Tryd.prog.underlying ty = some d) (hd : d.isRow = true) (hi : (Tryd.prog.info? ty).map (·.size) = some cs.length)
    (h : wpList Tryd.prog ops Q rest (a.put op.dst (.agg cs.toArray)) w) : wpList Tryd.prog ops Q (op :: rest) a w :=
  BigFrame.wpList_want hw fun _ hK => wp_load_mid ty x ho b o hx cs d hc hu hd hi (hK _ _ h)
/-- an int's bounds, of its written form. -/
theorem wf_i64 {n : Int} (h : (Lit.int .i64 n).wf = true) : -9223372036854775808 ≤ n ∧ n ≤ 9223372036854775807 := by
  simp only [Lit.wf, Bool.and_eq_true, decide_eq_true_eq] at h
  exact h
theorem verify_any (root leaf : List UInt8) (A : Option Addr) (p c n i : Nat) (L : List (List UInt8)) (w : World) (hr : root.length = 32) (hl : leaf.length = 32) (hp : L.length = p) (h9 : p ≤ 100000) (hc : p ≤ c) (hm : c ≤ maxLen) (h : Hs w w.heap.size A L) (hi : i < n) (h63 : n ≤ 9223372036854775807) (hg : Glob w) :
    Calls Tryd.prog 6 #[.agg (bv root).toArray, .int .i64 n, .int .i64 i, .agg (bv leaf).toArray, .slice A p c] w fun e w' => e = .returned (.bool ((upR n i leaf L.reverse).2 && ((upR n i leaf L.reverse).1 == root))) ∧ Below w.heap.size w w' :=
  callsIn_wide.1 (verify_in root leaf A p c n i L w hr hl hp h9 hc hm h hi h63 hg)
set_option maxHeartbeats 800000 in
theorem verify_no (root leaf : List UInt8) (A : Option Addr) (p c : Nat) (n i : Int) (w : World) (hi : i < 0 ∨ n ≤ i) :
    Calls Tryd.prog 6 #[.agg (bv root).toArray, .int .i64 n, .int .i64 i, .agg (bv leaf).toArray, .slice A p c] w fun e w' => e = .returned (.bool false) ∧ Below w.heap.size w w' := by
  by_cases i1 : i < 0
  · clear hi
    go_enter Tryd.func6, Tryd.ntmps6
    go_wp2_with fail
    go_ret
    exact ⟨rfl, below2 w _ _⟩
  · have i2 : n ≤ i := by omega
    clear hi
    go_enter Tryd.func6, Tryd.ntmps6
    go_wp2_with fail
    go_ret
    exact ⟨rfl, below2 w _ _⟩
end Go.Proofs.YtlbmieeimnjncaaDoor
