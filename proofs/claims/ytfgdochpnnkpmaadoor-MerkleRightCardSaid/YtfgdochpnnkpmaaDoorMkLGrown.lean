/- The walk of MerkleGrown. Conditions: as stated. -/
import Derived.Test.YtfgdochpnnkpmaaDoorMkIn
import Derived.Test.YtfgdochpnnkpmaaDoorMkGrown
namespace Go.Proofs.YtfgdochpnnkpmaaDoor
set_option maxRecDepth 100000
open Go.RowKit Go
theorem grown_any (old root : List UInt8) (A : Option Addr) (p c m n : Nat) (L : List (List UInt8)) (w : World) (ho : old.length = 32) (hr : root.length = 32) (hp : L.length = p) (h9 : p ≤ 100000) (hc : p ≤ c) (hm : c ≤ maxLen) (h : Hs w w.heap.size A L) (h1m : 1 ≤ m) (hmn : m ≤ n) (h63 : n ≤ 9223372036854775807) (hg : Glob w) :
    Calls Tryd.prog 15 #[.agg (bv old).toArray, .int .i64 m, .agg (bv root).toArray, .int .i64 n, .slice A p c] w fun e w' => e = .returned (.bool ((bothR m n true old L.reverse).2.2 && ((bothR m n true old L.reverse).1 == old) && ((bothR m n true old L.reverse).2.1 == root))) ∧ Below w.heap.size w w' := by
  cases hw : (apartR (fun n m => decide (n = m)) n m L.reverse).1.any (·.2)
  · exact callsIn_wide.1 (grown_f old root A p c m n L w ho hr hp h9 hc hm h h1m hmn h63 hg hw)
  · exact callsIn_wide.1 (grown_t old root A p c m n L w ho hr hp h9 hc hm h h1m hmn h63 hg hw)
theorem lgrown_any (old root : List UInt8) (A : Option Addr) (p c : Nat) (m n : Int) (L : List (List UInt8)) (w : World) (ho : old.length = 32) (hr : root.length = 32) (h : Hs w w.heap.size A L) (hp : L.length = p) (hc : p ≤ c) (hm : c ≤ maxLen) (wn : (Lit.int .i64 n).wf = true) (hg : Glob w) :
    Calls Tryd.prog 3 #[.agg (bv old).toArray, .int .i64 m, .agg (bv root).toArray, .int .i64 n, .slice A p c] w fun e w' => e = .returned (.bool true) ∧ Below w.heap.size w w' := by
  have GS := Lib.hid hg.size
  by_cases h20 : p ≤ 20
  · by_cases hz : 1 ≤ m ∧ m ≤ n
    · have h63 := wf_i64 wn
      obtain ⟨m, rfl⟩ : ∃ j : Nat, m = (j : Int) := ⟨m.toNat, by omega⟩
      obtain ⟨n, rfl⟩ : ∃ j : Nat, n = (j : Int) := ⟨n.toNat, by omega⟩
      exact grown_core old root A p c m n _ w ho hr hg h20
        (Lib.hid fun W hb => grown_any old root A p c m n L W ho hr hp (by omega) hc hm ((h.below hb).more hb.size) (by omega) (by omega) (by omega) (hg.below hb GS.out))
        (Lib.hid fun W hb => rgrown_any old root A p c m n L W ho hr hp (by omega) hc hm ((h.below hb).more hb.size) (by omega) (by omega) (by omega))
    · have hz' : m < 1 ∨ n < m := by omega
      exact grown_core old root A p c m n false w ho hr hg h20 (Lib.hid fun W _ => grown_no old root A p c m n W hz') (Lib.hid fun W _ => rgrown_no old root A p c m n W hz')
  · exact grown_many old root A p c m n w hg h20
end Go.Proofs.YtfgdochpnnkpmaaDoor
