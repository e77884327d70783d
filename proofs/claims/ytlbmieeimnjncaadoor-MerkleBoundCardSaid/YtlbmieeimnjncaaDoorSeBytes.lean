/- Contracts of a seal's bytes: lay, Bytes, the document's four. Conditions: as stated at each. -/
import Derived.Test.YtlbmieeimnjncaaDoorSeMem
import Derived.Test.YtlbmieeimnjncaaDoorDgEnd
import Derived.Test.YtlbmieeimnjncaaDoorMkIn
import Derived.Test.YtlbmieeimnjncaaDoorMkRNode
namespace Go.Proofs.YtlbmieeimnjncaaDoor
set_option maxRecDepth 100000
open Go.RowKit Go
theorem nb0 (n : Int) : n % 256 = ((nb n 0).toNat : Int) := by have := nb_int n 0; simpa using this
theorem nb1 (n : Int) : n / 256 % 256 = ((nb n 1).toNat : Int) := by have := nb_int n 1; simpa using this
theorem nb2 (n : Int) : n / 65536 % 256 = ((nb n 2).toNat : Int) := by have := nb_int n 2; simpa using this
theorem nb3 (n : Int) : n / 16777216 % 256 = ((nb n 3).toNat : Int) := by have := nb_int n 3; simpa using this
/-- between two rounds. -/
def midB (n : Int) (old : List UInt8) (k : Nat) : List UInt8 := (fourB n).take k ++ old.drop k
theorem mid_set (n : Int) (pre post : List UInt8) (a b c d : UInt8) (o k : Nat) (ho : pre.length = o) (hk : k < 4) (v : Value) (hv : v = .int .u8 (((fourB n).getD k 0).toNat : Int)) :
    (bv (pre ++ (midB n [a, b, c, d] k ++ post))).toArray.setIfInBounds (o + k) v = (bv (pre ++ (midB n [a, b, c, d] (k + 1) ++ post))).toArray := by
  subst hv
  subst ho
  apply Array.toList_inj.1
  rcases k with _ | _ | _ | _ | k
  · simp [bv, midB, fourB]
  · simp [bv, midB, fourB]
  · simp [bv, midB, fourB]
  · simp [bv, midB, fourB]
  · omega
theorem mid_get (n : Int) (pre post : List UInt8) (a b c d : UInt8) (o k : Nat) (ho : pre.length = o) (hk : k < 4) : ∃ u : UInt8, (bv (pre ++ (midB n [a, b, c, d] k ++ post)))[o + k]? = some (.int .u8 (u.toNat : Int)) := by
  subst ho
  rcases k with _ | _ | _ | _ | k
  · exact ⟨a, by simp [bv, midB, fourB]⟩
  · exact ⟨b, by simp [bv, midB, fourB]⟩
  · exact ⟨c, by simp [bv, midB, fourB]⟩
  · exact ⟨d, by simp [bv, midB, fourB]⟩
  · omega
theorem cut45 (g o l c k : Nat) (hk : k ≤ l) (hkc : k < c) (w : World) : (Instr.slice 33 (.slice (some ⟨g, o, none⟩) l c) (some (.int .i64 k)) none none).run Tryd.prog w = .ok (.slice (some ⟨g, o + k, none⟩) (l - k) (c - k)) w := by
  obtain ⟨i, hi, hz, h0, h1⟩ := info_parts info5
  have e1 : (k : Int) ≤ (l : Int) := by omega
  have e2 : ¬ c = k := by omega
  simp [Instr.slice, run_underlying Tryd.underlying33, Instr.sliceBounds, Instr.sliceBound, asIntOf, Sem.run_bind, hk, e2, sizeOf, typeInfo, hi, h0, add_at]
theorem isl26o (g o : Nat) (w : World) : (Instr.sliceAt 22 (.pointer (some ⟨g, o, none⟩)) none none none).run Tryd.prog w = .ok (.slice (some ⟨g, o, none⟩) 32 32) w := by
  obtain ⟨i, hi, _, h0, _⟩ := info_parts info5
  simp [Instr.sliceAt, run_underlying Tryd.underlying22, Instr.sliceBounds, Sem.run_bind, sizeOf, typeInfo, hi, Instr.sureAddr, add_at]
theorem splice_mid (a b c m : List UInt8) (o : Nat) (ho : a.length = o) (hb : b.length = m.length) : splice (bv (a ++ (b ++ c))) o (bv m) = bv (a ++ (m ++ c)) := by
  unfold splice
  rw [bv_append, bv_append, bv_append, bv_append, List.take_left' (by rw [bv_length, ho]), bv_length, ← hb, ← List.drop_drop, List.drop_left' (by rw [bv_length, ho]), List.drop_left' (by rw [bv_length])]
theorem own_blk {W : World} {N g n : Nat} {l : List UInt8} (h : BlkIs W g 5 (bv l).toArray) (hN : N ≤ g) (hl : l.length = n) (hn : n ≤ 100000) : W.ownsRow N 5 1 (.slice (some ⟨g, 0, none⟩) n n) n (bv l) :=
  ⟨by rw [bv_length, hl]; omega, .inr ⟨g, n, _, rfl, hN, h, Nat.le_refl _, by unfold maxLen; omega, by rw [List.size_toArray, bv_length, hl]; omega, by rw [List.take_of_length_le (by rw [bv_length, hl]; omega)]⟩⟩
end Go.Proofs.YtlbmieeimnjncaaDoor
