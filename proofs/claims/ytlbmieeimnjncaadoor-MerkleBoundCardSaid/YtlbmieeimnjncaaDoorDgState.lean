/- What the state of the sum holds behind some bytes, and how a step turns it. Conditions: none. -/
import Derived.Test.YtlbmieeimnjncaaDoorDgHigh
import Derived.Laws.CopyOwn
namespace Go.Proofs.YtlbmieeimnjncaaDoor
set_option maxRecDepth 100000
open Go.RowKit Go
/-- the state's cells. -/
def stv (s : S8) (blk : List UInt8) (z : Nat) : List Value := wv s.l ++ (bv blk ++ [Value.int .u64 (z : Int)])
theorem stv_length (s : S8) (blk : List UInt8) (z : Nat) (h : blk.length = 64) : (stv s blk z).length = 73 := by simp [stv, wv_length, bv_length, S8.length, h]
theorem stv_size (s : S8) (blk : List UInt8) (z : Nat) (h : blk.length = 64) : (stv s blk z)[72]? = some (.int .u64 (z : Int)) := by
  unfold stv
  rw [List.getElem?_append_right (by simp [wv_length, S8.length]), wv_length, S8.length, List.getElem?_append_right (by simp [bv_length, h]), bv_length, h]
  rfl
theorem stv_one (s : S8) (blk : List UInt8) (z : Nat) : ∀ u ∈ stv s blk z, u.oneCell' = true := by
  intro u hu
  simp only [stv, List.mem_append, List.mem_singleton] at hu
  rcases hu with hu | hu | rfl
  · exact wv_one _ u hu
  · exact bv_one _ u hu
  · rfl
theorem stv_all (s : S8) (blk : List UInt8) (z : Nat) : (stv s blk z).toArray.all (·.oneCell') = true := Array.all_eq_true_iff_forall_mem.2 fun u hu => stv_one s blk z u (by simpa using hu)
/-- behind the bytes m: the words, and a block that begins with what is left. -/
structure StOK (s : S8) (blk m : List UInt8) : Prop where
  ws : s = wsN m (m.length / 64)
  len : blk.length = 64
  rest : blk.take (m.length % 64) = m.drop (64 * (m.length / 64))
theorem StOK.ok {s : S8} {blk m : List UInt8} (h : StOK s blk m) : s.ok := by rw [h.ws]; exact wsN_ok _ _
theorem StOK.nil (blk : List UInt8) (h : blk.length = 64) : StOK init8 blk [] := ⟨rfl, h, by simp⟩
theorem splice_len (blk x : List UInt8) (r : Nat) (h : blk.length = 64) (hx : r + x.length ≤ 64) : (splice blk r x).length = 64 := by rw [length_splice _ _ _ (by omega)]; exact h
theorem splice_take (blk x : List UInt8) (r : Nat) (h : blk.length = 64) (hx : r + x.length ≤ 64) : (splice blk r x).take (r + x.length) = blk.take r ++ x := by
  unfold splice
  rw [← List.append_assoc, List.take_append_of_le_length (by simp; omega)]
  exact List.take_of_length_le (by simp; omega)
theorem stv_splice (s : S8) (blk x : List UInt8) (z r : Nat) (h : blk.length = 64) (hx : r + x.length ≤ 64) : splice (stv s blk z) (8 + r) (bv x) = stv s (splice blk r x) z := by
  have h8 : (wv s.l).length = 8 := by rw [wv_length, S8.length]
  unfold splice stv
  rw [List.take_append, List.drop_append, List.take_append_of_le_length (by rw [bv_length]; omega), List.drop_append_of_le_length (by rw [bv_length, bv_length]; omega),
    List.take_of_length_le (by omega), List.drop_eq_nil_of_le (by omega), bv_append, bv_append, h8, bv_length, show 8 + r - 8 = r from by omega, show 8 + r + x.length - 8 = r + x.length from by omega, bv_take, bv_drop]
  simp
/-- fewer bytes than a block lacks. -/
theorem StOK.some {s : S8} {blk m x : List UInt8} (h : StOK s blk m) (hx : m.length % 64 + x.length < 64) : StOK s (splice blk (m.length % 64) x) (m ++ x) := by
  have hq : (m ++ x).length / 64 = m.length / 64 := by rw [List.length_append]; omega
  have hr : (m ++ x).length % 64 = m.length % 64 + x.length := by rw [List.length_append]; omega
  refine ⟨?_, splice_len _ _ _ h.len (by omega), ?_⟩
  · rw [hq, wsN_append m x _ (by omega)]
    exact h.ws
  · rw [hr, hq, splice_take _ _ _ h.len (by omega), h.rest, List.drop_append_of_le_length (by omega)]
/-- as many as it lacks. -/
theorem StOK.full {s : S8} {blk m x : List UInt8} (h : StOK s blk m) (hx : m.length % 64 + x.length = 64) : StOK (mix s (splice blk (m.length % 64) x)) (splice blk (m.length % 64) x) (m ++ x) := by
  have hq : (m ++ x).length / 64 = m.length / 64 + 1 := by rw [List.length_append]; omega
  have hr : (m ++ x).length % 64 = 0 := by rw [List.length_append]; omega
  have hl := splice_len blk x (m.length % 64) h.len (by omega)
  have hs := splice_take blk x (m.length % 64) h.len (by omega)
  rw [hx, List.take_of_length_le (by omega), h.rest] at hs
  refine ⟨?_, hl, ?_⟩
  · rw [hq, wsN, wsN_append m x _ (by omega), ← h.ws, List.drop_append_of_le_length (by omega), ← hs]
    congr 1
    exact (List.take_of_length_le (by omega)).symm
  · rw [hr, hq, List.take_zero]
    exact (List.drop_eq_nil_of_le (by rw [List.length_append]; omega)).symm
end Go.Proofs.YtlbmieeimnjncaaDoor
