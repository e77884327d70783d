/- The rounds of the document's turn over one block: what stands in them. Conditions: as stated at each. -/
import Derived.Test.YtlbmieeimnjncaaDoorDgOneA
namespace Go.Proofs.YtlbmieeimnjncaaDoor
set_option maxRecDepth 100000
open Go.RowKit Go
theorem and_xor_or (e f g : Nat) : (e &&& f) ^^^ ((4294967295 ^^^ e) &&& g) = if e < 4294967296 then (e &&& f) ||| ((4294967295 ^^^ e) &&& g) else (e &&& f) ^^^ ((4294967295 ^^^ e) &&& g) := by
  split
  · rename_i h
    apply Nat.eq_of_testBit_eq
    intro i
    simp only [Nat.testBit_xor, Nat.testBit_and, Nat.testBit_or]
    by_cases hi : i < 32
    · have h1 : (4294967295 : Nat).testBit i = true := by
        rw [show (4294967295 : Nat) = 2 ^ 32 - 1 from rfl, Nat.testBit_two_pow_sub_one]
        exact decide_eq_true hi
      rw [h1]
      cases e.testBit i <;> cases f.testBit i <;> cases g.testBit i <;> rfl
    · have h0 : e.testBit i = false := Nat.testBit_lt_two_pow (Nat.lt_of_lt_of_le h (by
        have := Nat.pow_le_pow_right (n := 2) (by omega) (show 32 ≤ i by omega)
        simpa using this))
      rw [h0]
      cases f.testBit i <;> cases g.testBit i <;> simp
  · rfl
theorem ch_val2 {e f g : Nat} (he : e < 4294967296) (hf : f < 4294967296) (hg : g < 4294967296) :
    bits .xor .u32 (bits .and .u32 (e : Int) (f : Int)) (bits .and .u32 (bits .xor .u32 (if IntKind.u32.signed = true then -1 else IntKind.u32.max) (e : Int)) (g : Int)) = ((chf e f g : Nat) : Int) := by
  rw [show (if IntKind.u32.signed = true then (-1 : Int) else IntKind.u32.max) = ((4294967295 : Nat) : Int) from rfl, u32_xor_nat _ _ (by decide) he, u32_and_nat _ _ he hf, u32_and_nat _ _ (xor_lt' (by decide) he) hg,
    u32_xor_nat _ _ (and_lt _ he) (and_lt _ (xor_lt' (by decide) he)), and_xor_or, if_pos he]
  rfl
/-- what stands in loop 2. -/
structure TwoW (N : Nat) (W wr : World) (blk : List UInt8) (A1 : Option Addr) (s : S8) (gw g c k : Nat) (cur : Array Value) : Prop where
  words : ∀ j, j < 64 → wr.cell? ⟨gw, j, none⟩ = some (.int .u32 (((wl blk 64).getD j 0 : Nat) : Int))
  gwl : gw < wr.heap.size
  v : BlkIs wr g 58 cur
  vs : ∀ (j : Nat) (u : Value), (wv (rnds blk s k).l)[j]? = some u → cur[j]? = some u
  fin : 1 ≤ k → cur = (wv (rnds blk s k).l).toArray ∧ c = 8
  st : Cs wr N A1 (wv s.l)
  low : N ≤ g
  below : Below N W wr
theorem TwoW.more {N : Nat} {W wr w1 : World} {blk : List UInt8} {A1 : Option Addr} {s : S8} {gw g c k : Nat} {cur : Array Value} (h : TwoW N W wr blk A1 s gw g c k cur) (b : Below wr.heap.size wr w1) : TwoW N W w1 blk A1 s gw g c k cur := by
  have hN : N ≤ wr.heap.size := by have := h.v.lt; have := h.low; omega
  exact ⟨fun j hj => (b.cell (p := ⟨gw, j, none⟩) h.gwl).trans (h.words j hj), Nat.lt_of_lt_of_le h.gwl b.size, (b.block _ h.v.lt).trans h.v, h.vs, h.fin, h.st.below (b.mono hN), h.low, h.below.trans (b.mono hN)⟩
theorem TwoW.alk {N : Nat} {W wr w1 : World} {blk : List UInt8} {A1 : Option Addr} {s : S8} {gw g c k : Nat} {cur : Array Value} (h : TwoW N W wr blk A1 s gw g c k cur) (a : Alk wr w1) : TwoW N W w1 blk A1 s gw g c k cur := h.more (a.below _)
theorem TwoW.at {N : Nat} {W wr : World} {blk : List UInt8} {A1 : Option Addr} {s : S8} {gw g c k : Nat} {cur : Array Value} (h : TwoW N W wr blk A1 s gw g c k cur) {r : S8} (hr : rnds blk s k = r) :
    wr.cell? ⟨g, 0, none⟩ = some (.int .u32 (r.a : Int)) ∧ wr.cell? ⟨g, 1, none⟩ = some (.int .u32 (r.b : Int)) ∧ wr.cell? ⟨g, 2, none⟩ = some (.int .u32 (r.c : Int)) ∧ wr.cell? ⟨g, 3, none⟩ = some (.int .u32 (r.d : Int)) ∧
      wr.cell? ⟨g, 4, none⟩ = some (.int .u32 (r.e : Int)) ∧ wr.cell? ⟨g, 5, none⟩ = some (.int .u32 (r.f : Int)) ∧ wr.cell? ⟨g, 6, none⟩ = some (.int .u32 (r.g : Int)) ∧ wr.cell? ⟨g, 7, none⟩ = some (.int .u32 (r.h : Int)) := by
  subst hr
  refine ⟨?_, ?_, ?_, ?_, ?_, ?_, ?_, ?_⟩
  all_goals rw [h.v.cell]; exact h.vs _ _ rfl
theorem TwoW.next {N : Nat} {W wr : World} {blk : List UInt8} {A1 : Option Addr} {s : S8} {gw g c k : Nat} {cur : Array Value} (h : TwoW N W wr blk A1 s gw g c k cur) (l : S8) (hl : rnds blk s (k + 1) = l) :
    TwoW N W (wr.alloc (.cells (wv l.l).toArray 58)) blk A1 s gw wr.heap.size 8 (k + 1) (wv l.l).toArray := by
  subst hl
  have h2 := h.more ((Below.refl wr.heap.size wr).alloc (Nat.le_refl _) (.cells (wv (rnds blk s (k + 1)).l).toArray 58))
  have hN : N ≤ wr.heap.size := by have := h.v.lt; have := h.low; omega
  exact ⟨h2.words, h2.gwl, BlkIs.new _ _ _, fun j u hj => by simpa using hj, fun _ => ⟨rfl, rfl⟩, h2.st, hN, h2.below⟩
end Go.Proofs.YtlbmieeimnjncaaDoor
