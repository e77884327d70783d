/- Contract of the sum of any bytes. Conditions: as stated at each. -/
import Derived.Test.YtlbmieeimnjncaaDoorDgJoin
namespace Go.Proofs.YtlbmieeimnjncaaDoor
set_option maxRecDepth 100000
open Go.RowKit Go
theorem join_one (A : Option Addr) (B c : Nat) (l : List UInt8) (w : World) (h : Bts w B A l) (hB : B ≤ w.heap.size) (hl : l.length ≤ c) (hc : c ≤ maxLen) (hm : l.length ≤ 900000000) (hg : Glob w) :
    Calls Tryd.prog 17 #[.slice (some ⟨w.heap.size, 0, none⟩) 1 1] (w.alloc (.cells #[.slice A l.length c] 33)) fun e w' => e = .returned (.agg (bv (sha l)).toArray) ∧ Below w.heap.size w w' := by
  have hj := join_any _ _ 1 [l] _ (Rws.one h hB hl hc) (by simp) (by simp) (by simpa using hm) (hg.alloc (.cells #[.slice A l.length c] 33))
  rw [show [l].flatten = l by simp] at hj
  refine Calls.mono hj fun e w' h => ⟨h.1, ?_⟩
  exact ((Below.refl w.heap.size w).alloc (Nat.le_refl _) _).trans (h.2.mono (by simp))
theorem sum_blk (w : World) (z : Array Value) (w2 : World) (hb : Below (w.heap.size + 1) (w.alloc (.cells z 22)) w2) : BlkIs w2 w.heap.size 22 z := (hb.block w.heap.size (by omega)).trans (BlkIs.new w 22 z)
theorem sum_bel (w : World) (o : Obj) (w2 : World) (hb : Below (w.heap.size + 1) (w.alloc o) w2) : Below w.heap.size w w2 := ((Below.refl w.heap.size w).alloc (Nat.le_refl _) o).trans (hb.mono (by omega))
set_option maxHeartbeats 400000 in
theorem sum_any (A : Option Addr) (B c : Nat) (l : List UInt8) (w : World) (h : Bts w B A l) (hB : B ≤ w.heap.size) (hl : l.length ≤ c) (hc : c ≤ maxLen) (hm : l.length ≤ 900000000) (hg : Glob w) :
    Calls Tryd.prog 20 #[.slice A l.length c] w fun e w' => e = .returned (.agg (bv (sha l)).toArray) ∧ Below w.heap.size w w' := by
  have GS := Lib.hid hg.size
  obtain ⟨n, hn⟩ : ∃ n, n = l.length := ⟨_, rfl⟩
  rw [← hn] at hm
  have HN := Lib.hid hn
  have hj : ∀ o : Obj, Calls Tryd.prog 17 #[.slice (some ⟨w.heap.size + 1, 0, none⟩) 1 1] ((w.alloc o).alloc (.cells #[.slice A l.length c] 33)) fun e w' => e = .returned (.agg (bv (sha l)).toArray) ∧ Below (w.heap.size + 1) (w.alloc o) w' := fun o => by
    have h1 := join_one A B c l (w.alloc o) (h.below ((Below.refl _ w).alloc hB o)) (by simp; omega) hl hc (by omega) (hg.alloc o)
    rw [show (w.alloc o).heap.size = w.heap.size + 1 by simp] at h1
    exact h1
  have HJ := Lib.hid hj
  have HI24 : Hid ((Tryd.prog.info? 22).map (·.size) = some (bv (sha l)).toArray.size) := Lib.hid (by rw [isz24, List.size_toArray, bv_length, sha_length])
  have hall := bv_all (sha l)
  have HN24 : Hid ((bv (sha l)).toArray.size = 32) := Lib.hid (by rw [List.size_toArray, bv_length, sha_length])
  clear hn hj
  go_enter Tryd.func20, Tryd.ntmps20
  go_wp2_with fail
  refine (HJ.out _).mono ?_
  rintro e w2 ⟨rfl, hb2⟩
  have hr2 := sum_blk w _ w2 hb2
  have hbl := sum_bel w _ w2 hb2
  have HBL := Lib.hid hbl
  have hr3 : ∃ z, BlkIs w2 w.heap.size 22 z ∧ z.size = 32 := ⟨_, hr2, rfl⟩
  clear hr2 hbl hb2
  obtain ⟨z0, hr, hz0⟩ := hr3
  generalize hX : (bv (sha l)).toArray = X at *
  have HX := Lib.hid hX
  have HA := Lib.hid hall
  have HZ0 : Hid (z0.size = X.size) := Lib.hid (by rw [hz0, HN24.out])
  clear hX hall hz0
  go_wp2_with (first
    | (with_reducible refine store_bl (.tmp 2) (.tmp 5) 22 w.heap.size 22 z0 X hr rfl rfl rfl rfl rfl HI24.out HZ0.out HA.out ?_; intro w4 hb4 ht4)
    | fail)
  refine ret_blk rfl w.heap.size 22 X hb4 _ rfl Tryd.underlying22 rfl HI24.out rfl ⟨by rw [HX.out], ?_⟩
  have h9 : Below w.heap.size w2 w4 := ht4.below HBL.out.size (fun i hi h => by omega)
  exact HBL.out.trans h9
end Go.Proofs.YtlbmieeimnjncaaDoor
