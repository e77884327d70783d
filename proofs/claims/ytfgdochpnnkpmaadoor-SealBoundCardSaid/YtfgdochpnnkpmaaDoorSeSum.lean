/- Contracts of a seal's sum: the program's, the document's. Conditions: as stated at each. -/
import Derived.Test.YtfgdochpnnkpmaaDoorSeBytes
import Derived.Test.YtfgdochpnnkpmaaDoorSeOf
namespace Go.Proofs.YtfgdochpnnkpmaaDoor
set_option maxRecDepth 100000
open Go.RowKit Go
def sumS (s : Sl) : List UInt8 := sha (bytesS s)
theorem sumS_length (s : Sl) : (sumS s).length = 32 := sha_length _
set_option maxHeartbeats 1600000 in
theorem sum_seal (s : Sl) (w : World) (hs : s.ok) (hg : Glob w) :
    Calls Tryd.prog 29 #[.agg (sc s).toArray] w fun e w' => e = .returned (.agg (bv (sumS s)).toArray) ∧ Below w.heap.size w w' := by
  have GS := Lib.hid hg.size
  have HS := Lib.hid hs
  have h0 := (two_blocks w (.cells (sc s).toArray 39) (.cells (bv (List.replicate 32 0)).toArray 22))
  have hb := below2 w (.cells (sc s).toArray 39) (.cells (bv (List.replicate 32 0)).toArray 22)
  have HL := Lib.hid (bytesS_length hs)
  have HI := Lib.hid (isz26a (sumS_length s))
  have HZ : Hid ((bv (List.replicate 32 0)).toArray.size = (bv (sumS s)).toArray.size) := Lib.hid (by rw [List.size_toArray, List.size_toArray, bv_length, bv_length, sumS_length]; rfl)
  have h0a : BlkIs _ w.heap.size 39 (sc s).toArray := h0.1
  have h0b : BlkIs _ (w.heap.size + 1) 22 (bv (List.replicate 32 0)).toArray := h0.2
  clear hs h0
  go_enter Tryd.func29, Tryd.ntmps29
  go_wp2_with (first
    | (refine load_blk (.tmp 1) 39 w.heap.size 39 (sc s).toArray h0a rfl rfl rfl _ Tryd.underlying39 rfl (isz39a HS.out) ?_)
    | fail)
  refine (bytes_any s _ HS.out).mono ?_
  rintro e w2 ⟨g, rfl, hB, hg1, hb2⟩
  have k2 : Below w.heap.size w w2 := hb.trans (hb2.mono (by simp; omega))
  have h5 : BlkIs w2 (w.heap.size + 1) 22 (bv (List.replicate 32 0)).toArray := (hb2.block _ h0b.lt).trans h0b
  have hbt : Bts w2 w2.heap.size (some ⟨g, 0, none⟩) (bytesS s) := BlkIs.bts hB hB.lt
  have HSM : Hid (Calls Tryd.prog 50 #[.slice (some ⟨g, 0, none⟩) 72 72] w2 fun e w' => e = .returned (.agg (bv (sumS s)).toArray) ∧ Below w2.heap.size w2 w') := Lib.hid (by
    have := sum_any (some ⟨g, 0, none⟩) w2.heap.size 72 (bytesS s) w2 hbt (Nat.le_refl _) (by rw [HL.out]; omega) (by unfold maxLen; omega) (by rw [HL.out]; omega) (hg.below k2 GS.out)
    rw [HL.out] at this
    exact this)
  clear h0a h0b hb hb2 hbt hB hg1 hg
  go_wp2_with fail
  refine HSM.out.mono ?_
  rintro e w3 ⟨rfl, hb3⟩
  have h6 : BlkIs w3 (w.heap.size + 1) 22 (bv (List.replicate 32 0)).toArray := (hb3.block _ h5.lt).trans h5
  have k3 : Below w.heap.size w w3 := k2.trans (hb3.mono k2.size)
  clear hb3 h5 k2
  go_wp2_with (first
    | (refine store_bl (.tmp 2) (.tmp 5) 22 (w.heap.size + 1) 22 _ (bv (sumS s)).toArray h6 rfl rfl rfl rfl rfl HI.out HZ.out (bv_all _) ?_; intro w4 hb4 ht4)
    | fail)
  exact ret_blk rfl (w.heap.size + 1) 22 _ hb4 _ rfl Tryd.underlying22 rfl HI.out rfl ⟨rfl, k3.trans (ht4.below k3.size (fun i hi h => by omega))⟩
set_option maxHeartbeats 1600000 in
theorem rsum_seal (s : Sl) (w : World) (hs : s.ok) :
    Calls Tryd.prog 30 #[.agg (sc s).toArray] w fun e w' => e = .returned (.agg (bv (sumS s)).toArray) ∧ Below w.heap.size w w' := by
  have HS := Lib.hid hs
  have h0 := (two_blocks w (.cells (sc s).toArray 39) (.cells (bv (List.replicate 32 0)).toArray 22))
  have hb := below2 w (.cells (sc s).toArray 39) (.cells (bv (List.replicate 32 0)).toArray 22)
  have HL := Lib.hid (bytesS_length hs)
  have HI := Lib.hid (isz26a (sumS_length s))
  have HZ : Hid ((bv (List.replicate 32 0)).toArray.size = (bv (sumS s)).toArray.size) := Lib.hid (by rw [List.size_toArray, List.size_toArray, bv_length, bv_length, sumS_length]; rfl)
  have h0a : BlkIs _ w.heap.size 39 (sc s).toArray := h0.1
  have h0b : BlkIs _ (w.heap.size + 1) 22 (bv (List.replicate 32 0)).toArray := h0.2
  clear hs h0
  go_enter Tryd.func30, Tryd.ntmps30
  go_wp2_with (first
    | (refine load_blk (.tmp 1) 39 w.heap.size 39 (sc s).toArray h0a rfl rfl rfl _ Tryd.underlying39 rfl (isz39a HS.out) ?_)
    | fail)
  refine (rbytes_any s _ HS.out).mono ?_
  rintro e w2 ⟨A, c, rfl, hc, hm, hbt, hb2⟩
  have k2 : Below w.heap.size w w2 := hb.trans (hb2.mono (by simp; omega))
  have h5 : BlkIs w2 (w.heap.size + 1) 22 (bv (List.replicate 32 0)).toArray := (hb2.block _ h0b.lt).trans h0b
  have HSM : Hid (Calls Tryd.prog 53 #[.slice A 72 c] w2 fun e w' => e = .returned (.agg (bv (sumS s)).toArray) ∧ Below w2.heap.size w2 w') := Lib.hid (by
    have := rsum_any A w2.heap.size c (bytesS s) w2 hbt (Nat.le_refl _) (by rw [HL.out]; omega)
    rw [HL.out] at this
    exact this)
  clear h0a h0b hb hb2 hbt hc hm
  go_wp2_with fail
  refine HSM.out.mono ?_
  rintro e w3 ⟨rfl, hb3⟩
  have h6 : BlkIs w3 (w.heap.size + 1) 22 (bv (List.replicate 32 0)).toArray := (hb3.block _ h5.lt).trans h5
  have k3 : Below w.heap.size w w3 := k2.trans (hb3.mono k2.size)
  clear hb3 h5 k2
  go_wp2_with (first
    | (refine store_bl (.tmp 2) (.tmp 5) 22 (w.heap.size + 1) 22 _ (bv (sumS s)).toArray h6 rfl rfl rfl rfl rfl HI.out HZ.out (bv_all _) ?_; intro w4 hb4 ht4)
    | fail)
  exact ret_blk rfl (w.heap.size + 1) 22 _ hb4 _ rfl Tryd.underlying22 rfl HI.out rfl ⟨rfl, k3.trans (ht4.below k3.size (fun i hi h => by omega))⟩
end Go.Proofs.YtfgdochpnnkpmaaDoor
