/- Contracts of Holds: the program's, the document's. Conditions: as stated at each. -/
import Derived.Test.YtfgdochpnnkpmaaDoorSeSum
namespace Go.Proofs.YtfgdochpnnkpmaaDoor
set_option maxRecDepth 100000
open Go.RowKit Go
/-- whether a seal is of these leaves. -/
def holdsS (s : Sl) (L : List (List UInt8)) : Bool := decide (1 ≤ s.seg ∧ s.seg ≤ 999999) && eqS ⟨s.seg, L.length, rootS L, s.prev⟩ s
set_option maxHeartbeats 1600000 in
theorem holds_any (s : Sl) (A : Option Addr) (n c : Nat) (L : List (List UInt8)) (w : World) (hs : s.ok) (hn : L.length = n) (h20 : n ≤ 20) (hc : n ≤ c) (hm : c ≤ maxLen) (h : Hs w w.heap.size A L) (hg : Glob w) :
    Calls Tryd.prog 35 #[.agg (sc s).toArray, .slice A n c] w fun e w' => e = .returned (.bool (holdsS s L)) ∧ Below w.heap.size w w' := by
  have GS := Lib.hid hg.size
  have HS := Lib.hid hs
  have h0 : BlkIs (w.alloc (.cells (sc s).toArray 39)) w.heap.size 39 (sc s).toArray := BlkIs.new w _ _
  have hb := below1 w (.cells (sc s).toArray 39)
  have c0 := sc_seg h0
  have rp := sc_prev hs h0
  by_cases hseg : 1 ≤ s.seg ∧ s.seg ≤ 999999
  · have hOK : Sl.ok ⟨s.seg, n, rootS L, s.prev⟩ := ⟨rootS_length h.1, hs.2⟩
    have HF : Hid (holdsS s L = eqS ⟨s.seg, n, rootS L, s.prev⟩ s) := Lib.hid (by unfold holdsS; rw [hn, decide_eq_true hseg]; rfl)
    have HOF : Hid (∀ W, Below w.heap.size w W → Calls Tryd.prog 25 #[.int .i64 s.seg, .slice A n c, .agg (bv s.prev).toArray] W fun e w' => e = .returned (.tuple #[.agg (sc ⟨s.seg, n, rootS L, s.prev⟩).toArray, .int .i64 0]) ∧ Below W.heap.size W w') := Lib.hid fun W hb =>
      of_any s.seg A n c L s.prev W hs.2 hn h20 hc hm ((h.below hb).more hb.size) hseg.1 hseg.2 (hg.below hb GS.out)
    generalize (⟨s.seg, n, rootS L, s.prev⟩ : Sl) = x at *
    have HX := Lib.hid hOK
    have heq := fun w => run_eq39 x s HX.out HS.out w
    clear hOK hs hseg h hn hc hm h20 hg
    generalize eqS x s = b at *
    go_enter Tryd.func35, Tryd.ntmps35
    go_wp2_with (first
      | (refine load_wt (by rfl) 22 (.tmp 11) rfl w.heap.size 34 rfl (bv s.prev) _ rp Tryd.underlying22 rfl (isz26s HS.out.2) ?_)
      | fail)
    refine (HOF.out _ hb).mono ?_
    rintro e w2 ⟨rfl, hb2⟩
    have k2 : Below w.heap.size w w2 := hb.trans (hb2.mono (by simp))
    have hs2 : BlkIs w2 w.heap.size 39 (sc s).toArray := (hb2.block _ h0.lt).trans h0
    clear c0 rp h0 hb hb2
    go_wp2_with (first
      | (refine store_bl (.tmp 5) (.tmp 14) 39 w2.heap.size 39 _ (sc x).toArray (BlkIs.new w2 _ _) rfl rfl rfl rfl rfl (isz39a HX.out) (sc_size zeroS_ok HX.out) (sc_all _) ?_; intro w3 hb3 ht3; have k3 : Below w2.heap.size w2 w3 := (below1 w2 _).trans (ht3.below (by simp) (fun i hi h => by omega)); have r5 : w3.rangeAt w2.heap.size 0 (sc x) := blk_rng hb3; have r2 : w3.rangeAt w.heap.size 0 (sc s) := blk_rng ((k3.block _ hs2.lt).trans hs2); clear ht3 hb3)
      | (refine load_wt (by rfl) 39 (.tmp 5) rfl w2.heap.size 0 rfl (sc x) _ r5 Tryd.underlying39 rfl (isz39s HX.out) ?_)
      | (refine load_wt (by rfl) 39 (.tmp 2) rfl w.heap.size 0 rfl (sc s) _ r2 Tryd.underlying39 rfl (isz39s HS.out) ?_)
      | fail)
    go_ret
    exact ⟨by rw [HF.out]; rfl, k2.trans (k3.mono k2.size)⟩
  · have HF : Hid (holdsS s L = false) := Lib.hid (by unfold holdsS; rw [decide_eq_false hseg]; rfl)
    have hno : s.seg < 1 ∨ 999999 < s.seg := by omega
    have HOF : Hid (∀ W, Calls Tryd.prog 25 #[.int .i64 s.seg, .slice A n c, .agg (bv s.prev).toArray] W fun e w' => e = .returned (.tuple #[.agg (sc zeroS).toArray, .int .i64 1]) ∧ Below W.heap.size W w') := Lib.hid fun W => of_no s.seg A n c s.prev W hno
    clear hs hseg hno h hn hc hm h20 hg
    go_enter Tryd.func35, Tryd.ntmps35
    go_wp2_with (first
      | (refine load_wt (by rfl) 22 (.tmp 11) rfl w.heap.size 34 rfl (bv s.prev) _ rp Tryd.underlying22 rfl (isz26s HS.out.2) ?_)
      | fail)
    refine (HOF.out _).mono ?_
    rintro e w2 ⟨rfl, hb2⟩
    have k2 : Below w.heap.size w w2 := hb.trans (hb2.mono (by simp))
    clear c0 rp h0 hb hb2
    go_wp2_with (first
      | (refine store_bl (.tmp 5) (.tmp 14) 39 w2.heap.size 39 _ (sc zeroS).toArray (BlkIs.new w2 _ _) rfl rfl rfl rfl rfl (isz39a zeroS_ok) (sc_size zeroS_ok zeroS_ok) (sc_all _) ?_; intro w3 hb3 ht3; have k3 : Below w2.heap.size w2 w3 := (below1 w2 _).trans (ht3.below (by simp) (fun i hi h => by omega)); clear ht3 hb3)
      | fail)
    go_ret
    exact ⟨by rw [HF.out]; rfl, k2.trans (k3.mono k2.size)⟩
set_option maxHeartbeats 1600000 in
theorem rholds_any (s : Sl) (A : Option Addr) (n c : Nat) (L : List (List UInt8)) (w : World) (hs : s.ok) (hn : L.length = n) (h20 : n ≤ 20) (hc : n ≤ c) (hm : c ≤ maxLen) (h : Hs w w.heap.size A L) (hg : Glob w) :
    Calls Tryd.prog 36 #[.agg (sc s).toArray, .slice A n c] w fun e w' => e = .returned (.bool (holdsS s L)) ∧ Below w.heap.size w w' := by
  have GS := Lib.hid hg.size
  have HS := Lib.hid hs
  have h0 : BlkIs (w.alloc (.cells (sc s).toArray 39)) w.heap.size 39 (sc s).toArray := BlkIs.new w _ _
  have hb := below1 w (.cells (sc s).toArray 39)
  have c0 := sc_seg h0
  have rp := sc_prev hs h0
  by_cases hseg : 1 ≤ s.seg ∧ s.seg ≤ 999999
  · have hOK : Sl.ok ⟨s.seg, n, rootS L, s.prev⟩ := ⟨rootS_length h.1, hs.2⟩
    have HF : Hid (holdsS s L = eqS ⟨s.seg, n, rootS L, s.prev⟩ s) := Lib.hid (by unfold holdsS; rw [hn, decide_eq_true hseg]; rfl)
    have HOF : Hid (∀ W, Below w.heap.size w W → Calls Tryd.prog 26 #[.int .i64 s.seg, .slice A n c, .agg (bv s.prev).toArray] W fun e w' => e = .returned (.tuple #[.agg (sc ⟨s.seg, n, rootS L, s.prev⟩).toArray, .int .i64 0]) ∧ Below W.heap.size W w') := Lib.hid fun W hb =>
      rof_any s.seg A n c L s.prev W hs.2 hn h20 hc hm ((h.below hb).more hb.size) hseg.1 hseg.2 (hg.below hb GS.out)
    generalize (⟨s.seg, n, rootS L, s.prev⟩ : Sl) = x at *
    have HX := Lib.hid hOK
    have heq := fun w => run_eq39 x s HX.out HS.out w
    clear hOK hs hseg h hn hc hm h20 hg
    generalize eqS x s = b at *
    go_enter Tryd.func36, Tryd.ntmps36
    go_wp2_with (first
      | (refine load_wt (by rfl) 22 (.tmp 11) rfl w.heap.size 34 rfl (bv s.prev) _ rp Tryd.underlying22 rfl (isz26s HS.out.2) ?_)
      | fail)
    refine (HOF.out _ hb).mono ?_
    rintro e w2 ⟨rfl, hb2⟩
    have k2 : Below w.heap.size w w2 := hb.trans (hb2.mono (by simp))
    have hs2 : BlkIs w2 w.heap.size 39 (sc s).toArray := (hb2.block _ h0.lt).trans h0
    clear c0 rp h0 hb hb2
    go_wp2_with (first
      | (refine store_bl (.tmp 5) (.tmp 14) 39 w2.heap.size 39 _ (sc x).toArray (BlkIs.new w2 _ _) rfl rfl rfl rfl rfl (isz39a HX.out) (sc_size zeroS_ok HX.out) (sc_all _) ?_; intro w3 hb3 ht3; have k3 : Below w2.heap.size w2 w3 := (below1 w2 _).trans (ht3.below (by simp) (fun i hi h => by omega)); have r5 : w3.rangeAt w2.heap.size 0 (sc x) := blk_rng hb3; have r2 : w3.rangeAt w.heap.size 0 (sc s) := blk_rng ((k3.block _ hs2.lt).trans hs2); clear ht3 hb3)
      | (refine load_wt (by rfl) 39 (.tmp 5) rfl w2.heap.size 0 rfl (sc x) _ r5 Tryd.underlying39 rfl (isz39s HX.out) ?_)
      | (refine load_wt (by rfl) 39 (.tmp 2) rfl w.heap.size 0 rfl (sc s) _ r2 Tryd.underlying39 rfl (isz39s HS.out) ?_)
      | fail)
    go_ret
    exact ⟨by rw [HF.out]; rfl, k2.trans (k3.mono k2.size)⟩
  · have HF : Hid (holdsS s L = false) := Lib.hid (by unfold holdsS; rw [decide_eq_false hseg]; rfl)
    have hno : s.seg < 1 ∨ 999999 < s.seg := by omega
    have HOF : Hid (∀ W, Calls Tryd.prog 26 #[.int .i64 s.seg, .slice A n c, .agg (bv s.prev).toArray] W fun e w' => e = .returned (.tuple #[.agg (sc zeroS).toArray, .int .i64 1]) ∧ Below W.heap.size W w') := Lib.hid fun W => rof_no s.seg A n c s.prev W hno
    clear hs hseg hno h hn hc hm h20 hg
    go_enter Tryd.func36, Tryd.ntmps36
    go_wp2_with (first
      | (refine load_wt (by rfl) 22 (.tmp 11) rfl w.heap.size 34 rfl (bv s.prev) _ rp Tryd.underlying22 rfl (isz26s HS.out.2) ?_)
      | fail)
    refine (HOF.out _).mono ?_
    rintro e w2 ⟨rfl, hb2⟩
    have k2 : Below w.heap.size w w2 := hb.trans (hb2.mono (by simp))
    clear c0 rp h0 hb hb2
    go_wp2_with (first
      | (refine store_bl (.tmp 5) (.tmp 14) 39 w2.heap.size 39 _ (sc zeroS).toArray (BlkIs.new w2 _ _) rfl rfl rfl rfl rfl (isz39a zeroS_ok) (sc_size zeroS_ok zeroS_ok) (sc_all _) ?_; intro w3 hb3 ht3; have k3 : Below w2.heap.size w2 w3 := (below1 w2 _).trans (ht3.below (by simp) (fun i hi h => by omega)); clear ht3 hb3)
      | fail)
    go_ret
    exact ⟨by rw [HF.out]; rfl, k2.trans (k3.mono k2.size)⟩
end Go.Proofs.YtfgdochpnnkpmaaDoor
