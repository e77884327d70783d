/- The walks of SealParses, SealBack. Conditions: as stated. -/
import Derived.Test.YtfgdochpnnkpmaaDoorSeAwake
import Derived.Test.YtfgdochpnnkpmaaDoorSeParse
namespace Go.Proofs.YtfgdochpnnkpmaaDoor
set_option maxRecDepth 100000
open Go.RowKit Go
theorem parseR_len {l : List UInt8} (h : l.length ≠ 72) : parseR l = (zeroS, 60) := by
  unfold parseR
  rw [if_neg (fun e => h e.1)]
theorem parse_gen (A : Option Addr) (B n c : Nat) (l : List UInt8) (w : World) (h : Bts w B A l) (hB : B ≤ w.heap.size) (hn : l.length = n) (hc : n ≤ c) :
    Calls Tryd.prog 31 #[.slice A n c] w fun e w' => e = .returned (.tuple #[.agg (sc (parseR l).1).toArray, .int .i64 (parseR l).2]) ∧ Below w.heap.size w w' := by
  by_cases h72 : n = 72
  · subst h72
    exact parse_any A B c l w h hB hn hc
  · rw [parseR_len (by rw [hn]; exact h72)]
    exact parse_len A n c w h72
theorem rparse_gen (A : Option Addr) (B n c : Nat) (l : List UInt8) (w : World) (h : Bts w B A l) (hB : B ≤ w.heap.size) (hn : l.length = n) (hc : n ≤ c) :
    Calls Tryd.prog 32 #[.slice A n c] w fun e w' => e = .returned (.tuple #[.agg (sc (parseR l).1).toArray, .int .i64 (parseR l).2]) ∧ Below w.heap.size w w' := by
  by_cases h72 : n = 72
  · subst h72
    exact rparse_any A B c l w h hB hn hc
  · rw [parseR_len (by rw [hn]; exact h72)]
    exact rparse_len A n c w h72
set_option maxHeartbeats 1600000 in
theorem lparses_any (A : Option Addr) (n c : Nat) (l : List UInt8) (w : World) (h : Bts w w.heap.size A l) (hn : l.length = n) (hc : n ≤ c) (hg : Glob w) :
    Calls Tryd.prog 8 #[.slice A n c] w fun e w' => e = .returned (.bool true) ∧ Below w.heap.size w w' := by
  have GS := Lib.hid hg.size
  have HG : Hid (∀ W, Below w.heap.size w W → Glob W) := Lib.hid fun W hb => hg.below hb GS.out
  have HAW : Hid (∀ W, Below w.heap.size w W → Calls Tryd.prog 23 #[] W fun e w' => e = .returned (.bool true) ∧ Below W.heap.size W w') := Lib.hid fun W hb => awake6 W (HG.out W hb)
  have HX := Lib.hid (parseR_ok l)
  have HO : Hid (∀ W, Below w.heap.size w W → Calls Tryd.prog 31 #[.slice A n c] W fun e w' => e = .returned (.tuple #[.agg (sc (parseR l).1).toArray, .int .i64 (parseR l).2]) ∧ Below W.heap.size W w') := Lib.hid fun W hb => parse_gen A w.heap.size n c l W (h.below hb) hb.size hn hc
  have HR : Hid (∀ W, Below w.heap.size w W → Calls Tryd.prog 32 #[.slice A n c] W fun e w' => e = .returned (.tuple #[.agg (sc (parseR l).1).toArray, .int .i64 (parseR l).2]) ∧ Below W.heap.size W w') := Lib.hid fun W hb => rparse_gen A w.heap.size n c l W (h.below hb) hb.size hn hc
  generalize (parseR l).1 = x at *
  generalize (parseR l).2 = er at *
  have heq := fun w => run_eq39 x x HX.out HX.out w
  rw [eqS_self] at heq
  have hbw : Below w.heap.size w w := Below.refl _ _
  clear h hn hc hg
  by_cases h200 : 200 < n
  · have n200 : (200 : Int) < (n : Int) := by omega
    go_enter Tryd.func8, Tryd.ntmps8
    go_wp2_with fail
    refine (HAW.out _ hbw).mono ?_
    rintro e w2 ⟨rfl, hb2⟩
    go_wp2_with fail
    go_ret
    exact ⟨rfl, hb2⟩
  · have n200 : ¬ (200 : Int) < (n : Int) := by omega
    go_enter Tryd.func8, Tryd.ntmps8
    go_wp2_with fail
    refine (HAW.out _ hbw).mono ?_
    rintro e w2 ⟨rfl, hb2⟩
    clear HAW
    go_wp2_with fail
    refine (HO.out _ hb2).mono ?_
    rintro e w4 ⟨rfl, hb4⟩
    have K4 := Lib.hid (hb2.trans (hb4.mono hb2.size))
    clear hb4 HO
    go_wp2_with (first
      | (refine store_bl (.tmp 3) (.tmp 15) 39 w4.heap.size 39 _ (sc x).toArray (BlkIs.new w4 _ _) rfl rfl rfl rfl rfl (isz39a HX.out) (sc_size zeroS_ok HX.out) (sc_all _) ?_; intro w5 hb5 ht5; have k5 : Below w4.heap.size w4 w5 := (below1 w4 _).trans (ht5.below (by simp) (fun i hi h => by omega)); have K5 := Lib.hid (K4.out.trans (k5.mono K4.out.size)); clear ht5 k5)
      | fail)
    refine (HR.out _ K5.out).mono ?_
    rintro e w6 ⟨rfl, hb6⟩
    have X6 : BlkIs w6 w4.heap.size 39 (sc x).toArray := (hb6.block _ hb5.lt).trans hb5
    have K6 := Lib.hid (K5.out.trans (hb6.mono K5.out.size))
    clear hb6 hb5 HR
    go_wp2_with (first
      | (refine store_bl (.tmp 5) (.tmp 20) 39 w6.heap.size 39 _ (sc x).toArray (BlkIs.new w6 _ _) rfl rfl rfl rfl rfl (isz39a HX.out) (sc_size zeroS_ok HX.out) (sc_all _) ?_; intro w7 hb7 ht7; have k7 : Below w6.heap.size w6 w7 := (below1 w6 _).trans (ht7.below (by simp) (fun i hi h => by omega)); have r7 : w7.rangeAt w4.heap.size 0 (sc x) := blk_rng ((k7.block _ X6.lt).trans X6); have r8 : w7.rangeAt w6.heap.size 0 (sc x) := blk_rng hb7; clear ht7)
      | (refine load_wt (by rfl) 39 (.tmp 3) rfl w4.heap.size 0 rfl (sc x) _ r7 Tryd.underlying39 rfl (isz39s HX.out) ?_)
      | (refine load_wt (by rfl) 39 (.tmp 5) rfl w6.heap.size 0 rfl (sc x) _ r8 Tryd.underlying39 rfl (isz39s HX.out) ?_)
      | fail)
    go_ret
    exact ⟨rfl, K6.out.trans (k7.mono K6.out.size)⟩
set_option maxHeartbeats 1600000 in
theorem lback_1 (s : Sl) (w : World) (hs : s.ok) (hg : Glob w) (h1 : s.seg < 1) :
    Calls Tryd.prog 11 #[.agg (sc s).toArray] w fun e w' => e = .returned (.bool true) ∧ Below w.heap.size w w' := by
  have GS := Lib.hid hg.size
  have HG : Hid (∀ W, Below w.heap.size w W → Glob W) := Lib.hid fun W hb => hg.below hb GS.out
  have HAW : Hid (∀ W, Below w.heap.size w W → Calls Tryd.prog 23 #[] W fun e w' => e = .returned (.bool true) ∧ Below W.heap.size W w') := Lib.hid fun W hb => awake6 W (HG.out W hb)
  have HS := Lib.hid hs
  have h0 : BlkIs (w.alloc (.cells (sc s).toArray 39)) w.heap.size 39 (sc s).toArray := BlkIs.new w _ _
  have hb := below1 w (.cells (sc s).toArray 39)
  have HPX := Lib.hid (parseR_ok (bytesS s))
  have HPA : Hid (∀ W g, BlkIs W g 5 (bv (bytesS s)).toArray → Calls Tryd.prog 31 #[.slice (some ⟨g, 0, none⟩) 72 72] W fun e w' => e = .returned (.tuple #[.agg (sc (parseR (bytesS s)).1).toArray, .int .i64 (parseR (bytesS s)).2]) ∧ Below W.heap.size W w') := Lib.hid fun W g hB =>
    parse_any (some ⟨g, 0, none⟩) W.heap.size 72 (bytesS s) W (BlkIs.bts hB hB.lt) (Nat.le_refl _) (bytesS_length hs) (by omega)
  generalize (parseR (bytesS s)).1 = x at *
  generalize (parseR (bytesS s)).2 = er at *
  clear hs hg
  go_enter Tryd.func11, Tryd.ntmps11
  go_wp2_with fail
  refine (HAW.out _ hb).mono ?_
  rintro e w2 ⟨rfl, hb2⟩
  have K2 := Lib.hid (hb.trans (hb2.mono (by simp)))
  have B2 : BlkIs w2 w.heap.size 39 (sc s).toArray := (hb2.block _ h0.lt).trans h0
  have r2 := blk_rng B2
  clear h0 hb hb2 HAW
  go_wp2_with (first
    | (refine load_wt (by rfl) 39 (.tmp 1) rfl w.heap.size 0 rfl (sc s) _ r2 Tryd.underlying39 rfl (isz39s HS.out) ?_)
    | fail)
  refine (bytes_any s _ HS.out).mono ?_
  rintro e w3 ⟨g3, rfl, hB3, _, hb3⟩
  have K3 := Lib.hid (K2.out.trans (hb3.mono K2.out.size))
  have B3 : BlkIs w3 w.heap.size 39 (sc s).toArray := (hb3.block _ B2.lt).trans B2
  clear hb3 B2 r2
  go_wp2_with fail
  refine (HPA.out _ _ hB3).mono ?_
  rintro e w4 ⟨rfl, hb4⟩
  have K4 := Lib.hid (K3.out.trans (hb4.mono K3.out.size))
  have B4 : BlkIs w4 w.heap.size 39 (sc s).toArray := (hb4.block _ B3.lt).trans B3
  clear hb4 B3 hB3
  go_wp2_with (first
    | (refine store_bl (.tmp 3) (.tmp 11) 39 w4.heap.size 39 _ (sc x).toArray (BlkIs.new w4 _ _) rfl rfl rfl rfl rfl (isz39a HPX.out) (sc_size zeroS_ok HPX.out) (sc_all _) ?_; intro w5 hb5 ht5; have k5 : Below w4.heap.size w4 w5 := (below1 w4 _).trans (ht5.below (by simp) (fun i hi h => by omega)); have B5 : BlkIs w5 w.heap.size 39 (sc s).toArray := (k5.block _ B4.lt).trans B4; have c0 := sc_seg B5; have c1 := sc_count B5; have r5 := blk_rng B5; have x5 := blk_rng hb5; clear ht5 B5)
    | (refine load_wt (by rfl) 39 (.tmp 3) rfl w4.heap.size 0 rfl (sc x) _ x5 Tryd.underlying39 rfl (isz39s HPX.out) ?_)
    | (refine load_wt (by rfl) 39 (.tmp 1) rfl w.heap.size 0 rfl (sc s) _ r5 Tryd.underlying39 rfl (isz39s HS.out) ?_)
    | fail)
  go_ret
  exact ⟨rfl, K4.out.trans (k5.mono K4.out.size)⟩
set_option maxHeartbeats 1600000 in
theorem lback_2 (s : Sl) (w : World) (hs : s.ok) (hg : Glob w) (h2 : 999999 < s.seg) :
    Calls Tryd.prog 11 #[.agg (sc s).toArray] w fun e w' => e = .returned (.bool true) ∧ Below w.heap.size w w' := by
  have GS := Lib.hid hg.size
  have HG : Hid (∀ W, Below w.heap.size w W → Glob W) := Lib.hid fun W hb => hg.below hb GS.out
  have HAW : Hid (∀ W, Below w.heap.size w W → Calls Tryd.prog 23 #[] W fun e w' => e = .returned (.bool true) ∧ Below W.heap.size W w') := Lib.hid fun W hb => awake6 W (HG.out W hb)
  have h1 : ¬ s.seg < 1 := by omega
  have HS := Lib.hid hs
  have h0 : BlkIs (w.alloc (.cells (sc s).toArray 39)) w.heap.size 39 (sc s).toArray := BlkIs.new w _ _
  have hb := below1 w (.cells (sc s).toArray 39)
  have HPX := Lib.hid (parseR_ok (bytesS s))
  have HPA : Hid (∀ W g, BlkIs W g 5 (bv (bytesS s)).toArray → Calls Tryd.prog 31 #[.slice (some ⟨g, 0, none⟩) 72 72] W fun e w' => e = .returned (.tuple #[.agg (sc (parseR (bytesS s)).1).toArray, .int .i64 (parseR (bytesS s)).2]) ∧ Below W.heap.size W w') := Lib.hid fun W g hB =>
    parse_any (some ⟨g, 0, none⟩) W.heap.size 72 (bytesS s) W (BlkIs.bts hB hB.lt) (Nat.le_refl _) (bytesS_length hs) (by omega)
  generalize (parseR (bytesS s)).1 = x at *
  generalize (parseR (bytesS s)).2 = er at *
  clear hs hg
  go_enter Tryd.func11, Tryd.ntmps11
  go_wp2_with fail
  refine (HAW.out _ hb).mono ?_
  rintro e w2 ⟨rfl, hb2⟩
  have K2 := Lib.hid (hb.trans (hb2.mono (by simp)))
  have B2 : BlkIs w2 w.heap.size 39 (sc s).toArray := (hb2.block _ h0.lt).trans h0
  have r2 := blk_rng B2
  clear h0 hb hb2 HAW
  go_wp2_with (first
    | (refine load_wt (by rfl) 39 (.tmp 1) rfl w.heap.size 0 rfl (sc s) _ r2 Tryd.underlying39 rfl (isz39s HS.out) ?_)
    | fail)
  refine (bytes_any s _ HS.out).mono ?_
  rintro e w3 ⟨g3, rfl, hB3, _, hb3⟩
  have K3 := Lib.hid (K2.out.trans (hb3.mono K2.out.size))
  have B3 : BlkIs w3 w.heap.size 39 (sc s).toArray := (hb3.block _ B2.lt).trans B2
  clear hb3 B2 r2
  go_wp2_with fail
  refine (HPA.out _ _ hB3).mono ?_
  rintro e w4 ⟨rfl, hb4⟩
  have K4 := Lib.hid (K3.out.trans (hb4.mono K3.out.size))
  have B4 : BlkIs w4 w.heap.size 39 (sc s).toArray := (hb4.block _ B3.lt).trans B3
  clear hb4 B3 hB3
  go_wp2_with (first
    | (refine store_bl (.tmp 3) (.tmp 11) 39 w4.heap.size 39 _ (sc x).toArray (BlkIs.new w4 _ _) rfl rfl rfl rfl rfl (isz39a HPX.out) (sc_size zeroS_ok HPX.out) (sc_all _) ?_; intro w5 hb5 ht5; have k5 : Below w4.heap.size w4 w5 := (below1 w4 _).trans (ht5.below (by simp) (fun i hi h => by omega)); have B5 : BlkIs w5 w.heap.size 39 (sc s).toArray := (k5.block _ B4.lt).trans B4; have c0 := sc_seg B5; have c1 := sc_count B5; have r5 := blk_rng B5; have x5 := blk_rng hb5; clear ht5 B5)
    | (refine load_wt (by rfl) 39 (.tmp 3) rfl w4.heap.size 0 rfl (sc x) _ x5 Tryd.underlying39 rfl (isz39s HPX.out) ?_)
    | (refine load_wt (by rfl) 39 (.tmp 1) rfl w.heap.size 0 rfl (sc s) _ r5 Tryd.underlying39 rfl (isz39s HS.out) ?_)
    | fail)
  go_ret
  exact ⟨rfl, K4.out.trans (k5.mono K4.out.size)⟩
set_option maxHeartbeats 1600000 in
theorem lback_3 (s : Sl) (w : World) (hs : s.ok) (hg : Glob w) (h1 : ¬ s.seg < 1) (h2 : ¬ 999999 < s.seg) (h3 : s.count < 0) :
    Calls Tryd.prog 11 #[.agg (sc s).toArray] w fun e w' => e = .returned (.bool true) ∧ Below w.heap.size w w' := by
  have GS := Lib.hid hg.size
  have HG : Hid (∀ W, Below w.heap.size w W → Glob W) := Lib.hid fun W hb => hg.below hb GS.out
  have HAW : Hid (∀ W, Below w.heap.size w W → Calls Tryd.prog 23 #[] W fun e w' => e = .returned (.bool true) ∧ Below W.heap.size W w') := Lib.hid fun W hb => awake6 W (HG.out W hb)
  have HS := Lib.hid hs
  have h0 : BlkIs (w.alloc (.cells (sc s).toArray 39)) w.heap.size 39 (sc s).toArray := BlkIs.new w _ _
  have hb := below1 w (.cells (sc s).toArray 39)
  have HPX := Lib.hid (parseR_ok (bytesS s))
  have HPA : Hid (∀ W g, BlkIs W g 5 (bv (bytesS s)).toArray → Calls Tryd.prog 31 #[.slice (some ⟨g, 0, none⟩) 72 72] W fun e w' => e = .returned (.tuple #[.agg (sc (parseR (bytesS s)).1).toArray, .int .i64 (parseR (bytesS s)).2]) ∧ Below W.heap.size W w') := Lib.hid fun W g hB =>
    parse_any (some ⟨g, 0, none⟩) W.heap.size 72 (bytesS s) W (BlkIs.bts hB hB.lt) (Nat.le_refl _) (bytesS_length hs) (by omega)
  generalize (parseR (bytesS s)).1 = x at *
  generalize (parseR (bytesS s)).2 = er at *
  clear hs hg
  go_enter Tryd.func11, Tryd.ntmps11
  go_wp2_with fail
  refine (HAW.out _ hb).mono ?_
  rintro e w2 ⟨rfl, hb2⟩
  have K2 := Lib.hid (hb.trans (hb2.mono (by simp)))
  have B2 : BlkIs w2 w.heap.size 39 (sc s).toArray := (hb2.block _ h0.lt).trans h0
  have r2 := blk_rng B2
  clear h0 hb hb2 HAW
  go_wp2_with (first
    | (refine load_wt (by rfl) 39 (.tmp 1) rfl w.heap.size 0 rfl (sc s) _ r2 Tryd.underlying39 rfl (isz39s HS.out) ?_)
    | fail)
  refine (bytes_any s _ HS.out).mono ?_
  rintro e w3 ⟨g3, rfl, hB3, _, hb3⟩
  have K3 := Lib.hid (K2.out.trans (hb3.mono K2.out.size))
  have B3 : BlkIs w3 w.heap.size 39 (sc s).toArray := (hb3.block _ B2.lt).trans B2
  clear hb3 B2 r2
  go_wp2_with fail
  refine (HPA.out _ _ hB3).mono ?_
  rintro e w4 ⟨rfl, hb4⟩
  have K4 := Lib.hid (K3.out.trans (hb4.mono K3.out.size))
  have B4 : BlkIs w4 w.heap.size 39 (sc s).toArray := (hb4.block _ B3.lt).trans B3
  clear hb4 B3 hB3
  go_wp2_with (first
    | (refine store_bl (.tmp 3) (.tmp 11) 39 w4.heap.size 39 _ (sc x).toArray (BlkIs.new w4 _ _) rfl rfl rfl rfl rfl (isz39a HPX.out) (sc_size zeroS_ok HPX.out) (sc_all _) ?_; intro w5 hb5 ht5; have k5 : Below w4.heap.size w4 w5 := (below1 w4 _).trans (ht5.below (by simp) (fun i hi h => by omega)); have B5 : BlkIs w5 w.heap.size 39 (sc s).toArray := (k5.block _ B4.lt).trans B4; have c0 := sc_seg B5; have c1 := sc_count B5; have r5 := blk_rng B5; have x5 := blk_rng hb5; clear ht5 B5)
    | (refine load_wt (by rfl) 39 (.tmp 3) rfl w4.heap.size 0 rfl (sc x) _ x5 Tryd.underlying39 rfl (isz39s HPX.out) ?_)
    | (refine load_wt (by rfl) 39 (.tmp 1) rfl w.heap.size 0 rfl (sc s) _ r5 Tryd.underlying39 rfl (isz39s HS.out) ?_)
    | fail)
  go_ret
  exact ⟨rfl, K4.out.trans (k5.mono K4.out.size)⟩
set_option maxHeartbeats 1600000 in
theorem lback_4 (s : Sl) (w : World) (hs : s.ok) (hg : Glob w) (h1 : ¬ s.seg < 1) (h2 : ¬ 999999 < s.seg) (h4 : 4294967296 ≤ s.count) :
    Calls Tryd.prog 11 #[.agg (sc s).toArray] w fun e w' => e = .returned (.bool true) ∧ Below w.heap.size w w' := by
  have GS := Lib.hid hg.size
  have HG : Hid (∀ W, Below w.heap.size w W → Glob W) := Lib.hid fun W hb => hg.below hb GS.out
  have HAW : Hid (∀ W, Below w.heap.size w W → Calls Tryd.prog 23 #[] W fun e w' => e = .returned (.bool true) ∧ Below W.heap.size W w') := Lib.hid fun W hb => awake6 W (HG.out W hb)
  have h3 : ¬ s.count < 0 := by omega
  have HS := Lib.hid hs
  have h0 : BlkIs (w.alloc (.cells (sc s).toArray 39)) w.heap.size 39 (sc s).toArray := BlkIs.new w _ _
  have hb := below1 w (.cells (sc s).toArray 39)
  have HPX := Lib.hid (parseR_ok (bytesS s))
  have HPA : Hid (∀ W g, BlkIs W g 5 (bv (bytesS s)).toArray → Calls Tryd.prog 31 #[.slice (some ⟨g, 0, none⟩) 72 72] W fun e w' => e = .returned (.tuple #[.agg (sc (parseR (bytesS s)).1).toArray, .int .i64 (parseR (bytesS s)).2]) ∧ Below W.heap.size W w') := Lib.hid fun W g hB =>
    parse_any (some ⟨g, 0, none⟩) W.heap.size 72 (bytesS s) W (BlkIs.bts hB hB.lt) (Nat.le_refl _) (bytesS_length hs) (by omega)
  generalize (parseR (bytesS s)).1 = x at *
  generalize (parseR (bytesS s)).2 = er at *
  clear hs hg
  go_enter Tryd.func11, Tryd.ntmps11
  go_wp2_with fail
  refine (HAW.out _ hb).mono ?_
  rintro e w2 ⟨rfl, hb2⟩
  have K2 := Lib.hid (hb.trans (hb2.mono (by simp)))
  have B2 : BlkIs w2 w.heap.size 39 (sc s).toArray := (hb2.block _ h0.lt).trans h0
  have r2 := blk_rng B2
  clear h0 hb hb2 HAW
  go_wp2_with (first
    | (refine load_wt (by rfl) 39 (.tmp 1) rfl w.heap.size 0 rfl (sc s) _ r2 Tryd.underlying39 rfl (isz39s HS.out) ?_)
    | fail)
  refine (bytes_any s _ HS.out).mono ?_
  rintro e w3 ⟨g3, rfl, hB3, _, hb3⟩
  have K3 := Lib.hid (K2.out.trans (hb3.mono K2.out.size))
  have B3 : BlkIs w3 w.heap.size 39 (sc s).toArray := (hb3.block _ B2.lt).trans B2
  clear hb3 B2 r2
  go_wp2_with fail
  refine (HPA.out _ _ hB3).mono ?_
  rintro e w4 ⟨rfl, hb4⟩
  have K4 := Lib.hid (K3.out.trans (hb4.mono K3.out.size))
  have B4 : BlkIs w4 w.heap.size 39 (sc s).toArray := (hb4.block _ B3.lt).trans B3
  clear hb4 B3 hB3
  go_wp2_with (first
    | (refine store_bl (.tmp 3) (.tmp 11) 39 w4.heap.size 39 _ (sc x).toArray (BlkIs.new w4 _ _) rfl rfl rfl rfl rfl (isz39a HPX.out) (sc_size zeroS_ok HPX.out) (sc_all _) ?_; intro w5 hb5 ht5; have k5 : Below w4.heap.size w4 w5 := (below1 w4 _).trans (ht5.below (by simp) (fun i hi h => by omega)); have B5 : BlkIs w5 w.heap.size 39 (sc s).toArray := (k5.block _ B4.lt).trans B4; have c0 := sc_seg B5; have c1 := sc_count B5; have r5 := blk_rng B5; have x5 := blk_rng hb5; clear ht5 B5)
    | (refine load_wt (by rfl) 39 (.tmp 3) rfl w4.heap.size 0 rfl (sc x) _ x5 Tryd.underlying39 rfl (isz39s HPX.out) ?_)
    | (refine load_wt (by rfl) 39 (.tmp 1) rfl w.heap.size 0 rfl (sc s) _ r5 Tryd.underlying39 rfl (isz39s HS.out) ?_)
    | fail)
  go_ret
  exact ⟨rfl, K4.out.trans (k5.mono K4.out.size)⟩
set_option maxHeartbeats 1600000 in
theorem lback_5 (s : Sl) (w : World) (hs : s.ok) (hg : Glob w) (h1 : ¬ s.seg < 1) (h2 : ¬ 999999 < s.seg) (h3 : ¬ s.count < 0) (h4 : ¬ 4294967296 ≤ s.count) :
    Calls Tryd.prog 11 #[.agg (sc s).toArray] w fun e w' => e = .returned (.bool true) ∧ Below w.heap.size w w' := by
  have GS := Lib.hid hg.size
  have HG : Hid (∀ W, Below w.heap.size w W → Glob W) := Lib.hid fun W hb => hg.below hb GS.out
  have HAW : Hid (∀ W, Below w.heap.size w W → Calls Tryd.prog 23 #[] W fun e w' => e = .returned (.bool true) ∧ Below W.heap.size W w') := Lib.hid fun W hb => awake6 W (HG.out W hb)
  have HS := Lib.hid hs
  have h0 : BlkIs (w.alloc (.cells (sc s).toArray 39)) w.heap.size 39 (sc s).toArray := BlkIs.new w _ _
  have hb := below1 w (.cells (sc s).toArray 39)
  have HPX := Lib.hid (parseR_ok (bytesS s))
  have HPA : Hid (∀ W g, BlkIs W g 5 (bv (bytesS s)).toArray → Calls Tryd.prog 31 #[.slice (some ⟨g, 0, none⟩) 72 72] W fun e w' => e = .returned (.tuple #[.agg (sc (parseR (bytesS s)).1).toArray, .int .i64 (parseR (bytesS s)).2]) ∧ Below W.heap.size W w') := Lib.hid fun W g hB =>
    parse_any (some ⟨g, 0, none⟩) W.heap.size 72 (bytesS s) W (BlkIs.bts hB hB.lt) (Nat.le_refl _) (bytesS_length hs) (by omega)
  have hpr : parseR (bytesS s) = (s, 0) := by
    unfold parseR
    rw [parse_bytes hs (by omega) (by omega) (by omega) (by omega), if_pos ⟨bytesS_length hs, by omega, by omega⟩]
  have e1 : (parseR (bytesS s)).1 = s := by rw [hpr]
  have e2 : (parseR (bytesS s)).2 = 0 := by rw [hpr]
  rw [e1] at HPA HPX
  rw [e2] at HPA
  have heq := fun w => run_eq39 s s HS.out HS.out w
  rw [eqS_self] at heq
  clear hpr e1 e2
  clear hs hg
  go_enter Tryd.func11, Tryd.ntmps11
  go_wp2_with fail
  refine (HAW.out _ hb).mono ?_
  rintro e w2 ⟨rfl, hb2⟩
  have K2 := Lib.hid (hb.trans (hb2.mono (by simp)))
  have B2 : BlkIs w2 w.heap.size 39 (sc s).toArray := (hb2.block _ h0.lt).trans h0
  have r2 := blk_rng B2
  clear h0 hb hb2 HAW
  go_wp2_with (first
    | (refine load_wt (by rfl) 39 (.tmp 1) rfl w.heap.size 0 rfl (sc s) _ r2 Tryd.underlying39 rfl (isz39s HS.out) ?_)
    | fail)
  refine (bytes_any s _ HS.out).mono ?_
  rintro e w3 ⟨g3, rfl, hB3, _, hb3⟩
  have K3 := Lib.hid (K2.out.trans (hb3.mono K2.out.size))
  have B3 : BlkIs w3 w.heap.size 39 (sc s).toArray := (hb3.block _ B2.lt).trans B2
  clear hb3 B2 r2
  go_wp2_with fail
  refine (HPA.out _ _ hB3).mono ?_
  rintro e w4 ⟨rfl, hb4⟩
  have K4 := Lib.hid (K3.out.trans (hb4.mono K3.out.size))
  have B4 : BlkIs w4 w.heap.size 39 (sc s).toArray := (hb4.block _ B3.lt).trans B3
  clear hb4 B3 hB3
  go_wp2_with (first
    | (refine store_bl (.tmp 3) (.tmp 11) 39 w4.heap.size 39 _ (sc s).toArray (BlkIs.new w4 _ _) rfl rfl rfl rfl rfl (isz39a HPX.out) (sc_size zeroS_ok HPX.out) (sc_all _) ?_; intro w5 hb5 ht5; have k5 : Below w4.heap.size w4 w5 := (below1 w4 _).trans (ht5.below (by simp) (fun i hi h => by omega)); have B5 : BlkIs w5 w.heap.size 39 (sc s).toArray := (k5.block _ B4.lt).trans B4; have c0 := sc_seg B5; have c1 := sc_count B5; have r5 := blk_rng B5; have x5 := blk_rng hb5; clear ht5 B5)
    | (refine load_wt (by rfl) 39 (.tmp 3) rfl w4.heap.size 0 rfl (sc s) _ x5 Tryd.underlying39 rfl (isz39s HPX.out) ?_)
    | (refine load_wt (by rfl) 39 (.tmp 1) rfl w.heap.size 0 rfl (sc s) _ r5 Tryd.underlying39 rfl (isz39s HS.out) ?_)
    | fail)
  go_ret
  exact ⟨rfl, K4.out.trans (k5.mono K4.out.size)⟩
theorem lback_any (s : Sl) (w : World) (hs : s.ok) (hg : Glob w) : Calls Tryd.prog 11 #[.agg (sc s).toArray] w fun e w' => e = .returned (.bool true) ∧ Below w.heap.size w w' := by
  by_cases h1 : s.seg < 1
  · exact lback_1 s w hs hg h1
  by_cases h2 : 999999 < s.seg
  · exact lback_2 s w hs hg h2
  by_cases h3 : s.count < 0
  · exact lback_3 s w hs hg h1 h2 h3
  by_cases h4 : 4294967296 ≤ s.count
  · exact lback_4 s w hs hg h1 h2 h4
  exact lback_5 s w hs hg h1 h2 h3 h4
end Go.Proofs.YtfgdochpnnkpmaaDoor
