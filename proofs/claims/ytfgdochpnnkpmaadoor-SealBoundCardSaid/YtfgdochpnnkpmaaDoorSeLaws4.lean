/- The walk of SealBound. Conditions: as stated. -/
import Derived.Test.YtfgdochpnnkpmaaDoorSeApart
namespace Go.Proofs.YtfgdochpnnkpmaaDoor
set_option maxRecDepth 100000
open Go.RowKit Go
theorem holds_parts {s : Sl} {L : List (List UInt8)} (h : holdsS s L = true) : (L.length : Int) = s.count ∧ rootS L = s.root := by
  unfold holdsS at h
  rw [Bool.and_eq_true] at h
  have e := eqS_iff.1 h.2
  exact ⟨congrArg Sl.count e, congrArg Sl.root e⟩
set_option maxHeartbeats 1600000 in
theorem lbound_1 (s : Sl) (A A' : Option Addr) (n c n' c' : Nat) (L M : List (List UInt8)) (w : World) (hs : s.ok) (hn : L.length = n) (hn' : M.length = n') (hc : n ≤ c) (hc' : n' ≤ c') (hm : c ≤ maxLen) (hm' : c' ≤ maxLen) (h : Hs w w.heap.size A L) (h' : Hs w w.heap.size A' M) (hg : Glob w) (q1 : ¬ n ≤ 20) :
    Calls Tryd.prog 12 #[.agg (sc s).toArray, .slice A n c, .slice A' n' c'] w fun e w' => e = .returned (.bool true) ∧ Below w.heap.size w w' := by
  have GS := Lib.hid hg.size
  have HG : Hid (∀ W, Below w.heap.size w W → Glob W) := Lib.hid fun W hb => hg.below hb GS.out
  have HAW : Hid (∀ W, Below w.heap.size w W → Calls Tryd.prog 23 #[] W fun e w' => e = .returned (.bool true) ∧ Below W.heap.size W w') := Lib.hid fun W hb => awake6 W (HG.out W hb)
  have HS := Lib.hid hs
  have h0 : BlkIs (w.alloc (.cells (sc s).toArray 39)) w.heap.size 39 (sc s).toArray := BlkIs.new w _ _
  have hb := below1 w (.cells (sc s).toArray 39)
  have hu := And.intro hn (And.intro hn' (And.intro hc (And.intro hc' (And.intro hm (And.intro hm' (And.intro h h'))))))
  clear hu
  clear hs hn hn' hc hc' hm hm' h h' hg
  go_enter Tryd.func12, Tryd.ntmps12
  go_wp2_with fail
  refine (HAW.out _ hb).mono ?_
  rintro e w2 ⟨rfl, hb2⟩
  have K2 := Lib.hid (hb.trans (hb2.mono (by simp)))
  have B2 : BlkIs w2 w.heap.size 39 (sc s).toArray := (hb2.block _ h0.lt).trans h0
  have r2 := blk_rng B2
  clear h0 hb hb2 HAW
  go_wp2_with fail
  refine (few6_no _ _ _ _ q1).mono ?_
  rintro e w3 ⟨rfl, rfl⟩
  go_wp2_with fail
  go_ret
  exact ⟨rfl, K2.out⟩
set_option maxHeartbeats 1600000 in
theorem lbound_2 (s : Sl) (A A' : Option Addr) (n c n' c' : Nat) (L M : List (List UInt8)) (w : World) (hs : s.ok) (hn : L.length = n) (hn' : M.length = n') (hc : n ≤ c) (hc' : n' ≤ c') (hm : c ≤ maxLen) (hm' : c' ≤ maxLen) (h : Hs w w.heap.size A L) (h' : Hs w w.heap.size A' M) (hg : Glob w) (q1 : n ≤ 20) (q2 : ¬ n' ≤ 20) :
    Calls Tryd.prog 12 #[.agg (sc s).toArray, .slice A n c, .slice A' n' c'] w fun e w' => e = .returned (.bool true) ∧ Below w.heap.size w w' := by
  have GS := Lib.hid hg.size
  have HG : Hid (∀ W, Below w.heap.size w W → Glob W) := Lib.hid fun W hb => hg.below hb GS.out
  have HAW : Hid (∀ W, Below w.heap.size w W → Calls Tryd.prog 23 #[] W fun e w' => e = .returned (.bool true) ∧ Below W.heap.size W w') := Lib.hid fun W hb => awake6 W (HG.out W hb)
  have HS := Lib.hid hs
  have h0 : BlkIs (w.alloc (.cells (sc s).toArray 39)) w.heap.size 39 (sc s).toArray := BlkIs.new w _ _
  have hb := below1 w (.cells (sc s).toArray 39)
  have hu := And.intro hn (And.intro hn' (And.intro hc (And.intro hc' (And.intro hm (And.intro hm' (And.intro h h'))))))
  clear hu
  clear hs hn hn' hc hc' hm hm' h h' hg
  go_enter Tryd.func12, Tryd.ntmps12
  go_wp2_with fail
  refine (HAW.out _ hb).mono ?_
  rintro e w2 ⟨rfl, hb2⟩
  have K2 := Lib.hid (hb.trans (hb2.mono (by simp)))
  have B2 : BlkIs w2 w.heap.size 39 (sc s).toArray := (hb2.block _ h0.lt).trans h0
  have r2 := blk_rng B2
  clear h0 hb hb2 HAW
  go_wp2_with fail
  refine (few6_yes _ _ _ _ q1).mono ?_
  rintro e w3 ⟨rfl, rfl⟩
  go_wp2_with fail
  refine (few6_no _ _ _ _ q2).mono ?_
  rintro e w3 ⟨rfl, rfl⟩
  go_wp2_with fail
  go_ret
  exact ⟨rfl, K2.out⟩
set_option maxHeartbeats 1600000 in
theorem lbound_3 (s : Sl) (A A' : Option Addr) (n c n' c' : Nat) (L M : List (List UInt8)) (w : World) (hs : s.ok) (hn : L.length = n) (hn' : M.length = n') (hc : n ≤ c) (hc' : n' ≤ c') (hm : c ≤ maxLen) (hm' : c' ≤ maxLen) (h : Hs w w.heap.size A L) (h' : Hs w w.heap.size A' M) (hg : Glob w) (q1 : n ≤ 20) (q2 : n' ≤ 20) (q3 : holdsS s L = false) :
    Calls Tryd.prog 12 #[.agg (sc s).toArray, .slice A n c, .slice A' n' c'] w fun e w' => e = .returned (.bool true) ∧ Below w.heap.size w w' := by
  have GS := Lib.hid hg.size
  have HG : Hid (∀ W, Below w.heap.size w W → Glob W) := Lib.hid fun W hb => hg.below hb GS.out
  have HAW : Hid (∀ W, Below w.heap.size w W → Calls Tryd.prog 23 #[] W fun e w' => e = .returned (.bool true) ∧ Below W.heap.size W w') := Lib.hid fun W hb => awake6 W (HG.out W hb)
  have HS := Lib.hid hs
  have h0 : BlkIs (w.alloc (.cells (sc s).toArray 39)) w.heap.size 39 (sc s).toArray := BlkIs.new w _ _
  have hb := below1 w (.cells (sc s).toArray 39)
  have HV : Hid (∀ W, Below w.heap.size w W → Calls Tryd.prog 35 #[.agg (sc s).toArray, .slice A n c] W fun e w' => e = .returned (.bool (holdsS s L)) ∧ Below W.heap.size W w') := Lib.hid fun W hb => holds_any s A n c L W hs hn q1 hc hm ((h.below hb).more hb.size) (hg.below hb GS.out)
  rw [q3] at HV
  have hu := And.intro hn (And.intro hn' (And.intro hc (And.intro hc' (And.intro hm (And.intro hm' (And.intro h h'))))))
  clear hu
  clear hs hn hn' hc hc' hm hm' h h' hg q3
  go_enter Tryd.func12, Tryd.ntmps12
  go_wp2_with fail
  refine (HAW.out _ hb).mono ?_
  rintro e w2 ⟨rfl, hb2⟩
  have K2 := Lib.hid (hb.trans (hb2.mono (by simp)))
  have B2 : BlkIs w2 w.heap.size 39 (sc s).toArray := (hb2.block _ h0.lt).trans h0
  have r2 := blk_rng B2
  clear h0 hb hb2 HAW
  go_wp2_with fail
  refine (few6_yes _ _ _ _ q1).mono ?_
  rintro e w3 ⟨rfl, rfl⟩
  go_wp2_with fail
  refine (few6_yes _ _ _ _ q2).mono ?_
  rintro e w3 ⟨rfl, rfl⟩
  go_wp2_with (first
    | (refine load_wt (by rfl) 39 (.tmp 3) rfl w.heap.size 0 rfl (sc s) _ r2 Tryd.underlying39 rfl (isz39s HS.out) ?_)
    | fail)
  refine (HV.out _ K2.out).mono ?_
  rintro e w4 ⟨rfl, hb4⟩
  have K4 := Lib.hid (K2.out.trans (hb4.mono K2.out.size))
  have r4 := blk_rng ((hb4.block _ B2.lt).trans B2)
  clear hb4 B2 r2
  go_wp2_with fail
  go_ret
  exact ⟨rfl, K4.out⟩
set_option maxHeartbeats 1600000 in
theorem lbound_4 (s : Sl) (A A' : Option Addr) (n c n' c' : Nat) (L M : List (List UInt8)) (w : World) (hs : s.ok) (hn : L.length = n) (hn' : M.length = n') (hc : n ≤ c) (hc' : n' ≤ c') (hm : c ≤ maxLen) (hm' : c' ≤ maxLen) (h : Hs w w.heap.size A L) (h' : Hs w w.heap.size A' M) (hg : Glob w) (q1 : n ≤ 20) (q2 : n' ≤ 20) (q3 : holdsS s L = true) (q4 : holdsS s M = false) :
    Calls Tryd.prog 12 #[.agg (sc s).toArray, .slice A n c, .slice A' n' c'] w fun e w' => e = .returned (.bool true) ∧ Below w.heap.size w w' := by
  have GS := Lib.hid hg.size
  have HG : Hid (∀ W, Below w.heap.size w W → Glob W) := Lib.hid fun W hb => hg.below hb GS.out
  have HAW : Hid (∀ W, Below w.heap.size w W → Calls Tryd.prog 23 #[] W fun e w' => e = .returned (.bool true) ∧ Below W.heap.size W w') := Lib.hid fun W hb => awake6 W (HG.out W hb)
  have HS := Lib.hid hs
  have h0 : BlkIs (w.alloc (.cells (sc s).toArray 39)) w.heap.size 39 (sc s).toArray := BlkIs.new w _ _
  have hb := below1 w (.cells (sc s).toArray 39)
  have HV : Hid (∀ W, Below w.heap.size w W → Calls Tryd.prog 35 #[.agg (sc s).toArray, .slice A n c] W fun e w' => e = .returned (.bool (holdsS s L)) ∧ Below W.heap.size W w') := Lib.hid fun W hb => holds_any s A n c L W hs hn q1 hc hm ((h.below hb).more hb.size) (hg.below hb GS.out)
  rw [q3] at HV
  have HM : Hid (∀ W, Below w.heap.size w W → Calls Tryd.prog 35 #[.agg (sc s).toArray, .slice A' n' c'] W fun e w' => e = .returned (.bool (holdsS s M)) ∧ Below W.heap.size W w') := Lib.hid fun W hb => holds_any s A' n' c' M W hs hn' q2 hc' hm' ((h'.below hb).more hb.size) (hg.below hb GS.out)
  rw [q4] at HM
  have hu := And.intro hn (And.intro hn' (And.intro hc (And.intro hc' (And.intro hm (And.intro hm' (And.intro h h'))))))
  clear hu
  clear hs hn hn' hc hc' hm hm' h h' hg q3 q4
  go_enter Tryd.func12, Tryd.ntmps12
  go_wp2_with fail
  refine (HAW.out _ hb).mono ?_
  rintro e w2 ⟨rfl, hb2⟩
  have K2 := Lib.hid (hb.trans (hb2.mono (by simp)))
  have B2 : BlkIs w2 w.heap.size 39 (sc s).toArray := (hb2.block _ h0.lt).trans h0
  have r2 := blk_rng B2
  clear h0 hb hb2 HAW
  go_wp2_with fail
  refine (few6_yes _ _ _ _ q1).mono ?_
  rintro e w3 ⟨rfl, rfl⟩
  go_wp2_with fail
  refine (few6_yes _ _ _ _ q2).mono ?_
  rintro e w3 ⟨rfl, rfl⟩
  go_wp2_with (first
    | (refine load_wt (by rfl) 39 (.tmp 3) rfl w.heap.size 0 rfl (sc s) _ r2 Tryd.underlying39 rfl (isz39s HS.out) ?_)
    | fail)
  refine (HV.out _ K2.out).mono ?_
  rintro e w4 ⟨rfl, hb4⟩
  have K4 := Lib.hid (K2.out.trans (hb4.mono K2.out.size))
  have r4 := blk_rng ((hb4.block _ B2.lt).trans B2)
  clear hb4 B2 r2
  go_wp2_with (first
    | (refine load_wt (by rfl) 39 (.tmp 3) rfl w.heap.size 0 rfl (sc s) _ r4 Tryd.underlying39 rfl (isz39s HS.out) ?_)
    | fail)
  refine (HM.out _ K4.out).mono ?_
  rintro e w5 ⟨rfl, hb5⟩
  have K5 := Lib.hid (K4.out.trans (hb5.mono K4.out.size))
  clear hb5 r4
  go_wp2_with fail
  go_ret
  exact ⟨rfl, K5.out⟩
set_option maxHeartbeats 1600000 in
theorem lbound_5 (s : Sl) (A A' : Option Addr) (n c n' c' : Nat) (L M : List (List UInt8)) (w : World) (hs : s.ok) (hn : L.length = n) (hn' : M.length = n') (hc : n ≤ c) (hc' : n' ≤ c') (hm : c ≤ maxLen) (hm' : c' ≤ maxLen) (h : Hs w w.heap.size A L) (h' : Hs w w.heap.size A' M) (hg : Glob w) (q1 : n ≤ 20) (q2 : n' ≤ 20) (q3 : holdsS s L = true) (q4 : holdsS s M = true) (q5 : L = M) :
    Calls Tryd.prog 12 #[.agg (sc s).toArray, .slice A n c, .slice A' n' c'] w fun e w' => e = .returned (.bool true) ∧ Below w.heap.size w w' := by
  have GS := Lib.hid hg.size
  have HG : Hid (∀ W, Below w.heap.size w W → Glob W) := Lib.hid fun W hb => hg.below hb GS.out
  have HAW : Hid (∀ W, Below w.heap.size w W → Calls Tryd.prog 23 #[] W fun e w' => e = .returned (.bool true) ∧ Below W.heap.size W w') := Lib.hid fun W hb => awake6 W (HG.out W hb)
  have HS := Lib.hid hs
  have h0 : BlkIs (w.alloc (.cells (sc s).toArray 39)) w.heap.size 39 (sc s).toArray := BlkIs.new w _ _
  have hb := below1 w (.cells (sc s).toArray 39)
  have HV : Hid (∀ W, Below w.heap.size w W → Calls Tryd.prog 35 #[.agg (sc s).toArray, .slice A n c] W fun e w' => e = .returned (.bool (holdsS s L)) ∧ Below W.heap.size W w') := Lib.hid fun W hb => holds_any s A n c L W hs hn q1 hc hm ((h.below hb).more hb.size) (hg.below hb GS.out)
  rw [q3] at HV
  have HM : Hid (∀ W, Below w.heap.size w W → Calls Tryd.prog 35 #[.agg (sc s).toArray, .slice A' n' c'] W fun e w' => e = .returned (.bool (holdsS s M)) ∧ Below W.heap.size W w') := Lib.hid fun W hb => holds_any s A' n' c' M W hs hn' q2 hc' hm' ((h'.below hb).more hb.size) (hg.below hb GS.out)
  rw [q4] at HM
  obtain ⟨e1, e2⟩ := holds_parts q3
  obtain ⟨e3, e4⟩ := holds_parts q4
  have enn : n = n' := by rw [hn] at e1; rw [hn'] at e3; omega
  subst enn
  have HSA : Hid (∀ W, Below w.heap.size w W → Calls Tryd.prog 37 #[.slice A n c, .slice A' n c'] W fun e w' => e = .returned (.bool (L == M)) ∧ Below W.heap.size W w') := Lib.hid fun W hb => same6_any A A' n c c' L M W hn hn' (by omega) ((h.below hb).more hb.size) ((h'.below hb).more hb.size)
  rw [show (L == M) = true by rw [q5]; simp] at HSA
  clear e1 e2 e3 e4
  have hu := And.intro hn (And.intro hn' (And.intro hc (And.intro hc' (And.intro hm (And.intro hm' (And.intro h h'))))))
  clear hu
  clear hs hn hn' hc hc' hm hm' h h' hg q3 q4 q5
  go_enter Tryd.func12, Tryd.ntmps12
  go_wp2_with fail
  refine (HAW.out _ hb).mono ?_
  rintro e w2 ⟨rfl, hb2⟩
  have K2 := Lib.hid (hb.trans (hb2.mono (by simp)))
  have B2 : BlkIs w2 w.heap.size 39 (sc s).toArray := (hb2.block _ h0.lt).trans h0
  have r2 := blk_rng B2
  clear h0 hb hb2 HAW
  go_wp2_with fail
  refine (few6_yes _ _ _ _ q1).mono ?_
  rintro e w3 ⟨rfl, rfl⟩
  go_wp2_with fail
  refine (few6_yes _ _ _ _ q2).mono ?_
  rintro e w3 ⟨rfl, rfl⟩
  go_wp2_with (first
    | (refine load_wt (by rfl) 39 (.tmp 3) rfl w.heap.size 0 rfl (sc s) _ r2 Tryd.underlying39 rfl (isz39s HS.out) ?_)
    | fail)
  refine (HV.out _ K2.out).mono ?_
  rintro e w4 ⟨rfl, hb4⟩
  have K4 := Lib.hid (K2.out.trans (hb4.mono K2.out.size))
  have r4 := blk_rng ((hb4.block _ B2.lt).trans B2)
  clear hb4 B2 r2
  go_wp2_with (first
    | (refine load_wt (by rfl) 39 (.tmp 3) rfl w.heap.size 0 rfl (sc s) _ r4 Tryd.underlying39 rfl (isz39s HS.out) ?_)
    | fail)
  refine (HM.out _ K4.out).mono ?_
  rintro e w5 ⟨rfl, hb5⟩
  have K5 := Lib.hid (K4.out.trans (hb5.mono K4.out.size))
  clear hb5 r4
  go_wp2_with fail
  refine (HSA.out _ K5.out).mono ?_
  rintro e w6 ⟨rfl, hb6⟩
  have K6 := Lib.hid (K5.out.trans (hb6.mono K5.out.size))
  clear hb6
  go_wp2_with fail
  go_ret
  exact ⟨rfl, K6.out⟩
set_option maxHeartbeats 1600000 in
theorem lbound_6 (s : Sl) (A A' : Option Addr) (n c n' c' : Nat) (L M : List (List UInt8)) (w : World) (hs : s.ok) (hn : L.length = n) (hn' : M.length = n') (hc : n ≤ c) (hc' : n' ≤ c') (hm : c ≤ maxLen) (hm' : c' ≤ maxLen) (h : Hs w w.heap.size A L) (h' : Hs w w.heap.size A' M) (hg : Glob w) (q1 : n ≤ 20) (q2 : n' ≤ 20) (q3 : holdsS s L = true) (q4 : holdsS s M = true) (q5 : L ≠ M) :
    Calls Tryd.prog 12 #[.agg (sc s).toArray, .slice A n c, .slice A' n' c'] w fun e w' => e = .returned (.bool true) ∧ Below w.heap.size w w' := by
  have GS := Lib.hid hg.size
  have HG : Hid (∀ W, Below w.heap.size w W → Glob W) := Lib.hid fun W hb => hg.below hb GS.out
  have HAW : Hid (∀ W, Below w.heap.size w W → Calls Tryd.prog 23 #[] W fun e w' => e = .returned (.bool true) ∧ Below W.heap.size W w') := Lib.hid fun W hb => awake6 W (HG.out W hb)
  have HS := Lib.hid hs
  have h0 : BlkIs (w.alloc (.cells (sc s).toArray 39)) w.heap.size 39 (sc s).toArray := BlkIs.new w _ _
  have hb := below1 w (.cells (sc s).toArray 39)
  have HV : Hid (∀ W, Below w.heap.size w W → Calls Tryd.prog 35 #[.agg (sc s).toArray, .slice A n c] W fun e w' => e = .returned (.bool (holdsS s L)) ∧ Below W.heap.size W w') := Lib.hid fun W hb => holds_any s A n c L W hs hn q1 hc hm ((h.below hb).more hb.size) (hg.below hb GS.out)
  rw [q3] at HV
  have HM : Hid (∀ W, Below w.heap.size w W → Calls Tryd.prog 35 #[.agg (sc s).toArray, .slice A' n' c'] W fun e w' => e = .returned (.bool (holdsS s M)) ∧ Below W.heap.size W w') := Lib.hid fun W hb => holds_any s A' n' c' M W hs hn' q2 hc' hm' ((h'.below hb).more hb.size) (hg.below hb GS.out)
  rw [q4] at HM
  obtain ⟨e1, e2⟩ := holds_parts q3
  obtain ⟨e3, e4⟩ := holds_parts q4
  have enn : n = n' := by rw [hn] at e1; rw [hn'] at e3; omega
  subst enn
  have HSA : Hid (∀ W, Below w.heap.size w W → Calls Tryd.prog 37 #[.slice A n c, .slice A' n c'] W fun e w' => e = .returned (.bool (L == M)) ∧ Below W.heap.size W w') := Lib.hid fun W hb => same6_any A A' n c c' L M W hn hn' (by omega) ((h.below hb).more hb.size) ((h'.below hb).more hb.size)
  rw [show (L == M) = false by simpa using q5] at HSA
  have HAP : Hid (∀ W, Below w.heap.size w W → Calls Tryd.prog 38 #[.slice A n c, .slice A' n c'] W fun e w' => e = .returned (.bool (apartB L M)) ∧ Below W.heap.size W w') := Lib.hid fun W hb => apart6_any n A A' n c c' L M W (Nat.le_refl _) hn hn' (by omega) hc hc' hm hm' ((h.below hb).more hb.size) ((h'.below hb).more hb.size)
  rw [apartB_true n L M (by omega) (by omega) (e2.trans e4.symm) q5] at HAP
  clear e1 e2 e3 e4
  have hu := And.intro hn (And.intro hn' (And.intro hc (And.intro hc' (And.intro hm (And.intro hm' (And.intro h h'))))))
  clear hu
  clear hs hn hn' hc hc' hm hm' h h' hg q3 q4 q5
  go_enter Tryd.func12, Tryd.ntmps12
  go_wp2_with fail
  refine (HAW.out _ hb).mono ?_
  rintro e w2 ⟨rfl, hb2⟩
  have K2 := Lib.hid (hb.trans (hb2.mono (by simp)))
  have B2 : BlkIs w2 w.heap.size 39 (sc s).toArray := (hb2.block _ h0.lt).trans h0
  have r2 := blk_rng B2
  clear h0 hb hb2 HAW
  go_wp2_with fail
  refine (few6_yes _ _ _ _ q1).mono ?_
  rintro e w3 ⟨rfl, rfl⟩
  go_wp2_with fail
  refine (few6_yes _ _ _ _ q2).mono ?_
  rintro e w3 ⟨rfl, rfl⟩
  go_wp2_with (first
    | (refine load_wt (by rfl) 39 (.tmp 3) rfl w.heap.size 0 rfl (sc s) _ r2 Tryd.underlying39 rfl (isz39s HS.out) ?_)
    | fail)
  refine (HV.out _ K2.out).mono ?_
  rintro e w4 ⟨rfl, hb4⟩
  have K4 := Lib.hid (K2.out.trans (hb4.mono K2.out.size))
  have r4 := blk_rng ((hb4.block _ B2.lt).trans B2)
  clear hb4 B2 r2
  go_wp2_with (first
    | (refine load_wt (by rfl) 39 (.tmp 3) rfl w.heap.size 0 rfl (sc s) _ r4 Tryd.underlying39 rfl (isz39s HS.out) ?_)
    | fail)
  refine (HM.out _ K4.out).mono ?_
  rintro e w5 ⟨rfl, hb5⟩
  have K5 := Lib.hid (K4.out.trans (hb5.mono K4.out.size))
  clear hb5 r4
  go_wp2_with fail
  refine (HSA.out _ K5.out).mono ?_
  rintro e w6 ⟨rfl, hb6⟩
  have K6 := Lib.hid (K5.out.trans (hb6.mono K5.out.size))
  clear hb6
  go_wp2_with fail
  refine (HAP.out _ K6.out).mono ?_
  rintro e w7 ⟨rfl, hb7⟩
  replace K6 := Lib.hid (K6.out.trans (hb7.mono K6.out.size))
  go_wp2_with fail
  go_ret
  exact ⟨rfl, K6.out⟩
theorem lbound_any (s : Sl) (A A' : Option Addr) (n c n' c' : Nat) (L M : List (List UInt8)) (w : World) (hs : s.ok) (hn : L.length = n) (hn' : M.length = n') (hc : n ≤ c) (hc' : n' ≤ c') (hm : c ≤ maxLen) (hm' : c' ≤ maxLen) (h : Hs w w.heap.size A L) (h' : Hs w w.heap.size A' M) (hg : Glob w) :
    Calls Tryd.prog 12 #[.agg (sc s).toArray, .slice A n c, .slice A' n' c'] w fun e w' => e = .returned (.bool true) ∧ Below w.heap.size w w' := by
  by_cases q1 : n ≤ 20
  · by_cases q2 : n' ≤ 20
    · cases q3 : holdsS s L
      · exact lbound_3 s A A' n c n' c' L M w hs hn hn' hc hc' hm hm' h h' hg q1 q2 q3
      · cases q4 : holdsS s M
        · exact lbound_4 s A A' n c n' c' L M w hs hn hn' hc hc' hm hm' h h' hg q1 q2 q3 q4
        · by_cases q5 : L = M
          · exact lbound_5 s A A' n c n' c' L M w hs hn hn' hc hc' hm hm' h h' hg q1 q2 q3 q4 q5
          · exact lbound_6 s A A' n c n' c' L M w hs hn hn' hc hc' hm hm' h h' hg q1 q2 q3 q4 q5
    · exact lbound_2 s A A' n c n' c' L M w hs hn hn' hc hc' hm hm' h h' hg q1 q2
  · exact lbound_1 s A A' n c n' c' L M w hs hn hn' hc hc' hm hm' h h' hg q1
end Go.Proofs.YtfgdochpnnkpmaaDoor
