/- The law's examples of seals. Conditions: as stated. -/
import Derived.Test.YtfgdochpnnkpmaaDoorSeHolds
import Derived.Test.YtfgdochpnnkpmaaDoorSeChain
namespace Go.Proofs.YtfgdochpnnkpmaaDoor
set_option maxRecDepth 100000
open Go.RowKit Go
theorem few6_yes (A : Option Addr) (n c : Nat) (w : World) (h : n ≤ 20) : Calls Tryd.prog 24 #[.slice A n c] w fun e w' => e = .returned (.bool true) ∧ w = w' := by
  have h1 : (n : Int) ≤ 20 := by omega
  go_enter Tryd.func24, Tryd.ntmps24
  go_wp2_with fail
  go_ret
  exact ⟨rfl, rfl⟩
theorem few6_no (A : Option Addr) (n c : Nat) (w : World) (h : ¬ n ≤ 20) : Calls Tryd.prog 24 #[.slice A n c] w fun e w' => e = .returned (.bool false) ∧ w = w' := by
  have h1 : ¬ (n : Int) ≤ 20 := by omega
  go_enter Tryd.func24, Tryd.ntmps24
  go_wp2_with fail
  go_ret
  exact ⟨rfl, rfl⟩
def p7 : List UInt8 := 7 :: List.replicate 31 0
def s3 : Sl := ⟨3, (0 : Nat), rootS [], p7⟩
theorem p7_length : p7.length = 32 := by simp [p7]
theorem s3_ok : s3.ok := ⟨rootS_length Sms.nil, p7_length⟩
theorem s3_hold : holdsS s3 [] = true := by
  unfold holdsS
  rw [decide_eq_true (by constructor <;> (show _ ≤ _) <;> decide), Bool.true_and]
  exact eqS_self _
theorem s3_0 : (sc s3)[0]? = some (.int .i64 3) := rfl
theorem s3_34 : (sc s3)[34]? = some (.int .u8 7) := by
  have h1 : ([Value.int .i64 3, Value.int .i64 ((0 : Nat) : Int)] ++ bv (rootS [])).length = 34 := by simp [bv_length, rootS_length Sms.nil]
  have e : sc s3 = ([Value.int .i64 3, Value.int .i64 ((0 : Nat) : Int)] ++ bv (rootS [])) ++ bv p7 := by
    unfold sc s3
    rw [List.append_assoc]
  rw [e, List.getElem?_append_right (by omega), h1]
  rfl
theorem of_s3 (w : World) (hg : Glob w) : Calls Tryd.prog 25 #[.int .i64 3, .slice none 0 0, .agg (bv p7).toArray] w fun e w' => e = .returned (.tuple #[.agg (sc s3).toArray, .int .i64 0]) ∧ Below w.heap.size w w' :=
  of_any 3 none 0 0 [] p7 w p7_length rfl (by omega) (by omega) (by unfold maxLen; omega) (Hs.nil none) (by omega) (by omega) hg
theorem chain_nil (w : World) (hg : Glob w) : Calls Tryd.prog 33 #[.slice none 0 0] w fun e w' => e = .returned (.int .i64 0) ∧ Below w.heap.size w w' := by
  have h := chain_any none 0 0 [] w rfl (by omega) Ss.nil hg
  rw [show chainS sumS 0 (List.replicate 32 0) 0 [] = 0 by rw [chainS]] at h
  exact h
theorem holds_s3 (w : World) (hg : Glob w) : Calls Tryd.prog 35 #[.agg (sc s3).toArray, .slice none 0 0] w fun e w' => e = .returned (.bool true) ∧ Below w.heap.size w w' := by
  have h := holds_any s3 none 0 0 [] w s3_ok rfl (by omega) (by omega) (by unfold maxLen; omega) (Hs.nil none) hg
  rw [s3_hold] at h
  exact h
theorem build_p7 (w : World) : (Instr.build 22 #[(0, .int .u8 7)]).run Tryd.prog w = .ok (.agg (bv p7).toArray) w := by kernel_rfl
theorem build_z32 (w : World) : (Instr.build 22 #[]).run Tryd.prog w = .ok (.agg (bv (List.replicate 32 0)).toArray) w := by kernel_rfl
set_option maxHeartbeats 1600000 in
theorem awake6 (w : World) (hg : Glob w) : Calls Tryd.prog 23 #[] w fun e w' => e = .returned (.bool true) ∧ Below w.heap.size w w' := by
  have GS := Lib.hid hg.size
  have HOF := Lib.hid (of_s3 w hg)
  have HNO : Hid (∀ W, Calls Tryd.prog 25 #[.int .i64 0, .slice none 0 0, .agg (bv (List.replicate 32 0)).toArray] W fun e w' => e = .returned (.tuple #[.agg (sc zeroS).toArray, .int .i64 1]) ∧ Below W.heap.size W w') := Lib.hid fun W => of_no 0 none 0 0 (List.replicate 32 0) W (by omega)
  have HX := Lib.hid s3_ok
  have HX0 := Lib.hid s3_0
  have HX34 := Lib.hid s3_34
  have HCH : Hid (∀ W, Below w.heap.size w W → Calls Tryd.prog 33 #[.slice none 0 0] W fun e w' => e = .returned (.int .i64 0) ∧ Below W.heap.size W w') := Lib.hid fun W hb => chain_nil W (hg.below hb GS.out)
  have HHO : Hid (∀ W, Below w.heap.size w W → Calls Tryd.prog 35 #[.agg (sc s3).toArray, .slice none 0 0] W fun e w' => e = .returned (.bool true) ∧ Below W.heap.size W w') := Lib.hid fun W hb => holds_s3 W (hg.below hb GS.out)
  clear hg
  generalize s3 = x at *
  go_enter Tryd.func23, Tryd.ntmps23
  go_wp2_with fail
  refine HOF.out.mono ?_
  rintro e w2 ⟨rfl, hb2⟩
  go_wp2_with (first
    | (refine store_bl (.tmp 1) (.tmp 8) 39 w2.heap.size 39 _ (sc x).toArray (BlkIs.new w2 _ _) rfl rfl rfl rfl rfl (isz39a HX.out) (sc_size zeroS_ok HX.out) (sc_all _) ?_; intro w3 hb3 ht3; have k3 : Below w2.heap.size w2 w3 := (below1 w2 _).trans (ht3.below (by simp) (fun i hi h => by omega)); clear ht3)
    | fail)
  have K3 := Lib.hid (hb2.trans (k3.mono hb2.size))
  refine (HNO.out _).mono ?_
  rintro e w4 ⟨rfl, hb4⟩
  have B4 : BlkIs w4 w2.heap.size 39 (sc x).toArray := (hb4.block _ hb3.lt).trans hb3
  have K4 := Lib.hid (K3.out.trans (hb4.mono K3.out.size))
  have hlt2 := hb3.lt
  clear hb2 hb3 k3 hb4
  go_wp2_with (first
    | (refine store_bl (.tmp 3) (.tmp 13) 39 w4.heap.size 39 _ (sc zeroS).toArray (BlkIs.new w4 _ _) rfl rfl rfl rfl rfl (isz39a zeroS_ok) (sc_size zeroS_ok zeroS_ok) (sc_all _) ?_; intro w5 hb5 ht5; have k5 : Below w4.heap.size w4 w5 := (below1 w4 _).trans (ht5.below (by simp) (fun i hi h => by omega)); have B5 : BlkIs w5 w2.heap.size 39 (sc x).toArray := (k5.block _ B4.lt).trans B4; have K5 := Lib.hid (K4.out.trans (k5.mono K4.out.size)); have c5 := B5.get HX0.out; have d5 := B5.get HX34.out; clear ht5 hb5 k5)
    | fail)
  refine (HCH.out _ K5.out).mono ?_
  rintro e w6 ⟨rfl, hb6⟩
  have B6 : BlkIs w6 w2.heap.size 39 (sc x).toArray := (hb6.block _ B5.lt).trans B5
  have K6 := Lib.hid (K5.out.trans (hb6.mono K5.out.size))
  have r6 := blk_rng B6
  clear hb6 B5 c5 d5 B4
  go_wp2_with (first
    | (refine load_wt (by rfl) 39 (.tmp 1) rfl w2.heap.size 0 rfl (sc x) _ r6 Tryd.underlying39 rfl (isz39s HX.out) ?_)
    | fail)
  refine (bytes_any x _ HX.out).mono ?_
  rintro e w7 ⟨g7, rfl, _, _, hb7'⟩
  have B7 : BlkIs w7 w2.heap.size 39 (sc x).toArray := (hb7'.block _ B6.lt).trans B6
  have K7 := Lib.hid (K6.out.trans (hb7'.mono K6.out.size))
  have r7 := blk_rng B7
  clear hb7' B6 r6
  go_wp2_with (first
    | (refine load_wt (by rfl) 39 (.tmp 1) rfl w2.heap.size 0 rfl (sc x) _ r7 Tryd.underlying39 rfl (isz39s HX.out) ?_)
    | fail)
  refine (HHO.out _ K7.out).mono ?_
  rintro e w8 ⟨rfl, hb8⟩
  go_wp2_with fail
  go_ret
  exact ⟨rfl, K7.out.trans (hb8.mono K7.out.size)⟩
end Go.Proofs.YtfgdochpnnkpmaaDoor
