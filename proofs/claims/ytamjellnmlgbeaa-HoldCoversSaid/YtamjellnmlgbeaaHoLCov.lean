/- HoldCovers' walk. Conditions: as stated at each. -/
import Derived.Test.YtamjellnmlgbeaaHoLaws
namespace Go.Proofs.Ytamjellnmlgbeaa
set_option maxRecDepth 100000
namespace Ho
open Go.RowKit Go Go.Proofs.Ytamjellnmlgbeaa.Pa Go.Proofs.Ytamjellnmlgbeaa.Rt
set_option maxHeartbeats 3200000 in
theorem lcovers_any {w0 : World} {A : Option Addr} {l : List R} {v : Value} {e : Env} (hp : Prs w0 w0.heap.size A (cvR l)) (c : Nat) (hok : OkH l) (he : EnvAt w0 w0.heap.size v e) (hoe : OkE e) :
    Calls Try.prog 5 #[.slice A l.length c, v] w0 fun e w' => e = .returned (.bool true) ∧ Below w0.heap.size w0 w' := by
  obtain ⟨T, tc, rfl, ht⟩ := he
  obtain ⟨fr, to, at'⟩ := e
  dsimp only at ht hoe ⊢
  have HA := Lib.hid awake_any
  have HF := Lib.hid (fun X => few_any A T l.length c to.length tc (str fr) at' X)
  have hq1 := BlkIs.new w0 29 #[.string (str fr), .slice T to.length tc, .int .i64 at']
  have hb1 := below_b w0 (.cells #[.string (str fr), .slice T to.length tc, .int .i64 at'] 29)
  have HC : Hid (l.length ≤ 101 ∧ to.length ≤ 20 → ∀ X, Below w0.heap.size w0 X → Calls Try.prog 15 #[.slice A l.length c, .agg #[.string (str fr), .slice T to.length tc, .int .i64 at']] X fun e w' => e = .returned (.bool (covS l fr to)) ∧ Below X.heap.size X w') := Lib.hid (fun h X (hX : Below w0.heap.size w0 X) => covers_any (hp.below hX) (ht.below hX) hX.size l.length c to.length tc at' rfl rfl (by omega) (by omega) hok hoe.1 hoe.2)
  have HR : Hid (l.length ≤ 101 ∧ to.length ≤ 20 → ∀ X, Below w0.heap.size w0 X → Calls Try.prog 16 #[.slice A l.length c, .agg #[.string (str fr), .slice T to.length tc, .int .i64 at']] X fun e w' => e = .returned (.bool (covS l fr to)) ∧ Below X.heap.size X w') := Lib.hid (fun h X (hX : Below w0.heap.size w0 X) => rcovers_any (hp.below hX) (ht.below hX) hX.size l.length c to.length tc at' rfl rfl (by omega) (by omega) hok hoe.1 hoe.2)
  generalize covS l fr to = q at *
  clear hp ht hok hoe
  generalize l.length = n at *
  generalize to.length = tn at *
  generalize str fr = sf at *
  have HPT : Hid (decide (n ≤ 101 ∧ tn ≤ 20) = true → n ≤ 101 ∧ tn ≤ 20) := Lib.hid of_decide_eq_true
  generalize decide (n ≤ 101 ∧ tn ≤ 20) = p at *
  go_enter Try.func5, Try.ntmps5
  go_wp2_with fail
  have hlt := hq1.lt
  generalize w0.alloc (.cells #[.string sf, .slice T tn tc, .int .i64 at'] 29) = w1 at *
  refine (HA.out _).mono ?_
  rintro e w2 ⟨rfl, hb2⟩
  have hq2 : BlkIs w2 w0.heap.size 29 #[.string sf, .slice T tn tc, .int .i64 at'] := (hb2.block _ hlt).trans hq1
  have hb12 := hb1.trans (hb2.mono hb1.size)
  clear hq1 hb2 hb1 HA
  go_wp2_with fail
  have hX : Below w0.heap.size w0 w2.drew ∧ BlkIs w2.drew w0.heap.size 29 #[.string sf, .slice T tn tc, .int .i64 at'] := ⟨hb12.drew, hq2⟩
  clear hb12 hq2
  refine wp_region_held_drew (S := (fun Y => Below w0.heap.size w0 Y ∧ BlkIs Y w0.heap.size 29 #[.string sf, .slice T tn tc, .int .i64 at'])) (by kernel_rfl) (hX) (fun hHeld => ?_)
  generalize w2.drew = w3 at *
  refine wpAnyH_take (i := 0) (v := .slice A n c) rfl (by kernel_rfl) (by kernel_rfl) (by kernel_rfl) (fun _ _ _ h => h) (Or.inl ⟨by rfl, fun w hS => by first | (go_simp; done) | (go_simp; with_reducible rfl)⟩) hHeld ?_
  try simp only [Act.put, List.getElem_toArray, List.getElem_cons_zero, List.setIfInBounds_toArray, List.set_cons_zero, List.set_cons_succ]
  refine wpAnyH_take (i := 1) (v := .agg #[.string sf, .slice T tn tc, .int .i64 at']) rfl (by kernel_rfl) (by kernel_rfl) (by kernel_rfl) (fun _ _ _ h => h) (Or.inl ⟨by rfl, fun w hS => by (have x0 := (BlkIs.cell hS.2 0).trans (rfl : _ = some (Value.string sf)); have x1 := (BlkIs.cell hS.2 1).trans (rfl : _ = some (Value.slice T tn tc)); have x2 := (BlkIs.cell hS.2 2).trans (rfl : _ = some (Value.int .i64 at')); first | (go_simp; done) | (go_simp; with_reducible rfl))⟩) hHeld ?_
  try simp only [Act.put, List.getElem_toArray, List.getElem_cons_zero, List.getElem_cons_succ, List.setIfInBounds_toArray, List.set_cons_zero, List.set_cons_succ]
  refine wpAnyH_ready (rs := [2]) (by kernel_rfl) (by simp) ?_
  refine AllReadyH.cons rfl (fun K hK => ?_) AllReadyH.nil
  go_simp
  go_wp2_with ((first | (refine (HF.out _).mono ?_; rintro e w4 ⟨rfl, hb4⟩; have hX4 := And.intro (hX.1.trans (hb4.mono hX.1.size)) ((hb4.block _ hX.2.lt).trans hX.2)) | fail))
  refine hK.out _ _ ?_ (fun hHeld => ?_)
  · exact hX4
  clear hK K
  try simp only [Act.put, List.getElem_toArray, List.getElem_cons_zero, List.getElem_cons_succ, List.setIfInBounds_toArray, List.set_cons_zero, List.set_cons_succ]
  clear hHeld
  have hHeld : Below w0.heap.size w0 w4 ∧ BlkIs w4 w0.heap.size 29 #[.string sf, .slice T tn tc, .int .i64 at'] := hX4
  clear hb4 hX HF
  cases p with
  | true =>
    have hl := HPT.out rfl
    refine wpAnyH_take (i := 3) (v := .bool false) rfl (by kernel_rfl) (by kernel_rfl) (by kernel_rfl) (fun _ _ _ h => h) (Or.inl ⟨by rfl, fun w hS => by first | (go_simp; done) | (go_simp; with_reducible rfl)⟩) hHeld ?_
    try simp only [Act.put, List.getElem_toArray, List.getElem_cons_zero, List.getElem_cons_succ, List.setIfInBounds_toArray, List.set_cons_zero, List.set_cons_succ]
    refine wpAnyH_take (i := 4) (v := .bool false) rfl (by kernel_rfl) (by kernel_rfl) (by kernel_rfl) (fun _ _ _ h => h) (Or.inl ⟨by rfl, fun w hS => by first | (go_simp; done) | (go_simp; with_reducible rfl)⟩) hHeld ?_
    try simp only [Act.put, List.getElem_toArray, List.getElem_cons_zero, List.getElem_cons_succ, List.setIfInBounds_toArray, List.set_cons_zero, List.set_cons_succ]
    refine wpAnyH_take (i := 5) (v := .slice A n c) rfl (by kernel_rfl) (by kernel_rfl) (by kernel_rfl) (fun _ _ _ h => h) (Or.inl ⟨by rfl, fun w hS => by first | (go_simp; done) | (go_simp; with_reducible rfl)⟩) hHeld ?_
    try simp only [Act.put, List.getElem_toArray, List.getElem_cons_zero, List.getElem_cons_succ, List.setIfInBounds_toArray, List.set_cons_zero, List.set_cons_succ]
    refine wpAnyH_take (i := 6) (v := .agg #[.string sf, .slice T tn tc, .int .i64 at']) rfl (by kernel_rfl) (by kernel_rfl) (by kernel_rfl) (fun _ _ _ h => h) (Or.inl ⟨by rfl, fun w hS => by (have x0 := (BlkIs.cell hS.2 0).trans (rfl : _ = some (Value.string sf)); have x1 := (BlkIs.cell hS.2 1).trans (rfl : _ = some (Value.slice T tn tc)); have x2 := (BlkIs.cell hS.2 2).trans (rfl : _ = some (Value.int .i64 at')); first | (go_simp; done) | (go_simp; with_reducible rfl))⟩) hHeld ?_
    try simp only [Act.put, List.getElem_toArray, List.getElem_cons_zero, List.getElem_cons_succ, List.setIfInBounds_toArray, List.set_cons_zero, List.set_cons_succ]
    refine wpAnyH_take (i := 8) (v := .slice A n c) rfl (by kernel_rfl) (by kernel_rfl) (by kernel_rfl) (fun _ _ _ h => h) (Or.inl ⟨by rfl, fun w hS => by first | (go_simp; done) | (go_simp; with_reducible rfl)⟩) hHeld ?_
    try simp only [Act.put, List.getElem_toArray, List.getElem_cons_zero, List.getElem_cons_succ, List.setIfInBounds_toArray, List.set_cons_zero, List.set_cons_succ]
    refine wpAnyH_take (i := 9) (v := .agg #[.string sf, .slice T tn tc, .int .i64 at']) rfl (by kernel_rfl) (by kernel_rfl) (by kernel_rfl) (fun _ _ _ h => h) (Or.inl ⟨by rfl, fun w hS => by (have x0 := (BlkIs.cell hS.2 0).trans (rfl : _ = some (Value.string sf)); have x1 := (BlkIs.cell hS.2 1).trans (rfl : _ = some (Value.slice T tn tc)); have x2 := (BlkIs.cell hS.2 2).trans (rfl : _ = some (Value.int .i64 at')); first | (go_simp; done) | (go_simp; with_reducible rfl))⟩) hHeld ?_
    try simp only [Act.put, List.getElem_toArray, List.getElem_cons_zero, List.getElem_cons_succ, List.setIfInBounds_toArray, List.set_cons_zero, List.set_cons_succ]
    refine wpAnyH_ready (rs := [7]) (by kernel_rfl) (by simp) ?_
    refine AllReadyH.cons rfl (fun K hK => ?_) AllReadyH.nil
    go_simp
    go_wp2_with ((first | (refine (HC.out hl _ hX4.1).mono ?_; rintro e w5 ⟨rfl, hb5⟩; have hX5 := And.intro (hX4.1.trans (hb5.mono hX4.1.size)) ((hb5.block _ (BlkIs.lt hX4.2)).trans hX4.2)) | fail))
    refine hK.out _ _ ?_ (fun hHeld => ?_)
    · exact hX5
    clear hK K
    try simp only [Act.put, List.getElem_toArray, List.getElem_cons_zero, List.getElem_cons_succ, List.setIfInBounds_toArray, List.set_cons_zero, List.set_cons_succ]
    clear hHeld
    have hHeld : Below w0.heap.size w0 w5 ∧ BlkIs w5 w0.heap.size 29 #[.string sf, .slice T tn tc, .int .i64 at'] := hX5
    refine wpAnyH_ready (rs := [10]) (by kernel_rfl) (by simp) ?_
    refine AllReadyH.cons rfl (fun K hK => ?_) AllReadyH.nil
    go_simp
    go_wp2_with ((first | (refine (HR.out hl _ hX5.1).mono ?_; rintro e w6 ⟨rfl, hb6⟩; have hX6 := And.intro (hX5.1.trans (hb6.mono hX5.1.size)) ((hb6.block _ (BlkIs.lt hX5.2)).trans hX5.2)) | fail))
    refine hK.out _ _ ?_ (fun hHeld => ?_)
    · exact hX6
    clear hK K
    try simp only [Act.put, List.getElem_toArray, List.getElem_cons_zero, List.getElem_cons_succ, List.setIfInBounds_toArray, List.set_cons_zero, List.set_cons_succ]
    clear hHeld
    have hHeld : Below w0.heap.size w0 w6 ∧ BlkIs w6 w0.heap.size 29 #[.string sf, .slice T tn tc, .int .i64 at'] := hX6
    have hqq : (q == q) = true := by simp
    refine wpAnyH_take (i := 11) (v := .bool true) rfl (by kernel_rfl) (by kernel_rfl) (by kernel_rfl) (fun _ _ _ h => h) (Or.inl ⟨by rfl, fun w hS => by first | (go_simp; done) | (go_simp; with_reducible rfl)⟩) hHeld ?_
    try simp only [Act.put, List.getElem_toArray, List.getElem_cons_zero, List.getElem_cons_succ, List.setIfInBounds_toArray, List.set_cons_zero, List.set_cons_succ]
    refine wpAnyH_take (i := 12) (v := .bool true) rfl (by kernel_rfl) (by kernel_rfl) (by kernel_rfl) (fun _ _ _ h => h) (Or.inl ⟨by rfl, fun w hS => by first | (go_simp; done) | (go_simp; with_reducible rfl)⟩) hHeld ?_
    try simp only [Act.put, List.getElem_toArray, List.getElem_cons_zero, List.getElem_cons_succ, List.setIfInBounds_toArray, List.set_cons_zero, List.set_cons_succ]
    refine wpAnyH_take (i := 13) (v := .bool true) rfl (by kernel_rfl) (by kernel_rfl) (by kernel_rfl) (fun _ _ _ h => h) (Or.inl ⟨by rfl, fun w hS => by first | (go_simp; done) | (go_simp; with_reducible rfl)⟩) hHeld ?_
    try simp only [Act.put, List.getElem_toArray, List.getElem_cons_zero, List.getElem_cons_succ, List.setIfInBounds_toArray, List.set_cons_zero, List.set_cons_succ]
    refine wpAnyH_done (by kernel_rfl) ?_ _
    go_wp2_with fail
    go_ret
    exact ⟨rfl, hX6.1⟩
  | false =>
    refine wpAnyH_take (i := 3) (v := .bool true) rfl (by kernel_rfl) (by kernel_rfl) (by kernel_rfl) (fun _ _ _ h => h) (Or.inl ⟨by rfl, fun w hS => by first | (go_simp; done) | (go_simp; with_reducible rfl)⟩) hHeld ?_
    try simp only [Act.put, List.getElem_toArray, List.getElem_cons_zero, List.getElem_cons_succ, List.setIfInBounds_toArray, List.set_cons_zero, List.set_cons_succ]
    refine wpAnyH_take (i := 4) (v := .bool true) rfl (by kernel_rfl) (by kernel_rfl) (by kernel_rfl) (fun _ _ _ h => h) (Or.inl ⟨by rfl, fun w hS => by first | (go_simp; done) | (go_simp; with_reducible rfl)⟩) hHeld ?_
    try simp only [Act.put, List.getElem_toArray, List.getElem_cons_zero, List.getElem_cons_succ, List.setIfInBounds_toArray, List.set_cons_zero, List.set_cons_succ]
    refine wpAnyH_take (i := 5) (v := undef) rfl (by kernel_rfl) (by kernel_rfl) (by kernel_rfl) (fun _ _ _ h => h) (Or.inr ⟨by rfl, rfl⟩) hHeld ?_
    try simp only [Act.put, List.getElem_toArray, List.getElem_cons_zero, List.getElem_cons_succ, List.setIfInBounds_toArray, List.set_cons_zero, List.set_cons_succ]
    refine wpAnyH_take (i := 6) (v := undef) rfl (by kernel_rfl) (by kernel_rfl) (by kernel_rfl) (fun _ _ _ h => h) (Or.inr ⟨by rfl, rfl⟩) hHeld ?_
    try simp only [Act.put, List.getElem_toArray, List.getElem_cons_zero, List.getElem_cons_succ, List.setIfInBounds_toArray, List.set_cons_zero, List.set_cons_succ]
    refine wpAnyH_take (i := 7) (v := undef) rfl (by kernel_rfl) (by kernel_rfl) (by kernel_rfl) (fun _ _ _ h => h) (Or.inr ⟨by rfl, rfl⟩) hHeld ?_
    try simp only [Act.put, List.getElem_toArray, List.getElem_cons_zero, List.getElem_cons_succ, List.setIfInBounds_toArray, List.set_cons_zero, List.set_cons_succ]
    refine wpAnyH_take (i := 8) (v := undef) rfl (by kernel_rfl) (by kernel_rfl) (by kernel_rfl) (fun _ _ _ h => h) (Or.inr ⟨by rfl, rfl⟩) hHeld ?_
    try simp only [Act.put, List.getElem_toArray, List.getElem_cons_zero, List.getElem_cons_succ, List.setIfInBounds_toArray, List.set_cons_zero, List.set_cons_succ]
    refine wpAnyH_take (i := 9) (v := undef) rfl (by kernel_rfl) (by kernel_rfl) (by kernel_rfl) (fun _ _ _ h => h) (Or.inr ⟨by rfl, rfl⟩) hHeld ?_
    try simp only [Act.put, List.getElem_toArray, List.getElem_cons_zero, List.getElem_cons_succ, List.setIfInBounds_toArray, List.set_cons_zero, List.set_cons_succ]
    refine wpAnyH_take (i := 10) (v := undef) rfl (by kernel_rfl) (by kernel_rfl) (by kernel_rfl) (fun _ _ _ h => h) (Or.inr ⟨by rfl, rfl⟩) hHeld ?_
    try simp only [Act.put, List.getElem_toArray, List.getElem_cons_zero, List.getElem_cons_succ, List.setIfInBounds_toArray, List.set_cons_zero, List.set_cons_succ]
    refine wpAnyH_take (i := 11) (v := undef) rfl (by kernel_rfl) (by kernel_rfl) (by kernel_rfl) (fun _ _ _ h => h) (Or.inr ⟨by rfl, rfl⟩) hHeld ?_
    try simp only [Act.put, List.getElem_toArray, List.getElem_cons_zero, List.getElem_cons_succ, List.setIfInBounds_toArray, List.set_cons_zero, List.set_cons_succ]
    refine wpAnyH_take (i := 12) (v := .bool true) rfl (by kernel_rfl) (by kernel_rfl) (by kernel_rfl) (fun _ _ _ h => h) (Or.inl ⟨by rfl, fun w hS => by first | (go_simp; done) | (go_simp; with_reducible rfl)⟩) hHeld ?_
    try simp only [Act.put, List.getElem_toArray, List.getElem_cons_zero, List.getElem_cons_succ, List.setIfInBounds_toArray, List.set_cons_zero, List.set_cons_succ]
    refine wpAnyH_take (i := 13) (v := .bool true) rfl (by kernel_rfl) (by kernel_rfl) (by kernel_rfl) (fun _ _ _ h => h) (Or.inl ⟨by rfl, fun w hS => by first | (go_simp; done) | (go_simp; with_reducible rfl)⟩) hHeld ?_
    try simp only [Act.put, List.getElem_toArray, List.getElem_cons_zero, List.getElem_cons_succ, List.setIfInBounds_toArray, List.set_cons_zero, List.set_cons_succ]
    refine wpAnyH_done (by kernel_rfl) ?_ _
    go_wp2_with fail
    go_ret
    exact ⟨rfl, hX4.1⟩
end Ho
end Go.Proofs.Ytamjellnmlgbeaa
