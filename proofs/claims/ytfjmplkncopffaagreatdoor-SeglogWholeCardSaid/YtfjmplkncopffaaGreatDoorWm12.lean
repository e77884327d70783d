/- DkDelS DkNo DkCreate SlFile. Conditions: as stated at each. -/
import Derived.Test.YtfjmplkncopffaaGreatDoorWm11
/- Delete over the disk's state. Conditions: as stated at each. -/
namespace Go.Proofs.YtfjmplkncopffaaGreatDoor
open Go.RowKit Go.Shelf Go Go.Maps
set_option maxHeartbeats 800000 in
theorem del1_any (W : World) (Dk M k B0 B1 : Nat) (D : DataW Value) (s : ByteArray) (r l b : Value) (x : Int) (n0 : Nat)
    (hD : BlkIs W Dk 55 #[.map (some M), r, .int .i64 x, l, b]) (hM : MapIs W M k D) (ho : OldIs D s n0) (hs : s.size ≤ maxLen) (hx : 0 ≤ x) (hx2 : x ≤ 1000000000000) (hn : n0 ≤ 1000000000000)
    (h0 : BlkIs W B0 30 #[.pointer (some ⟨Dk, 0, none⟩)]) (h1 : BlkIs W B1 9 #[.string s]) :
    Does 76 #[.pointer (some ⟨B0, 0, none⟩), .pointer (some ⟨B1, 0, none⟩)] W (RemPost W Dk M k D s r l b (x - n0)) := by
  have q0 := h0.cell 0
  have q1 := h1.cell 0
  have hp := remove_any W Dk M k D s r l b x n0 hD hM ho hs hx hx2 hn
  unfold Does
  go_enter Tryz.func76, Tryz.ntmps76
  go_wp2_with (go_at_call 77; refine hp.mono ?_; rintro e w' ⟨rfl, hp⟩)
  go_end0
  exact ⟨rfl, hp⟩
set_option maxRecDepth 20000 in
set_option maxHeartbeats 1600000 in
theorem delete_zero (W : World) (Dk M k : Nat) (D : DataW Value) (s : ByteArray) (r : Value) (x lf : Int) (a : Option Addr) (n c : Nat) (z : Int)
    (hD : BlkIs W Dk 55 #[.map (some M), r, .int .i64 x, .int .i64 lf, .bool false]) (hM : MapIs W M k D) (hs : s.size ≤ maxLen) (hb : nameB s = true) (ho : at_ D s = some (.agg #[.slice a n c, .int .i64 z])) (hx : 0 ≤ x) (hx2 : x ≤ 1000000000000) (hn : n ≤ 1000000000000) (hlf : ¬ 1 ≤ lf) :
    Calls Tryz.prog 52 #[.pointer (some ⟨Dk, 0, none⟩), .string s] W fun e w' => e = .returned (.int .i64 0) ∧ RemPost W Dk M k D s r (.int .i64 lf) (.bool false) (x - n) w' := by
  have hx0 : ∀ w (v u : Value), (Instr.extract (.tuple #[v, u]) 0).run Tryz.prog w = .ok v w := fun _ _ _ => by kernel_rfl
  have hx1 : ∀ w (v u : Value), (Instr.extract (.tuple #[v, u]) 1).run Tryz.prog w = .ok u w := fun _ _ _ => by kernel_rfl
  have hen : ∀ args w, (callFunc 76 args).run Tryz.prog w = .ok (.enter 76 args) w := enters_of Tryz.func76 (by kernel_rfl) rfl
  obtain ⟨k0, k1, k2, kT⟩ := three_new W 30 9 9 #[.pointer (some ⟨Dk, 0, none⟩)] #[.string s] #[.string s] (fun i => i = Dk ∨ i = M)
  have kB := three_below W 30 9 9 #[.pointer (some ⟨Dk, 0, none⟩)] #[.string s] #[.string s]
  go_enter Tryz.func52, Tryz.ntmps52
  go_wp2_with fail
  generalize (((W.alloc (Obj.cells #[Value.pointer (some ⟨Dk, 0, none⟩)] 30)).alloc (Obj.cells #[Value.string s] 9)).alloc (Obj.cells #[Value.string s] 9)) = W3 at *
  have kD : BlkIs W3 Dk 55 _ := (kB.block Dk hD.lt).trans hD
  have kM : MapIs W3 M k D := Held.same hM (kB.block M (Held.lt hM))
  refine (find_some W3 Dk M k 1 D _ s [] _ _ _ a n c z kD kM (Strs.one k2 hs) (fun ad e => by cases e; exact k2.lt) (by unfold maxLen; simp) (by simp [hb]) ho).mono ?_
  rintro e W4 ⟨rfl, hb4⟩
  have jB := kB.trans (hb4.mono kB.size)
  have k'D : BlkIs W4 Dk 55 _ := (hb4.block Dk kD.lt).trans kD
  have jD := k'D.alloc (.cells #[.slice a n c, .int .i64 z] 71)
  have k'0 : BlkIs W4 _ 30 _ := (hb4.block _ k0.lt).trans k0
  have j0 := k'0.alloc (.cells #[.slice a n c, .int .i64 z] 71)
  have k'1 : BlkIs W4 _ 9 _ := (hb4.block _ k1.lt).trans k1
  have j1 := k'1.alloc (.cells #[.slice a n c, .int .i64 z] 71)
  have q0 := j0.cell 0
  go_wp2_with fail
  have jB5 := jB.alloc jB.size (.cells #[.slice a n c, .int .i64 z] 71)
  have jM : MapIs (W4.alloc (.cells #[.slice a n c, .int .i64 z] 71)) M k D := Held.same hM (jB5.block M (Held.lt hM))
  have jT : Tn (fun i => i = Dk ∨ i = M) W (W4.alloc (.cells #[.slice a n c, .int .i64 z] 71)) := Tn.of_below jB5
  clear kB kD kM hb4 jB k'D k'0 k'1 k0 k1 k2 kT q0 jB5
  generalize W4.alloc (.cells #[.slice a n c, .int .i64 z] 71) = W5 at *
  refine (change_zero 76 _ _ W5 Dk lf (by omega) (jD.cell 3) _ (hen _) (del1_any W5 Dk M k _ _ D s _ _ _ x n jD jM (.inr ⟨a, c, z, ho⟩) hs hx hx2 hn j0 j1)).mono ?_
  rintro e w' ⟨rfl, p1, p2, p3⟩
  go_wp2_with fail
  go_ret
  exact ⟨rfl, p1, p2, jT.trans p3⟩
/-- Delete of a file that is there, the power on for good. -/
theorem delete_S (W : World) (N : Nat) (Ft : Nat → Prop) (Dk k : Nat) (F : Files) (s : ByteArray) (rm x lf : Int) (bs : List UInt8) (z : Nat)
    (hS : DiskS W N Ft Dk k F rm x lf false) (hb : nameB s = true) (hf : F s = some (bs, z)) (hx : (bs.length : Int) ≤ x) (hx2 : x ≤ 100000000) (hlf : ¬ 1 ≤ lf) :
    Calls Tryz.prog 52 #[.pointer (some ⟨Dk, 0, none⟩), .string s] W fun e w' => e = .returned (.int .i64 0) ∧ DiskS w' N (NewFt Ft W w') Dk k (F.upd s none) rm (x - bs.length) lf false ∧ Tn Ft W w' := by
  obtain ⟨M, D, hD, hM, f1, f2, hF⟩ := hS
  obtain ⟨a, c, e1, e2, e3, e4⟩ := hF.2.1 s bs z hf
  refine (delete_zero W Dk M k D s _ x lf a bs.length c z hD hM (nameB_size hb) hb e1 (by omega) (by omega) (by omega) hlf).mono ?_
  rintro e w' ⟨rfl, p1, p2, p3⟩
  have hFi := files_del (s := s) hF hM hD (by decide) p3
  refine ⟨rfl, ⟨M, _, p1, p2, .inl f1, .inl f2, hFi.1, fun t bs' z' ht => ?_, hFi.2.2⟩, p3.mono fun i _ hi => ?_⟩
  · obtain ⟨a', c', g1, g2, g3, g4⟩ := hFi.2.1 t bs' z' ht
    exact ⟨a', c', g1, g2, g3, fun g hg => .inl (g4 g hg)⟩
  · rcases hi with rfl | rfl
    · exact f1
    · exact f2
end Go.Proofs.YtfjmplkncopffaaGreatDoor
/- The disk's calls where they are refused, over its state. Conditions: as stated at each. -/
namespace Go.Proofs.YtfjmplkncopffaaGreatDoor
open Go.RowKit Go.Shelf Go
/-- refused: no file is changed. -/
def Still (W : World) (N : Nat) (Ft : Nat → Prop) (Dk k : Nat) (F : Files) (rm x lf : Int) (b : Bool) (w' : World) : Prop :=
  DiskS w' N Ft Dk k F rm x lf b ∧ Below W.heap.size W w'
/-- Append's error ahead of the change: no power, no name, no room. -/
theorem append_no (W : World) (N : Nat) (Ft : Nat → Prop) (Dk k : Nat) (F : Files) (s : ByteArray) (rm x lf : Int) (b : Bool) (A : Option Addr) (n c : Nat)
    (hS : DiskS W N Ft Dk k F rm x lf b) (hs : s.size ≤ maxLen) (hx : 0 ≤ x) (hx2 : x ≤ 1000000000000) (hn : n ≤ 1000000000000) (h : b = true ∨ nameB s = false ∨ rm < x + n) :
    Calls Tryz.prog 29 #[.pointer (some ⟨Dk, 0, none⟩), .string s, .slice A n c] W fun e w' => e = .returned (.int .i64 (if b then 10 else if nameB s = false then 12 else 11)) ∧ Still W N Ft Dk k F rm x lf b w' := by
  have hS0 := hS
  obtain ⟨M, D, hD, hM, f1, f2, hF⟩ := hS
  cases b with
  | true =>
    refine (append_down W Dk M s _ _ _ _ hD ⟨A, n, c, rfl⟩).mono ?_
    rintro e w' ⟨rfl, hB⟩
    exact ⟨rfl, hS0.below hB, hB⟩
  | false =>
    cases hb : nameB s with
    | false =>
      refine (append_bad W Dk M s _ _ _ _ hD ⟨A, n, c, rfl⟩ hs hb).mono ?_
      rintro e w' ⟨rfl, hB⟩
      exact ⟨by simp, hS0.below hB, hB⟩
    | true =>
      refine (append_full W Dk M s A n c rm x _ hD hs hb hx hx2 hn ?_).mono ?_
      · rcases h with h | h | h
        · cases h
        · rw [hb] at h; cases h
        · exact h
      · rintro e w' ⟨rfl, hB⟩
        exact ⟨by simp, hS0.below hB, hB⟩
/-- Sync's: no power, no name, no file. -/
theorem sync_no (W : World) (N : Nat) (Ft : Nat → Prop) (Dk k : Nat) (F : Files) (s : ByteArray) (rm x lf : Int) (b : Bool)
    (hS : DiskS W N Ft Dk k F rm x lf b) (hs : s.size ≤ maxLen) (h : b = true ∨ nameB s = false ∨ F s = none) :
    Calls Tryz.prog 58 #[.pointer (some ⟨Dk, 0, none⟩), .string s] W fun e w' => e = .returned (.int .i64 (if b then 10 else if nameB s = false then 12 else 3)) ∧ Still W N Ft Dk k F rm x lf b w' := by
  have hS0 := hS
  obtain ⟨M, D, hD, hM, f1, f2, hF⟩ := hS
  cases b with
  | true =>
    refine (sync_down W Dk M s _ _ _ hD).mono ?_
    rintro e w' ⟨rfl, hB⟩
    exact ⟨rfl, hS0.below hB, hB⟩
  | false =>
    cases hb : nameB s with
    | false =>
      refine (sync_bad W Dk M s _ _ _ hD hs hb).mono ?_
      rintro e w' ⟨rfl, hB⟩
      exact ⟨by simp, hS0.below hB, hB⟩
    | true =>
      refine (sync_none W Dk M k D s _ _ _ hD hM hs hb (hF.1 s ?_)).mono ?_
      · rcases h with h | h | h
        · cases h
        · rw [hb] at h; cases h
        · exact h
      · rintro e w' ⟨rfl, hB⟩
        exact ⟨by simp, hS0.below hB, hB⟩
theorem down_S (W : World) (N : Nat) (Ft : Nat → Prop) (Dk k : Nat) (F : Files) (rm x lf : Int) (b : Bool) (hS : DiskS W N Ft Dk k F rm x lf b) :
    Calls Tryz.prog 20 #[.pointer (some ⟨Dk, 0, none⟩)] W fun e w' => e = .returned (.bool b) ∧ W = w' := by
  obtain ⟨M, D, hD, _⟩ := hS
  exact down_any W Dk M b (hD.cell 0) (hD.cell 4)
end Go.Proofs.YtfjmplkncopffaaGreatDoor
/- (*disk.Disk).Create of a file that there isn't, and Free, over the disk's state. Conditions: as stated at each. -/
namespace Go.Proofs.YtfjmplkncopffaaGreatDoor
open Go.RowKit Go.Shelf Go
/-- the world in which a change is done that isn't the last one. -/
def armed (W : World) (Dk : Nat) (lf : Int) : World := if 1 < lf then W.setCell ⟨Dk, 3, none⟩ (.int .i64 (lf - 1)) else W
theorem armed_blk {W : World} {Dk : Nat} {lf : Int} {m r x b : Value} (h : BlkIs W Dk 55 #[m, r, x, .int .i64 lf, b]) : BlkIs (armed W Dk lf) Dk 55 #[m, r, x, .int .i64 (lfA lf), b] := by
  unfold armed lfA
  by_cases h1 : 1 < lf
  · rw [if_pos h1, if_pos h1]
    have := h.put 3 (.int .i64 (lf - 1))
    simpa using this
  · rw [if_neg h1, if_neg h1]
    exact h
theorem armed_tn {p : Nat → Prop} {W0 W : World} {Dk : Nat} {lf : Int} (h : Tn p W0 W) (hp : p Dk) : Tn p W0 (armed W Dk lf) := by
  unfold armed
  split
  · exact h.setCell (x := ⟨Dk, 3, none⟩) (.inl hp) _
  · exact h
theorem armed_heap {W : World} {Dk : Nat} {lf : Int} {g : Nat} (h : g ≠ Dk) : (armed W Dk lf).heap[g]? = W.heap[g]? := by
  unfold armed
  split
  · exact Below.heap_setCell W ⟨Dk, 3, none⟩ _ g h
  · rfl
theorem change_lf (f g : Nat) (ps qs : Array Value) (W : World) (Dk : Nat) (lf : Int) (hlf : lf ≤ 9223372036854775807) {m r x b : Value} (hD : BlkIs W Dk 55 #[m, r, x, .int .i64 lf, b]) (Q : World → Prop)
    (hf : ∀ w, (callFunc f ps).run Tryz.prog w = .ok (.enter f ps) w) (hg : ∀ w, (callFunc g qs).run Tryz.prog w = .ok (.enter g qs) w)
    (hW : lf ≠ 1 → Does f ps (armed W Dk lf) Q) (hC : lf = 1 → Does g qs W (fun w' => (∃ u, w'.cell? ⟨Dk, 4, none⟩ = some (.bool u)) ∧ w'.frozen? ⟨Dk, 4, none⟩ = false ∧ Q (w'.setCell ⟨Dk, 4, none⟩ (.bool true)))) :
    Calls Tryz.prog 57 #[.pointer (some ⟨Dk, 0, none⟩), .func (.func f) #[] ps, .func (.func g) #[] qs] W fun e w' => e = .returned (.int .i64 (erA lf)) ∧ Q w' := by
  unfold erA
  by_cases h1 : lf = 1
  · subst h1
    exact change_last g qs _ W Dk (hD.cell 3) Q hg (hC rfl)
  · rw [if_neg h1]
    have hw := hW h1
    unfold armed at hw
    by_cases h2 : 1 < lf
    · rw [if_pos h2] at hw
      exact change_more f ps _ W Dk lf h2 hlf (hD.cell 3) (hD.froz 3) Q hf hw
    · rw [if_neg h2] at hw
      exact change_zero f ps _ W Dk lf (by omega) (hD.cell 3) Q hf hw
set_option maxHeartbeats 800000 in
theorem create1_any (W : World) (Dk M k B0 B1 : Nat) (D : DataW Value) (s : ByteArray) (r l b : Value) (x : Int) (n0 : Nat)
    (hD : BlkIs W Dk 55 #[.map (some M), r, .int .i64 x, l, b]) (hM : MapIs W M k D) (ho : OldIs D s n0) (hs : s.size ≤ maxLen) (hk : k < maxLen) (hx : 0 ≤ x) (hx2 : x ≤ 1000000000000) (hn : n0 ≤ 1000000000000)
    (h0 : BlkIs W B0 30 #[.pointer (some ⟨Dk, 0, none⟩)]) (h1 : BlkIs W B1 9 #[.string s]) :
    Does 90 #[.pointer (some ⟨B0, 0, none⟩), .pointer (some ⟨B1, 0, none⟩)] W (PutPost W Dk M k D s (.agg #[.slice none 0 0, .int .i64 0]) r l b (x - n0)) := by
  have q0 := h0.cell 0
  have q1 := h1.cell 0
  have hx3 : x + (((0 : Nat) : Int) - (n0 : Int)) = x - n0 := by omega
  have hp := put_any W Dk M k D s r l b x n0 none 0 0 0 hD hM ho hs hk hx hx2 (by omega) hn
  rw [hx3] at hp
  unfold Does
  go_enter Tryz.func90, Tryz.ntmps90
  go_wp2_with (go_at_call 34; refine hp.mono ?_; rintro e w' ⟨rfl, hp⟩)
  go_end0
  exact ⟨rfl, hp⟩
/-- behind Create of a file that there was not. -/
def Made (W : World) (N : Nat) (Ft : Nat → Prop) (Dk k : Nat) (F : Files) (s : ByteArray) (rm x lf : Int) (w' : World) : Prop :=
  DiskS w' N (NewFt Ft W w') Dk (k + 1) (if lf = 1 then F else F.upd s (some ([], 0))) rm x (lfA lf) (decide (lf = 1)) ∧ Tn Ft W w'
set_option maxRecDepth 20000 in
set_option maxHeartbeats 1600000 in
theorem create_S (W : World) (N : Nat) (Ft : Nat → Prop) (Dk k : Nat) (F : Files) (s : ByteArray) (rm x lf : Int)
    (hS : DiskS W N Ft Dk k F rm x lf false) (hb : nameB s = true) (hf : F s = none) (hk : k < maxLen) (hx : 0 ≤ x) (hx2 : x ≤ 100000000) (hlf : lf ≤ 9223372036854775807) :
    Calls Tryz.prog 70 #[.pointer (some ⟨Dk, 0, none⟩), .string s] W fun e w' => e = .returned (.int .i64 (erA lf)) ∧ Made W N Ft Dk k F s rm x lf w' := by
  obtain ⟨M, D, hD, hM, f1, f2, hF⟩ := hS
  have hs := nameB_size hb
  have ha := hF.1 s hf
  obtain ⟨k0, k1, k2, kT⟩ := three_new W 30 9 9 #[.pointer (some ⟨Dk, 0, none⟩)] #[.string s] #[.string s] (fun i => i = Dk ∨ i = M)
  have kB := three_below W 30 9 9 #[.pointer (some ⟨Dk, 0, none⟩)] #[.string s] #[.string s]
  have hen : ∀ args w, (callFunc 90 args).run Tryz.prog w = .ok (.enter 90 args) w := enters_of Tryz.func90 (by kernel_rfl) rfl
  have hen2 : ∀ args w, (callFunc 78 args).run Tryz.prog w = .ok (.enter 78 args) w := enters_of Tryz.func78 (by kernel_rfl) rfl
  go_enter Tryz.func70, Tryz.ntmps70
  go_wp2_with fail
  generalize (((W.alloc (Obj.cells #[Value.pointer (some ⟨Dk, 0, none⟩)] 30)).alloc (Obj.cells #[Value.string s] 9)).alloc (Obj.cells #[Value.string s] 9)) = W3 at *
  have kD : BlkIs W3 Dk 55 _ := (kB.block Dk hD.lt).trans hD
  have kM : MapIs W3 M k D := Held.same hM (kB.block M (Held.lt hM))
  have hr := refuse_up W3 Dk M 1 _ [s] (Strs.one k2 hs) (by unfold maxLen; simp) (kD.cell 0) (kD.cell 4)
  rw [refN_yes (by simp [hb])] at hr
  refine hr.mono ?_
  rintro e w' ⟨rfl, rfl⟩
  have q0 := k0.cell 0
  go_wp2_with fail
  have hne := Held.not_blk kM kD
  have h0D := blk_ne k0 kD (by decide)
  have h1D := blk_ne k1 kD (by decide)
  clear q0
  refine (change_lf 90 78 _ #[] W3 Dk lf hlf kD (fun w' => Made W N Ft Dk k F s rm x lf w') (hen _) (hen2 _) (fun hl => ?_) (fun hl => ?_)).mono ?_
  · have jD := armed_blk kD
    have jM : MapIs (armed W3 Dk lf) M k D := Held.same kM (armed_heap hne)
    have j0 : BlkIs (armed W3 Dk lf) _ 30 _ := (armed_heap h0D).trans k0
    have j1 : BlkIs (armed W3 Dk lf) _ 9 _ := (armed_heap h1D).trans k1
    have jT := armed_tn (lf := lf) kT (.inl rfl)
    refine (create1_any (armed W3 Dk lf) Dk M k _ _ D s _ _ _ x 0 jD jM (.inl ⟨ha, rfl⟩) hs hk hx (by omega) (by omega) j0 j1).mono ?_
    rintro e w' ⟨rfl, p1, p2, p3⟩
    have hT := jT.trans p3
    refine ⟨rfl, ?_⟩
    unfold Made
    rw [if_neg hl, decide_eq_false hl]
    refine ⟨⟨M, _, by simpa using p1, p2, .inl f1, .inl f2, files_put hF hM hD (by decide) (Own5.nil _ _) (Nat.le_refl _) (.inl ⟨ha, rfl⟩) (.inl rfl) (hT.mono fun i _ hi => ?_)⟩, hT.mono fun i _ hi => ?_⟩
    · rcases hi with hi | hi
      · exact .inl hi
      · exact .inr (.inl hi)
    · rcases hi with rfl | rfl
      · exact f1
      · exact f2
  · subst hl
    refine (nothing_any W3).mono ?_
    rintro e w' ⟨rfl, rfl⟩
    have hT := (Tn.of_below (p := fun i => i = Dk) kB).setCell (x := ⟨Dk, 4, none⟩) (.inl rfl) (.bool true)
    refine ⟨rfl, ⟨_, kD.cell 4⟩, kD.froz 4, ?_⟩
    unfold Made
    rw [if_pos rfl]
    have hT2 : Tn Ft W (W3.setCell ⟨Dk, 4, none⟩ (.bool true)) := hT.mono fun i _ hi => by
      have hi : i = Dk := hi
      rw [hi]
      exact f1
    refine ⟨⟨M, D, ?_, World.ownsMap.mono (Held.same kM (Below.heap_setCell W3 ⟨Dk, 4, none⟩ _ M hne)) (by omega), .inl f1, .inl f2, files_keep hF hT (fun i h => .inl h) (fun v l g ho hg hp => Own5.not_blk ho hD (by decide) (by rw [hg, hp]))⟩, hT2⟩
    have := kD.put 4 (.bool true)
    simpa [lfA] using this
  · rintro e w' ⟨rfl, hp⟩
    go_wp2_with fail
    go_ret
    exact ⟨rfl, hp⟩
set_option maxHeartbeats 800000 in
theorem free_S (W : World) (N : Nat) (Ft : Nat → Prop) (Dk k : Nat) (F : Files) (rm x lf : Int) (hS : DiskS W N Ft Dk k F rm x lf false) (hx : 0 ≤ x) (hx2 : x ≤ 100000000) (hr : x ≤ rm) (hr2 : rm ≤ 1000000000000) :
    Calls Tryz.prog 54 #[.pointer (some ⟨Dk, 0, none⟩)] W fun e w' => e = .returned (.int .i64 (rm - x)) ∧ Below W.heap.size W w' := by
  obtain ⟨M, D, hD, hM, f1, f2, hF⟩ := hS
  have c1 := hD.cell 1
  have c2 := hD.cell 2
  have hd := down_any W Dk M false (hD.cell 0) (hD.cell 4)
  have hm : max (rm - x) 0 = rm - x := by omega
  go_enter Tryz.func54, Tryz.ntmps54
  go_wp2_with (go_at_call 20; refine hd.mono ?_; rintro e w' ⟨rfl, rfl⟩)
  go_region
  all_goals go_wp2_with fail
  all_goals go_ret
  all_goals exact ⟨rfl, (Below.refl _ W).drew⟩
end Go.Proofs.YtfjmplkncopffaaGreatDoor
/- seglog.File at whatever name and number below a million. Conditions: as stated. -/
namespace Go.Proofs.YtfjmplkncopffaaGreatDoor
open Go.RowKit Go.Shelf Go
/-- the number's digit j, as a byte's number. -/
def dg (k j : Nat) : Int := 48 + (k / 10 ^ j % 10 : Nat)
/-- six digits. -/
def digs (k : Nat) : List UInt8 := [5, 4, 3, 2, 1, 0].map fun j => UInt8.ofNat (48 + k / 10 ^ j % 10)
/-- a segment's file. -/
def fileN (nm : ByteArray) (k : Nat) : ByteArray := nm ++ ⟨#[46]⟩ ++ str (digs k)
/-- the digits that are laid when i rounds are over. -/
def laidD (k i : Nat) (j : Nat) : Value := if j < i then .int .u8 (dg k j) else .int .u8 0
def rowD (k i : Nat) : Array Value := #[laidD k i 5, laidD k i 4, laidD k i 3, laidD k i 2, laidD k i 1, laidD k i 0]
theorem rowD_bv (k : Nat) : (rowD k 6).toList = bv (digs k) := by
  have h : ∀ j, Value.int .u8 (dg k j) = .int .u8 ((UInt8.ofNat (48 + k / 10 ^ j % 10)).toNat : Int) := fun j => by
    unfold dg
    have : k / 10 ^ j % 10 < 10 := Nat.mod_lt _ (by omega)
    congr 1
    simp
    omega
  simp [rowD, laidD, digs, bv, h]
theorem rowD_next (k i q : Nat) (hi : i < 6) (hq : q = k / 10 ^ i) : (rowD k i).setIfInBounds (5 - i) (.int .u8 (48 + (q : Int) % 10)) = rowD k (i + 1) := by
  have hv : Value.int .u8 (48 + (q : Int) % 10) = .int .u8 (dg k i) := by
    unfold dg
    rw [hq]
    simp
  rw [hv]
  obtain rfl | rfl | rfl | rfl | rfl | rfl : i = 0 ∨ i = 1 ∨ i = 2 ∨ i = 3 ∨ i = 4 ∨ i = 5 := by omega
  all_goals simp [rowD, laidD]
theorem div_next (k i q : Nat) (hq : q = k / 10 ^ i) : Value.int .i64 ((q : Int) / 10) = .int .i64 ((k / 10 ^ (i + 1) : Nat) : Int) := by
  rw [hq, Nat.pow_succ, ← Nat.div_div_eq_div_mul]
  rfl
theorem digs_length (k : Nat) : (digs k).length = 6 := rfl
set_option maxHeartbeats 1600000 in
set_option maxRecDepth 20000 in
theorem file_any (W : World) (nm : ByteArray) (k : Nat) (hk : k ≤ 999999) (hs : nm.size ≤ 1000000) :
    Calls Tryz.prog 19 #[.string nm, .int .i64 k] W fun e w' => e = .returned (.string (fileN nm k)) ∧ Below W.heap.size W w' := by
  go_enter Tryz.func19, Tryz.ntmps19
  go_wp2_with fail
  have hb0 := BlkIs.new W 86 #[.int .u8 0, .int .u8 0, .int .u8 0, .int .u8 0, .int .u8 0, .int .u8 0]
  go_loopw [1, 8] (fun x y wr => ∃ i q : Nat, i ≤ 6 ∧ q ≤ 999999 ∧ q = k / 10 ^ i ∧ x = .int .i64 q ∧ y = .int .i64 i ∧ BlkIs wr W.heap.size 86 (rowD k i) ∧ Below W.heap.size W wr) (fun _ y _ => 6 - (intOf y).toNat)
  case atStart => exact ⟨0, k, by omega, hk, by simp, rfl, rfl, hb0, (Below.refl _ W).alloc (Nat.le_refl _) _⟩
  case round =>
    obtain ⟨i, q, hi, hq, hqe, rfl, rfl, hb, hB⟩ := hrel
    have hfin : ∀ wr' : World, i < 6 → BlkIs wr' W.heap.size 86 ((rowD k i).setIfInBounds (5 - i) (.int .u8 (48 + (q : Int) % 10))) → Below W.heap.size W wr' →
        ∃ i' q' : Nat, i' ≤ 6 ∧ q' ≤ 999999 ∧ q' = k / 10 ^ i' ∧ Value.int .i64 ((q : Int) / 10) = .int .i64 q' ∧ Value.int .i64 ((i : Int) + 1) = .int .i64 i' ∧ BlkIs wr' W.heap.size 86 (rowD k i') ∧ Below W.heap.size W wr' := fun wr' hlt h1 h2 => by
      rw [rowD_next k i q hlt hqe] at h1
      refine ⟨i + 1, k / 10 ^ (i + 1), by omega, ?_, rfl, div_next k i q hqe, rfl, h1, h2⟩
      rw [Nat.pow_succ, ← Nat.div_div_eq_div_mul, ← hqe]
      omega
    have HF := Lib.hid hfin
    clear hfin
    have hset : ∀ (j : Nat) (v : Value), BlkIs (wr.setCell ⟨W.heap.size, j, none⟩ v) W.heap.size 86 ((rowD k i).setIfInBounds j v) := fun j v => hb.put j v
    have HS := Lib.hid hset
    have hbel : ∀ (j : Nat) (v : Value), Below W.heap.size W (wr.setCell ⟨W.heap.size, j, none⟩ v) := fun j v => hB.setCell (Nat.le_refl _) v
    have HL := Lib.hid hbel
    clear hset hbel hqe
    obtain rfl | rfl | rfl | rfl | rfl | rfl | rfl : i = 0 ∨ i = 1 ∨ i = 2 ∨ i = 3 ∨ i = 4 ∨ i = 5 ∨ i = 6 := by omega
    · have c5 := hb.cell 5
      have f5 := hb.froz 5
      go_wp2_with fail
      exact ⟨HF.out _ (by omega) (HS.out _ _) (HL.out _ _), by simp [intOf]⟩
    · have c5 := hb.cell 4
      have f5 := hb.froz 4
      go_wp2_with fail
      exact ⟨HF.out _ (by omega) (HS.out _ _) (HL.out _ _), by simp [intOf]⟩
    · have c5 := hb.cell 3
      have f5 := hb.froz 3
      go_wp2_with fail
      exact ⟨HF.out _ (by omega) (HS.out _ _) (HL.out _ _), by simp [intOf]⟩
    · have c5 := hb.cell 2
      have f5 := hb.froz 2
      go_wp2_with fail
      exact ⟨HF.out _ (by omega) (HS.out _ _) (HL.out _ _), by simp [intOf]⟩
    · have c5 := hb.cell 1
      have f5 := hb.froz 1
      go_wp2_with fail
      exact ⟨HF.out _ (by omega) (HS.out _ _) (HL.out _ _), by simp [intOf]⟩
    · have c5 := hb.cell 0
      have f5 := hb.froz 0
      go_wp2_with fail
      exact ⟨HF.out _ (by omega) (HS.out _ _) (HL.out _ _), by simp [intOf]⟩
    · have hbt : Bts wr wr.heap.size (some ⟨W.heap.size, 0, none⟩) (digs k) := fun j u hj => by
        rw [← rowD_bv] at hj
        have hj' : (rowD k 6)[j]? = some u := by simpa using hj
        exact ⟨_, rfl, hb.lt, by
          have := hb.cell j
          rw [hj'] at this
          rw [← this]
          unfold Addr.add
          by_cases h0 : j = 0 <;> simp [h0]⟩
      have hrun := run_str Tryz.prog Tryz.underlying26 Tryz.underlying5 Tryz.underlying9 6 hbt
      rw [digs_length] at hrun
      have hsd : ¬ 9223372036854775807 < nm.size + 1 + (str (digs k)).size := by
        have : (str (digs k)).size = 6 := rfl
        omega
      go_wp2_with fail
      go_ret
      exact ⟨rfl, hB⟩
theorem digs_byte (k : Nat) (b : UInt8) (hb : b ∈ digs k) : nb (b.toNat : Int) = true := by
  unfold digs at hb
  rw [List.mem_map] at hb
  obtain ⟨j, _, rfl⟩ := hb
  have : k / 10 ^ j % 10 < 10 := Nat.mod_lt _ (by omega)
  refine (nb_t ?_).symm
  simp
  omega
theorem digs_inj {j k : Nat} (hj : j ≤ 999999) (hk : k ≤ 999999) (h : digs j = digs k) : j = k := by
  have key : ∀ i, UInt8.ofNat (48 + j / 10 ^ i % 10) = UInt8.ofNat (48 + k / 10 ^ i % 10) → j / 10 ^ i % 10 = k / 10 ^ i % 10 := fun i e => by
    have h1 := Nat.mod_lt (j / 10 ^ i) (show 0 < 10 by omega)
    have h2 := Nat.mod_lt (k / 10 ^ i) (show 0 < 10 by omega)
    have := congrArg UInt8.toNat e
    simp at this
    omega
  simp only [digs, List.map_cons, List.map_nil, List.cons.injEq, and_true] at h
  obtain ⟨h5, h4, h3, h2, h1, h0⟩ := h
  have h5 := key 5 h5
  have h4 := key 4 h4
  have h3 := key 3 h3
  have h2 := key 2 h2
  have h1 := key 1 h1
  have h0 := key 0 h0
  simp at h5 h4 h3 h2 h1 h0
  omega
theorem fileN_inj {nm : ByteArray} {j k : Nat} (hj : j ≤ 999999) (hk : k ≤ 999999) (h : fileN nm j = fileN nm k) : j = k := by
  refine digs_inj hj hk ?_
  unfold fileN str at h
  have h' := congrArg (fun b : ByteArray => b.data.toList) h
  simpa using h'
theorem str_digs_size (k : Nat) : (str (digs k)).size = 6 := rfl
theorem fileN_size (nm : ByteArray) (k : Nat) : (fileN nm k).size = nm.size + 7 := by
  unfold fileN
  rw [ByteArray.size_append, ByteArray.size_append, str_digs_size]
  rfl
/-- the name of a log: it and what stands behind it may be files' names. -/
def nmOk (nm : ByteArray) : Prop := nm.size ≤ 53 ∧ nm.data.toList.all (fun c => nb c.toNat) = true
theorem nameB_of {s : ByteArray} (h1 : 1 ≤ s.size) (h2 : s.size ≤ 64) (h3 : s.data.toList.all (fun c => nb c.toNat) = true) : nameB s = true := by
  unfold nameB allNb
  rw [List.take_of_length_le (by simp)]
  simp [h1, h2]
  simpa using h3
theorem fileN_list (nm : ByteArray) (k : Nat) : (fileN nm k).data.toList = nm.data.toList ++ [46] ++ digs k := by
  unfold fileN str
  simp
theorem digs_all (k : Nat) : (digs k).all (fun c => nb c.toNat) = true := by
  rw [List.all_eq_true]
  exact fun b hb => digs_byte k b hb
theorem nameB_fileN {nm : ByteArray} (h : nmOk nm) (k : Nat) : nameB (fileN nm k) = true := by
  have hs := fileN_size nm k
  have := h.1
  refine nameB_of (by omega) (by omega) ?_
  rw [fileN_list, List.all_append, List.all_append, h.2, digs_all]
  decide
/-- what stands behind the name of a file that is to take a segment's place. -/
def spareB : ByteArray := ⟨#[46, 110, 101, 119]⟩
theorem nameB_spare {nm : ByteArray} (h : nmOk nm) (k : Nat) : nameB (fileN nm k ++ spareB) = true := by
  have hs := fileN_size nm k
  have h1 := h.1
  have hz : (fileN nm k ++ spareB).size = nm.size + 11 := by
    rw [ByteArray.size_append, hs]
    rfl
  refine nameB_of (by omega) (by omega) ?_
  have hl : (fileN nm k ++ spareB).data.toList = (fileN nm k).data.toList ++ [46, 110, 101, 119] := by
    unfold spareB
    simp
  rw [hl, List.all_append, fileN_list, List.all_append, List.all_append, h.2, digs_all]
  decide
theorem nmOk_x : nmOk ⟨#[120]⟩ := by unfold nmOk; decide
theorem nmOk_a : nmOk ⟨#[97]⟩ := by unfold nmOk; decide
end Go.Proofs.YtfjmplkncopffaaGreatDoor
