/- (*disk.Disk).Sync where the file is there. Conditions: as stated at each. -/
import Derived.Test.YtidadjlhnlmfkaaGreatDoorDkSync
namespace Go.Proofs.YtidadjlhnlmfkaaGreatDoor
set_option maxRecDepth 100000
open Go.RowKit Go.Shelf Go
set_option maxRecDepth 20000 in
set_option maxHeartbeats 1600000 in
theorem sync_zero (W : World) (Dk M k : Nat) (D : DataW Value) (s : ByteArray) (r : Value) (x lf : Int) (a : Option Addr) (n c : Nat) (z : Int)
    (hD : BlkIs W Dk 55 #[.map (some M), r, .int .i64 x, .int .i64 lf, .bool false]) (hM : MapIs W M k D) (hs : s.size ≤ maxLen) (hb : nameB s = true) (ho : at_ D s = some (.agg #[.slice a n c, .int .i64 z])) (hk : k < maxLen) (hx : 0 ≤ x) (hx2 : x ≤ 1000000000000) (hn : n ≤ 1000000000000) (hlf : ¬ 1 ≤ lf) :
    Calls Tryz.prog 59 #[.pointer (some ⟨Dk, 0, none⟩), .string s] W fun e w' => e = .returned (.int .i64 0) ∧ PutPost W Dk M k D s (.agg #[.slice a n c, .int .i64 n]) r (.int .i64 lf) (.bool false) x w' := by
  have hx0 : ∀ w (v u : Value), (Instr.extract (.tuple #[v, u]) 0).run Tryz.prog w = .ok v w := fun _ _ _ => by kernel_rfl
  have hx1 : ∀ w (v u : Value), (Instr.extract (.tuple #[v, u]) 1).run Tryz.prog w = .ok u w := fun _ _ _ => by kernel_rfl
  have hen : ∀ args w, (callFunc 80 args).run Tryz.prog w = .ok (.enter 80 args) w := enters_of Tryz.func80 (by kernel_rfl) rfl
  obtain ⟨k0, k1, k2, kT⟩ := three_new W 30 9 9 #[.pointer (some ⟨Dk, 0, none⟩)] #[.string s] #[.string s] (fun i => i = Dk ∨ i = M)
  have kB := three_below W 30 9 9 #[.pointer (some ⟨Dk, 0, none⟩)] #[.string s] #[.string s]
  go_enter Tryz.func59, Tryz.ntmps59
  go_wp2_with fail
  generalize (((W.alloc (Obj.cells #[Value.pointer (some ⟨Dk, 0, none⟩)] 30)).alloc (Obj.cells #[Value.string s] 9)).alloc (Obj.cells #[Value.string s] 9)) = W3 at *
  have kD : BlkIs W3 Dk 55 _ := (kB.block Dk hD.lt).trans hD
  have kM : MapIs W3 M k D := Held.same hM (kB.block M (Held.lt hM))
  refine (find_some W3 Dk M k 1 D _ s [] _ _ _ a n c z kD kM (Strs.one k2 hs) (fun ad e => by cases e; exact k2.lt) (by unfold maxLen; simp) (by simp [hb]) ho).mono ?_
  rintro e W4 ⟨rfl, hb4⟩
  have jB := kB.trans (hb4.mono kB.size)
  have k'D : BlkIs W4 Dk 55 _ := (hb4.block Dk kD.lt).trans kD
  have jD := k'D.alloc (.cells #[.slice a n c, .int .i64 z] 71)
  have k'0 : BlkIs W4 _ 30 _ := (hb4.block _ k0.lt).trans k0
  have j0 := k'0.alloc (.cells #[.slice a n c, .int .i64 z] 71)
  have k'1 : BlkIs W4 _ 9 _ := (hb4.block _ k1.lt).trans k1
  have j1 := k'1.alloc (.cells #[.slice a n c, .int .i64 z] 71)
  have jF := BlkIs.new W4 71 #[.slice a n c, .int .i64 z]
  have q0 := j0.cell 0
  go_wp2_with fail
  have jB5 := jB.alloc jB.size (.cells #[.slice a n c, .int .i64 z] 71)
  have jM : MapIs (W4.alloc (.cells #[.slice a n c, .int .i64 z] 71)) M k D := Held.same hM (jB5.block M (Held.lt hM))
  have jT : Tn (fun i => i = Dk ∨ i = M) W (W4.alloc (.cells #[.slice a n c, .int .i64 z] 71)) := Tn.of_below jB5
  clear kB kD kM hb4 jB k'D k'0 k'1 k0 k1 k2 kT q0 jB5
  generalize W4.alloc (.cells #[.slice a n c, .int .i64 z] 71) = W5 at *
  refine (change_zero 80 _ _ W5 Dk lf (by omega) (jD.cell 3) _ (hen _) (sync1_any W5 Dk M k _ _ _ D s _ _ _ x a n c z jD jM ho hs hk hx hx2 hn j0 j1 jF)).mono ?_
  rintro e w' ⟨rfl, p1, p2, p3⟩
  go_wp2_with fail
  go_ret
  exact ⟨rfl, p1, p2, jT.trans p3⟩
set_option maxRecDepth 20000 in
set_option maxHeartbeats 1600000 in
theorem sync_more (W : World) (Dk M k : Nat) (D : DataW Value) (s : ByteArray) (r : Value) (x lf : Int) (a : Option Addr) (n c : Nat) (z : Int)
    (hD : BlkIs W Dk 55 #[.map (some M), r, .int .i64 x, .int .i64 lf, .bool false]) (hM : MapIs W M k D) (hs : s.size ≤ maxLen) (hb : nameB s = true) (ho : at_ D s = some (.agg #[.slice a n c, .int .i64 z])) (hk : k < maxLen) (hx : 0 ≤ x) (hx2 : x ≤ 1000000000000) (hn : n ≤ 1000000000000) (hlf : 1 < lf) (hlf2 : lf ≤ 9223372036854775807) :
    Calls Tryz.prog 59 #[.pointer (some ⟨Dk, 0, none⟩), .string s] W fun e w' => e = .returned (.int .i64 0) ∧ PutPost W Dk M k D s (.agg #[.slice a n c, .int .i64 n]) r (.int .i64 (lf - 1)) (.bool false) x w' := by
  have hx0 : ∀ w (v u : Value), (Instr.extract (.tuple #[v, u]) 0).run Tryz.prog w = .ok v w := fun _ _ _ => by kernel_rfl
  have hx1 : ∀ w (v u : Value), (Instr.extract (.tuple #[v, u]) 1).run Tryz.prog w = .ok u w := fun _ _ _ => by kernel_rfl
  have hen : ∀ args w, (callFunc 80 args).run Tryz.prog w = .ok (.enter 80 args) w := enters_of Tryz.func80 (by kernel_rfl) rfl
  obtain ⟨k0, k1, k2, kT⟩ := three_new W 30 9 9 #[.pointer (some ⟨Dk, 0, none⟩)] #[.string s] #[.string s] (fun i => i = Dk ∨ i = M)
  have kB := three_below W 30 9 9 #[.pointer (some ⟨Dk, 0, none⟩)] #[.string s] #[.string s]
  go_enter Tryz.func59, Tryz.ntmps59
  go_wp2_with fail
  generalize (((W.alloc (Obj.cells #[Value.pointer (some ⟨Dk, 0, none⟩)] 30)).alloc (Obj.cells #[Value.string s] 9)).alloc (Obj.cells #[Value.string s] 9)) = W3 at *
  have kD : BlkIs W3 Dk 55 _ := (kB.block Dk hD.lt).trans hD
  have kM : MapIs W3 M k D := Held.same hM (kB.block M (Held.lt hM))
  refine (find_some W3 Dk M k 1 D _ s [] _ _ _ a n c z kD kM (Strs.one k2 hs) (fun ad e => by cases e; exact k2.lt) (by unfold maxLen; simp) (by simp [hb]) ho).mono ?_
  rintro e W4 ⟨rfl, hb4⟩
  have jB := kB.trans (hb4.mono kB.size)
  have k'D : BlkIs W4 Dk 55 _ := (hb4.block Dk kD.lt).trans kD
  have jD := k'D.alloc (.cells #[.slice a n c, .int .i64 z] 71)
  have k'0 : BlkIs W4 _ 30 _ := (hb4.block _ k0.lt).trans k0
  have j0 := k'0.alloc (.cells #[.slice a n c, .int .i64 z] 71)
  have k'1 : BlkIs W4 _ 9 _ := (hb4.block _ k1.lt).trans k1
  have j1 := k'1.alloc (.cells #[.slice a n c, .int .i64 z] 71)
  have jF := BlkIs.new W4 71 #[.slice a n c, .int .i64 z]
  have q0 := j0.cell 0
  go_wp2_with fail
  have jB5 := jB.alloc jB.size (.cells #[.slice a n c, .int .i64 z] 71)
  have jM : MapIs (W4.alloc (.cells #[.slice a n c, .int .i64 z] 71)) M k D := Held.same hM (jB5.block M (Held.lt hM))
  have jT : Tn (fun i => i = Dk ∨ i = M) W (W4.alloc (.cells #[.slice a n c, .int .i64 z] 71)) := Tn.of_below jB5
  clear kB kD kM hb4 jB k'D k'0 k'1 k0 k1 k2 kT q0 jB5
  generalize W4.alloc (.cells #[.slice a n c, .int .i64 z] 71) = W5 at *
  have iD : BlkIs (W5.setCell ⟨Dk, 3, none⟩ (.int .i64 (lf - 1))) Dk 55 #[.map (some M), r, .int .i64 x, .int .i64 (lf - 1), .bool false] := by
    have := jD.put 3 (.int .i64 (lf - 1))
    simpa using this
  have i0 := j0.far (x := ⟨Dk, 3, none⟩) (fun e => blk_ne j0 jD (by decide) e) (.int .i64 (lf - 1))
  have i1 := j1.far (x := ⟨Dk, 3, none⟩) (fun e => blk_ne j1 jD (by decide) e) (.int .i64 (lf - 1))
  have iF := jF.far (x := ⟨Dk, 3, none⟩) (fun e => blk_ne jF jD (by decide) e) (.int .i64 (lf - 1))
  have iM : MapIs (W5.setCell ⟨Dk, 3, none⟩ (.int .i64 (lf - 1))) M k D := Held.same jM (Below.heap_setCell W5 ⟨Dk, 3, none⟩ _ M (Held.not_blk jM jD))
  have iT := jT.setCell (x := ⟨Dk, 3, none⟩) (.inl (.inl rfl)) (.int .i64 (lf - 1))
  have f3 := jD.froz 3
  have c3 := jD.cell 3
  refine (change_more 80 _ _ W5 Dk lf hlf hlf2 c3 f3 _ (hen _) (sync1_any _ Dk M k _ _ _ D s _ _ _ x a n c z iD iM ho hs hk hx hx2 hn i0 i1 iF)).mono ?_
  rintro e w' ⟨rfl, p1, p2, p3⟩
  go_wp2_with fail
  go_ret
  exact ⟨rfl, p1, p2, iT.trans p3⟩
set_option maxRecDepth 20000 in
set_option maxHeartbeats 1600000 in
theorem sync_last (W : World) (Dk M k : Nat) (D : DataW Value) (s : ByteArray) (r : Value) (x : Int) (a : Option Addr) (n c : Nat) (z : Int)
    (hD : BlkIs W Dk 55 #[.map (some M), r, .int .i64 x, .int .i64 1, .bool false]) (hM : MapIs W M k D) (hs : s.size ≤ maxLen) (hb : nameB s = true) (ho : at_ D s = some (.agg #[.slice a n c, .int .i64 z])) :
    Calls Tryz.prog 59 #[.pointer (some ⟨Dk, 0, none⟩), .string s] W fun e w' => e = .returned (.int .i64 10) ∧ BlkIs w' Dk 55 #[.map (some M), r, .int .i64 x, .int .i64 1, .bool true] ∧ MapIs w' M k D ∧ Tn (fun i => i = Dk) W w' := by
  have hx0 : ∀ w (v u : Value), (Instr.extract (.tuple #[v, u]) 0).run Tryz.prog w = .ok v w := fun _ _ _ => by kernel_rfl
  have hx1 : ∀ w (v u : Value), (Instr.extract (.tuple #[v, u]) 1).run Tryz.prog w = .ok u w := fun _ _ _ => by kernel_rfl
  have hen : ∀ args w, (callFunc 79 args).run Tryz.prog w = .ok (.enter 79 args) w := enters_of Tryz.func79 (by kernel_rfl) rfl
  obtain ⟨k0, k1, k2, kT⟩ := three_new W 30 9 9 #[.pointer (some ⟨Dk, 0, none⟩)] #[.string s] #[.string s] (fun i => i = Dk)
  have kB := three_below W 30 9 9 #[.pointer (some ⟨Dk, 0, none⟩)] #[.string s] #[.string s]
  go_enter Tryz.func59, Tryz.ntmps59
  go_wp2_with fail
  generalize (((W.alloc (Obj.cells #[Value.pointer (some ⟨Dk, 0, none⟩)] 30)).alloc (Obj.cells #[Value.string s] 9)).alloc (Obj.cells #[Value.string s] 9)) = W3 at *
  have kD : BlkIs W3 Dk 55 _ := (kB.block Dk hD.lt).trans hD
  have kM : MapIs W3 M k D := Held.same hM (kB.block M (Held.lt hM))
  refine (find_some W3 Dk M k 1 D _ s [] _ _ _ a n c z kD kM (Strs.one k2 hs) (fun ad e => by cases e; exact k2.lt) (by unfold maxLen; simp) (by simp [hb]) ho).mono ?_
  rintro e W4 ⟨rfl, hb4⟩
  have jB := kB.trans (hb4.mono kB.size)
  have k'D : BlkIs W4 Dk 55 _ := (hb4.block Dk kD.lt).trans kD
  have jD := k'D.alloc (.cells #[.slice a n c, .int .i64 z] 71)
  have k'0 : BlkIs W4 _ 30 _ := (hb4.block _ k0.lt).trans k0
  have j0 := k'0.alloc (.cells #[.slice a n c, .int .i64 z] 71)
  have k'1 : BlkIs W4 _ 9 _ := (hb4.block _ k1.lt).trans k1
  have j1 := k'1.alloc (.cells #[.slice a n c, .int .i64 z] 71)
  have jF := BlkIs.new W4 71 #[.slice a n c, .int .i64 z]
  have q0 := j0.cell 0
  go_wp2_with fail
  have jB5 := jB.alloc jB.size (.cells #[.slice a n c, .int .i64 z] 71)
  have jM : MapIs (W4.alloc (.cells #[.slice a n c, .int .i64 z] 71)) M k D := Held.same hM (jB5.block M (Held.lt hM))
  have jT : Tn (fun i => i = Dk) W (W4.alloc (.cells #[.slice a n c, .int .i64 z] 71)) := Tn.of_below jB5
  clear kB kD kM hb4 jB k'D k'0 k'1 k0 k1 k2 kT q0 jB5
  generalize W4.alloc (.cells #[.slice a n c, .int .i64 z] 71) = W5 at *
  refine (change_last 79 _ _ W5 Dk (jD.cell 3) (fun w' => BlkIs w' Dk 55 #[.map (some M), r, .int .i64 x, .int .i64 1, .bool true] ∧ MapIs w' M k D ∧ Tn (fun i => i = Dk) W w') (hen _) ((nothing_any W5).mono ?_)).mono ?_
  · rintro e w' ⟨rfl, rfl⟩
    refine ⟨rfl, ⟨_, jD.cell 4⟩, jD.froz 4, ?_, Held.same jM (Below.heap_setCell W5 ⟨Dk, 4, none⟩ _ M (Held.not_blk jM jD)), jT.setCell (.inl rfl) _⟩
    have := jD.put 4 (.bool true)
    simpa using this
  · rintro e w' ⟨rfl, hp⟩
    go_wp2_with fail
    go_ret
    exact ⟨rfl, hp⟩
end Go.Proofs.YtidadjlhnlmfkaaGreatDoor
