/- (*disk.Disk).Read and Arm at whatever state. Conditions: as stated at each. -/
import Derived.Test.YtidadjlhnlmfkaaGreatDoorDkSync2
import Derived.Test.YtidadjlhnlmfkaaGreatDoorFlClone
namespace Go.Proofs.YtidadjlhnlmfkaaGreatDoor
set_option maxRecDepth 100000
open Go.RowKit Go.Shelf Go
/-- bytes and an error: a row of its own. -/
def ReadP (W : World) (l : List UInt8) (x : Int) (e : Ending) (w' : World) : Prop := ∃ v, e = .returned (.tuple #[v, .int .i64 x]) ∧ Own5 w' W.heap.size v l ∧ Below W.heap.size W w'
theorem Own5.base {w : World} {N M : Nat} {v : Value} {l : List UInt8} (h : Own5 w N v l) (hM : M ≤ N) : Own5 w M v l := own_more h hM
set_option maxHeartbeats 1600000 in
theorem read_down (W : World) (Dk M : Nat) (s : ByteArray) (r x l : Value) (hD : BlkIs W Dk 55 #[.map (some M), r, x, l, .bool true]) :
    Calls Tryz.prog 18 #[.pointer (some ⟨Dk, 0, none⟩), .string s] W fun e w' => ReadP W [] 10 e w' := by
  have hx0 : ∀ w (v u : Value), (Instr.extract (.tuple #[v, u]) 0).run Tryz.prog w = .ok v w := fun _ _ _ => by kernel_rfl
  have hx1 : ∀ w (v u : Value), (Instr.extract (.tuple #[v, u]) 1).run Tryz.prog w = .ok u w := fun _ _ _ => by kernel_rfl
  have kB : Below W.heap.size W (W.alloc (.cells #[.string s] 9)) := (Below.refl _ W).alloc (Nat.le_refl _) _
  go_enter Tryz.func18, Tryz.ntmps18
  go_wp2_with fail
  generalize W.alloc (.cells #[.string s] 9) = W3 at *
  have kD : BlkIs W3 Dk 55 _ := (kB.block Dk hD.lt).trans hD
  refine (find_down W3 Dk M _ (kD.cell 0) (kD.cell 4) kD.lt).mono ?_
  rintro e W4 ⟨rfl, hb4⟩
  unfold zeroFile
  have jB := kB.trans (hb4.mono kB.size)
  have jB5 := jB.alloc jB.size (.cells #[.slice none 0 0, .int .i64 0] 71)
  have jF := BlkIs.new W4 71 #[.slice none 0 0, .int .i64 0]
  have q0 := jF.cell 0
  have hcl := clone_any none W4.heap.size 0 [] (W4.alloc (.cells #[.slice none 0 0, .int .i64 0] 71)) Cs.nil (by simp) (by simp)
  go_wp2_with fail
  refine hcl.mono ?_
  rintro e w' ⟨v, rfl, p1, p2⟩
  go_wp2_with fail
  go_ret2
  exact ⟨v, rfl, p1.base jB5.size, jB5.trans (p2.mono jB5.size)⟩
set_option maxHeartbeats 1600000 in
theorem read_bad (W : World) (Dk M : Nat) (s : ByteArray) (r x l : Value) (hD : BlkIs W Dk 55 #[.map (some M), r, x, l, .bool false]) (hs : s.size ≤ maxLen) (hb : nameB s = false) :
    Calls Tryz.prog 18 #[.pointer (some ⟨Dk, 0, none⟩), .string s] W fun e w' => ReadP W [] 12 e w' := by
  have hx0 : ∀ w (v u : Value), (Instr.extract (.tuple #[v, u]) 0).run Tryz.prog w = .ok v w := fun _ _ _ => by kernel_rfl
  have hx1 : ∀ w (v u : Value), (Instr.extract (.tuple #[v, u]) 1).run Tryz.prog w = .ok u w := fun _ _ _ => by kernel_rfl
  have k2 := BlkIs.new W 9 #[.string s]
  have kB : Below W.heap.size W (W.alloc (.cells #[.string s] 9)) := (Below.refl _ W).alloc (Nat.le_refl _) _
  go_enter Tryz.func18, Tryz.ntmps18
  go_wp2_with fail
  generalize W.alloc (.cells #[.string s] 9) = W3 at *
  have kD : BlkIs W3 Dk 55 _ := (kB.block Dk hD.lt).trans hD
  refine (find_bad W3 Dk M 1 _ [s] _ _ _ kD (Strs.one k2 hs) (fun ad e => by cases e; exact k2.lt) (by unfold maxLen; simp) (by simp [hb])).mono ?_
  rintro e W4 ⟨rfl, hb4⟩
  unfold zeroFile
  have jB := kB.trans (hb4.mono kB.size)
  have jB5 := jB.alloc jB.size (.cells #[.slice none 0 0, .int .i64 0] 71)
  have jF := BlkIs.new W4 71 #[.slice none 0 0, .int .i64 0]
  have q0 := jF.cell 0
  have hcl := clone_any none W4.heap.size 0 [] (W4.alloc (.cells #[.slice none 0 0, .int .i64 0] 71)) Cs.nil (by simp) (by simp)
  go_wp2_with fail
  refine hcl.mono ?_
  rintro e w' ⟨v, rfl, p1, p2⟩
  go_wp2_with fail
  go_ret2
  exact ⟨v, rfl, p1.base jB5.size, jB5.trans (p2.mono jB5.size)⟩
set_option maxHeartbeats 1600000 in
theorem read_none (W : World) (Dk M k : Nat) (D : DataW Value) (s : ByteArray) (r x l : Value) (hD : BlkIs W Dk 55 #[.map (some M), r, x, l, .bool false]) (hM : MapIs W M k D) (hs : s.size ≤ maxLen) (hb : nameB s = true) (ho : at_ D s = none) :
    Calls Tryz.prog 18 #[.pointer (some ⟨Dk, 0, none⟩), .string s] W fun e w' => ReadP W [] 3 e w' := by
  have hx0 : ∀ w (v u : Value), (Instr.extract (.tuple #[v, u]) 0).run Tryz.prog w = .ok v w := fun _ _ _ => by kernel_rfl
  have hx1 : ∀ w (v u : Value), (Instr.extract (.tuple #[v, u]) 1).run Tryz.prog w = .ok u w := fun _ _ _ => by kernel_rfl
  have k2 := BlkIs.new W 9 #[.string s]
  have kB : Below W.heap.size W (W.alloc (.cells #[.string s] 9)) := (Below.refl _ W).alloc (Nat.le_refl _) _
  go_enter Tryz.func18, Tryz.ntmps18
  go_wp2_with fail
  generalize W.alloc (.cells #[.string s] 9) = W3 at *
  have kD : BlkIs W3 Dk 55 _ := (kB.block Dk hD.lt).trans hD
  have kM : MapIs W3 M k D := Held.same hM (kB.block M (Held.lt hM))
  refine (find_none W3 Dk M k 1 D _ s [] _ _ _ kD kM (Strs.one k2 hs) (fun ad e => by cases e; exact k2.lt) (by unfold maxLen; simp) (by simp [hb]) ho).mono ?_
  rintro e W4 ⟨rfl, hb4⟩
  unfold zeroFile
  have jB := kB.trans (hb4.mono kB.size)
  have jB5 := jB.alloc jB.size (.cells #[.slice none 0 0, .int .i64 0] 71)
  have jF := BlkIs.new W4 71 #[.slice none 0 0, .int .i64 0]
  have q0 := jF.cell 0
  have hcl := clone_any none W4.heap.size 0 [] (W4.alloc (.cells #[.slice none 0 0, .int .i64 0] 71)) Cs.nil (by simp) (by simp)
  go_wp2_with fail
  refine hcl.mono ?_
  rintro e w' ⟨v, rfl, p1, p2⟩
  go_wp2_with fail
  go_ret2
  exact ⟨v, rfl, p1.base jB5.size, jB5.trans (p2.mono jB5.size)⟩
set_option maxHeartbeats 1600000 in
theorem read_some (W : World) (Dk M k : Nat) (D : DataW Value) (s : ByteArray) (r x l : Value) (hD : BlkIs W Dk 55 #[.map (some M), r, x, l, .bool false]) (hM : MapIs W M k D) (hs : s.size ≤ maxLen) (hb : nameB s = true) (N : Nat) (a : Option Addr) (n c : Nat) (z : Int) (bs : List UInt8) (ho : at_ D s = some (.agg #[.slice a n c, .int .i64 z])) (hbs : bs.length = n) (hn : n ≤ 500000000) (hown : Own5 W N (.slice a n c) bs) :
    Calls Tryz.prog 18 #[.pointer (some ⟨Dk, 0, none⟩), .string s] W fun e w' => ReadP W bs 0 e w' := by
  have hx0 : ∀ w (v u : Value), (Instr.extract (.tuple #[v, u]) 0).run Tryz.prog w = .ok v w := fun _ _ _ => by kernel_rfl
  have hx1 : ∀ w (v u : Value), (Instr.extract (.tuple #[v, u]) 1).run Tryz.prog w = .ok u w := fun _ _ _ => by kernel_rfl
  have k2 := BlkIs.new W 9 #[.string s]
  have kB : Below W.heap.size W (W.alloc (.cells #[.string s] 9)) := (Below.refl _ W).alloc (Nat.le_refl _) _
  go_enter Tryz.func18, Tryz.ntmps18
  go_wp2_with fail
  generalize W.alloc (.cells #[.string s] 9) = W3 at *
  have kD : BlkIs W3 Dk 55 _ := (kB.block Dk hD.lt).trans hD
  have kM : MapIs W3 M k D := Held.same hM (kB.block M (Held.lt hM))
  refine (find_some W3 Dk M k 1 D _ s [] _ _ _ a n c z kD kM (Strs.one k2 hs) (fun ad e => by cases e; exact k2.lt) (by unfold maxLen; simp) (by simp [hb]) ho).mono ?_
  rintro e W4 ⟨rfl, hb4⟩
  have jB := kB.trans (hb4.mono kB.size)
  have jB5 := jB.alloc jB.size (.cells #[.slice a n c, .int .i64 z] 71)
  have jF := BlkIs.new W4 71 #[.slice none 0 0, .int .i64 0]
  have q0 := jF.cell 0
  have hcl := clone_any a W4.heap.size c bs (W4.alloc (.cells #[.slice a n c, .int .i64 z] 71)) ((Own5.bts (own_kept hown jB (Nat.le_refl _))).below ((Below.refl _ _).alloc (Nat.le_refl _) _)) (by simp) (by omega)
  rw [hbs] at hcl
  go_wp2_with fail
  refine hcl.mono ?_
  rintro e w' ⟨v, rfl, p1, p2⟩
  go_wp2_with fail
  go_ret2
  exact ⟨v, rfl, p1.base jB5.size, jB5.trans (p2.mono jB5.size)⟩
set_option maxHeartbeats 400000 in
theorem arm_any (W : World) (Dk M : Nat) (r x b : Value) (m n : Int) (hD : BlkIs W Dk 55 #[.map (some M), r, x, .int .i64 m, b]) :
    Calls Tryz.prog 12 #[.pointer (some ⟨Dk, 0, none⟩), .int .i64 n] W fun e w' => e = .returned (.tuple #[]) ∧ w' = W.setCell ⟨Dk, 3, none⟩ (.int .i64 n) := by
  have c0 := hD.cell 0
  have c3 := hD.cell 3
  have f3 := hD.froz 3
  go_enter Tryz.func12, Tryz.ntmps12
  go_wp2_with (go_at_call 32; refine (made_any _ Dk M c0).mono ?_; rintro e w' ⟨rfl, rfl⟩)
  go_end0
  exact ⟨rfl, rfl⟩
end Go.Proofs.YtidadjlhnlmfkaaGreatDoor
