/- (*disk.Disk).Sync at whatever state. Conditions: as stated at each. -/
import Derived.Test.YtidadjlhnlmfkaaGreatDoorDkAppend
namespace Go.Proofs.YtidadjlhnlmfkaaGreatDoor
set_option maxRecDepth 100000
open Go.RowKit Go.Shelf Go
theorem blk_ne {W : World} {g g' : Nat} {t t' : TypeId} {cs cs' : Array Value} (h : BlkIs W g t cs) (h' : BlkIs W g' t' cs') (ht : t ≠ t') : g ≠ g' := by
  rintro rfl
  unfold BlkIs at h h'
  rw [h] at h'
  injection h' with h'
  injection h' with _ h'
  exact ht h'
section
variable (W : World) (t0 t1 t2 : TypeId) (c0 c1 c2 : Array Value)
theorem three_new (p : Nat → Prop) : BlkIs (((W.alloc (.cells c0 t0)).alloc (.cells c1 t1)).alloc (.cells c2 t2)) W.heap.size t0 c0 ∧ BlkIs (((W.alloc (.cells c0 t0)).alloc (.cells c1 t1)).alloc (.cells c2 t2)) (W.heap.size + 1) t1 c1 ∧
    BlkIs (((W.alloc (.cells c0 t0)).alloc (.cells c1 t1)).alloc (.cells c2 t2)) (W.heap.size + 1 + 1) t2 c2 ∧ Tn p W (((W.alloc (.cells c0 t0)).alloc (.cells c1 t1)).alloc (.cells c2 t2)) := by
  have a1 := BlkIs.new (W.alloc (.cells c0 t0)) t1 c1
  have a2 := BlkIs.new ((W.alloc (.cells c0 t0)).alloc (.cells c1 t1)) t2 c2
  simp only [World.size_alloc] at a1 a2
  exact ⟨((BlkIs.new W t0 c0).alloc _).alloc _, a1.alloc _, a2, (((Tn.refl p W).alloc _).alloc _).alloc _⟩
theorem three_below : Below W.heap.size W (((W.alloc (.cells c0 t0)).alloc (.cells c1 t1)).alloc (.cells c2 t2)) :=
  (((Below.refl _ W).alloc (Nat.le_refl _) _).alloc (by simp) _).alloc (by simp; omega) _
end
set_option maxHeartbeats 800000 in
theorem sync1_any (W : World) (Dk M k B0 B1 F : Nat) (D : DataW Value) (s : ByteArray) (r l b : Value) (x : Int) (a : Option Addr) (n c : Nat) (z : Int)
    (hD : BlkIs W Dk 55 #[.map (some M), r, .int .i64 x, l, b]) (hM : MapIs W M k D) (ho : at_ D s = some (.agg #[.slice a n c, .int .i64 z])) (hs : s.size ≤ maxLen) (hk : k < maxLen) (hx : 0 ≤ x) (hx2 : x ≤ 1000000000000) (hn : n ≤ 1000000000000)
    (h0 : BlkIs W B0 30 #[.pointer (some ⟨Dk, 0, none⟩)]) (h1 : BlkIs W B1 9 #[.string s]) (hF : BlkIs W F 71 #[.slice a n c, .int .i64 z]) :
    Does 80 #[.pointer (some ⟨B0, 0, none⟩), .pointer (some ⟨B1, 0, none⟩), .pointer (some ⟨F, 0, none⟩)] W (PutPost W Dk M k D s (.agg #[.slice a n c, .int .i64 n]) r l b x) := by
  have q0 := h0.cell 0
  have q1 := h1.cell 0
  have f0 := hF.cell 0
  have hx3 : x + ((n : Int) - (n : Int)) = x := by omega
  have hp := put_any W Dk M k D s r l b x n a n c n hD hM (.inr ⟨a, c, z, ho⟩) hs hk hx hx2 hn hn
  rw [hx3] at hp
  unfold Does
  go_enter Tryz.func80, Tryz.ntmps80
  go_wp2_with (go_at_call 34; refine hp.mono ?_; rintro e w' ⟨rfl, hp⟩)
  go_end0
  exact ⟨rfl, hp⟩
/-- behind Sync: the file's number is its length. -/
def SyncPost (W : World) (Dk M k : Nat) (D : DataW Value) (s : ByteArray) (v r l b : Value) (x : Int) (w' : World) : Prop :=
  BlkIs w' Dk 55 #[.map (some M), r, .int .i64 x, l, b] ∧ MapIs w' M (k + 1) (D.put (kOf s) (.held v)) ∧ Tn (fun i => i = Dk ∨ i = M) W w'
set_option maxRecDepth 20000 in
set_option maxHeartbeats 1600000 in
theorem sync_down (W : World) (Dk M : Nat) (s : ByteArray) (r x l : Value) (hD : BlkIs W Dk 55 #[.map (some M), r, x, l, .bool true]) :
    Calls Tryz.prog 59 #[.pointer (some ⟨Dk, 0, none⟩), .string s] W fun e w' => e = .returned (.int .i64 10) ∧ Below W.heap.size W w' := by
  have hx0 : ∀ w (v u : Value), (Instr.extract (.tuple #[v, u]) 0).run Tryz.prog w = .ok v w := fun _ _ _ => by kernel_rfl
  have hx1 : ∀ w (v u : Value), (Instr.extract (.tuple #[v, u]) 1).run Tryz.prog w = .ok u w := fun _ _ _ => by kernel_rfl
  have kB := three_below W 30 9 9 #[.pointer (some ⟨Dk, 0, none⟩)] #[.string s] #[.string s]
  go_enter Tryz.func59, Tryz.ntmps59
  go_wp2_with fail
  generalize (((W.alloc (Obj.cells #[Value.pointer (some ⟨Dk, 0, none⟩)] 30)).alloc (Obj.cells #[Value.string s] 9)).alloc (Obj.cells #[Value.string s] 9)) = W3 at *
  have kD : BlkIs W3 Dk 55 _ := (kB.block Dk hD.lt).trans hD
  refine (find_down W3 Dk M _ (kD.cell 0) (kD.cell 4) kD.lt).mono ?_
  rintro e W4 ⟨rfl, hb⟩
  unfold zeroFile
  have hB := kB.trans (hb.mono kB.size)
  go_wp2_with fail
  go_ret
  exact ⟨rfl, hB.alloc hB.size _⟩
set_option maxRecDepth 20000 in
set_option maxHeartbeats 1600000 in
theorem sync_bad (W : World) (Dk M : Nat) (s : ByteArray) (r x l : Value) (hD : BlkIs W Dk 55 #[.map (some M), r, x, l, .bool false]) (hs : s.size ≤ maxLen) (hb : nameB s = false) :
    Calls Tryz.prog 59 #[.pointer (some ⟨Dk, 0, none⟩), .string s] W fun e w' => e = .returned (.int .i64 12) ∧ Below W.heap.size W w' := by
  have hx0 : ∀ w (v u : Value), (Instr.extract (.tuple #[v, u]) 0).run Tryz.prog w = .ok v w := fun _ _ _ => by kernel_rfl
  have hx1 : ∀ w (v u : Value), (Instr.extract (.tuple #[v, u]) 1).run Tryz.prog w = .ok u w := fun _ _ _ => by kernel_rfl
  obtain ⟨k0, k1, k2, kT⟩ := three_new W 30 9 9 #[.pointer (some ⟨Dk, 0, none⟩)] #[.string s] #[.string s] (fun _ => False)
  have kB := three_below W 30 9 9 #[.pointer (some ⟨Dk, 0, none⟩)] #[.string s] #[.string s]
  go_enter Tryz.func59, Tryz.ntmps59
  go_wp2_with fail
  generalize (((W.alloc (Obj.cells #[Value.pointer (some ⟨Dk, 0, none⟩)] 30)).alloc (Obj.cells #[Value.string s] 9)).alloc (Obj.cells #[Value.string s] 9)) = W3 at *
  have kD : BlkIs W3 Dk 55 _ := (kB.block Dk hD.lt).trans hD
  refine (find_bad W3 Dk M 1 _ [s] _ _ _ kD (Strs.one k2 hs) (fun ad e => by cases e; exact k2.lt) (by unfold maxLen; simp) (by simp [hb])).mono ?_
  rintro e W4 ⟨rfl, hb4⟩
  unfold zeroFile
  have hB := kB.trans (hb4.mono kB.size)
  go_wp2_with fail
  go_ret
  exact ⟨rfl, hB.alloc hB.size _⟩
set_option maxRecDepth 20000 in
set_option maxHeartbeats 1600000 in
theorem sync_none (W : World) (Dk M k : Nat) (D : DataW Value) (s : ByteArray) (r x l : Value) (hD : BlkIs W Dk 55 #[.map (some M), r, x, l, .bool false]) (hM : MapIs W M k D) (hs : s.size ≤ maxLen) (hb : nameB s = true) (ho : at_ D s = none) :
    Calls Tryz.prog 59 #[.pointer (some ⟨Dk, 0, none⟩), .string s] W fun e w' => e = .returned (.int .i64 3) ∧ Below W.heap.size W w' := by
  have hx0 : ∀ w (v u : Value), (Instr.extract (.tuple #[v, u]) 0).run Tryz.prog w = .ok v w := fun _ _ _ => by kernel_rfl
  have hx1 : ∀ w (v u : Value), (Instr.extract (.tuple #[v, u]) 1).run Tryz.prog w = .ok u w := fun _ _ _ => by kernel_rfl
  obtain ⟨k0, k1, k2, kT⟩ := three_new W 30 9 9 #[.pointer (some ⟨Dk, 0, none⟩)] #[.string s] #[.string s] (fun _ => False)
  have kB := three_below W 30 9 9 #[.pointer (some ⟨Dk, 0, none⟩)] #[.string s] #[.string s]
  go_enter Tryz.func59, Tryz.ntmps59
  go_wp2_with fail
  generalize (((W.alloc (Obj.cells #[Value.pointer (some ⟨Dk, 0, none⟩)] 30)).alloc (Obj.cells #[Value.string s] 9)).alloc (Obj.cells #[Value.string s] 9)) = W3 at *
  have kD : BlkIs W3 Dk 55 _ := (kB.block Dk hD.lt).trans hD
  have kM : MapIs W3 M k D := Held.same hM (kB.block M (Held.lt hM))
  refine (find_none W3 Dk M k 1 D _ s [] _ _ _ kD kM (Strs.one k2 hs) (fun ad e => by cases e; exact k2.lt) (by unfold maxLen; simp) (by simp [hb]) ho).mono ?_
  rintro e W4 ⟨rfl, hb4⟩
  unfold zeroFile
  have hB := kB.trans (hb4.mono kB.size)
  go_wp2_with fail
  go_ret
  exact ⟨rfl, hB.alloc hB.size _⟩
end Go.Proofs.YtidadjlhnlmfkaaGreatDoor
