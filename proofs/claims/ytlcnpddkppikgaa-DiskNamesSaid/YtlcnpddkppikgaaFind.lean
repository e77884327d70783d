/- (*disk.Disk).find, Sync where the file is there. Conditions: as stated at each. -/
import Derived.Test.YtlcnpddkppikgaaChange
namespace Go.Proofs.Ytlcnpddkppikgaa
open Go.RowKit Go
section
variable (W : World) (t0 t1 t2 : TypeId) (c0 c1 c2 : Array Value)
theorem three_new (p : Nat → Prop) : BlkIs (((W.alloc (.cells c0 t0)).alloc (.cells c1 t1)).alloc (.cells c2 t2)) W.heap.size t0 c0 ∧ BlkIs (((W.alloc (.cells c0 t0)).alloc (.cells c1 t1)).alloc (.cells c2 t2)) (W.heap.size + 1) t1 c1 ∧
    BlkIs (((W.alloc (.cells c0 t0)).alloc (.cells c1 t1)).alloc (.cells c2 t2)) (W.heap.size + 1 + 1) t2 c2 ∧ Tn p W (((W.alloc (.cells c0 t0)).alloc (.cells c1 t1)).alloc (.cells c2 t2)) := by
  have a1 := BlkIs.new (W.alloc (.cells c0 t0)) t1 c1
  have a2 := BlkIs.new ((W.alloc (.cells c0 t0)).alloc (.cells c1 t1)) t2 c2
  simp only [World.size_alloc] at a1 a2
  exact ⟨((BlkIs.new W t0 c0).alloc _).alloc _, a1.alloc _, a2, (((Tn.refl p W).alloc _).alloc _).alloc _⟩
theorem three_below : Below W.heap.size W (((W.alloc (.cells c0 t0)).alloc (.cells c1 t1)).alloc (.cells c2 t2)) :=
  (((Below.refl _ W).alloc (Nat.le_refl _) _).alloc (by simp) _).alloc (by simp; omega) _
end
theorem look_ok (W : World) (M clk : Nat) (v : Value) (s : Int) (born : Nat) (hM : W.heap[M]? = some (.map #[ent (.agg #[v, .int .i64 s]) born] clk)) :
    (Instr.lookup 36 (.map (some M)) (.string nA) true).run Try.prog W = .ok (.tuple #[.agg #[v, .int .i64 s], .bool true]) W := lk_some W M clk _ _ hM true
set_option maxHeartbeats 1600000 in
theorem find_any (W : World) (D M S : Nat) (r x l : Value) (clk born : Nat) (a : Option Addr) (n c : Nat) (s : Int)
    (hD : BlkIs W D 38 #[.map (some M), r, x, l, .bool false]) (hM : W.heap[M]? = some (.map #[ent (.agg #[.slice a n c, .int .i64 s]) born] clk)) (hS : BlkIs W S 9 #[.string nA]) :
    Calls Try.prog 19 #[.pointer (some ⟨D, 0, none⟩), .slice (some ⟨S, 0, none⟩) 1 1] W fun e w' => e = .returned (.tuple #[.agg #[.slice a n c, .int .i64 s], .int .i64 0]) ∧ Below W.heap.size W w' := by
  have dlt := hD.lt
  have slt := hS.lt
  have mlt : M < W.heap.size := (Array.getElem?_eq_some_iff.1 hM).1
  have d0 := hD.cell 0
  have s0 := hS.cell 0
  have hl1 := fun o => look_ok (W.alloc o).drew M clk _ s born ((Below.heap_alloc W o M mlt).trans hM)
  have hl2 := fun o o' => look_ok ((W.alloc o).alloc o').drew M clk _ s born ((Below.heap_alloc (W.alloc o) o' M (by simp; omega)).trans ((Below.heap_alloc W o M mlt).trans hM))
  have hx0 : ∀ w (v u : Value), (Instr.extract (.tuple #[v, u]) 0).run Try.prog w = .ok v w := fun _ _ _ => by kernel_rfl
  have hx1 : ∀ w (v u : Value), (Instr.extract (.tuple #[v, u]) 1).run Try.prog w = .ok u w := fun _ _ _ => by kernel_rfl
  go_enter Try.func19, Try.ntmps19
  go_wp2_with (go_at_call 15; refine (refuse_one _ D M S nA (by decide) nA_ok ((hD.alloc _).cell 0) ((hD.alloc _).cell 4) ((hS.alloc _).cell 0)).mono ?_; rintro e w' ⟨rfl, rfl⟩)
  go_region
  go_wp2_with fail
  refine bodyPost_ret (v := .tuple #[.agg #[.slice a n c, .int .i64 s], .int .i64 0]) (by simp [results, Try.results19, go_sem]) rfl ⟨rfl, ?_⟩
  exact (((Below.refl _ _).alloc (Nat.le_refl _) _).alloc (by simp) _).drew
set_option maxHeartbeats 800000 in
theorem sync1_any (W : World) (D M B0 B1 F : Nat) (r l b : Value) (x : Int) (clk born : Nat) (a : Option Addr) (n c : Nat) (s : Int)
    (hD : BlkIs W D 38 #[.map (some M), r, .int .i64 x, l, b]) (hM : W.heap[M]? = some (.map #[ent (.agg #[.slice a n c, .int .i64 s]) born] clk)) (hbc : born < clk) (hx : 0 ≤ x) (hx2 : x ≤ 1000) (hn : n ≤ 1000)
    (h0 : BlkIs W B0 24 #[.pointer (some ⟨D, 0, none⟩)]) (h1 : BlkIs W B1 9 #[.string nA]) (hF : BlkIs W F 41 #[.slice a n c, .int .i64 s]) :
    Calls Try.prog 20 #[.pointer (some ⟨B0, 0, none⟩), .pointer (some ⟨B1, 0, none⟩), .pointer (some ⟨F, 0, none⟩)] W fun e w' => e = .returned (.tuple #[]) ∧ PutPost W D M r l b (x + (n - n)) a n c n w' := by
  have q0 := h0.cell 0
  have q1 := h1.cell 0
  have f0 := hF.cell 0
  go_enter Try.func20, Try.ntmps20
  go_wp2_with (go_at_call 17; refine (put_any W D M r l b x _ clk n a n c n hD hM (.inr ⟨_, _, _, _, hbc, rfl⟩) hx hx2 hn hn).mono ?_; rintro e w' ⟨rfl, hp⟩)
  go_end0
  exact ⟨rfl, hp⟩
/-- behind Sync: the file's number is its length. -/
def SyncPost (W : World) (D M : Nat) (r l b : Value) (x : Int) (a : Option Addr) (n c : Nat) (s : Int) (w' : World) : Prop :=
  BlkIs w' D 38 #[.map (some M), r, .int .i64 x, l, b] ∧ (∃ born clk, born < clk ∧ w'.heap[M]? = some (.map #[ent (.agg #[.slice a n c, .int .i64 s]) born] clk)) ∧ Tn (fun i => i = D ∨ i = M) W w'
set_option maxHeartbeats 1600000 in
theorem sync_ok (W : World) (D M : Nat) (r : Value) (x : Int) (clk born : Nat) (a : Option Addr) (n c : Nat) (s : Int)
    (hD : BlkIs W D 38 #[.map (some M), r, .int .i64 x, .int .i64 0, .bool false]) (hM : W.heap[M]? = some (.map #[ent (.agg #[.slice a n c, .int .i64 s]) born] clk)) (hbc : born < clk) (hx : 0 ≤ x) (hx2 : x ≤ 1000) (hn : n ≤ 1000) :
    Calls Try.prog 9 #[.pointer (some ⟨D, 0, none⟩), .string nA] W fun e w' => e = .returned (.int .i64 0) ∧ SyncPost W D M r (.int .i64 0) (.bool false) x a n c n w' := by
  have hx0 : ∀ w (v u : Value), (Instr.extract (.tuple #[v, u]) 0).run Try.prog w = .ok v w := fun _ _ _ => by kernel_rfl
  have hx1 : ∀ w (v u : Value), (Instr.extract (.tuple #[v, u]) 1).run Try.prog w = .ok u w := fun _ _ _ => by kernel_rfl
  have k := three_new W 24 9 9 #[.pointer (some ⟨D, 0, none⟩)] #[.string nA] #[.string nA] (fun i => i = D ∨ i = M)
  have kB := three_below W 24 9 9 #[.pointer (some ⟨D, 0, none⟩)] #[.string nA] #[.string nA]
  go_enter Try.func9, Try.ntmps9
  go_wp2_with fail
  obtain ⟨W3, hW3⟩ : ∃ W3, (((W.alloc (Obj.cells #[Value.pointer (some ⟨D, 0, none⟩)] 24)).alloc (Obj.cells #[Value.string nA] 9)).alloc (Obj.cells #[Value.string nA] 9)) = W3 := ⟨_, rfl⟩
  rw [hW3] at k kB ⊢
  clear hW3
  obtain ⟨k0, k1, k2, kT⟩ := k
  have kD := (kB.block D hD.lt).trans hD
  have kM := (kB.block M (Array.getElem?_eq_some_iff.1 hM).1).trans hM
  refine (find_any W3 D M _ r _ _ clk born a n c s kD kM k2).mono ?_
  rintro e W4 ⟨rfl, hb⟩
  have jD : BlkIs W4 D 38 _ := (hb.block D (BlkIs.lt kD)).trans kD
  have jM := (hb.block M (Array.getElem?_eq_some_iff.1 kM).1).trans kM
  have j0 : BlkIs W4 W.heap.size 24 _ := (hb.block _ k0.lt).trans k0
  have j1 : BlkIs W4 (W.heap.size + 1) 9 _ := (hb.block _ k1.lt).trans k1
  have jT := kT.trans (Tn.of_below hb)
  have iD := jD.alloc (Obj.cells #[Value.slice a n c, .int .i64 s] 41)
  have iM := (Below.heap_alloc W4 (Obj.cells #[Value.slice a n c, .int .i64 s] 41) M (Array.getElem?_eq_some_iff.1 jM).1).trans jM
  have i0 := j0.alloc (Obj.cells #[Value.slice a n c, .int .i64 s] 41)
  have i1 := j1.alloc (Obj.cells #[Value.slice a n c, .int .i64 s] 41)
  have iF := BlkIs.new W4 41 #[Value.slice a n c, .int .i64 s]
  have iT := jT.alloc (Obj.cells #[Value.slice a n c, .int .i64 s] 41)
  have jq := j0.cell 0
  have jl := j0.lt
  clear jD jM j0 j1 jT hb kD kM k0 k1 k2 kT kB
  go_wp2_with fail
  refine (change_zero20 _ _ _ _ _ D (iD.cell 3) _ (sync1_any _ D M _ _ _ _ _ _ x clk born a n c s iD iM hbc hx hx2 hn i0 i1 iF)).mono ?_
  rintro e w' ⟨rfl, hp1, hp2, hp3⟩
  go_wp2_with fail
  go_ret
  rw [show x + ((n : Int) - (n : Int)) = x from by omega] at hp1
  exact ⟨rfl, hp1, hp2, iT.trans hp3⟩
set_option maxHeartbeats 1600000 in
theorem sync_cut (W : World) (D M : Nat) (r : Value) (x : Int) (clk born : Nat) (a : Option Addr) (n c : Nat) (s : Int)
    (hD : BlkIs W D 38 #[.map (some M), r, .int .i64 x, .int .i64 1, .bool false]) (hM : W.heap[M]? = some (.map #[ent (.agg #[.slice a n c, .int .i64 s]) born] clk)) (hbc : born < clk) :
    Calls Try.prog 9 #[.pointer (some ⟨D, 0, none⟩), .string nA] W fun e w' => e = .returned (.int .i64 10) ∧ SyncPost W D M r (.int .i64 1) (.bool true) x a n c s w' := by
  have hx0 : ∀ w (v u : Value), (Instr.extract (.tuple #[v, u]) 0).run Try.prog w = .ok v w := fun _ _ _ => by kernel_rfl
  have hx1 : ∀ w (v u : Value), (Instr.extract (.tuple #[v, u]) 1).run Try.prog w = .ok u w := fun _ _ _ => by kernel_rfl
  have k := three_new W 24 9 9 #[.pointer (some ⟨D, 0, none⟩)] #[.string nA] #[.string nA] (fun i => i = D ∨ i = M)
  have kB := three_below W 24 9 9 #[.pointer (some ⟨D, 0, none⟩)] #[.string nA] #[.string nA]
  go_enter Try.func9, Try.ntmps9
  go_wp2_with fail
  obtain ⟨W3, hW3⟩ : ∃ W3, (((W.alloc (Obj.cells #[Value.pointer (some ⟨D, 0, none⟩)] 24)).alloc (Obj.cells #[Value.string nA] 9)).alloc (Obj.cells #[Value.string nA] 9)) = W3 := ⟨_, rfl⟩
  rw [hW3] at k kB ⊢
  clear hW3
  obtain ⟨k0, k1, k2, kT⟩ := k
  have kD := (kB.block D hD.lt).trans hD
  have kM := (kB.block M (Array.getElem?_eq_some_iff.1 hM).1).trans hM
  refine (find_any W3 D M _ r _ _ clk born a n c s kD kM k2).mono ?_
  rintro e W4 ⟨rfl, hb⟩
  have jD : BlkIs W4 D 38 _ := (hb.block D (BlkIs.lt kD)).trans kD
  have jM := (hb.block M (Array.getElem?_eq_some_iff.1 kM).1).trans kM
  have j0 : BlkIs W4 W.heap.size 24 _ := (hb.block _ k0.lt).trans k0
  have j1 : BlkIs W4 (W.heap.size + 1) 9 _ := (hb.block _ k1.lt).trans k1
  have jT := kT.trans (Tn.of_below hb)
  have iD := jD.alloc (Obj.cells #[Value.slice a n c, .int .i64 s] 41)
  have iM := (Below.heap_alloc W4 (Obj.cells #[Value.slice a n c, .int .i64 s] 41) M (Array.getElem?_eq_some_iff.1 jM).1).trans jM
  have iT := jT.alloc (Obj.cells #[Value.slice a n c, .int .i64 s] 41)
  have jq := j0.cell 0
  have jl := j0.lt
  clear jD jM j0 j1 jT hb kD kM k0 k1 k2 kT kB
  go_wp2_with fail
  refine (change_cut _ _ D M _ r iD).mono ?_
  rintro e w' ⟨rfl, rfl⟩
  go_wp2_with fail
  go_ret
  have hne : D ≠ M := fun e => by subst e; unfold BlkIs at hD; rw [hM] at hD; cases hD
  refine ⟨rfl, ?_, ⟨born, clk, hbc, (Below.heap_setCell _ ⟨D, 4, none⟩ _ M hne.symm).trans iM⟩, iT.setCell (.inl (.inl rfl)) _⟩
  have := iD.put 4 (.bool true)
  simpa using this
end Go.Proofs.Ytlcnpddkppikgaa
