/- (*disk.Disk).change where the power does not fail, and where it fails in a change that is cut to nothing; Append; find; Sync. Conditions: as stated at each. -/
import Derived.Test.YtlcnpddkppikgaaApp
namespace Go.Proofs.Ytlcnpddkppikgaa
open Go.RowKit Go
set_option maxHeartbeats 400000 in
theorem change_zero16 (p0 p1 p2 other : Value) (W : World) (D : Nat) (c3 : W.cell? ⟨D, 3, none⟩ = some (.int .i64 0)) (Q : World → Prop)
    (h : Calls Try.prog 16 #[p0, p1, p2] W fun e w' => e = .returned (.tuple #[]) ∧ Q w') :
    Calls Try.prog 18 #[.pointer (some ⟨D, 0, none⟩), .func (.func 16) #[] #[p0, p1, p2], other] W fun e w' => e = .returned (.int .i64 0) ∧ Q w' := by
  have h' := Lib.hid h
  clear h
  go_enter Try.func18, Try.ntmps18
  go_wp2_with fail
  refine h'.out.mono ?_
  rintro e w' ⟨rfl, hq⟩
  go_wp2_with fail
  go_ret
  exact ⟨rfl, hq⟩
set_option maxHeartbeats 400000 in
theorem change_zero20 (p0 p1 p2 other : Value) (W : World) (D : Nat) (c3 : W.cell? ⟨D, 3, none⟩ = some (.int .i64 0)) (Q : World → Prop)
    (h : Calls Try.prog 20 #[p0, p1, p2] W fun e w' => e = .returned (.tuple #[]) ∧ Q w') :
    Calls Try.prog 18 #[.pointer (some ⟨D, 0, none⟩), .func (.func 20) #[] #[p0, p1, p2], other] W fun e w' => e = .returned (.int .i64 0) ∧ Q w' := by
  have h' := Lib.hid h
  clear h
  go_enter Try.func18, Try.ntmps18
  go_wp2_with fail
  refine h'.out.mono ?_
  rintro e w' ⟨rfl, hq⟩
  go_wp2_with fail
  go_ret
  exact ⟨rfl, hq⟩
set_option maxHeartbeats 400000 in
theorem nothing_any (W : World) : Calls Try.prog 21 #[] W fun e w' => e = .returned (.tuple #[]) ∧ W = w' := by
  go_enter Try.func21, Try.ntmps21
  go_wp2_with fail
  go_end0
  exact ⟨rfl, rfl⟩
set_option maxHeartbeats 400000 in
theorem change_cut (whole : Value) (W : World) (D M : Nat) (x : Value) (r : Value) (hD : BlkIs W D 38 #[.map (some M), r, x, .int .i64 1, .bool false]) :
    Calls Try.prog 18 #[.pointer (some ⟨D, 0, none⟩), whole, .func (.func 21) #[] #[]] W fun e w' => e = .returned (.int .i64 10) ∧ w' = W.setCell ⟨D, 4, none⟩ (.bool true) := by
  have c3 := hD.cell 3
  have c4 := hD.cell 4
  have f4 := hD.froz 4
  go_enter Try.func18, Try.ntmps18
  go_wp2_with (go_at_call 21; refine (nothing_any _).mono ?_; rintro e w' ⟨rfl, rfl⟩)
  go_ret
  exact ⟨rfl, rfl⟩
section
variable (W : World) (t0 t1 t2 t3 : TypeId) (c0 c1 c2 c3 : Array Value)
theorem four_new (p : Nat → Prop) : BlkIs ((((W.alloc (.cells c0 t0)).alloc (.cells c1 t1)).alloc (.cells c2 t2)).alloc (.cells c3 t3)) W.heap.size t0 c0 ∧ BlkIs ((((W.alloc (.cells c0 t0)).alloc (.cells c1 t1)).alloc (.cells c2 t2)).alloc (.cells c3 t3)) (W.heap.size + 1) t1 c1 ∧
    BlkIs ((((W.alloc (.cells c0 t0)).alloc (.cells c1 t1)).alloc (.cells c2 t2)).alloc (.cells c3 t3)) (W.heap.size + 1 + 1) t2 c2 ∧ BlkIs ((((W.alloc (.cells c0 t0)).alloc (.cells c1 t1)).alloc (.cells c2 t2)).alloc (.cells c3 t3)) (W.heap.size + 1 + 1 + 1) t3 c3 ∧
    Tn p W ((((W.alloc (.cells c0 t0)).alloc (.cells c1 t1)).alloc (.cells c2 t2)).alloc (.cells c3 t3)) := by
  have a1 := BlkIs.new (W.alloc (.cells c0 t0)) t1 c1
  have a2 := BlkIs.new ((W.alloc (.cells c0 t0)).alloc (.cells c1 t1)) t2 c2
  have a3 := BlkIs.new (((W.alloc (.cells c0 t0)).alloc (.cells c1 t1)).alloc (.cells c2 t2)) t3 c3
  simp only [World.size_alloc] at a1 a2 a3
  exact ⟨(((BlkIs.new W t0 c0).alloc _).alloc _).alloc _, (a1.alloc _).alloc _, a2.alloc _, a3, ((((Tn.refl p W).alloc _).alloc _).alloc _).alloc _⟩
theorem four_below : Below W.heap.size W ((((W.alloc (.cells c0 t0)).alloc (.cells c1 t1)).alloc (.cells c2 t2)).alloc (.cells c3 t3)) :=
  ((((Below.refl _ W).alloc (Nat.le_refl _) _).alloc (by simp) _).alloc (by simp; omega) _).alloc (by simp; omega) _
variable {W}
theorem four_own {base : Nat} {e : TypeId} {size n : Nat} {v : Value} {xs : List Value} (h : W.ownsRow base e size v n xs) : ((((W.alloc (.cells c0 t0)).alloc (.cells c1 t1)).alloc (.cells c2 t2)).alloc (.cells c3 t3)).ownsRow base e size v n xs :=
  (((h.alloc _).alloc _).alloc _).alloc _
end
set_option maxHeartbeats 800000 in
theorem append_any (W : World) (N D M S : Nat) (x : Int) (es : Array MapEntry) (clk : Nat) (a0 : Option Addr) (n0 c0 : Nat) (s : Int) (xs : List Value) (m cap : Nat) (news : List Value)
    (hD : BlkIs W D 38 #[.map (some M), .int .i64 100, .int .i64 x, .int .i64 0, .bool false]) (hM : W.heap[M]? = some (.map es clk)) (hf : FileAt es clk (.slice a0 n0 c0) s) (hx : 0 ≤ x) (hx2 : x + m ≤ 100) (hn0 : n0 ≤ 500)
    (hown : W.ownsRow N 5 1 (.slice a0 n0 c0) n0 xs) (hN : N ≤ W.heap.size) (hS : ∀ j u, news[j]? = some u → W.cell? (Addr.add ⟨S, 0, none⟩ j) = some u) (hSl : S < W.heap.size) (hS1 : ∀ u ∈ news, u.oneCell' = true) (hSn : news.length = m * 1) (hmp : 0 < m) :
    Calls Try.prog 8 #[.pointer (some ⟨D, 0, none⟩), .string nA, .slice (some ⟨S, 0, none⟩) m cap] W fun e w' => e = .returned (.int .i64 0) ∧ AppPost W N D M (.int .i64 100) (.int .i64 0) (.bool false) (x + m) s (n0 + m) (xs ++ news) w' := by
  go_enter Try.func8, Try.ntmps8
  go_wp2_with fail
  obtain ⟨W4, hW4⟩ : ∃ W4, ((((W.alloc (Obj.cells #[Value.pointer (some ⟨D, 0, none⟩)] 24)).alloc (Obj.cells #[Value.string nA] 9)).alloc (Obj.cells #[Value.slice (some ⟨S, 0, none⟩) m cap] 28)).alloc (Obj.cells #[Value.string nA] 9)) = W4 := ⟨_, rfl⟩
  obtain ⟨k0, k1, k2, k3, kT⟩ := four_new W 24 9 28 9 #[Value.pointer (some ⟨D, 0, none⟩)] #[Value.string nA] #[Value.slice (some ⟨S, 0, none⟩) m cap] #[Value.string nA] (fun i => i = D ∨ i = M ∨ N ≤ i)
  have kO := four_own 24 9 28 9 #[Value.pointer (some ⟨D, 0, none⟩)] #[Value.string nA] #[Value.slice (some ⟨S, 0, none⟩) m cap] #[Value.string nA] hown
  have kB := four_below W 24 9 28 9 #[Value.pointer (some ⟨D, 0, none⟩)] #[Value.string nA] #[Value.slice (some ⟨S, 0, none⟩) m cap] #[Value.string nA]
  rw [hW4] at k0 k1 k2 k3 kT kO kB ⊢
  clear hW4
  have kD : BlkIs W4 D 38 #[.map (some M), .int .i64 100, .int .i64 x, .int .i64 0, .bool false] := (kB.block D hD.lt).trans hD
  have kM : W4.heap[M]? = some (.map es clk) := (kB.block M (Array.getElem?_eq_some_iff.1 hM).1).trans hM
  have kS : ∀ j u, news[j]? = some u → W4.cell? (Addr.add ⟨S, 0, none⟩ j) = some u := fun j u hj => (kB.cell (by rw [addr_block]; exact hSl)).trans (hS j u hj)
  have kz : W.heap.size ≤ W4.heap.size := kB.size
  refine (refuse_one W4 D M _ nA (by decide) nA_ok (kD.cell 0) (kD.cell 4) (k3.cell 0)).mono ?_
  rintro e w' ⟨rfl, rfl⟩
  have q0 := k0.cell 0
  have q1 := k1.cell 0
  have q2 := k2.cell 0
  have d2 := kD.cell 2
  have d1 := kD.cell 1
  go_wp2_with fail
  go_quiet (fail)
  go_wp2_with fail
  obtain ⟨W5, hW5⟩ : ∃ W5, W4.drewN nq = W5 := ⟨_, rfl⟩
  have kk : Alk W4 W5 := by subst hW5; exact ⟨rfl, rfl, rfl, rfl⟩
  have jO : W5.ownsRow N 5 1 (.slice a0 n0 c0) n0 xs := by subst hW5; exact kO
  have jS : ∀ j u, news[j]? = some u → W5.cell? (Addr.add ⟨S, 0, none⟩ j) = some u := by subst hW5; exact kS
  rw [hW5]
  have jz : W.heap.size ≤ W5.heap.size := by rw [kk.1]; exact kz
  have jD := kk.blk kD
  have jT := kT.alk kk
  refine (change_zero16 _ _ _ _ W5 D (jD.cell 3) _ (app1_any W5 N D M _ _ _ S _ _ _ x es clk a0 n0 c0 s xs m cap news jD (kk.at_ kM) hf hx (by omega) hn0 (by omega) (kk.blk k0) (kk.blk k1) (kk.blk k2) jO (by omega) jS (by omega) hS1 hSn hmp)).mono ?_
  rintro e w' ⟨rfl, v, clk', es', hp1, hp2, hp3, hp4, hp5, hp6⟩
  go_wp2_with fail
  go_ret
  exact ⟨rfl, v, clk', es', hp1, hp2, hp3, hp4, hp5, jT.trans hp6⟩
end Go.Proofs.Ytlcnpddkppikgaa
