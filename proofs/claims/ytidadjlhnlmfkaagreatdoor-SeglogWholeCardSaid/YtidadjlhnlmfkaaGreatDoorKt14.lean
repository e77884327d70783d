/- SlCall SlState. Conditions: as stated at each. -/
import Derived.Test.YtidadjlhnlmfkaaGreatDoorKt13
import Derived.Defers
import Derived.Recover
/- must, attempt and its deferred closure: what goes by panic and recover. Conditions: as stated at each. -/
namespace Go.Proofs.YtidadjlhnlmfkaaGreatDoor
open Go.RowKit Go.Shelf Go
/-- what must and its like end a call with. -/
def bad (x : Int) : Ending := .panicked [{ v := .iface 33 (.int .i64 x), recovered := false }]
set_option maxHeartbeats 400000 in
theorem must_ok (W : World) : Calls Tryz.prog 26 #[.int .i64 0] W fun e w' => e = .returned (.tuple #[]) ∧ W = w' := by
  go_enter Tryz.func26, Tryz.ntmps26
  go_wp2_with fail
  go_end0
  exact ⟨rfl, rfl⟩
set_option maxHeartbeats 400000 in
theorem must_bad (W : World) (x : Int) (hx : x ≠ 0) : Calls Tryz.prog 26 #[.int .i64 x] W fun e w' => e = bad x ∧ W = w' := by
  have h1 : (x != 0) = true := by simpa using hx
  go_enter Tryz.func26, Tryz.ntmps26
  go_wp2_with fail
  exact ⟨rfl, rfl, rfl⟩
set_option maxHeartbeats 400000 in
/-- what is asked for is there. -/
theorem need_ok (W : World) (x : Int) : Calls Tryz.prog 52 #[.bool true, .int .i64 x] W fun e w' => e = .returned (.tuple #[]) ∧ W = w' := by
  go_enter Tryz.func52, Tryz.ntmps52
  go_wp2_with fail
  go_end0
  exact ⟨rfl, rfl⟩
set_option maxHeartbeats 400000 in
theorem need_bad (W : World) (x : Int) : Calls Tryz.prog 52 #[.bool false, .int .i64 x] W fun e w' => e = bad x ∧ W = w' := by
  go_enter Tryz.func52, Tryz.ntmps52
  go_wp2_with fail
  exact ⟨rfl, rfl, rfl⟩
theorem catch_idle (p : Addr) (w : World) :
    CallsD Tryz.prog 73 #[.pointer (some p)] .returning w fun e u' w' => e = .returned (.tuple #[]) ∧ u' = .returning ∧ w' = w := by
  refine callsD_of_wpS Tryz.func73 rfl fun c₀ cs hu => ?_
  apply wpS_seq
  apply wpS_region
  simp [wpOpsS, go_sem, recoverD, hu, Tryz.ntmps73, Exit.thenS]
  refine wpS_of_wp ?_
  simp only [Array.replicate_succ, Array.replicate_zero, List.push_toArray, List.append_toArray, List.nil_append, List.cons_append, List.setIfInBounds_toArray, List.set_cons_succ, List.set_cons_zero]
  have heq : ∀ (w : World), (binOp .eql 20 .nilIface .nilIface).run Tryz.prog w = .ok (.bool true) w := fun _ => by kernel_rfl
  go_wp2_with fail
  cases c₀
  simp_all [bodyPostS, results, Tryz.results73]
theorem catch_bad (p : Addr) (x y : Int) (w : World) (hc : w.cell? p = some (.int .i64 y)) (hz : w.frozen? p = false) :
    CallsD Tryz.prog 73 #[.pointer (some p)] (.panicking [{ v := .iface 33 (.int .i64 x), recovered := false }]) w fun e u' w' =>
      e = .returned (.tuple #[]) ∧ u' = .panicking [{ v := .iface 33 (.int .i64 x), recovered := true }] ∧ w' = w.setCell p (.int .i64 x) := by
  refine callsD_of_wpS Tryz.func73 rfl fun c₀ cs hu => ?_
  apply wpS_seq
  apply wpS_region
  simp [wpOpsS, go_sem, recoverD, hu, Tryz.ntmps73, Exit.thenS]
  refine wpS_of_wp ?_
  simp only [Array.replicate_succ, Array.replicate_zero, List.push_toArray, List.append_toArray, List.nil_append, List.cons_append, List.setIfInBounds_toArray, List.set_cons_succ, List.set_cons_zero]
  have heq : ∀ (w : World), (binOp .eql 20 (.iface 33 (.int .i64 x)) .nilIface).run Tryz.prog w = .ok (.bool false) w := fun _ => by kernel_rfl
  have hta : ∀ (w : World), (Instr.typeAssert (.iface 33 (.int .i64 x)) 20 33 true).run Tryz.prog w = .ok (.tuple #[.int .i64 x, .bool true]) w := fun _ => by kernel_rfl
  have hx0 : ∀ w (v u : Value), (Instr.extract (.tuple #[v, u]) 0).run Tryz.prog w = .ok v w := fun _ _ _ => by kernel_rfl
  have hx1 : ∀ w (v u : Value), (Instr.extract (.tuple #[v, u]) 1).run Tryz.prog w = .ok u w := fun _ _ _ => by kernel_rfl
  go_wp2_with fail
  cases c₀
  simp_all [bodyPostS, results, Tryz.results73]
theorem setCell_same {w : World} {g : Nat} {t : TypeId} {v : Value} (h : BlkIs w g t #[v]) : w.setCell ⟨g, 0, none⟩ v = w := by
  unfold BlkIs at h
  have hh : (w.setCell ⟨g, 0, none⟩ v).heap = w.heap := by
    apply Array.ext
    · simp [World.setCell]
    · intro i h1 h2
      by_cases e : g = i
      · subst e
        have e2 : w.heap[g] = .cells #[v] t (0, 0) := by
          rw [Array.getElem?_eq_getElem h2] at h
          injection h
        simp [World.setCell, Array.getElem_modify, e2]
      · simp [World.setCell, Array.getElem_modify, e]
  have : w.setCell ⟨g, 0, none⟩ v = { w with heap := (w.setCell ⟨g, 0, none⟩ v).heap } := rfl
  rw [this, hh]
set_option maxRecDepth 20000 in
set_option maxHeartbeats 800000 in
theorem attempt_c (f : Nat) (ps : Array Value) (W : World) (Q : Int → World → Prop) (hf : ∀ w, (callFunc f ps).run Tryz.prog w = .ok (.enter f ps) w)
    (h : Calls Tryz.prog f ps (W.alloc (.cells #[.int .i64 0] 33)) fun e w' => BlkIs w' W.heap.size 33 #[.int .i64 0] ∧ ((e = .returned (.tuple #[]) ∧ Q 0 w') ∨ ∃ x, e = bad x ∧ Q x (w'.setCell ⟨W.heap.size, 0, none⟩ (.int .i64 x)))) :
    Calls Tryz.prog 50 #[.func (.func f) #[] ps] W fun e w' => ∃ x, e = .returned (.int .i64 x) ∧ Q x w' := by
  have hmf : ∀ (fn : Fn) (first cap : Array Value) (w : World), (Instr.makeFunc fn first cap).run Tryz.prog w = .ok (.func fn first cap) w := fun _ _ _ _ => rfl
  have h' := Lib.hid h
  clear h
  go_enter_defers Tryz.func50, Tryz.ntmps50
  go_wp2_with fail
  refine h'.out.mono ?_
  rintro e w' ⟨hb, hq⟩
  have c0 := hb.cell 0
  have z0 := hb.froz 0
  rcases hq with ⟨rfl, hq⟩ | ⟨x, rfl, hq⟩
  · have HQ := Lib.hid hq
    clear hq
    go_wp2_with fail
    have hs := setCell_same hb
    refine leaves_cons (f := 73) (args := #[.pointer (some ⟨W.heap.size, 0, none⟩)]) (by simp) (by simp [go_sem]) ?_
    refine (catch_idle ⟨W.heap.size, 0, none⟩ _).mono ?_
    rintro e u' w'' ⟨rfl, rfl, rfl⟩
    rw [hs]
    have HQ2 := HQ.out
    simp [Leaves, settle, results, Tryz.results50, go_sem, c0]
    exact HQ2
  · have HQ := Lib.hid hq
    clear hq
    unfold bad
    go_wp2_with fail
    refine leaves_cons (f := 73) (args := #[.pointer (some ⟨W.heap.size, 0, none⟩)]) (by simp) (by simp [go_sem]) ?_
    refine (catch_bad ⟨W.heap.size, 0, none⟩ x 0 _ c0 z0).mono ?_
    rintro e u' w'' ⟨rfl, rfl, rfl⟩
    have c1 := (hb.put 0 (.int .i64 x)).cell 0
    have c2 : (w'.setCell ⟨W.heap.size, 0, none⟩ (.int .i64 x)).cell? ⟨W.heap.size, 0, none⟩ = some (.int .i64 x) := by simpa using c1
    have HQ2 := HQ.out
    simp [Leaves, settle, results, Tryz.results50, go_sem, c2]
    exact HQ2
set_option maxRecDepth 20000 in
set_option maxHeartbeats 800000 in
theorem attempt_m (f : Nat) (v : Value) (W : World) (Q : Int → World → Prop) (hf : ∀ w, (callFunc f #[v]).run Tryz.prog w = .ok (.enter f #[v]) w)
    (h : Calls Tryz.prog f #[v] (W.alloc (.cells #[.int .i64 0] 33)) fun e w' => BlkIs w' W.heap.size 33 #[.int .i64 0] ∧ ((e = .returned (.tuple #[]) ∧ Q 0 w') ∨ ∃ x, e = bad x ∧ Q x (w'.setCell ⟨W.heap.size, 0, none⟩ (.int .i64 x)))) :
    Calls Tryz.prog 50 #[.func (.func f) #[v] #[]] W fun e w' => ∃ x, e = .returned (.int .i64 x) ∧ Q x w' := by
  have hmf : ∀ (fn : Fn) (first cap : Array Value) (w : World), (Instr.makeFunc fn first cap).run Tryz.prog w = .ok (.func fn first cap) w := fun _ _ _ _ => rfl
  have h' := Lib.hid h
  clear h
  go_enter_defers Tryz.func50, Tryz.ntmps50
  go_wp2_with fail
  refine h'.out.mono ?_
  rintro e w' ⟨hb, hq⟩
  have c0 := hb.cell 0
  have z0 := hb.froz 0
  rcases hq with ⟨rfl, hq⟩ | ⟨x, rfl, hq⟩
  · have HQ := Lib.hid hq
    clear hq
    go_wp2_with fail
    have hs := setCell_same hb
    refine leaves_cons (f := 73) (args := #[.pointer (some ⟨W.heap.size, 0, none⟩)]) (by simp) (by simp [go_sem]) ?_
    refine (catch_idle ⟨W.heap.size, 0, none⟩ _).mono ?_
    rintro e u' w'' ⟨rfl, rfl, rfl⟩
    rw [hs]
    have HQ2 := HQ.out
    simp [Leaves, settle, results, Tryz.results50, go_sem, c0]
    exact HQ2
  · have HQ := Lib.hid hq
    clear hq
    unfold bad
    go_wp2_with fail
    refine leaves_cons (f := 73) (args := #[.pointer (some ⟨W.heap.size, 0, none⟩)]) (by simp) (by simp [go_sem]) ?_
    refine (catch_bad ⟨W.heap.size, 0, none⟩ x 0 _ c0 z0).mono ?_
    rintro e u' w'' ⟨rfl, rfl, rfl⟩
    have c1 := (hb.put 0 (.int .i64 x)).cell 0
    have c2 : (w'.setCell ⟨W.heap.size, 0, none⟩ (.int .i64 x)).cell? ⟨W.heap.size, 0, none⟩ = some (.int .i64 x) := by simpa using c1
    have HQ2 := HQ.out
    simp [Leaves, settle, results, Tryz.results50, go_sem, c2]
    exact HQ2
/-- a log at L: its disk, name, size, segments' map, last one, whether it is dead. -/
def LogB (W : World) (L Dk : Nat) (nm : ByteArray) (sz : Int) (G : Nat) (last : Int) (dead : Bool) : Prop :=
  BlkIs W L 59 #[.pointer (some ⟨Dk, 0, none⟩), .string nm, .int .i64 sz, .map (some G), .int .i64 last, .bool dead]
def Called (L : Nat) (Q : Int → World → Prop) (e : Ending) (w' : World) : Prop :=
  ∃ x, e = .returned (.int .i64 x) ∧ ((x ≠ 10 ∧ Q x w') ∨ (x = 10 ∧ ∃ w1, Q x w1 ∧ w' = w1.setCell ⟨L, 5, none⟩ (.bool true)))
set_option maxRecDepth 20000 in
set_option maxHeartbeats 800000 in
theorem call_c (f : Nat) (ps : Array Value) (W : World) (L Dk : Nat) (nm : ByteArray) (sz : Int) (G : Nat) (last : Int) (Q : Int → World → Prop) (hL : LogB W L Dk nm sz G last false) (hf : ∀ w, (callFunc f ps).run Tryz.prog w = .ok (.enter f ps) w)
    (hq : ∀ w', Q 10 w' → ∃ u, w'.cell? ⟨L, 5, none⟩ = some (.bool u) ∧ w'.frozen? ⟨L, 5, none⟩ = false)
    (h : Calls Tryz.prog f ps (W.alloc (.cells #[.int .i64 0] 33)) fun e w' => BlkIs w' W.heap.size 33 #[.int .i64 0] ∧ ((e = .returned (.tuple #[]) ∧ Q 0 w') ∨ ∃ x, e = bad x ∧ Q x (w'.setCell ⟨W.heap.size, 0, none⟩ (.int .i64 x)))) :
    Calls Tryz.prog 22 #[.pointer (some ⟨L, 0, none⟩), .func (.func f) #[] ps] W fun e w' => Called L Q e w' := by
  have ha := Lib.hid (attempt_c f ps W Q hf h)
  have c0 := BlkIs.cell hL 0
  have c5 := BlkIs.cell hL 5
  clear h
  go_enter Tryz.func22, Tryz.ntmps22
  go_wp2_with fail
  refine ha.out.mono ?_
  rintro e w' ⟨x, rfl, hqx⟩
  by_cases hx : x = 10
  · subst hx
    obtain ⟨u, c5', f5'⟩ := hq w' hqx
    have HQ := Lib.hid hqx
    clear hqx
    go_wp2_with fail
    go_ret
    exact ⟨10, rfl, .inr ⟨rfl, w', HQ.out, rfl⟩⟩
  · have HQ := Lib.hid hqx
    clear hqx
    have hx' : (x == 10) = false := by simpa using hx
    go_wp2_with fail
    go_ret
    exact ⟨x, rfl, .inl ⟨hx, HQ.out⟩⟩
set_option maxRecDepth 20000 in
set_option maxHeartbeats 800000 in
theorem call_m (f : Nat) (v : Value) (W : World) (L Dk : Nat) (nm : ByteArray) (sz : Int) (G : Nat) (last : Int) (Q : Int → World → Prop) (hL : LogB W L Dk nm sz G last false) (hf : ∀ w, (callFunc f #[v]).run Tryz.prog w = .ok (.enter f #[v]) w)
    (hq : ∀ w', Q 10 w' → ∃ u, w'.cell? ⟨L, 5, none⟩ = some (.bool u) ∧ w'.frozen? ⟨L, 5, none⟩ = false)
    (h : Calls Tryz.prog f #[v] (W.alloc (.cells #[.int .i64 0] 33)) fun e w' => BlkIs w' W.heap.size 33 #[.int .i64 0] ∧ ((e = .returned (.tuple #[]) ∧ Q 0 w') ∨ ∃ x, e = bad x ∧ Q x (w'.setCell ⟨W.heap.size, 0, none⟩ (.int .i64 x)))) :
    Calls Tryz.prog 22 #[.pointer (some ⟨L, 0, none⟩), .func (.func f) #[v] #[]] W fun e w' => Called L Q e w' := by
  have ha := Lib.hid (attempt_m f v W Q hf h)
  have c0 := BlkIs.cell hL 0
  have c5 := BlkIs.cell hL 5
  clear h
  go_enter Tryz.func22, Tryz.ntmps22
  go_wp2_with fail
  refine ha.out.mono ?_
  rintro e w' ⟨x, rfl, hqx⟩
  by_cases hx : x = 10
  · subst hx
    obtain ⟨u, c5', f5'⟩ := hq w' hqx
    have HQ := Lib.hid hqx
    clear hqx
    go_wp2_with fail
    go_ret
    exact ⟨10, rfl, .inr ⟨rfl, w', HQ.out, rfl⟩⟩
  · have HQ := Lib.hid hqx
    clear hqx
    have hx' : (x == 10) = false := by simpa using hx
    go_wp2_with fail
    go_ret
    exact ⟨x, rfl, .inl ⟨hx, HQ.out⟩⟩
end Go.Proofs.YtidadjlhnlmfkaaGreatDoor
/- A log's state; its small calls that only read: full, file, look, find, read. Conditions: as stated at each. -/
namespace Go.Proofs.YtidadjlhnlmfkaaGreatDoor
open Go.RowKit Go.Shelf Go Go.Maps
def segV (c z : Nat) : Value := .agg #[.int .i64 c, .int .i64 z]
/-- the map has the segments 1, 2 and so on. -/
def SegD (D : DataW Value) (g : List (Nat × Nat)) : Prop :=
  (∀ i : Int, has D (kI i) = true ↔ 1 ≤ i ∧ i ≤ g.length) ∧ ∀ (j : Nat) c z, g[j]? = some (c, z) → atI D ((j : Int) + 1) = some (segV c z)
def SegM (W : World) (G kk : Nat) (g : List (Nat × Nat)) : Prop := ∃ D, Held W Tryz.prog 3 G kk D ∧ SegD D g
theorem SegM.lt {W : World} {G kk : Nat} {g : List (Nat × Nat)} (h : SegM W G kk g) : G < W.heap.size := by
  obtain ⟨D, h1, _⟩ := h
  exact Held.lt h1
theorem SegM.same {W W' : World} {G kk : Nat} {g : List (Nat × Nat)} (h : SegM W G kk g) (hb : W'.heap[G]? = W.heap[G]?) : SegM W' G kk g := by
  obtain ⟨D, h1, h2⟩ := h
  exact ⟨D, Held.same h1 hb, h2⟩
theorem SegM.not_blk {W : World} {G kk : Nat} {g : List (Nat × Nat)} (h : SegM W G kk g) {b : Nat} {t : TypeId} {cs : Array Value} (hg : BlkIs W b t cs) : G ≠ b := by
  obtain ⟨D, h1, _⟩ := h
  exact Held.not_blk h1 hg
theorem SegM.mono {W : World} {G kk kk' : Nat} {g : List (Nat × Nat)} (h : SegM W G kk g) (hk : kk ≤ kk') : SegM W G kk' g := by
  obtain ⟨D, h1, h2⟩ := h
  exact ⟨D, World.ownsMap.mono h1 hk, h2⟩
theorem zero66 (w : World) : (zeroValue 66).run Tryz.prog w = .ok (segV 0 0) w := by kernel_rfl
theorem SegM.look {W : World} {G kk : Nat} {g : List (Nat × Nat)} (h : SegM W G kk g) {j c z : Nat} (hj : g[j]? = some (c, z)) (hl : g.length ≤ 1000000) :
    (Instr.lookup 57 (.map (some G)) (.int .i64 ((j : Int) + 1)) false).run Tryz.prog W = .ok (segV c z) W := by
  obtain ⟨D, h1, _, h2⟩ := h
  have := (List.getElem?_eq_some_iff.1 hj).1
  rw [heldI_look h1 Tryz.underlying3 Tryz.underlying57 (by unfold Ok64; omega) (zero66 W) false, h2 j c z hj]
  rfl
theorem SegM.look2 {W : World} {G kk : Nat} {g : List (Nat × Nat)} (h : SegM W G kk g) {j c z : Nat} (hj : g[j]? = some (c, z)) (hl : g.length ≤ 1000000) :
    (Instr.lookup 57 (.map (some G)) (.int .i64 ((j : Int) + 1)) true).run Tryz.prog W = .ok (.tuple #[segV c z, .bool true]) W := by
  obtain ⟨D, h1, _, h2⟩ := h
  have := (List.getElem?_eq_some_iff.1 hj).1
  rw [heldI_look h1 Tryz.underlying3 Tryz.underlying57 (by unfold Ok64; omega) (zero66 W) true, h2 j c z hj]
  rfl
/-- a log on a disk. -/
def LogS (W : World) (N : Nat) (Ft : Nat → Prop) (Dk k : Nat) (F : Files) (rm x lf : Int) (b : Bool) (L G : Nat) (nm : ByteArray) (sz : Int) (g : List (Nat × Nat)) (dead : Bool) : Prop :=
  DiskS W N Ft Dk k F rm x lf b ∧ LogB W L Dk nm sz G g.length dead ∧ SegM W G k g ∧ ¬ Ft L ∧ ¬ Ft G
set_option maxRecDepth 20000 in
set_option maxHeartbeats 800000 in
theorem full_any (W : World) (L Dk : Nat) (nm : ByteArray) (sz : Int) (G kk : Nat) (g : List (Nat × Nat)) (j c z : Nat) (dead : Bool) (hL : LogB W L Dk nm sz G (j + 1) dead) (hG : SegM W G kk g) (hl : g.length ≤ 1000000) (hj : g[j]? = some (c, z)) :
    Calls Tryz.prog 27 #[.pointer (some ⟨L, 0, none⟩)] W fun e w' => e = .returned (.bool (decide (sz ≤ z))) ∧ Alk W w' := by
  have hfd : ∀ w (v u : Value), (Instr.field 66 (.agg #[v, u]) 1).run Tryz.prog w = .ok u w := fun _ _ _ => by kernel_rfl
  go_enter Tryz.func27, Tryz.ntmps27
  go_wp2_with fail
  refine still_tail 15 (by kernel_rfl) (by kernel_rfl) (fun W1 hk1 => ?_)
  have c2 := BlkIs.cell (hk1.blk hL) 2
  have c3 := BlkIs.cell (hk1.blk hL) 3
  have c4 := BlkIs.cell (hk1.blk hL) 4
  have hlook := (hG.same (congrArg (·[G]?) hk1.1)).look hj hl
  unfold segV at hlook
  simp only [List.take_succ_cons, List.take_zero, List.drop_succ_cons, List.drop_zero]
  repeat still_step
  refine wpStill_nil ?_
  go_wp2_with fail
  go_ret
  exact ⟨rfl, hk1⟩
set_option maxHeartbeats 400000 in
theorem lfile_any (W : World) (L Dk : Nat) (nm : ByteArray) (sz : Int) (G : Nat) (last : Int) (dead : Bool) (k : Nat) (hL : LogB W L Dk nm sz G last dead) (hk : k ≤ 999999) (hn : nm.size ≤ 1000000) :
    Calls Tryz.prog 30 #[.pointer (some ⟨L, 0, none⟩), .int .i64 k] W fun e w' => e = .returned (.string (fileN nm k)) ∧ Below W.heap.size W w' := by
  have c1 := BlkIs.cell hL 1
  go_enter Tryz.func30, Tryz.ntmps30
  go_wp2_with (go_at_call 19; refine (file_any _ _ _ hk hn).mono ?_; rintro e w' ⟨rfl, hb⟩)
  go_ret
  exact ⟨rfl, hb⟩
set_option maxHeartbeats 400000 in
theorem look_up (W : World) (L Dk : Nat) (nm : ByteArray) (sz : Int) (G : Nat) (last : Int) (dead : Bool) (hL : LogB W L Dk nm sz G last dead) {N : Nat} {Ft : Nat → Prop} {k : Nat} {F : Files} {rm x lf : Int} (hS : DiskS W N Ft Dk k F rm x lf false) :
    Calls Tryz.prog 37 #[.pointer (some ⟨L, 0, none⟩)] W fun e w' => e = .returned (.tuple #[]) ∧ W = w' := by
  have c0 := BlkIs.cell hL 0
  have hd := down_S W N Ft Dk k F rm x lf false hS
  go_enter Tryz.func37, Tryz.ntmps37
  go_wp2_with (first | (go_at_call 20; refine hd.mono ?_; rintro e w' ⟨rfl, rfl⟩) | (go_at_call 52; refine (need_ok _ _).mono ?_; rintro e w' ⟨rfl, rfl⟩) | fail)
  go_end0
  exact ⟨rfl, rfl⟩
set_option maxHeartbeats 400000 in
theorem look_down (W : World) (L Dk : Nat) (nm : ByteArray) (sz : Int) (G : Nat) (last : Int) (dead : Bool) (hL : LogB W L Dk nm sz G last dead) {N : Nat} {Ft : Nat → Prop} {k : Nat} {F : Files} {rm x lf : Int} (hS : DiskS W N Ft Dk k F rm x lf true) :
    Calls Tryz.prog 37 #[.pointer (some ⟨L, 0, none⟩)] W fun e w' => e = bad 10 ∧ W = w' := by
  have c0 := BlkIs.cell hL 0
  have hd := down_S W N Ft Dk k F rm x lf true hS
  go_enter Tryz.func37, Tryz.ntmps37
  go_wp2_with (go_at_call 20; refine hd.mono ?_; rintro e w' ⟨rfl, rfl⟩)
  refine (need_bad _ _).mono ?_
  rintro e w' ⟨rfl, rfl⟩
  unfold bad
  go_wp2_with fail
  exact ⟨rfl, rfl, rfl⟩
set_option maxHeartbeats 800000 in
theorem find_there (W : World) (L Dk : Nat) (nm : ByteArray) (sz : Int) (G kk : Nat) (last : Int) (g : List (Nat × Nat)) (j c z : Nat) (dead : Bool) (hL : LogB W L Dk nm sz G last dead) (hG : SegM W G kk g) (hl : g.length ≤ 1000000) (hj : g[j]? = some (c, z)) :
    Calls Tryz.prog 41 #[.pointer (some ⟨L, 0, none⟩), .int .i64 ((j : Int) + 1)] W fun e w' => e = .returned (.tuple #[]) ∧ Below W.heap.size W w' := by
  have c3 := BlkIs.cell hL 3
  have hlook := hG.look2 hj hl
  unfold segV at hlook
  have hx0 : ∀ w (v u : Value), (Instr.extract (.tuple #[v, u]) 0).run Tryz.prog w = .ok v w := fun _ _ _ => by kernel_rfl
  have hx1 : ∀ w (v u : Value), (Instr.extract (.tuple #[v, u]) 1).run Tryz.prog w = .ok u w := fun _ _ _ => by kernel_rfl
  go_enter Tryz.func41, Tryz.ntmps41
  go_wp2_with (first | (go_at_call 52; refine (need_ok _ _).mono ?_; rintro e w' ⟨rfl, rfl⟩) | fail)
  go_end0
  exact ⟨rfl, (Below.refl _ W).alloc (Nat.le_refl _) _⟩
/-- the log and the disk are not the same blocks. -/
theorem LogB.alk {W W1 : World} {L Dk : Nat} {nm : ByteArray} {sz : Int} {G : Nat} {last : Int} {dead : Bool} (h : LogB W L Dk nm sz G last dead) (hb : W1.heap[L]? = W.heap[L]?) : LogB W1 L Dk nm sz G last dead := hb.trans h
theorem LogB.lt {W : World} {L Dk : Nat} {nm : ByteArray} {sz : Int} {G : Nat} {last : Int} {dead : Bool} (h : LogB W L Dk nm sz G last dead) : L < W.heap.size := BlkIs.lt h
set_option maxHeartbeats 1600000 in
set_option maxRecDepth 20000 in
theorem read_there (W : World) (N : Nat) (Ft : Nat → Prop) (Dk k : Nat) (F : Files) (rm x lf : Int) (L G : Nat) (nm : ByteArray) (sz last : Int) (dead : Bool) (j : Nat) (bs : List UInt8) (z : Nat)
    (hS : DiskS W N Ft Dk k F rm x lf false) (hL : LogB W L Dk nm sz G last dead) (hk : j ≤ 999999) (hn : nmOk nm) (hf : F (fileN nm j) = some (bs, z)) (hbs : bs.length ≤ 100000000) :
    Calls Tryz.prog 43 #[.pointer (some ⟨L, 0, none⟩), .int .i64 j] W fun e w' => ∃ v, e = .returned v ∧ Own5 w' W.heap.size v bs ∧ Below W.heap.size W w' := by
  have c0 := BlkIs.cell hL 0
  have hlt := hL.lt
  have hx0 : ∀ w (v u : Value), (Instr.extract (.tuple #[v, u]) 0).run Tryz.prog w = .ok v w := fun _ _ _ => by kernel_rfl
  have hx1 : ∀ w (v u : Value), (Instr.extract (.tuple #[v, u]) 1).run Tryz.prog w = .ok u w := fun _ _ _ => by kernel_rfl
  have hn6 : nm.size ≤ 1000000 := by have := hn.1; omega
  have hnb := nameB_fileN hn j
  go_enter Tryz.func43, Tryz.ntmps43
  go_wp2_with fail
  have hS1 := hS.below (W' := W.drew) ((Below.refl _ W).drew)
  have hL1 : LogB W.drew L Dk nm sz G last dead := hL
  go_region_held3 (fun w' => w'.cell? ⟨L, 0, none⟩ = some (.pointer (some ⟨Dk, 0, none⟩)))
    (first
      | go_keep
      | exact (hb1.cell (p := ⟨L, 0, none⟩) hlt).trans c0
      | exact ((hb1.trans (hb2.mono hb1.size)).cell (p := ⟨L, 0, none⟩) hlt).trans c0)
    (first
      | (go_at_call 30; refine (lfile_any _ L Dk nm sz G last dead j hL1 hk hn6).mono ?_; rintro e w1 ⟨rfl, hb1⟩)
      | (go_at_call 18; refine (read_S w1 N Ft Dk k F _ rm x lf false (hS1.below hb1) (nameB_size hnb) (by rw [hf]; exact hbs)).mono ?_; unfold rdOf; rw [hf, hnb]; rintro e w2 ⟨v, rfl, ho, hb2⟩))
  have HO := Lib.hid ho
  have HB := Lib.hid ((((Below.refl W.heap.size W).drew).trans hb1).trans (hb2.mono hb1.size))
  have hz1 : W.heap.size ≤ w1.heap.size := hb1.size
  clear ho
  go_wp2_with (go_at_call 26; refine (must_ok _).mono ?_; rintro e w' ⟨rfl, rfl⟩)
  go_ret
  exact ⟨v, rfl, own_more HO.out hz1, HB.out⟩
end Go.Proofs.YtidadjlhnlmfkaaGreatDoor
