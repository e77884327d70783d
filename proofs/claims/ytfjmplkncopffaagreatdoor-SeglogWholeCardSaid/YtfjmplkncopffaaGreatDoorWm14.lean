/- SlCall SlState SlOps SlBegin. Conditions: as stated at each. -/
import Derived.Test.YtfjmplkncopffaaGreatDoorWm13
import Derived.Defers
import Derived.Recover
/- must, attempt and its deferred closure: what goes by panic and recover. Conditions: as stated at each. -/
namespace Go.Proofs.YtfjmplkncopffaaGreatDoor
open Go.RowKit Go.Shelf Go
/-- what must and its like end a call with. -/
def bad (x : Int) : Ending := .panicked [{ v := .iface 33 (.int .i64 x), recovered := false }]
set_option maxHeartbeats 400000 in
theorem must_ok (W : World) : Calls Tryz.prog 26 #[.int .i64 0] W fun e w' => e = .returned (.tuple #[]) ∧ W = w' := by
  go_enter Tryz.func26, Tryz.ntmps26
  go_wp2_with fail
  go_end0
  exact ⟨rfl, rfl⟩
set_option maxHeartbeats 400000 in
theorem must_bad (W : World) (x : Int) (hx : x ≠ 0) : Calls Tryz.prog 26 #[.int .i64 x] W fun e w' => e = bad x ∧ W = w' := by
  have h1 : (x != 0) = true := by simpa using hx
  go_enter Tryz.func26, Tryz.ntmps26
  go_wp2_with fail
  exact ⟨rfl, rfl, rfl⟩
theorem catch_idle (p : Addr) (w : World) :
    CallsD Tryz.prog 72 #[.pointer (some p)] .returning w fun e u' w' => e = .returned (.tuple #[]) ∧ u' = .returning ∧ w' = w := by
  refine callsD_of_wpS Tryz.func72 rfl fun c₀ cs hu => ?_
  apply wpS_seq
  apply wpS_region
  simp [wpOpsS, go_sem, recoverD, hu, Tryz.ntmps72, Exit.thenS]
  refine wpS_of_wp ?_
  simp only [Array.replicate_succ, Array.replicate_zero, List.push_toArray, List.append_toArray, List.nil_append, List.cons_append, List.setIfInBounds_toArray, List.set_cons_succ, List.set_cons_zero]
  have heq : ∀ (w : World), (binOp .eql 20 .nilIface .nilIface).run Tryz.prog w = .ok (.bool true) w := fun _ => by kernel_rfl
  go_wp2_with fail
  cases c₀
  simp_all [bodyPostS, results, Tryz.results72]
theorem catch_bad (p : Addr) (x y : Int) (w : World) (hc : w.cell? p = some (.int .i64 y)) (hz : w.frozen? p = false) :
    CallsD Tryz.prog 72 #[.pointer (some p)] (.panicking [{ v := .iface 33 (.int .i64 x), recovered := false }]) w fun e u' w' =>
      e = .returned (.tuple #[]) ∧ u' = .panicking [{ v := .iface 33 (.int .i64 x), recovered := true }] ∧ w' = w.setCell p (.int .i64 x) := by
  refine callsD_of_wpS Tryz.func72 rfl fun c₀ cs hu => ?_
  apply wpS_seq
  apply wpS_region
  simp [wpOpsS, go_sem, recoverD, hu, Tryz.ntmps72, Exit.thenS]
  refine wpS_of_wp ?_
  simp only [Array.replicate_succ, Array.replicate_zero, List.push_toArray, List.append_toArray, List.nil_append, List.cons_append, List.setIfInBounds_toArray, List.set_cons_succ, List.set_cons_zero]
  have heq : ∀ (w : World), (binOp .eql 20 (.iface 33 (.int .i64 x)) .nilIface).run Tryz.prog w = .ok (.bool false) w := fun _ => by kernel_rfl
  have hta : ∀ (w : World), (Instr.typeAssert (.iface 33 (.int .i64 x)) 20 33 true).run Tryz.prog w = .ok (.tuple #[.int .i64 x, .bool true]) w := fun _ => by kernel_rfl
  have hx0 : ∀ w (v u : Value), (Instr.extract (.tuple #[v, u]) 0).run Tryz.prog w = .ok v w := fun _ _ _ => by kernel_rfl
  have hx1 : ∀ w (v u : Value), (Instr.extract (.tuple #[v, u]) 1).run Tryz.prog w = .ok u w := fun _ _ _ => by kernel_rfl
  go_wp2_with fail
  cases c₀
  simp_all [bodyPostS, results, Tryz.results72]
theorem setCell_same {w : World} {g : Nat} {t : TypeId} {v : Value} (h : BlkIs w g t #[v]) : w.setCell ⟨g, 0, none⟩ v = w := by
  unfold BlkIs at h
  have hh : (w.setCell ⟨g, 0, none⟩ v).heap = w.heap := by
    apply Array.ext
    · simp [World.setCell]
    · intro i h1 h2
      by_cases e : g = i
      · subst e
        have e2 : w.heap[g] = .cells #[v] t (0, 0) := by
          rw [Array.getElem?_eq_getElem h2] at h
          injection h
        simp [World.setCell, Array.getElem_modify, e2]
      · simp [World.setCell, Array.getElem_modify, e]
  have : w.setCell ⟨g, 0, none⟩ v = { w with heap := (w.setCell ⟨g, 0, none⟩ v).heap } := rfl
  rw [this, hh]
set_option maxRecDepth 20000 in
set_option maxHeartbeats 800000 in
theorem attempt_c (f : Nat) (ps : Array Value) (W : World) (Q : Int → World → Prop) (hf : ∀ w, (callFunc f ps).run Tryz.prog w = .ok (.enter f ps) w)
    (h : Calls Tryz.prog f ps (W.alloc (.cells #[.int .i64 0] 33)) fun e w' => BlkIs w' W.heap.size 33 #[.int .i64 0] ∧ ((e = .returned (.tuple #[]) ∧ Q 0 w') ∨ ∃ x, e = bad x ∧ Q x (w'.setCell ⟨W.heap.size, 0, none⟩ (.int .i64 x)))) :
    Calls Tryz.prog 50 #[.func (.func f) #[] ps] W fun e w' => ∃ x, e = .returned (.int .i64 x) ∧ Q x w' := by
  have hmf : ∀ (fn : Fn) (first cap : Array Value) (w : World), (Instr.makeFunc fn first cap).run Tryz.prog w = .ok (.func fn first cap) w := fun _ _ _ _ => rfl
  have h' := Lib.hid h
  clear h
  go_enter_defers Tryz.func50, Tryz.ntmps50
  go_wp2_with fail
  refine h'.out.mono ?_
  rintro e w' ⟨hb, hq⟩
  have c0 := hb.cell 0
  have z0 := hb.froz 0
  rcases hq with ⟨rfl, hq⟩ | ⟨x, rfl, hq⟩
  · have HQ := Lib.hid hq
    clear hq
    go_wp2_with fail
    have hs := setCell_same hb
    refine leaves_cons (f := 72) (args := #[.pointer (some ⟨W.heap.size, 0, none⟩)]) (by simp) (by simp [go_sem]) ?_
    refine (catch_idle ⟨W.heap.size, 0, none⟩ _).mono ?_
    rintro e u' w'' ⟨rfl, rfl, rfl⟩
    rw [hs]
    have HQ2 := HQ.out
    simp [Leaves, settle, results, Tryz.results50, go_sem, c0]
    exact HQ2
  · have HQ := Lib.hid hq
    clear hq
    unfold bad
    go_wp2_with fail
    refine leaves_cons (f := 72) (args := #[.pointer (some ⟨W.heap.size, 0, none⟩)]) (by simp) (by simp [go_sem]) ?_
    refine (catch_bad ⟨W.heap.size, 0, none⟩ x 0 _ c0 z0).mono ?_
    rintro e u' w'' ⟨rfl, rfl, rfl⟩
    have c1 := (hb.put 0 (.int .i64 x)).cell 0
    have c2 : (w'.setCell ⟨W.heap.size, 0, none⟩ (.int .i64 x)).cell? ⟨W.heap.size, 0, none⟩ = some (.int .i64 x) := by simpa using c1
    have HQ2 := HQ.out
    simp [Leaves, settle, results, Tryz.results50, go_sem, c2]
    exact HQ2
set_option maxRecDepth 20000 in
set_option maxHeartbeats 800000 in
theorem attempt_m (f : Nat) (v : Value) (W : World) (Q : Int → World → Prop) (hf : ∀ w, (callFunc f #[v]).run Tryz.prog w = .ok (.enter f #[v]) w)
    (h : Calls Tryz.prog f #[v] (W.alloc (.cells #[.int .i64 0] 33)) fun e w' => BlkIs w' W.heap.size 33 #[.int .i64 0] ∧ ((e = .returned (.tuple #[]) ∧ Q 0 w') ∨ ∃ x, e = bad x ∧ Q x (w'.setCell ⟨W.heap.size, 0, none⟩ (.int .i64 x)))) :
    Calls Tryz.prog 50 #[.func (.func f) #[v] #[]] W fun e w' => ∃ x, e = .returned (.int .i64 x) ∧ Q x w' := by
  have hmf : ∀ (fn : Fn) (first cap : Array Value) (w : World), (Instr.makeFunc fn first cap).run Tryz.prog w = .ok (.func fn first cap) w := fun _ _ _ _ => rfl
  have h' := Lib.hid h
  clear h
  go_enter_defers Tryz.func50, Tryz.ntmps50
  go_wp2_with fail
  refine h'.out.mono ?_
  rintro e w' ⟨hb, hq⟩
  have c0 := hb.cell 0
  have z0 := hb.froz 0
  rcases hq with ⟨rfl, hq⟩ | ⟨x, rfl, hq⟩
  · have HQ := Lib.hid hq
    clear hq
    go_wp2_with fail
    have hs := setCell_same hb
    refine leaves_cons (f := 72) (args := #[.pointer (some ⟨W.heap.size, 0, none⟩)]) (by simp) (by simp [go_sem]) ?_
    refine (catch_idle ⟨W.heap.size, 0, none⟩ _).mono ?_
    rintro e u' w'' ⟨rfl, rfl, rfl⟩
    rw [hs]
    have HQ2 := HQ.out
    simp [Leaves, settle, results, Tryz.results50, go_sem, c0]
    exact HQ2
  · have HQ := Lib.hid hq
    clear hq
    unfold bad
    go_wp2_with fail
    refine leaves_cons (f := 72) (args := #[.pointer (some ⟨W.heap.size, 0, none⟩)]) (by simp) (by simp [go_sem]) ?_
    refine (catch_bad ⟨W.heap.size, 0, none⟩ x 0 _ c0 z0).mono ?_
    rintro e u' w'' ⟨rfl, rfl, rfl⟩
    have c1 := (hb.put 0 (.int .i64 x)).cell 0
    have c2 : (w'.setCell ⟨W.heap.size, 0, none⟩ (.int .i64 x)).cell? ⟨W.heap.size, 0, none⟩ = some (.int .i64 x) := by simpa using c1
    have HQ2 := HQ.out
    simp [Leaves, settle, results, Tryz.results50, go_sem, c2]
    exact HQ2
/-- a log at L: its disk, name, size, segments' map, last one, whether it is dead. -/
def LogB (W : World) (L Dk : Nat) (nm : ByteArray) (sz : Int) (G : Nat) (last : Int) (dead : Bool) : Prop :=
  BlkIs W L 59 #[.pointer (some ⟨Dk, 0, none⟩), .string nm, .int .i64 sz, .map (some G), .int .i64 last, .bool dead]
def Called (L : Nat) (Q : Int → World → Prop) (e : Ending) (w' : World) : Prop :=
  ∃ x, e = .returned (.int .i64 x) ∧ ((x ≠ 10 ∧ Q x w') ∨ (x = 10 ∧ ∃ w1, Q x w1 ∧ w' = w1.setCell ⟨L, 5, none⟩ (.bool true)))
set_option maxRecDepth 20000 in
set_option maxHeartbeats 800000 in
theorem call_c (f : Nat) (ps : Array Value) (W : World) (L Dk : Nat) (nm : ByteArray) (sz : Int) (G : Nat) (last : Int) (Q : Int → World → Prop) (hL : LogB W L Dk nm sz G last false) (hf : ∀ w, (callFunc f ps).run Tryz.prog w = .ok (.enter f ps) w)
    (hq : ∀ w', Q 10 w' → ∃ u, w'.cell? ⟨L, 5, none⟩ = some (.bool u) ∧ w'.frozen? ⟨L, 5, none⟩ = false)
    (h : Calls Tryz.prog f ps (W.alloc (.cells #[.int .i64 0] 33)) fun e w' => BlkIs w' W.heap.size 33 #[.int .i64 0] ∧ ((e = .returned (.tuple #[]) ∧ Q 0 w') ∨ ∃ x, e = bad x ∧ Q x (w'.setCell ⟨W.heap.size, 0, none⟩ (.int .i64 x)))) :
    Calls Tryz.prog 22 #[.pointer (some ⟨L, 0, none⟩), .func (.func f) #[] ps] W fun e w' => Called L Q e w' := by
  have ha := Lib.hid (attempt_c f ps W Q hf h)
  have c0 := BlkIs.cell hL 0
  have c5 := BlkIs.cell hL 5
  clear h
  go_enter Tryz.func22, Tryz.ntmps22
  go_wp2_with fail
  refine ha.out.mono ?_
  rintro e w' ⟨x, rfl, hqx⟩
  by_cases hx : x = 10
  · subst hx
    obtain ⟨u, c5', f5'⟩ := hq w' hqx
    have HQ := Lib.hid hqx
    clear hqx
    go_wp2_with fail
    go_ret
    exact ⟨10, rfl, .inr ⟨rfl, w', HQ.out, rfl⟩⟩
  · have HQ := Lib.hid hqx
    clear hqx
    have hx' : (x == 10) = false := by simpa using hx
    go_wp2_with fail
    go_ret
    exact ⟨x, rfl, .inl ⟨hx, HQ.out⟩⟩
set_option maxRecDepth 20000 in
set_option maxHeartbeats 800000 in
theorem call_m (f : Nat) (v : Value) (W : World) (L Dk : Nat) (nm : ByteArray) (sz : Int) (G : Nat) (last : Int) (Q : Int → World → Prop) (hL : LogB W L Dk nm sz G last false) (hf : ∀ w, (callFunc f #[v]).run Tryz.prog w = .ok (.enter f #[v]) w)
    (hq : ∀ w', Q 10 w' → ∃ u, w'.cell? ⟨L, 5, none⟩ = some (.bool u) ∧ w'.frozen? ⟨L, 5, none⟩ = false)
    (h : Calls Tryz.prog f #[v] (W.alloc (.cells #[.int .i64 0] 33)) fun e w' => BlkIs w' W.heap.size 33 #[.int .i64 0] ∧ ((e = .returned (.tuple #[]) ∧ Q 0 w') ∨ ∃ x, e = bad x ∧ Q x (w'.setCell ⟨W.heap.size, 0, none⟩ (.int .i64 x)))) :
    Calls Tryz.prog 22 #[.pointer (some ⟨L, 0, none⟩), .func (.func f) #[v] #[]] W fun e w' => Called L Q e w' := by
  have ha := Lib.hid (attempt_m f v W Q hf h)
  have c0 := BlkIs.cell hL 0
  have c5 := BlkIs.cell hL 5
  clear h
  go_enter Tryz.func22, Tryz.ntmps22
  go_wp2_with fail
  refine ha.out.mono ?_
  rintro e w' ⟨x, rfl, hqx⟩
  by_cases hx : x = 10
  · subst hx
    obtain ⟨u, c5', f5'⟩ := hq w' hqx
    have HQ := Lib.hid hqx
    clear hqx
    go_wp2_with fail
    go_ret
    exact ⟨10, rfl, .inr ⟨rfl, w', HQ.out, rfl⟩⟩
  · have HQ := Lib.hid hqx
    clear hqx
    have hx' : (x == 10) = false := by simpa using hx
    go_wp2_with fail
    go_ret
    exact ⟨x, rfl, .inl ⟨hx, HQ.out⟩⟩
end Go.Proofs.YtfjmplkncopffaaGreatDoor
/- A log's state; its small calls that only read: full, file, look, find, read. Conditions: as stated at each. -/
namespace Go.Proofs.YtfjmplkncopffaaGreatDoor
open Go.RowKit Go.Shelf Go Go.Maps
def segV (c z : Nat) : Value := .agg #[.int .i64 c, .int .i64 z]
/-- the map has the segments 1, 2 and so on. -/
def SegD (D : DataW Value) (g : List (Nat × Nat)) : Prop :=
  (∀ i : Int, has D (kI i) = true ↔ 1 ≤ i ∧ i ≤ g.length) ∧ ∀ (j : Nat) c z, g[j]? = some (c, z) → atI D ((j : Int) + 1) = some (segV c z)
def SegM (W : World) (G kk : Nat) (g : List (Nat × Nat)) : Prop := ∃ D, Held W Tryz.prog 3 G kk D ∧ SegD D g
theorem SegM.lt {W : World} {G kk : Nat} {g : List (Nat × Nat)} (h : SegM W G kk g) : G < W.heap.size := by
  obtain ⟨D, h1, _⟩ := h
  exact Held.lt h1
theorem SegM.same {W W' : World} {G kk : Nat} {g : List (Nat × Nat)} (h : SegM W G kk g) (hb : W'.heap[G]? = W.heap[G]?) : SegM W' G kk g := by
  obtain ⟨D, h1, h2⟩ := h
  exact ⟨D, Held.same h1 hb, h2⟩
theorem SegM.not_blk {W : World} {G kk : Nat} {g : List (Nat × Nat)} (h : SegM W G kk g) {b : Nat} {t : TypeId} {cs : Array Value} (hg : BlkIs W b t cs) : G ≠ b := by
  obtain ⟨D, h1, _⟩ := h
  exact Held.not_blk h1 hg
theorem SegM.mono {W : World} {G kk kk' : Nat} {g : List (Nat × Nat)} (h : SegM W G kk g) (hk : kk ≤ kk') : SegM W G kk' g := by
  obtain ⟨D, h1, h2⟩ := h
  exact ⟨D, World.ownsMap.mono h1 hk, h2⟩
theorem zero66 (w : World) : (zeroValue 66).run Tryz.prog w = .ok (segV 0 0) w := by kernel_rfl
theorem SegM.look {W : World} {G kk : Nat} {g : List (Nat × Nat)} (h : SegM W G kk g) {j c z : Nat} (hj : g[j]? = some (c, z)) (hl : g.length ≤ 1000000) :
    (Instr.lookup 57 (.map (some G)) (.int .i64 ((j : Int) + 1)) false).run Tryz.prog W = .ok (segV c z) W := by
  obtain ⟨D, h1, _, h2⟩ := h
  have := (List.getElem?_eq_some_iff.1 hj).1
  rw [heldI_look h1 Tryz.underlying3 Tryz.underlying57 (by unfold Ok64; omega) (zero66 W) false, h2 j c z hj]
  rfl
theorem SegM.look2 {W : World} {G kk : Nat} {g : List (Nat × Nat)} (h : SegM W G kk g) {j c z : Nat} (hj : g[j]? = some (c, z)) (hl : g.length ≤ 1000000) :
    (Instr.lookup 57 (.map (some G)) (.int .i64 ((j : Int) + 1)) true).run Tryz.prog W = .ok (.tuple #[segV c z, .bool true]) W := by
  obtain ⟨D, h1, _, h2⟩ := h
  have := (List.getElem?_eq_some_iff.1 hj).1
  rw [heldI_look h1 Tryz.underlying3 Tryz.underlying57 (by unfold Ok64; omega) (zero66 W) true, h2 j c z hj]
  rfl
/-- a log on a disk. -/
def LogS (W : World) (N : Nat) (Ft : Nat → Prop) (Dk k : Nat) (F : Files) (rm x lf : Int) (b : Bool) (L G : Nat) (nm : ByteArray) (sz : Int) (g : List (Nat × Nat)) (dead : Bool) : Prop :=
  DiskS W N Ft Dk k F rm x lf b ∧ LogB W L Dk nm sz G g.length dead ∧ SegM W G k g ∧ ¬ Ft L ∧ ¬ Ft G
set_option maxRecDepth 20000 in
set_option maxHeartbeats 800000 in
theorem full_any (W : World) (L Dk : Nat) (nm : ByteArray) (sz : Int) (G kk : Nat) (g : List (Nat × Nat)) (j c z : Nat) (dead : Bool) (hL : LogB W L Dk nm sz G (j + 1) dead) (hG : SegM W G kk g) (hl : g.length ≤ 1000000) (hj : g[j]? = some (c, z)) :
    Calls Tryz.prog 27 #[.pointer (some ⟨L, 0, none⟩)] W fun e w' => e = .returned (.bool (decide (sz ≤ z))) ∧ Alk W w' := by
  have hfd : ∀ w (v u : Value), (Instr.field 66 (.agg #[v, u]) 1).run Tryz.prog w = .ok u w := fun _ _ _ => by kernel_rfl
  go_enter Tryz.func27, Tryz.ntmps27
  go_wp2_with fail
  refine still_tail 15 (by kernel_rfl) (by kernel_rfl) (fun W1 hk1 => ?_)
  have c2 := BlkIs.cell (hk1.blk hL) 2
  have c3 := BlkIs.cell (hk1.blk hL) 3
  have c4 := BlkIs.cell (hk1.blk hL) 4
  have hlook := (hG.same (congrArg (·[G]?) hk1.1)).look hj hl
  unfold segV at hlook
  simp only [List.take_succ_cons, List.take_zero, List.drop_succ_cons, List.drop_zero]
  repeat still_step
  refine wpStill_nil ?_
  go_wp2_with fail
  go_ret
  exact ⟨rfl, hk1⟩
set_option maxHeartbeats 400000 in
theorem lfile_any (W : World) (L Dk : Nat) (nm : ByteArray) (sz : Int) (G : Nat) (last : Int) (dead : Bool) (k : Nat) (hL : LogB W L Dk nm sz G last dead) (hk : k ≤ 999999) (hn : nm.size ≤ 1000000) :
    Calls Tryz.prog 30 #[.pointer (some ⟨L, 0, none⟩), .int .i64 k] W fun e w' => e = .returned (.string (fileN nm k)) ∧ Below W.heap.size W w' := by
  have c1 := BlkIs.cell hL 1
  go_enter Tryz.func30, Tryz.ntmps30
  go_wp2_with (go_at_call 19; refine (file_any _ _ _ hk hn).mono ?_; rintro e w' ⟨rfl, hb⟩)
  go_ret
  exact ⟨rfl, hb⟩
set_option maxHeartbeats 400000 in
theorem look_up (W : World) (L Dk : Nat) (nm : ByteArray) (sz : Int) (G : Nat) (last : Int) (dead : Bool) (hL : LogB W L Dk nm sz G last dead) {N : Nat} {Ft : Nat → Prop} {k : Nat} {F : Files} {rm x lf : Int} (hS : DiskS W N Ft Dk k F rm x lf false) :
    Calls Tryz.prog 37 #[.pointer (some ⟨L, 0, none⟩)] W fun e w' => e = .returned (.tuple #[]) ∧ W = w' := by
  have c0 := BlkIs.cell hL 0
  have hd := down_S W N Ft Dk k F rm x lf false hS
  go_enter Tryz.func37, Tryz.ntmps37
  go_wp2_with (go_at_call 20; refine hd.mono ?_; rintro e w' ⟨rfl, rfl⟩)
  go_end0
  exact ⟨rfl, rfl⟩
set_option maxHeartbeats 400000 in
theorem look_down (W : World) (L Dk : Nat) (nm : ByteArray) (sz : Int) (G : Nat) (last : Int) (dead : Bool) (hL : LogB W L Dk nm sz G last dead) {N : Nat} {Ft : Nat → Prop} {k : Nat} {F : Files} {rm x lf : Int} (hS : DiskS W N Ft Dk k F rm x lf true) :
    Calls Tryz.prog 37 #[.pointer (some ⟨L, 0, none⟩)] W fun e w' => e = bad 10 ∧ W = w' := by
  have c0 := BlkIs.cell hL 0
  have hd := down_S W N Ft Dk k F rm x lf true hS
  go_enter Tryz.func37, Tryz.ntmps37
  go_wp2_with (go_at_call 20; refine hd.mono ?_; rintro e w' ⟨rfl, rfl⟩)
  exact ⟨rfl, rfl, rfl⟩
set_option maxHeartbeats 800000 in
theorem find_there (W : World) (L Dk : Nat) (nm : ByteArray) (sz : Int) (G kk : Nat) (last : Int) (g : List (Nat × Nat)) (j c z : Nat) (dead : Bool) (hL : LogB W L Dk nm sz G last dead) (hG : SegM W G kk g) (hl : g.length ≤ 1000000) (hj : g[j]? = some (c, z)) :
    Calls Tryz.prog 41 #[.pointer (some ⟨L, 0, none⟩), .int .i64 ((j : Int) + 1)] W fun e w' => e = .returned (.tuple #[]) ∧ Below W.heap.size W w' := by
  have c3 := BlkIs.cell hL 3
  have hlook := hG.look2 hj hl
  unfold segV at hlook
  have hx0 : ∀ w (v u : Value), (Instr.extract (.tuple #[v, u]) 0).run Tryz.prog w = .ok v w := fun _ _ _ => by kernel_rfl
  have hx1 : ∀ w (v u : Value), (Instr.extract (.tuple #[v, u]) 1).run Tryz.prog w = .ok u w := fun _ _ _ => by kernel_rfl
  go_enter Tryz.func41, Tryz.ntmps41
  go_wp2_with fail
  go_end0
  exact ⟨rfl, (Below.refl _ W).alloc (Nat.le_refl _) _⟩
/-- the log and the disk are not the same blocks. -/
theorem LogB.alk {W W1 : World} {L Dk : Nat} {nm : ByteArray} {sz : Int} {G : Nat} {last : Int} {dead : Bool} (h : LogB W L Dk nm sz G last dead) (hb : W1.heap[L]? = W.heap[L]?) : LogB W1 L Dk nm sz G last dead := hb.trans h
theorem LogB.lt {W : World} {L Dk : Nat} {nm : ByteArray} {sz : Int} {G : Nat} {last : Int} {dead : Bool} (h : LogB W L Dk nm sz G last dead) : L < W.heap.size := BlkIs.lt h
set_option maxHeartbeats 1600000 in
set_option maxRecDepth 20000 in
theorem read_there (W : World) (N : Nat) (Ft : Nat → Prop) (Dk k : Nat) (F : Files) (rm x lf : Int) (L G : Nat) (nm : ByteArray) (sz last : Int) (dead : Bool) (j : Nat) (bs : List UInt8) (z : Nat)
    (hS : DiskS W N Ft Dk k F rm x lf false) (hL : LogB W L Dk nm sz G last dead) (hk : j ≤ 999999) (hn : nmOk nm) (hf : F (fileN nm j) = some (bs, z)) (hbs : bs.length ≤ 100000000) :
    Calls Tryz.prog 43 #[.pointer (some ⟨L, 0, none⟩), .int .i64 j] W fun e w' => ∃ v, e = .returned v ∧ Own5 w' W.heap.size v bs ∧ Below W.heap.size W w' := by
  have c0 := BlkIs.cell hL 0
  have hlt := hL.lt
  have hx0 : ∀ w (v u : Value), (Instr.extract (.tuple #[v, u]) 0).run Tryz.prog w = .ok v w := fun _ _ _ => by kernel_rfl
  have hx1 : ∀ w (v u : Value), (Instr.extract (.tuple #[v, u]) 1).run Tryz.prog w = .ok u w := fun _ _ _ => by kernel_rfl
  have hn6 : nm.size ≤ 1000000 := by have := hn.1; omega
  have hnb := nameB_fileN hn j
  go_enter Tryz.func43, Tryz.ntmps43
  go_wp2_with fail
  have hS1 := hS.below (W' := W.drew) ((Below.refl _ W).drew)
  have hL1 : LogB W.drew L Dk nm sz G last dead := hL
  go_region_held3 (fun w' => w'.cell? ⟨L, 0, none⟩ = some (.pointer (some ⟨Dk, 0, none⟩)))
    (first
      | go_keep
      | exact (hb1.cell (p := ⟨L, 0, none⟩) hlt).trans c0
      | exact ((hb1.trans (hb2.mono hb1.size)).cell (p := ⟨L, 0, none⟩) hlt).trans c0)
    (first
      | (go_at_call 30; refine (lfile_any _ L Dk nm sz G last dead j hL1 hk hn6).mono ?_; rintro e w1 ⟨rfl, hb1⟩)
      | (go_at_call 18; refine (read_S w1 N Ft Dk k F _ rm x lf false (hS1.below hb1) (nameB_size hnb) (by rw [hf]; exact hbs)).mono ?_; unfold rdOf; rw [hf, hnb]; rintro e w2 ⟨v, rfl, ho, hb2⟩))
  have HO := Lib.hid ho
  have HB := Lib.hid ((((Below.refl W.heap.size W).drew).trans hb1).trans (hb2.mono hb1.size))
  have hz1 : W.heap.size ≤ w1.heap.size := hb1.size
  clear ho
  go_wp2_with (go_at_call 26; refine (must_ok _).mono ?_; rintro e w' ⟨rfl, rfl⟩)
  go_ret
  exact ⟨v, rfl, own_more HO.out hz1, HB.out⟩
end Go.Proofs.YtfjmplkncopffaaGreatDoor
/- A log's calls that change its disk: sync, begin, roll. Conditions: as stated at each. -/
namespace Go.Proofs.YtfjmplkncopffaaGreatDoor
open Go.RowKit Go.Shelf Go Go.Maps
/-- the blocks of a log and its disk. -/
def OwnL (Ft : Nat → Prop) (L G : Nat) : Nat → Prop := fun i => Ft i ∨ i = L ∨ i = G
theorem newFt_trans {Ft : Nat → Prop} {W W1 W2 : World} (h1 : W.heap.size ≤ W1.heap.size) (h2 : W1.heap.size ≤ W2.heap.size) : ∀ i, NewFt (NewFt Ft W W1) W1 W2 i → NewFt Ft W W2 i := by
  rintro i ((h | ⟨h3, h4⟩) | ⟨h3, h4⟩)
  · exact .inl h
  · exact .inr ⟨h3, by omega⟩
  · exact .inr ⟨by omega, h4⟩
theorem newFt_up {Ft : Nat → Prop} {W W1 W2 : World} (h1 : W.heap.size ≤ W1.heap.size) : ∀ i, NewFt Ft W1 W2 i → NewFt Ft W W2 i := by
  rintro i (h | ⟨h3, h4⟩)
  · exact .inl h
  · exact .inr ⟨by omega, h4⟩
theorem newFt_not {Ft : Nat → Prop} {W W1 : World} {L : Nat} (h : ¬ Ft L) (hl : L < W.heap.size) : ¬ NewFt Ft W W1 L := by
  rintro (h1 | ⟨h1, _⟩)
  · exact h h1
  · omega
section
variable {W w' : World} {N Dk k k' L G : Nat} {Ft : Nat → Prop} {F F' : Files} {rm x x' lf lf' : Int} {b b' : Bool} {nm : ByteArray} {sz : Int} {g : List (Nat × Nat)} {dead : Bool}
theorem LogS.ltL (h : LogS W N Ft Dk k F rm x lf b L G nm sz g dead) : L < W.heap.size := BlkIs.lt h.2.1
theorem LogS.ltG (h : LogS W N Ft Dk k F rm x lf b L G nm sz g dead) : G < W.heap.size := SegM.lt h.2.2.1
theorem LogS.ne (h : LogS W N Ft Dk k F rm x lf b L G nm sz g dead) : G ≠ L := SegM.not_blk h.2.2.1 h.2.1
/-- behind a call of the disk's. -/
theorem LogS.disk (h : LogS W N Ft Dk k F rm x lf b L G nm sz g dead) (hD : DiskS w' N (NewFt Ft W w') Dk k' F' rm x' lf' b') (hT : Tn Ft W w') (hk : k ≤ k') : LogS w' N (NewFt Ft W w') Dk k' F' rm x' lf' b' L G nm sz g dead :=
  ⟨hD, (hT.block L h.ltL h.2.2.2.1).trans h.2.1, (h.2.2.1.same (hT.block G h.ltG h.2.2.2.2)).mono hk, newFt_not h.2.2.2.1 h.ltL, newFt_not h.2.2.2.2 h.ltG⟩
theorem LogS.below (h : LogS W N Ft Dk k F rm x lf b L G nm sz g dead) (hB : Below W.heap.size W w') : LogS w' N Ft Dk k F rm x lf b L G nm sz g dead :=
  ⟨h.1.below hB, (hB.block L h.ltL).trans h.2.1, h.2.2.1.same (hB.block G h.ltG), h.2.2.2.1, h.2.2.2.2⟩
theorem LogS.alk (h : LogS W N Ft Dk k F rm x lf b L G nm sz g dead) (hA : Alk W w') : LogS w' N Ft Dk k F rm x lf b L G nm sz g dead :=
  h.below ⟨hA.2.1, hA.2.2.1, hA.2.2.2, by rw [hA.1]; exact Nat.le_refl _, fun i _ => by rw [hA.1]⟩
/-- others' writes. -/
theorem LogS.keep {p : Nat → Prop} (h : LogS W N Ft Dk k F rm x lf b L G nm sz g dead) (hT : Tn p W w') (hp : ∀ i, OwnL Ft L G i → ¬ p i) : LogS w' N Ft Dk k F rm x lf b L G nm sz g dead :=
  ⟨h.1.keep hT (fun i hi => hp i (.inl hi)), (hT.block L h.ltL (hp L (.inr (.inl rfl)))).trans h.2.1, h.2.2.1.same (hT.block G h.ltG (hp G (.inr (.inr rfl)))), h.2.2.2.1, h.2.2.2.2⟩
theorem LogS.more {Ft' : Nat → Prop} (h : LogS W N Ft Dk k F rm x lf b L G nm sz g dead) (hf : ∀ i, Ft i → Ft' i) (hk : k ≤ k') (h1 : ¬ Ft' L) (h2 : ¬ Ft' G) : LogS W N Ft' Dk k' F rm x lf b L G nm sz g dead :=
  ⟨h.1.more hf hk, h.2.1, h.2.2.1.mono hk, h1, h2⟩
/-- a field of the log is set. -/
theorem LogS.set {i : Nat} {v : Value} {dead' : Bool} (h : LogS W N Ft Dk k F rm x lf b L G nm sz g dead) (hv : i = 5 ∧ v = .bool dead') : LogS (W.setCell ⟨L, i, none⟩ v) N Ft Dk k F rm x lf b L G nm sz g dead' := by
  obtain ⟨rfl, rfl⟩ := hv
  have hT := (Tn.refl (fun i => i = L) W).setCell (x := ⟨L, 5, none⟩) (.inl rfl) (.bool dead')
  refine ⟨h.1.keep hT (fun i hi e => h.2.2.2.1 (by rw [← e]; exact hi)), ?_, h.2.2.1.same (Below.heap_setCell W ⟨L, 5, none⟩ _ G h.ne), h.2.2.2.1, h.2.2.2.2⟩
  have := BlkIs.put h.2.1 5 (.bool dead')
  simpa [LogB] using this
/-- the number of the last one is set, behind the map's turn. -/
theorem LogS.last {W1 : World} {g' : List (Nat × Nat)} (h : LogS W N Ft Dk k F rm x lf b L G nm sz g dead) (hg : W.grownBy W1 (some G)) (hM : SegM W1 G k' g') (hk : k ≤ k') : LogS (W1.setCell ⟨L, 4, none⟩ (.int .i64 (g'.length : Nat))) N Ft Dk k' F rm x lf b L G nm sz g' dead := by
  have hT : Tn (fun i => i = G) W W1 := (Tn.refl _ W).grown hg (fun i e => .inl (by injection e with e; exact e.symm))
  have hT2 := (Tn.mono (q := fun i => i = L ∨ i = G) hT (fun i _ e => .inr e)).setCell (x := ⟨L, 4, none⟩) (.inl (.inl rfl)) (.int .i64 (g'.length : Nat))
  have hL1 : LogB W1 L Dk nm sz G g.length dead := (hT.block L h.ltL (fun e => h.ne e.symm)).trans h.2.1
  refine ⟨(h.1.keep hT2 (fun i hi e => ?_)).more (fun _ h => h) hk, ?_, hM.same (Below.heap_setCell W1 ⟨L, 4, none⟩ _ G h.ne), h.2.2.2.1, h.2.2.2.2⟩
  · rcases e with rfl | rfl
    · exact h.2.2.2.1 hi
    · exact h.2.2.2.2 hi
  · have := BlkIs.put hL1 4 (.int .i64 (g'.length : Nat))
    simpa [LogB] using this
end
/-- behind a call that changes the disk and the log. -/
def LgPost (W : World) (N : Nat) (Ft : Nat → Prop) (Dk k : Nat) (F : Files) (rm x lf : Int) (b : Bool) (L G : Nat) (nm : ByteArray) (sz : Int) (g : List (Nat × Nat)) (dead : Bool) (w' : World) : Prop :=
  LogS w' N (NewFt Ft W w') Dk k F rm x lf b L G nm sz g dead ∧ Tn (OwnL Ft L G) W w'
theorem newFt_size {Ft : Nat → Prop} {W W1 W2 : World} (h : W2.heap.size = W1.heap.size) : NewFt Ft W W1 = NewFt Ft W W2 := by
  funext i
  unfold NewFt
  rw [h]
theorem LgPost.up {W W1 w1 w' : World} {N Dk k L G : Nat} {Ft : Nat → Prop} {F : Files} {rm x lf : Int} {b : Bool} {nm : ByteArray} {sz : Int} {g : List (Nat × Nat)} {dead : Bool}
    (hL : ¬ Ft L) (hL2 : L < W.heap.size) (hG : ¬ Ft G) (hG2 : G < W.heap.size) (hs : W.heap.size ≤ W1.heap.size) (hz : w1.heap.size ≤ w'.heap.size) (hE : LogS w' N (NewFt Ft W1 w1) Dk k F rm x lf b L G nm sz g dead) (hT : Tn (OwnL Ft L G) W w') : LgPost W N Ft Dk k F rm x lf b L G nm sz g dead w' := by
  refine ⟨hE.more (fun i hi => ?_) (Nat.le_refl _) (newFt_not hL hL2) (newFt_not hG hG2), hT⟩
  rcases hi with h | ⟨h3, h4⟩
  · exact .inl h
  · exact .inr ⟨by omega, by omega⟩
theorem OwnL.of {Ft : Nat → Prop} {L G : Nat} {W W1 : World} (h : Tn Ft W W1) : Tn (OwnL Ft L G) W W1 := h.mono fun _ _ h => .inl h
theorem size_set (W : World) (a : Addr) (v : Value) : (W.setCell a v).heap.size = W.heap.size := by simp [World.setCell]
theorem sync_ok (W : World) (N : Nat) (Ft : Nat → Prop) (Dk k : Nat) (F : Files) (s : ByteArray) (rm x lf : Int) (bs : List UInt8) (z : Nat)
    (hS : DiskS W N Ft Dk k F rm x lf false) (hb : nameB s = true) (hf : F s = some (bs, z)) (hk : k < maxLen) (hx : 0 ≤ x) (hx2 : x ≤ 100000000) (hn0 : bs.length ≤ 100000000) (hlf : lf ≤ 9223372036854775807) (h1 : lf ≠ 1) :
    Calls Tryz.prog 58 #[.pointer (some ⟨Dk, 0, none⟩), .string s] W fun e w' => e = .returned (.int .i64 0) ∧ DiskS w' N (NewFt Ft W w') Dk (k + 1) (F.upd s (some (bs, bs.length))) rm x (lfA lf) false ∧ Tn Ft W w' := by
  refine (sync_S W N Ft Dk k F s rm x lf bs z hS hb hf hk hx hx2 hn0 hlf).mono ?_
  rintro e w' ⟨rfl, hp⟩
  unfold After at hp
  rw [if_neg h1, decide_eq_false h1] at hp
  exact ⟨by rw [erA, if_neg h1], hp.1, hp.2⟩
theorem create_ok (W : World) (N : Nat) (Ft : Nat → Prop) (Dk k : Nat) (F : Files) (s : ByteArray) (rm x lf : Int)
    (hS : DiskS W N Ft Dk k F rm x lf false) (hb : nameB s = true) (hf : F s = none) (hk : k < maxLen) (hx : 0 ≤ x) (hx2 : x ≤ 100000000) (hlf : lf ≤ 9223372036854775807) (h1 : lf ≠ 1) :
    Calls Tryz.prog 70 #[.pointer (some ⟨Dk, 0, none⟩), .string s] W fun e w' => e = .returned (.int .i64 0) ∧ DiskS w' N (NewFt Ft W w') Dk (k + 1) (F.upd s (some ([], 0))) rm x (lfA lf) false ∧ Tn Ft W w' := by
  refine (create_S W N Ft Dk k F s rm x lf hS hb hf hk hx hx2 hlf).mono ?_
  rintro e w' ⟨rfl, hp⟩
  unfold Made at hp
  rw [if_neg h1, decide_eq_false h1] at hp
  exact ⟨by rw [erA, if_neg h1], hp.1, hp.2⟩
theorem append_ok (W : World) (N : Nat) (Ft : Nat → Prop) (Dk k : Nat) (F : Files) (s : ByteArray) (rm x lf : Int) (A : Option Addr) (B c : Nat) (bs : List UInt8) (z : Nat) (news : List UInt8)
    (hS : DiskS W N Ft Dk k F rm x lf false) (hb : nameB s = true) (hf : F s = some (bs, z)) (hk : k < maxLen) (hx : 0 ≤ x) (hx2 : x ≤ 100000000) (hn0 : bs.length ≤ 100000000) (hm : news.length ≤ 100000000) (hr0 : x + news.length ≤ rm)
    (hN : N ≤ W.heap.size) (hA : Bts W B A news) (hB : B ≤ W.heap.size) (hlf : lf ≤ 9223372036854775807) (h1 : lf ≠ 1) :
    Calls Tryz.prog 29 #[.pointer (some ⟨Dk, 0, none⟩), .string s, .slice A news.length c] W fun e w' => e = .returned (.int .i64 0) ∧ DiskS w' N (NewFt Ft W w') Dk (k + 1) (F.upd s (some (bs ++ news, z))) rm (x + news.length) (lfA lf) false ∧ Tn Ft W w' := by
  have h := append_S W N Ft Dk k F s rm x lf A B c news hS hb hk hx hx2 (by rw [hf]; exact hn0) hm hr0 hN hA hB hlf
  rw [hf] at h
  refine h.mono ?_
  rintro e w' ⟨rfl, hp⟩
  unfold After at hp
  rw [decide_eq_false h1] at hp
  exact ⟨by rw [erA, if_neg h1], hp.1, hp.2⟩
set_option maxHeartbeats 1600000 in
set_option maxRecDepth 20000 in
theorem lsync_ok (W : World) (N : Nat) (Ft : Nat → Prop) (Dk k : Nat) (F : Files) (rm x lf : Int) (L G : Nat) (nm : ByteArray) (sz : Int) (g : List (Nat × Nat)) (bs : List UInt8) (z : Nat)
    (h : LogS W N Ft Dk k F rm x lf false L G nm sz g false) (hl : g.length ≤ 999999) (hn : nmOk nm) (hf : F (fileN nm g.length) = some (bs, z)) (hbs : bs.length ≤ 100000000) (hk : k < maxLen) (hx : 0 ≤ x) (hx2 : x ≤ 100000000) (hlf : lf ≤ 9223372036854775807) (h1 : lf ≠ 1) :
    Calls Tryz.prog 31 #[.pointer (some ⟨L, 0, none⟩)] W fun e w' => e = .returned (.tuple #[]) ∧ LgPost W N Ft Dk (k + 1) (F.upd (fileN nm g.length) (some (bs, bs.length))) rm x (lfA lf) false L G nm sz g false w' := by
  have c0 := BlkIs.cell h.2.1 0
  have c4 := BlkIs.cell h.2.1 4
  have hlt := h.ltL
  have hn6 : nm.size ≤ 1000000 := by have := hn.1; omega
  have hnb := nameB_fileN hn g.length
  have hnL := h.2.2.2.1
  go_enter Tryz.func31, Tryz.ntmps31
  go_wp2_with fail
  have hA : Below W.heap.size W W.drew := (Below.refl _ W).drew
  have hD := h.below hA
  go_region_held3 (fun w' => w'.cell? ⟨L, 0, none⟩ = some (.pointer (some ⟨Dk, 0, none⟩)) ∧ w'.cell? ⟨L, 4, none⟩ = some (.int .i64 (g.length : Nat)))
    (first
      | go_keep
      | exact ⟨(hb1.cell (p := ⟨L, 0, none⟩) hlt).trans c0, (hb1.cell (p := ⟨L, 4, none⟩) hlt).trans c4⟩
      | exact ⟨BlkIs.cell hE.2.1 0, BlkIs.cell hE.2.1 4⟩)
    (first
      | (go_at_call 30; refine (lfile_any _ L Dk nm sz G _ false g.length hD.2.1 hl hn6).mono ?_; rintro e w1 ⟨rfl, hb1⟩)
      | (go_at_call 58; have hC := hD.below hb1; refine (sync_ok w1 N Ft Dk k F _ rm x lf bs z hC.1 hnb hf hk hx hx2 hbs hlf h1).mono ?_; rintro e w2 ⟨rfl, hD2, hT2⟩; have hE := hC.disk hD2 hT2 (Nat.le_succ k)))
  have HE := Lib.hid hE
  have hf5 := BlkIs.froz hE.2.1 5
  have c5 := BlkIs.cell hE.2.1 5
  have hB1 := hA.trans hb1
  have hT := ((Tn.of_below (p := Ft) hB1).trans hT2)
  have HT := Lib.hid (OwnL.of (L := L) (G := G) hT)
  clear hT hT2 hE hD2 hC hD
  go_wp2_with (go_at_call 26; refine (must_ok _).mono ?_; rintro e w' ⟨rfl, rfl⟩)
  go_end0
  exact ⟨rfl, LgPost.up hnL hlt h.2.2.2.2 h.ltG hB1.size (Nat.le_of_eq (size_set _ _ _).symm) (HE.out.set ⟨rfl, rfl⟩) (HT.out.setCell (.inl (.inr (.inl rfl))) _)⟩
end Go.Proofs.YtfjmplkncopffaaGreatDoor
/- A log's begin and roll. Conditions: as stated at each. -/
namespace Go.Proofs.YtfjmplkncopffaaGreatDoor
open Go.RowKit Go.Shelf Go Go.Maps
theorem segD_push {D : DataW Value} {g : List (Nat × Nat)} (hD : IsMap D) (h : SegD D g) (c z : Nat) : SegD (D.put (kI ((g.length : Int) + 1)) (.held (segV c z))) (g ++ [(c, z)]) := by
  refine ⟨fun i => ?_, fun j c' z' hj => ?_⟩
  · by_cases e : i = (g.length : Int) + 1
    · subst e
      rw [has_put_same hD (isKey_kI _)]
      simp
      omega
    · rw [has_put_other (fun e2 => e (kI_inj e2)), h.1 i]
      simp
      omega
  · rw [atI_put hD]
    by_cases hlt : j < g.length
    · rw [List.getElem?_append_left hlt] at hj
      rw [if_neg (by omega)]
      exact h.2 j c' z' hj
    · have hj0 : j = g.length := by
        have := (List.getElem?_eq_some_iff.1 hj).1
        simp at this
        omega
      subst hj0
      simp at hj
      rw [if_pos rfl, hj.1, hj.2]
theorem segD_set {D : DataW Value} {g : List (Nat × Nat)} (hD : IsMap D) (h : SegD D g) (i c z : Nat) (hi : i < g.length) : SegD (D.put (kI ((i : Int) + 1)) (.held (segV c z))) (g.set i (c, z)) := by
  refine ⟨fun j => ?_, fun j c' z' hj => ?_⟩
  · rw [List.length_set]
    by_cases e : j = (i : Int) + 1
    · subst e
      rw [has_put_same hD (isKey_kI _)]
      simp
      omega
    · rw [has_put_other (fun e2 => e (kI_inj e2)), h.1 j]
  · rw [atI_put hD]
    by_cases e : j = i
    · subst e
      rw [List.getElem?_set_self hi] at hj
      injection hj with hj
      injection hj with h1 h2
      rw [if_pos rfl, h1, h2]
    · rw [List.getElem?_set_ne (fun e2 => e e2.symm)] at hj
      rw [if_neg (by omega)]
      exact h.2 j c' z' hj
theorem SegM.put {W : World} {G k : Nat} {g g' : List (Nat × Nat)} (h : SegM W G k g) (hk : k < maxLen) (i : Int) (hi : Ok64 i) (c z : Nat) (hg : ∀ D, IsMap D → SegD D g → SegD (D.put (kI i) (.held (segV c z))) g') :
    ∃ w', (Instr.mapUpdate 57 (.map (some G)) (.int .i64 i) (segV c z)).run Tryz.prog W = .ok () w' ∧ SegM w' G (k + 1) g' ∧ W.grownBy w' (some G) := by
  obtain ⟨D, h1, h2⟩ := h
  obtain ⟨w', e1, e2, e3⟩ := heldI_put h1 Tryz.underlying3 Tryz.underlying57 hi hk (segV c z)
  exact ⟨w', e1, ⟨_, e2, hg D (Held.isMap h1) h2⟩, e3⟩
set_option maxHeartbeats 1600000 in
set_option maxRecDepth 20000 in
theorem begin_ok (W : World) (N : Nat) (Ft : Nat → Prop) (Dk k : Nat) (F : Files) (rm x lf : Int) (L G : Nat) (nm : ByteArray) (sz : Int) (g : List (Nat × Nat))
    (h : LogS W N Ft Dk k F rm x lf false L G nm sz g false) (hl : g.length < 999999) (hn : nmOk nm) (hf : F (fileN nm (g.length + 1)) = none) (hk : k + 1 < maxLen) (hx : 0 ≤ x) (hx2 : x ≤ 100000000) (hlf : lf ≤ 9223372036854775807) (h1 : lf ≠ 1) :
    Calls Tryz.prog 53 #[.pointer (some ⟨L, 0, none⟩), .int .i64 ((g.length : Int) + 1)] W fun e w' => e = .returned (.tuple #[]) ∧ LgPost W N Ft Dk (k + 2) (F.upd (fileN nm (g.length + 1)) (some ([], 0))) rm x (lfA lf) false L G nm sz (g ++ [(0, 0)]) false w' := by
  have c0 := BlkIs.cell h.2.1 0
  have hlt := h.ltL
  have hn6 : nm.size ≤ 1000000 := by have := hn.1; omega
  have hnb := nameB_fileN hn (g.length + 1)
  have hnL := h.2.2.2.1
  go_enter Tryz.func53, Tryz.ntmps53
  go_wp2_with fail
  have hA : Below W.heap.size W W.drew := (Below.refl _ W).drew
  have hD := h.below hA
  go_region_held3 (fun w' => w'.cell? ⟨L, 0, none⟩ = some (.pointer (some ⟨Dk, 0, none⟩)))
    (first
      | go_keep
      | exact (hb1.cell (p := ⟨L, 0, none⟩) hlt).trans c0
      | exact BlkIs.cell hE.2.1 0)
    (first
      | (go_at_call 30; refine (lfile_any _ L Dk nm sz G _ false (g.length + 1) hD.2.1 (by omega) hn6).mono ?_; rintro e w1 ⟨rfl, hb1⟩)
      | (go_at_call 70; have hC := hD.below hb1; refine (create_ok w1 N Ft Dk k F _ rm x lf hC.1 hnb hf (by omega) hx hx2 hlf h1).mono ?_; rintro e w2 ⟨rfl, hD2, hT2⟩; have hE := hC.disk hD2 hT2 (Nat.le_succ k))
      | (go_at_call 26; refine (must_ok _).mono ?_; rintro e w3 ⟨rfl, rfl⟩))
  have hf4 := BlkIs.froz hE.2.1 4
  have c3 := BlkIs.cell hE.2.1 3
  have c4 := BlkIs.cell hE.2.1 4
  have hB1 := hA.trans hb1
  have hT := ((Tn.of_below (p := Ft) hB1).trans hT2)
  have HT := Lib.hid (OwnL.of (L := L) (G := G) hT)
  obtain ⟨w3, hrun, hM3, hg3⟩ := hE.2.2.1.put (by omega) ((g.length : Int) + 1) (by unfold Ok64; omega) 0 0 (fun D h1 h2 => segD_push h1 h2 0 0)
  have hL3 : LogB w3 L Dk nm sz G g.length false := (hg3.block L hE.ltL (fun e => hE.ne (by injection e with e; exact e.symm))).trans hE.2.1
  have c4' := BlkIs.cell hL3 4
  have f4' := BlkIs.froz hL3 4
  unfold segV at hrun
  rw [show ((0 : Nat) : Int) = 0 from rfl] at hrun
  have HF := Lib.hid (hE.last hg3 hM3 (by omega))
  have HT3 := Lib.hid (HT.out.grown hg3 (fun i e => .inl (.inr (.inr (by injection e with e; exact e.symm)))))
  have hz3 := hg3.size
  clear hT hT2 hM3 hg3
  have hlen : ((g ++ [(0, 0)]).length : Nat) = g.length + 1 := by simp
  rw [hlen] at HF
  go_wp2_with fail
  go_end0
  exact ⟨rfl, LgPost.up hnL hlt h.2.2.2.2 h.ltG hB1.size (by rw [size_set]; exact hz3) HF.out (HT3.out.setCell (.inl (.inr (.inl rfl))) _)⟩
theorem OwnL.new {Ft : Nat → Prop} {L G : Nat} {W W1 : World} : ∀ i, i < W.heap.size → OwnL (NewFt Ft W W1) L G i → OwnL Ft L G i := by
  rintro i hi ((h | ⟨h, _⟩) | h)
  · exact .inl h
  · omega
  · exact .inr h
/-- one call behind another. -/
theorem LgPost.trans {W W1 w' : World} {N Dk k k' L G : Nat} {Ft : Nat → Prop} {F F' : Files} {rm x x' lf lf' : Int} {b b' : Bool} {nm : ByteArray} {sz : Int} {g g' : List (Nat × Nat)} {dead dead' : Bool} {k0 : Nat} {F0 : Files} {x0 lf0 : Int} {b0 : Bool} {g0 : List (Nat × Nat)} {dead0 : Bool}
    (h0 : LogS W N Ft Dk k0 F0 rm x0 lf0 b0 L G nm sz g0 dead0) (h1 : LgPost W N Ft Dk k F rm x lf b L G nm sz g dead W1) (h2 : LgPost W1 N (NewFt Ft W W1) Dk k' F' rm x' lf' b' L G nm sz g' dead' w') : LgPost W N Ft Dk k' F' rm x' lf' b' L G nm sz g' dead' w' := by
  have hs := h1.2.size
  have hs2 := h2.2.size
  exact ⟨h2.1.more (newFt_trans hs hs2) (Nat.le_refl _) (newFt_not h0.2.2.2.1 h0.ltL) (newFt_not h0.2.2.2.2 h0.ltG),
    h2.2.os.trans h1.2.os, h2.2.tape.trans h1.2.tape, h2.2.output.trans h1.2.output, Nat.le_trans hs hs2, fun i hi hp => (h2.2.block i (by omega) (fun e => hp (OwnL.new i hi e))).trans (h1.2.block i hi hp)⟩
theorem LgPost.of_below {W W1 w' : World} {N Dk k L G : Nat} {Ft : Nat → Prop} {F : Files} {rm x lf : Int} {b : Bool} {nm : ByteArray} {sz : Int} {g : List (Nat × Nat)} {dead : Bool} {k0 : Nat} {F0 : Files} {x0 lf0 : Int} {b0 : Bool} {g0 : List (Nat × Nat)} {dead0 : Bool}
    (h0 : LogS W N Ft Dk k0 F0 rm x0 lf0 b0 L G nm sz g0 dead0) (hB : Below W.heap.size W W1) (h2 : LgPost W1 N Ft Dk k F rm x lf b L G nm sz g dead w') : LgPost W N Ft Dk k F rm x lf b L G nm sz g dead w' :=
  LgPost.up h0.2.2.2.1 h0.ltL h0.2.2.2.2 h0.ltG hB.size (Nat.le_refl _) h2.1 ((Tn.of_below hB).trans h2.2)
/-- the log behind it, with the blocks it began with and new ones. -/
theorem LgPost.then {W W1 : World} {N Dk k L G : Nat} {Ft : Nat → Prop} {F : Files} {rm x lf : Int} {b : Bool} {nm : ByteArray} {sz : Int} {g : List (Nat × Nat)} {dead : Bool} (h : LgPost W N Ft Dk k F rm x lf b L G nm sz g dead W1) : LogS W1 N (NewFt Ft W W1) Dk k F rm x lf b L G nm sz g dead := h.1
set_option maxHeartbeats 1600000 in
set_option maxRecDepth 20000 in
theorem roll_ok (W : World) (N : Nat) (Ft : Nat → Prop) (Dk k : Nat) (F : Files) (rm x lf : Int) (L G : Nat) (nm : ByteArray) (sz : Int) (g : List (Nat × Nat)) (bs : List UInt8) (z : Nat) (need : Nat)
    (h : LogS W N Ft Dk k F rm x lf false L G nm sz g false) (hl : g.length < 999999) (hn : nmOk nm) (hf : F (fileN nm g.length) = some (bs, z)) (hbs : bs.length ≤ 100000000) (hf2 : F (fileN nm (g.length + 1)) = none) (hk : k + 3 < maxLen) (hx : 0 ≤ x) (hx2 : x ≤ 100000000) (hr : x + need ≤ rm) (hr2 : rm ≤ 1000000000000)
    (hlf : lf ≤ 9223372036854775807) (h1 : lf ≠ 1) (h2 : lf ≠ 2) :
    Calls Tryz.prog 28 #[.pointer (some ⟨L, 0, none⟩), .int .i64 need] W fun e w' => e = .returned (.tuple #[]) ∧
      LgPost W N Ft Dk (k + 3) ((F.upd (fileN nm g.length) (some (bs, bs.length))).upd (fileN nm (g.length + 1)) (some ([], 0))) rm x (lfA (lfA lf)) false L G nm sz (g ++ [(0, 0)]) false w' := by
  have c0 := BlkIs.cell h.2.1 0
  have c4 := BlkIs.cell h.2.1 4
  have h9 : ((g.length : Int) == 999999) = false := by simp; omega
  have hlt : ¬ rm - x < (need : Int) := by omega
  have hlA : lfA lf ≠ 1 := by unfold lfA; split <;> omega
  have hlB : lfA lf ≤ 9223372036854775807 := by unfold lfA; split <;> omega
  have hne : fileN nm (g.length + 1) ≠ fileN nm g.length := fun e => by have := fileN_inj (by omega) (by omega) e; omega
  go_enter Tryz.func28, Tryz.ntmps28
  go_wp2_with (first
    | (go_at_call 37; refine (look_up _ L Dk nm sz G _ false h.2.1 h.1).mono ?_; rintro e w' ⟨rfl, rfl⟩)
    | (go_at_call 54; refine (free_S W N Ft Dk k F rm x lf h.1 hx hx2 (by omega) hr2).mono ?_; rintro e w1 ⟨rfl, hb1⟩))
  have hw1 := h.below hb1
  refine (lsync_ok w1 N Ft Dk k F rm x lf L G nm sz g bs z hw1 (by omega) hn hf hbs (by omega) hx hx2 hlf h1).mono ?_
  rintro e w2 ⟨rfl, hp2⟩
  have c4' := BlkIs.cell hp2.1.2.1 4
  have HP2 := Lib.hid hp2
  have hbeg := Lib.hid (begin_ok w2 N (NewFt Ft w1 w2) Dk (k + 1) (F.upd (fileN nm g.length) (some (bs, bs.length))) rm x (lfA lf) L G nm sz g hp2.1 hl hn (by unfold Files.upd; rw [if_neg hne]; exact hf2) (by omega) hx hx2 hlB hlA)
  clear hp2
  go_wp2_with fail
  refine hbeg.out.mono ?_
  rintro e w3 ⟨rfl, hp3⟩
  have HP := Lib.hid (LgPost.of_below h hb1 (LgPost.trans hw1 HP2.out hp3))
  clear hp3
  go_wp2_with fail
  go_end0
  exact ⟨rfl, HP.out⟩
end Go.Proofs.YtfjmplkncopffaaGreatDoor
