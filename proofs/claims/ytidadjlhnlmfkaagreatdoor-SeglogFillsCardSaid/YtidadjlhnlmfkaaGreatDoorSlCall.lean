/- must, attempt and its deferred closure: what goes by panic and recover. Conditions: as stated at each. -/
import Derived.Test.YtidadjlhnlmfkaaGreatDoorSlInt
import Derived.Defers
import Derived.Recover
namespace Go.Proofs.YtidadjlhnlmfkaaGreatDoor
open Go.RowKit Go.Shelf Go
/-- what must and its like end a call with. -/
def bad (x : Int) : Ending := .panicked [{ v := .iface 33 (.int .i64 x), recovered := false }]
set_option maxHeartbeats 400000 in
theorem must_ok (W : World) : Calls Tryz.prog 26 #[.int .i64 0] W fun e w' => e = .returned (.tuple #[]) ∧ W = w' := by
  go_enter Tryz.func26, Tryz.ntmps26
  go_wp2_with fail
  go_end0
  exact ⟨rfl, rfl⟩
set_option maxHeartbeats 400000 in
theorem must_bad (W : World) (x : Int) (hx : x ≠ 0) : Calls Tryz.prog 26 #[.int .i64 x] W fun e w' => e = bad x ∧ W = w' := by
  have h1 : (x != 0) = true := by simpa using hx
  go_enter Tryz.func26, Tryz.ntmps26
  go_wp2_with fail
  exact ⟨rfl, rfl, rfl⟩
set_option maxHeartbeats 400000 in
/-- what is asked for is there. -/
theorem need_ok (W : World) (x : Int) : Calls Tryz.prog 52 #[.bool true, .int .i64 x] W fun e w' => e = .returned (.tuple #[]) ∧ W = w' := by
  go_enter Tryz.func52, Tryz.ntmps52
  go_wp2_with fail
  go_end0
  exact ⟨rfl, rfl⟩
set_option maxHeartbeats 400000 in
theorem need_bad (W : World) (x : Int) : Calls Tryz.prog 52 #[.bool false, .int .i64 x] W fun e w' => e = bad x ∧ W = w' := by
  go_enter Tryz.func52, Tryz.ntmps52
  go_wp2_with fail
  exact ⟨rfl, rfl, rfl⟩
theorem catch_idle (p : Addr) (w : World) :
    CallsD Tryz.prog 73 #[.pointer (some p)] .returning w fun e u' w' => e = .returned (.tuple #[]) ∧ u' = .returning ∧ w' = w := by
  refine callsD_of_wpS Tryz.func73 rfl fun c₀ cs hu => ?_
  apply wpS_seq
  apply wpS_region
  simp [wpOpsS, go_sem, recoverD, hu, Tryz.ntmps73, Exit.thenS]
  refine wpS_of_wp ?_
  simp only [Array.replicate_succ, Array.replicate_zero, List.push_toArray, List.append_toArray, List.nil_append, List.cons_append, List.setIfInBounds_toArray, List.set_cons_succ, List.set_cons_zero]
  have heq : ∀ (w : World), (binOp .eql 20 .nilIface .nilIface).run Tryz.prog w = .ok (.bool true) w := fun _ => by kernel_rfl
  go_wp2_with fail
  cases c₀
  simp_all [bodyPostS, results, Tryz.results73]
theorem catch_bad (p : Addr) (x y : Int) (w : World) (hc : w.cell? p = some (.int .i64 y)) (hz : w.frozen? p = false) :
    CallsD Tryz.prog 73 #[.pointer (some p)] (.panicking [{ v := .iface 33 (.int .i64 x), recovered := false }]) w fun e u' w' =>
      e = .returned (.tuple #[]) ∧ u' = .panicking [{ v := .iface 33 (.int .i64 x), recovered := true }] ∧ w' = w.setCell p (.int .i64 x) := by
  refine callsD_of_wpS Tryz.func73 rfl fun c₀ cs hu => ?_
  apply wpS_seq
  apply wpS_region
  simp [wpOpsS, go_sem, recoverD, hu, Tryz.ntmps73, Exit.thenS]
  refine wpS_of_wp ?_
  simp only [Array.replicate_succ, Array.replicate_zero, List.push_toArray, List.append_toArray, List.nil_append, List.cons_append, List.setIfInBounds_toArray, List.set_cons_succ, List.set_cons_zero]
  have heq : ∀ (w : World), (binOp .eql 20 (.iface 33 (.int .i64 x)) .nilIface).run Tryz.prog w = .ok (.bool false) w := fun _ => by kernel_rfl
  have hta : ∀ (w : World), (Instr.typeAssert (.iface 33 (.int .i64 x)) 20 33 true).run Tryz.prog w = .ok (.tuple #[.int .i64 x, .bool true]) w := fun _ => by kernel_rfl
  have hx0 : ∀ w (v u : Value), (Instr.extract (.tuple #[v, u]) 0).run Tryz.prog w = .ok v w := fun _ _ _ => by kernel_rfl
  have hx1 : ∀ w (v u : Value), (Instr.extract (.tuple #[v, u]) 1).run Tryz.prog w = .ok u w := fun _ _ _ => by kernel_rfl
  go_wp2_with fail
  cases c₀
  simp_all [bodyPostS, results, Tryz.results73]
theorem setCell_same {w : World} {g : Nat} {t : TypeId} {v : Value} (h : BlkIs w g t #[v]) : w.setCell ⟨g, 0, none⟩ v = w := by
  unfold BlkIs at h
  have hh : (w.setCell ⟨g, 0, none⟩ v).heap = w.heap := by
    apply Array.ext
    · simp [World.setCell]
    · intro i h1 h2
      by_cases e : g = i
      · subst e
        have e2 : w.heap[g] = .cells #[v] t (0, 0) := by
          rw [Array.getElem?_eq_getElem h2] at h
          injection h
        simp [World.setCell, Array.getElem_modify, e2]
      · simp [World.setCell, Array.getElem_modify, e]
  have : w.setCell ⟨g, 0, none⟩ v = { w with heap := (w.setCell ⟨g, 0, none⟩ v).heap } := rfl
  rw [this, hh]
set_option maxRecDepth 20000 in
set_option maxHeartbeats 800000 in
theorem attempt_c (f : Nat) (ps : Array Value) (W : World) (Q : Int → World → Prop) (hf : ∀ w, (callFunc f ps).run Tryz.prog w = .ok (.enter f ps) w)
    (h : Calls Tryz.prog f ps (W.alloc (.cells #[.int .i64 0] 33)) fun e w' => BlkIs w' W.heap.size 33 #[.int .i64 0] ∧ ((e = .returned (.tuple #[]) ∧ Q 0 w') ∨ ∃ x, e = bad x ∧ Q x (w'.setCell ⟨W.heap.size, 0, none⟩ (.int .i64 x)))) :
    Calls Tryz.prog 50 #[.func (.func f) #[] ps] W fun e w' => ∃ x, e = .returned (.int .i64 x) ∧ Q x w' := by
  have hmf : ∀ (fn : Fn) (first cap : Array Value) (w : World), (Instr.makeFunc fn first cap).run Tryz.prog w = .ok (.func fn first cap) w := fun _ _ _ _ => rfl
  have h' := Lib.hid h
  clear h
  go_enter_defers Tryz.func50, Tryz.ntmps50
  go_wp2_with fail
  refine h'.out.mono ?_
  rintro e w' ⟨hb, hq⟩
  have c0 := hb.cell 0
  have z0 := hb.froz 0
  rcases hq with ⟨rfl, hq⟩ | ⟨x, rfl, hq⟩
  · have HQ := Lib.hid hq
    clear hq
    go_wp2_with fail
    have hs := setCell_same hb
    refine leaves_cons (f := 73) (args := #[.pointer (some ⟨W.heap.size, 0, none⟩)]) (by simp) (by simp [go_sem]) ?_
    refine (catch_idle ⟨W.heap.size, 0, none⟩ _).mono ?_
    rintro e u' w'' ⟨rfl, rfl, rfl⟩
    rw [hs]
    have HQ2 := HQ.out
    simp [Leaves, settle, results, Tryz.results50, go_sem, c0]
    exact HQ2
  · have HQ := Lib.hid hq
    clear hq
    unfold bad
    go_wp2_with fail
    refine leaves_cons (f := 73) (args := #[.pointer (some ⟨W.heap.size, 0, none⟩)]) (by simp) (by simp [go_sem]) ?_
    refine (catch_bad ⟨W.heap.size, 0, none⟩ x 0 _ c0 z0).mono ?_
    rintro e u' w'' ⟨rfl, rfl, rfl⟩
    have c1 := (hb.put 0 (.int .i64 x)).cell 0
    have c2 : (w'.setCell ⟨W.heap.size, 0, none⟩ (.int .i64 x)).cell? ⟨W.heap.size, 0, none⟩ = some (.int .i64 x) := by simpa using c1
    have HQ2 := HQ.out
    simp [Leaves, settle, results, Tryz.results50, go_sem, c2]
    exact HQ2
set_option maxRecDepth 20000 in
set_option maxHeartbeats 800000 in
theorem attempt_m (f : Nat) (v : Value) (W : World) (Q : Int → World → Prop) (hf : ∀ w, (callFunc f #[v]).run Tryz.prog w = .ok (.enter f #[v]) w)
    (h : Calls Tryz.prog f #[v] (W.alloc (.cells #[.int .i64 0] 33)) fun e w' => BlkIs w' W.heap.size 33 #[.int .i64 0] ∧ ((e = .returned (.tuple #[]) ∧ Q 0 w') ∨ ∃ x, e = bad x ∧ Q x (w'.setCell ⟨W.heap.size, 0, none⟩ (.int .i64 x)))) :
    Calls Tryz.prog 50 #[.func (.func f) #[v] #[]] W fun e w' => ∃ x, e = .returned (.int .i64 x) ∧ Q x w' := by
  have hmf : ∀ (fn : Fn) (first cap : Array Value) (w : World), (Instr.makeFunc fn first cap).run Tryz.prog w = .ok (.func fn first cap) w := fun _ _ _ _ => rfl
  have h' := Lib.hid h
  clear h
  go_enter_defers Tryz.func50, Tryz.ntmps50
  go_wp2_with fail
  refine h'.out.mono ?_
  rintro e w' ⟨hb, hq⟩
  have c0 := hb.cell 0
  have z0 := hb.froz 0
  rcases hq with ⟨rfl, hq⟩ | ⟨x, rfl, hq⟩
  · have HQ := Lib.hid hq
    clear hq
    go_wp2_with fail
    have hs := setCell_same hb
    refine leaves_cons (f := 73) (args := #[.pointer (some ⟨W.heap.size, 0, none⟩)]) (by simp) (by simp [go_sem]) ?_
    refine (catch_idle ⟨W.heap.size, 0, none⟩ _).mono ?_
    rintro e u' w'' ⟨rfl, rfl, rfl⟩
    rw [hs]
    have HQ2 := HQ.out
    simp [Leaves, settle, results, Tryz.results50, go_sem, c0]
    exact HQ2
  · have HQ := Lib.hid hq
    clear hq
    unfold bad
    go_wp2_with fail
    refine leaves_cons (f := 73) (args := #[.pointer (some ⟨W.heap.size, 0, none⟩)]) (by simp) (by simp [go_sem]) ?_
    refine (catch_bad ⟨W.heap.size, 0, none⟩ x 0 _ c0 z0).mono ?_
    rintro e u' w'' ⟨rfl, rfl, rfl⟩
    have c1 := (hb.put 0 (.int .i64 x)).cell 0
    have c2 : (w'.setCell ⟨W.heap.size, 0, none⟩ (.int .i64 x)).cell? ⟨W.heap.size, 0, none⟩ = some (.int .i64 x) := by simpa using c1
    have HQ2 := HQ.out
    simp [Leaves, settle, results, Tryz.results50, go_sem, c2]
    exact HQ2
/-- a log at L: its disk, name, size, segments' map, last one, whether it is dead. -/
def LogB (W : World) (L Dk : Nat) (nm : ByteArray) (sz : Int) (G : Nat) (last : Int) (dead : Bool) : Prop :=
  BlkIs W L 59 #[.pointer (some ⟨Dk, 0, none⟩), .string nm, .int .i64 sz, .map (some G), .int .i64 last, .bool dead]
def Called (L : Nat) (Q : Int → World → Prop) (e : Ending) (w' : World) : Prop :=
  ∃ x, e = .returned (.int .i64 x) ∧ ((x ≠ 10 ∧ Q x w') ∨ (x = 10 ∧ ∃ w1, Q x w1 ∧ w' = w1.setCell ⟨L, 5, none⟩ (.bool true)))
set_option maxRecDepth 20000 in
set_option maxHeartbeats 800000 in
theorem call_c (f : Nat) (ps : Array Value) (W : World) (L Dk : Nat) (nm : ByteArray) (sz : Int) (G : Nat) (last : Int) (Q : Int → World → Prop) (hL : LogB W L Dk nm sz G last false) (hf : ∀ w, (callFunc f ps).run Tryz.prog w = .ok (.enter f ps) w)
    (hq : ∀ w', Q 10 w' → ∃ u, w'.cell? ⟨L, 5, none⟩ = some (.bool u) ∧ w'.frozen? ⟨L, 5, none⟩ = false)
    (h : Calls Tryz.prog f ps (W.alloc (.cells #[.int .i64 0] 33)) fun e w' => BlkIs w' W.heap.size 33 #[.int .i64 0] ∧ ((e = .returned (.tuple #[]) ∧ Q 0 w') ∨ ∃ x, e = bad x ∧ Q x (w'.setCell ⟨W.heap.size, 0, none⟩ (.int .i64 x)))) :
    Calls Tryz.prog 22 #[.pointer (some ⟨L, 0, none⟩), .func (.func f) #[] ps] W fun e w' => Called L Q e w' := by
  have ha := Lib.hid (attempt_c f ps W Q hf h)
  have c0 := BlkIs.cell hL 0
  have c5 := BlkIs.cell hL 5
  clear h
  go_enter Tryz.func22, Tryz.ntmps22
  go_wp2_with fail
  refine ha.out.mono ?_
  rintro e w' ⟨x, rfl, hqx⟩
  by_cases hx : x = 10
  · subst hx
    obtain ⟨u, c5', f5'⟩ := hq w' hqx
    have HQ := Lib.hid hqx
    clear hqx
    go_wp2_with fail
    go_ret
    exact ⟨10, rfl, .inr ⟨rfl, w', HQ.out, rfl⟩⟩
  · have HQ := Lib.hid hqx
    clear hqx
    have hx' : (x == 10) = false := by simpa using hx
    go_wp2_with fail
    go_ret
    exact ⟨x, rfl, .inl ⟨hx, HQ.out⟩⟩
set_option maxRecDepth 20000 in
set_option maxHeartbeats 800000 in
theorem call_m (f : Nat) (v : Value) (W : World) (L Dk : Nat) (nm : ByteArray) (sz : Int) (G : Nat) (last : Int) (Q : Int → World → Prop) (hL : LogB W L Dk nm sz G last false) (hf : ∀ w, (callFunc f #[v]).run Tryz.prog w = .ok (.enter f #[v]) w)
    (hq : ∀ w', Q 10 w' → ∃ u, w'.cell? ⟨L, 5, none⟩ = some (.bool u) ∧ w'.frozen? ⟨L, 5, none⟩ = false)
    (h : Calls Tryz.prog f #[v] (W.alloc (.cells #[.int .i64 0] 33)) fun e w' => BlkIs w' W.heap.size 33 #[.int .i64 0] ∧ ((e = .returned (.tuple #[]) ∧ Q 0 w') ∨ ∃ x, e = bad x ∧ Q x (w'.setCell ⟨W.heap.size, 0, none⟩ (.int .i64 x)))) :
    Calls Tryz.prog 22 #[.pointer (some ⟨L, 0, none⟩), .func (.func f) #[v] #[]] W fun e w' => Called L Q e w' := by
  have ha := Lib.hid (attempt_m f v W Q hf h)
  have c0 := BlkIs.cell hL 0
  have c5 := BlkIs.cell hL 5
  clear h
  go_enter Tryz.func22, Tryz.ntmps22
  go_wp2_with fail
  refine ha.out.mono ?_
  rintro e w' ⟨x, rfl, hqx⟩
  by_cases hx : x = 10
  · subst hx
    obtain ⟨u, c5', f5'⟩ := hq w' hqx
    have HQ := Lib.hid hqx
    clear hqx
    go_wp2_with fail
    go_ret
    exact ⟨10, rfl, .inr ⟨rfl, w', HQ.out, rfl⟩⟩
  · have HQ := Lib.hid hqx
    clear hqx
    have hx' : (x == 10) = false := by simpa using hx
    go_wp2_with fail
    go_ret
    exact ⟨x, rfl, .inl ⟨hx, HQ.out⟩⟩
end Go.Proofs.YtidadjlhnlmfkaaGreatDoor
