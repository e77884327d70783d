/- FaCall. Conditions: as stated at each. -/
import Derived.Test.YteapnkedpmcokaaGreatDoorRm07
import Derived.Defers
import Derived.Recover
/- fault.Catch and its deferred closure: what goes by panic and recover. Conditions: as stated at each. -/
namespace Go.Proofs.YteapnkedpmcokaaGreatDoor
set_option maxRecDepth 100000
namespace Fa
open Go.RowKit Go
/-- a panic with an error's number. -/
abbrev bad (x : Int) : Ending := .panicked [{ v := .iface 39 (.int .i64 x), recovered := false }]
/-- fault.Need, fault.Must. -/
theorem nd_ok (x : Int) (w : World) : Calls Tryz.prog 67 #[.bool true, .int .i64 x] w fun e w' => e = .returned (.tuple #[]) ∧ w = w' := by
  go_enter Tryz.func67, Tryz.ntmps67
  go_wp2_with fail
  go_end0
  exact ⟨rfl, rfl⟩
theorem nd_bad (x : Int) (w : World) : Calls Tryz.prog 67 #[.bool false, .int .i64 x] w fun e w' => e = bad x ∧ w = w' := by
  go_enter Tryz.func67, Tryz.ntmps67
  go_wp2_with fail
  exact ⟨rfl, rfl, rfl⟩
theorem mst_ok (w : World) : Calls Tryz.prog 109 #[.int .i64 0] w fun e w' => e = .returned (.tuple #[]) ∧ w = w' := by
  go_enter Tryz.func109, Tryz.ntmps109
  go_wp2_with fail
  go_end0
  exact ⟨rfl, rfl⟩
theorem mst_bad (x : Int) (hx : (x == 0) = false) (w : World) : Calls Tryz.prog 109 #[.int .i64 x] w fun e w' => e = bad x ∧ w = w' := by
  go_enter Tryz.func109, Tryz.ntmps109
  go_wp2_with fail
  exact ⟨rfl, rfl, rfl⟩
theorem nd_t {b : Bool} (h : b = true) (x : Int) (w : World) : Calls Tryz.prog 67 #[.bool b, .int .i64 x] w fun e w' => e = .returned (.tuple #[]) ∧ w = w' := by
  subst h
  exact nd_ok x w
theorem nd_f {b : Bool} (h : b = false) (x : Int) (w : World) : Calls Tryz.prog 67 #[.bool b, .int .i64 x] w fun e w' => e = bad x ∧ w = w' := by
  subst h
  exact nd_bad x w
theorem catch_idle (p : Addr) (w : World) :
    CallsD Tryz.prog 38 #[.pointer (some p)] .returning w fun e u' w' => e = .returned (.tuple #[]) ∧ u' = .returning ∧ w' = w := by
  refine callsD_of_wpS Tryz.func38 rfl fun c₀ cs hu => ?_
  apply wpS_seq
  apply wpS_region
  simp [wpOpsS, go_sem, recoverD, hu, Tryz.ntmps38, Exit.thenS]
  refine wpS_of_wp ?_
  simp only [Array.replicate_succ, Array.replicate_zero, List.push_toArray, List.append_toArray, List.nil_append, List.cons_append, List.setIfInBounds_toArray, List.set_cons_succ, List.set_cons_zero]
  have heq : ∀ (w : World), (binOp .eql 20 .nilIface .nilIface).run Tryz.prog w = .ok (.bool true) w := fun _ => by kernel_rfl
  go_wp2_with fail
  cases c₀
  simp_all [bodyPostS, results, Tryz.results38]
theorem catch_bad (p : Addr) (x y : Int) (w : World) (hc : w.cell? p = some (.int .i64 y)) (hz : w.frozen? p = false) :
    CallsD Tryz.prog 38 #[.pointer (some p)] (.panicking [{ v := .iface 39 (.int .i64 x), recovered := false }]) w fun e u' w' =>
      e = .returned (.tuple #[]) ∧ u' = .panicking [{ v := .iface 39 (.int .i64 x), recovered := true }] ∧ w' = w.setCell p (.int .i64 x) := by
  refine callsD_of_wpS Tryz.func38 rfl fun c₀ cs hu => ?_
  apply wpS_seq
  apply wpS_region
  simp [wpOpsS, go_sem, recoverD, hu, Tryz.ntmps38, Exit.thenS]
  refine wpS_of_wp ?_
  simp only [Array.replicate_succ, Array.replicate_zero, List.push_toArray, List.append_toArray, List.nil_append, List.cons_append, List.setIfInBounds_toArray, List.set_cons_succ, List.set_cons_zero]
  have heq : ∀ (w : World), (binOp .eql 20 (.iface 39 (.int .i64 x)) .nilIface).run Tryz.prog w = .ok (.bool false) w := fun _ => by kernel_rfl
  have hta : ∀ (w : World), (Instr.typeAssert (.iface 39 (.int .i64 x)) 20 39 true).run Tryz.prog w = .ok (.tuple #[.int .i64 x, .bool true]) w := fun _ => by kernel_rfl
  have hx0 : ∀ w (v u : Value), (Instr.extract (.tuple #[v, u]) 0).run Tryz.prog w = .ok v w := fun _ _ _ => by kernel_rfl
  have hx1 : ∀ w (v u : Value), (Instr.extract (.tuple #[v, u]) 1).run Tryz.prog w = .ok u w := fun _ _ _ => by kernel_rfl
  go_wp2_with fail
  cases c₀
  simp_all [bodyPostS, results, Tryz.results38]
theorem setCell_same {w : World} {g : Nat} {t : TypeId} {v : Value} (h : BlkIs w g t #[v]) : w.setCell ⟨g, 0, none⟩ v = w := by
  unfold BlkIs at h
  have hh : (w.setCell ⟨g, 0, none⟩ v).heap = w.heap := by
    apply Array.ext
    · simp [World.setCell]
    · intro i h1 h2
      by_cases e : g = i
      · subst e
        have e2 : w.heap[g] = .cells #[v] t (0, 0) := by
          rw [Array.getElem?_eq_getElem h2] at h
          injection h
        simp [World.setCell, Array.getElem_modify, e2]
      · simp [World.setCell, Array.getElem_modify, e]
  have : w.setCell ⟨g, 0, none⟩ v = { w with heap := (w.setCell ⟨g, 0, none⟩ v).heap } := rfl
  rw [this, hh]
set_option maxRecDepth 20000 in
set_option maxHeartbeats 800000 in
theorem attempt_c (f : Nat) (ps : Array Value) (W : World) (Q : Int → World → Prop) (hf : ∀ w, (callFunc f ps).run Tryz.prog w = .ok (.enter f ps) w)
    (h : Calls Tryz.prog f ps (W.alloc (.cells #[.int .i64 0] 39)) fun e w' => BlkIs w' W.heap.size 39 #[.int .i64 0] ∧ ((e = .returned (.tuple #[]) ∧ Q 0 w') ∨ ∃ x, e = bad x ∧ Q x (w'.setCell ⟨W.heap.size, 0, none⟩ (.int .i64 x)))) :
    Calls Tryz.prog 22 #[.func (.func f) #[] ps] W fun e w' => ∃ x, e = .returned (.int .i64 x) ∧ Q x w' := by
  have hmf : ∀ (fn : Fn) (first cap : Array Value) (w : World), (Instr.makeFunc fn first cap).run Tryz.prog w = .ok (.func fn first cap) w := fun _ _ _ _ => rfl
  have h' := Lib.hid h
  clear h
  go_enter_defers Tryz.func22, Tryz.ntmps22
  go_wp2_with fail
  refine h'.out.mono ?_
  rintro e w' ⟨hb, hq⟩
  have c0 := hb.cell 0
  have z0 := hb.froz 0
  rcases hq with ⟨rfl, hq⟩ | ⟨x, rfl, hq⟩
  · have HQ := Lib.hid hq
    clear hq
    go_wp2_with fail
    have hs := setCell_same hb
    refine leaves_cons (f := 38) (args := #[.pointer (some ⟨W.heap.size, 0, none⟩)]) (by simp) (by simp [go_sem]) ?_
    refine (catch_idle ⟨W.heap.size, 0, none⟩ _).mono ?_
    rintro e u' w'' ⟨rfl, rfl, rfl⟩
    rw [hs]
    have HQ2 := HQ.out
    simp [Leaves, settle, results, Tryz.results22, go_sem, c0]
    exact HQ2
  · have HQ := Lib.hid hq
    clear hq
    unfold bad
    go_wp2_with fail
    refine leaves_cons (f := 38) (args := #[.pointer (some ⟨W.heap.size, 0, none⟩)]) (by simp) (by simp [go_sem]) ?_
    refine (catch_bad ⟨W.heap.size, 0, none⟩ x 0 _ c0 z0).mono ?_
    rintro e u' w'' ⟨rfl, rfl, rfl⟩
    have c1 := (hb.put 0 (.int .i64 x)).cell 0
    have c2 : (w'.setCell ⟨W.heap.size, 0, none⟩ (.int .i64 x)).cell? ⟨W.heap.size, 0, none⟩ = some (.int .i64 x) := by simpa using c1
    have HQ2 := HQ.out
    simp [Leaves, settle, results, Tryz.results22, go_sem, c2]
    exact HQ2
set_option maxRecDepth 20000 in
set_option maxHeartbeats 800000 in
theorem attempt_m (f : Nat) (ps : Array Value) (W : World) (Q : Int → World → Prop) (hf : ∀ w, (callFunc f ps).run Tryz.prog w = .ok (.enter f ps) w)
    (h : Calls Tryz.prog f ps (W.alloc (.cells #[.int .i64 0] 39)) fun e w' => BlkIs w' W.heap.size 39 #[.int .i64 0] ∧ ((e = .returned (.tuple #[]) ∧ Q 0 w') ∨ ∃ x, e = bad x ∧ Q x (w'.setCell ⟨W.heap.size, 0, none⟩ (.int .i64 x)))) :
    Calls Tryz.prog 22 #[.func (.func f) ps #[]] W fun e w' => ∃ x, e = .returned (.int .i64 x) ∧ Q x w' := by
  have hmf : ∀ (fn : Fn) (first cap : Array Value) (w : World), (Instr.makeFunc fn first cap).run Tryz.prog w = .ok (.func fn first cap) w := fun _ _ _ _ => rfl
  have h' := Lib.hid h
  clear h
  go_enter_defers Tryz.func22, Tryz.ntmps22
  go_wp2_with fail
  refine h'.out.mono ?_
  rintro e w' ⟨hb, hq⟩
  have c0 := hb.cell 0
  have z0 := hb.froz 0
  rcases hq with ⟨rfl, hq⟩ | ⟨x, rfl, hq⟩
  · have HQ := Lib.hid hq
    clear hq
    go_wp2_with fail
    have hs := setCell_same hb
    refine leaves_cons (f := 38) (args := #[.pointer (some ⟨W.heap.size, 0, none⟩)]) (by simp) (by simp [go_sem]) ?_
    refine (catch_idle ⟨W.heap.size, 0, none⟩ _).mono ?_
    rintro e u' w'' ⟨rfl, rfl, rfl⟩
    rw [hs]
    have HQ2 := HQ.out
    simp [Leaves, settle, results, Tryz.results22, go_sem, c0]
    exact HQ2
  · have HQ := Lib.hid hq
    clear hq
    unfold bad
    go_wp2_with fail
    refine leaves_cons (f := 38) (args := #[.pointer (some ⟨W.heap.size, 0, none⟩)]) (by simp) (by simp [go_sem]) ?_
    refine (catch_bad ⟨W.heap.size, 0, none⟩ x 0 _ c0 z0).mono ?_
    rintro e u' w'' ⟨rfl, rfl, rfl⟩
    have c1 := (hb.put 0 (.int .i64 x)).cell 0
    have c2 : (w'.setCell ⟨W.heap.size, 0, none⟩ (.int .i64 x)).cell? ⟨W.heap.size, 0, none⟩ = some (.int .i64 x) := by simpa using c1
    have HQ2 := HQ.out
    simp [Leaves, settle, results, Tryz.results22, go_sem, c2]
    exact HQ2
end Fa
end Go.Proofs.YteapnkedpmcokaaGreatDoor
