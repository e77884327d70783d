/- The disk's small calls: made, Down, refuse, nothing, change, at whatever state. Conditions: as stated at each. -/
import Derived.Test.YtidadjlhnlmfkaaGreatDoorDkPut
namespace Go.Proofs.YtidadjlhnlmfkaaGreatDoor
set_option maxRecDepth 100000
open Go.RowKit Go
set_option maxHeartbeats 400000 in
theorem made_any (W : World) (Dk M : Nat) (c0 : W.cell? ⟨Dk, 0, none⟩ = some (.map (some M))) :
    Calls Tryz.prog 32 #[.pointer (some ⟨Dk, 0, none⟩)] W fun e w' => e = .returned (.bool true) ∧ W = w' := by
  have hn : ∀ (w : World) (r : Option Nat), (binOp .neq 53 (.map r) (.map none)).run Tryz.prog w = .ok (.bool (!r.isNone)) w := fun w r => run_neq_map_nil w _ _ _ r Tryz.underlying53
  go_enter Tryz.func32, Tryz.ntmps32
  go_wp2_with fail
  go_ret
  exact ⟨rfl, rfl⟩
set_option maxHeartbeats 400000 in
theorem made_nil (W : World) : Calls Tryz.prog 32 #[.pointer none] W fun e w' => e = .returned (.bool false) ∧ W = w' := by
  go_enter Tryz.func32, Tryz.ntmps32
  go_wp2_with fail
  go_ret
  exact ⟨rfl, rfl⟩
set_option maxHeartbeats 400000 in
theorem down_any (W : World) (Dk M : Nat) (b : Bool) (c0 : W.cell? ⟨Dk, 0, none⟩ = some (.map (some M))) (c4 : W.cell? ⟨Dk, 4, none⟩ = some (.bool b)) :
    Calls Tryz.prog 20 #[.pointer (some ⟨Dk, 0, none⟩)] W fun e w' => e = .returned (.bool b) ∧ W = w' := by
  go_enter Tryz.func20, Tryz.ntmps20
  go_wp2_with (go_at_call 32; refine (made_any _ Dk M c0).mono ?_; rintro e w' ⟨rfl, rfl⟩)
  go_ret
  exact ⟨rfl, rfl⟩
set_option maxHeartbeats 400000 in
theorem down_nil (W : World) : Calls Tryz.prog 20 #[.pointer none] W fun e w' => e = .returned (.bool true) ∧ W = w' := by
  go_enter Tryz.func20, Tryz.ntmps20
  go_wp2_with (go_at_call 32; refine (made_nil _).mono ?_; rintro e w' ⟨rfl, rfl⟩)
  go_ret
  exact ⟨rfl, rfl⟩
set_option maxHeartbeats 400000 in
theorem nothing_any (W : World) : Calls Tryz.prog 79 #[] W fun e w' => e = .returned (.tuple #[]) ∧ W = w' := by
  go_enter Tryz.func79, Tryz.ntmps79
  go_wp2_with fail
  go_end0
  exact ⟨rfl, rfl⟩
/-- the closures are taken by what they do. -/
def Does (f : Nat) (ps : Array Value) (W : World) (Q : World → Prop) : Prop := Calls Tryz.prog f ps W fun e w' => e = .returned (.tuple #[]) ∧ Q w'
set_option maxHeartbeats 400000 in
/-- no change is the last: the whole is done. -/
theorem change_zero (f : Nat) (ps : Array Value) (other : Value) (W : World) (Dk : Nat) (x : Int) (hx : ¬ 1 ≤ x) (c3 : W.cell? ⟨Dk, 3, none⟩ = some (.int .i64 x)) (Q : World → Prop) (hf : ∀ w, (callFunc f ps).run Tryz.prog w = .ok (.enter f ps) w)
    (h : Does f ps W Q) :
    Calls Tryz.prog 58 #[.pointer (some ⟨Dk, 0, none⟩), .func (.func f) #[] ps, other] W fun e w' => e = .returned (.int .i64 0) ∧ Q w' := by
  have h' := Lib.hid h
  clear h
  have h1 : (x == 1) = false := by simp; omega
  have h2 : ¬ 1 < x := by omega
  go_enter Tryz.func58, Tryz.ntmps58
  go_wp2_with fail
  refine h'.out.mono ?_
  rintro e w' ⟨rfl, hq⟩
  go_wp2_with fail
  go_ret
  exact ⟨rfl, hq⟩
set_option maxHeartbeats 400000 in
/-- more changes are let: one fewer, and the whole is done. -/
theorem change_more (f : Nat) (ps : Array Value) (other : Value) (W : World) (Dk : Nat) (x : Int) (hx : 1 < x) (hx2 : x ≤ 9223372036854775807) (c3 : W.cell? ⟨Dk, 3, none⟩ = some (.int .i64 x)) (f3 : W.frozen? ⟨Dk, 3, none⟩ = false) (Q : World → Prop) (hf : ∀ w, (callFunc f ps).run Tryz.prog w = .ok (.enter f ps) w)
    (h : Does f ps (W.setCell ⟨Dk, 3, none⟩ (.int .i64 (x - 1))) Q) :
    Calls Tryz.prog 58 #[.pointer (some ⟨Dk, 0, none⟩), .func (.func f) #[] ps, other] W fun e w' => e = .returned (.int .i64 0) ∧ Q w' := by
  have h' := Lib.hid h
  clear h
  have h1 : (x == 1) = false := by simp; omega
  go_enter Tryz.func58, Tryz.ntmps58
  go_wp2_with fail
  refine h'.out.mono ?_
  rintro e w' ⟨rfl, hq⟩
  go_wp2_with fail
  go_ret
  exact ⟨rfl, hq⟩
set_option maxHeartbeats 400000 in
/-- the last change: it is cut, and the disk is down behind it. -/
theorem change_last (f : Nat) (ps : Array Value) (whole : Value) (W : World) (Dk : Nat) (c3 : W.cell? ⟨Dk, 3, none⟩ = some (.int .i64 1)) (Q : World → Prop) (hf : ∀ w, (callFunc f ps).run Tryz.prog w = .ok (.enter f ps) w)
    (h : Does f ps W (fun w' => (∃ u, w'.cell? ⟨Dk, 4, none⟩ = some (.bool u)) ∧ w'.frozen? ⟨Dk, 4, none⟩ = false ∧ Q (w'.setCell ⟨Dk, 4, none⟩ (.bool true)))) :
    Calls Tryz.prog 58 #[.pointer (some ⟨Dk, 0, none⟩), whole, .func (.func f) #[] ps] W fun e w' => e = .returned (.int .i64 10) ∧ Q w' := by
  have h' := Lib.hid h
  clear h
  go_enter Tryz.func58, Tryz.ntmps58
  go_wp2_with fail
  refine h'.out.mono ?_
  rintro e w' ⟨rfl, ⟨u, c4⟩, f4, hq⟩
  have HQ := Lib.hid hq
  clear hq
  go_wp2_with fail
  go_ret
  exact ⟨rfl, HQ.out⟩
/-- a slice of names. -/
def Strs (w : World) (A : Option Addr) (ss : List ByteArray) : Prop := ∀ k s, ss[k]? = some s → s.size ≤ maxLen ∧ ∃ ad, A = some ad ∧ w.cell? (ad.add k) = some (.string s)
end Go.Proofs.YtidadjlhnlmfkaaGreatDoor
