/- Operations and regions in a round of a loop over an iterator, by what they do outside one. Conditions: as stated at each. -/
import Derived.Test.YtgjepkcdacgieaaDoorMkUp
import Derived.RangeFuncBox
import Derived.RangeFuncNested
import Derived.RangeFuncBound
import Derived.RangeFuncCalls
import Derived.RangeFuncLeaves
import Derived.OwnWalkIn
import Derived.TacticsInMore
import Derived.LoopNIn
import Derived.LoopIn
import Derived.OrdersIn
namespace Go.Proofs.YtgjepkcdacgieaaDoor
open Go.RowKit Go
/-- met at the normal end alone. -/
def NormalAt (Q : Exit → Act → World → Prop) : Exit → Act → World → Prop
  | .normal, a, w => Q .normal a w
  | _, _, _ => False
theorem NormalAt.mk {Q : Exit → Act → World → Prop} {a : Act} {w : World} (h : Q .normal a w) : NormalAt Q .normal a w := h
theorem NormalAt.out {Q : Exit → Act → World → Prop} {a : Act} {w : World} (h : NormalAt Q .normal a w) : Q .normal a w := h
/-- a fence that lets all by. -/
structure Wide (F : Fence) (n : Nat) (P : Program) : Prop where
  fn : ∀ f, F.fn f
  depth : F.depth = none
  calls : ∀ {f : FuncId} {args : Array Value} {w : World} {R : Ending → World → Prop}, Calls P f args w R → CallsIn F n P f args w R
  rows : ∀ {row : String} {args : Array Value} {w : World} {R : Value → World → Prop}, Rows P row args w R → RowsIn F n P row args w R
theorem Wide.wide (n : Nat) (P : Program) : Wide Fence.wide n P := ⟨fun _ => trivial, rfl, fun h => callsIn_wide.2 h, fun h c cs _ => let ⟨v, w', r, s⟩ := h c cs; ⟨v, w', r, stepsIn_wide.2 s⟩⟩
theorem Wide.round (n : Nat) (P : Program) (l : Nat) : Wide (Fence.wide.inRound l) n P := ⟨fun _ => trivial, rfl, fun h => CallsIn.inRound l (callsIn_wide.2 h), fun h c cs _ => let ⟨v, w', r, s⟩ := h c cs; ⟨v, w', r, stepsIn_wide.2 s⟩⟩
section
variable {F : Fence} {n : Nat} {P : Program} {ops : Array Oper} {Q : Exit → Act → World → Prop}
theorem uponIn_of_upon (hF : Wide F (n - 1) P) {o : Oper} {a : Act} {K : Act → World → Prop} {r : Result Next} (h : o.upon P a K (NormalAt Q) r) : o.uponIn F n P a K Q r := by
  have no : ¬ LetsOut (NormalAt Q) := fun ⟨_, _, h⟩ => h
  cases r with
  | ok x w' =>
    cases x with
    | value v => exact h
    | skip => exact h
    | defer d => exact h
    | enter f args =>
      refine ⟨(fun hd => by (rw [hF.depth] at hd; cases hd)), hF.calls (Calls.mono h fun e w'' he => ?_)⟩
      cases e with
      | returned v => exact he
      | panicked c => exact (he : False).elim
      | outgrown => exact (no he).elim
    | row row args => exact ⟨(fun hd => by (rw [hF.depth] at hd; cases hd)), hF.rows h⟩
    | _ => exact (h : False).elim
  | halt x w' =>
    cases x with
    | panic v => exact (h : False).elim
    | _ => exact (h : False).elim
theorem wpIn_of_wp (hF : Wide F (n - 1) P) {o : Oper} {a : Act} {w : World} {K : Act → World → Prop} (hd : ∀ c, o.op ≠ .defer c) (h : o.wp P a w K (NormalAt Q)) : o.wpIn F n P a w K Q := by
  refine ⟨fun f _ => hF.fn f, ?_⟩
  rw [Oper.semAt_eq _ _ _ hd]
  exact uponIn_of_upon hF h
/-- one operation of a list. -/
theorem lin_wp (hF : Wide F (n - 1) P) {o : Oper} {rest : List Oper} {a : Act} {w : World} (hg : o.guard = none) (hd : ∀ c, o.op ≠ .defer c) (h : ∀ K : Act → World → Prop, (∀ a w, wpListIn F n P ops Q rest a w → K a w) → o.wp P a w K (NormalAt Q)) :
    wpListIn F n P ops Q (o :: rest) a w := wpListIn_plain hg fun K hK => wpIn_of_wp hF hd (h K hK)
theorem opIn_of_op (hF : Wide F (n - 1) P) (hd : ∀ (i : Nat) (o : Oper), ops[i]? = some o → ∀ c, o.op ≠ .defer c) {i : Nat} {K K' : Act → World → Prop} {a : Act} {w : World} (hk : ∀ a w, K a w → K' a w) (h : wpOp P ops (NormalAt Q) i K a w) : wpOpIn F n P ops Q i K' a w := by
  have no : ¬ LetsOut (NormalAt Q) := fun ⟨_, _, h⟩ => h
  unfold wpOp at h
  unfold wpOpIn
  cases ho : ops[i]? with
  | none => rw [ho] at h; exact hk _ _ h
  | some o =>
    rw [ho] at h
    dsimp only at h ⊢
    by_cases hw : Region.wanted o (yielded ops a.tmps) = true
    · rw [if_pos hw] at h ⊢
      rcases h with h | h
      · exact Oper.wpIn_mono hk (wpIn_of_wp hF (hd i o ho) h)
      · exact (no h.2).elim
    · rw [if_neg hw] at h ⊢
      exact ⟨fun f _ => hF.fn f, hk _ _ h⟩
theorem anyIn_of_any (hF : Wide F (n - 1) P) (hd : ∀ (i : Nat) (o : Oper), ops[i]? = some o → ∀ c, o.op ≠ .defer c) (md : Region.Mode) : ∀ (fuel : Nat) (listed : Array Bool) (a : Act) (w : World), wpAny P md ops (NormalAt Q) fuel listed a w → wpAnyIn F n P md ops Q fuel listed a w
  | 0, _, _, _, h => h
  | fuel + 1, _, _, _, h => ⟨h.1, fun i hi => opIn_of_op hF hd (fun a w h' => anyIn_of_any hF hd md fuel _ a w h') (h.2 i hi)⟩
def noDefer (ops : Array Oper) : Bool := ops.toList.all fun o => match o.op with | .defer _ => false | _ => true
theorem noDefer_spec (h : noDefer ops = true) : ∀ (i : Nat) (o : Oper), ops[i]? = some o → ∀ c, o.op ≠ .defer c := fun i o ho c hc => by
  have := List.all_eq_true.1 h o (by have := Array.mem_of_getElem? ho; simpa using this)
  rw [hc] at this
  cases this
/-- a region that draws its order, in a round: by the walk outside one. -/
theorem regionIn_held_drew {S : World → Prop} (hF : Wide F (n - 1) P) (hd : noDefer ops = true) {id : Nat} {a : Act} {w : World} (hm : P.follows .mixedOrders = true) (hS : S w.drew)
    (h : S w.drew → wpAnyH P .any ops (NormalAt Q) S ops.size (Array.replicate ops.size false) a w.drew) : (Code.region id ops true).wpIn F n P Q a w :=
  wpIn_region_any hm (anyIn_of_any hF (noDefer_spec hd) .any _ _ _ _ (wpAny_of_held _ _ _ _ (h hS)))
end
end Go.Proofs.YtgjepkcdacgieaaDoor
