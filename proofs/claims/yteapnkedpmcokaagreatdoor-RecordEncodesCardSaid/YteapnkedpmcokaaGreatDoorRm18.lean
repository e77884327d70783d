/- RgKey PaCut PaSmall PaAtom PaRef. Conditions: as stated at each. -/
import Derived.RangeFuncBox
import Derived.RangeFuncNested
import Derived.RangeFuncBound
import Derived.RangeFuncCalls
import Derived.RangeFuncLeaves
import Derived.OwnWalkIn
import Derived.TacticsInMore
import Derived.LoopNIn
import Derived.LoopIn
import Derived.OrdersIn
import Derived.Deep.RegionHeld
import Derived.WalkKit
import Derived.Test.YteapnkedpmcokaaGreatDoorRm05
import Derived.Test.YteapnkedpmcokaaGreatDoorRm17
/- Regions that draw their order: in a round of a loop over an iterator, with a condition that is owed, with one that grows. Conditions: as stated at each. -/
namespace Go.Proofs.YteapnkedpmcokaaGreatDoor
set_option maxRecDepth 100000
open Go.RowKit Go
/-- met at the normal end alone. -/
def NormalAt (Q : Exit → Act → World → Prop) : Exit → Act → World → Prop
  | .normal, a, w => Q .normal a w
  | _, _, _ => False
theorem NormalAt.mk {Q : Exit → Act → World → Prop} {a : Act} {w : World} (h : Q .normal a w) : NormalAt Q .normal a w := h
theorem NormalAt.out {Q : Exit → Act → World → Prop} {a : Act} {w : World} (h : NormalAt Q .normal a w) : Q .normal a w := h
/-- a fence that lets all by. -/
structure Wide (F : Fence) (n : Nat) (P : Program) : Prop where
  fn : ∀ f, F.fn f
  depth : F.depth = none
  calls : ∀ {f : FuncId} {args : Array Value} {w : World} {R : Ending → World → Prop}, Calls P f args w R → CallsIn F n P f args w R
  rows : ∀ {row : String} {args : Array Value} {w : World} {R : Value → World → Prop}, Rows P row args w R → RowsIn F n P row args w R
theorem Wide.wide (n : Nat) (P : Program) : Wide Fence.wide n P := ⟨fun _ => trivial, rfl, fun h => callsIn_wide.2 h, fun h c cs _ => let ⟨v, w', r, s⟩ := h c cs; ⟨v, w', r, stepsIn_wide.2 s⟩⟩
theorem Wide.round (n : Nat) (P : Program) (l : Nat) : Wide (Fence.wide.inRound l) n P := ⟨fun _ => trivial, rfl, fun h => CallsIn.inRound l (callsIn_wide.2 h), fun h c cs _ => let ⟨v, w', r, s⟩ := h c cs; ⟨v, w', r, stepsIn_wide.2 s⟩⟩
section
variable {F : Fence} {n : Nat} {P : Program} {ops : Array Oper} {Q : Exit → Act → World → Prop}
theorem uponIn_of_upon (hF : Wide F (n - 1) P) {o : Oper} {a : Act} {K : Act → World → Prop} {r : Result Next} (h : o.upon P a K (NormalAt Q) r) : o.uponIn F n P a K Q r := by
  have no : ¬ LetsOut (NormalAt Q) := fun ⟨_, _, h⟩ => h
  cases r with
  | ok x w' =>
    cases x with
    | value v => exact h
    | skip => exact h
    | defer d => exact h
    | enter f args =>
      refine ⟨(fun hd => by (rw [hF.depth] at hd; cases hd)), hF.calls (Calls.mono h fun e w'' he => ?_)⟩
      cases e with
      | returned v => exact he
      | panicked c => exact (he : False).elim
      | outgrown => exact (no he).elim
    | row row args => exact ⟨(fun hd => by (rw [hF.depth] at hd; cases hd)), hF.rows h⟩
    | _ => exact (h : False).elim
  | halt x w' =>
    cases x with
    | panic v => exact (h : False).elim
    | _ => exact (h : False).elim
theorem wpIn_of_wp (hF : Wide F (n - 1) P) {o : Oper} {a : Act} {w : World} {K : Act → World → Prop} (hd : ∀ c, o.op ≠ .defer c) (h : o.wp P a w K (NormalAt Q)) : o.wpIn F n P a w K Q := by
  refine ⟨fun f _ => hF.fn f, ?_⟩
  rw [Oper.semAt_eq _ _ _ hd]
  exact uponIn_of_upon hF h
/-- one operation of a list. -/
theorem lin_wp (hF : Wide F (n - 1) P) {o : Oper} {rest : List Oper} {a : Act} {w : World} (hg : o.guard = none) (hd : ∀ c, o.op ≠ .defer c) (h : ∀ K : Act → World → Prop, (∀ a w, wpListIn F n P ops Q rest a w → K a w) → o.wp P a w K (NormalAt Q)) :
    wpListIn F n P ops Q (o :: rest) a w := wpListIn_plain hg fun K hK => wpIn_of_wp hF hd (h K hK)
theorem opIn_of_op (hF : Wide F (n - 1) P) (hd : ∀ (i : Nat) (o : Oper), ops[i]? = some o → ∀ c, o.op ≠ .defer c) {i : Nat} {K K' : Act → World → Prop} {a : Act} {w : World} (hk : ∀ a w, K a w → K' a w) (h : wpOp P ops (NormalAt Q) i K a w) : wpOpIn F n P ops Q i K' a w := by
  have no : ¬ LetsOut (NormalAt Q) := fun ⟨_, _, h⟩ => h
  unfold wpOp at h
  unfold wpOpIn
  cases ho : ops[i]? with
  | none => rw [ho] at h; exact hk _ _ h
  | some o =>
    rw [ho] at h
    dsimp only at h ⊢
    by_cases hw : Region.wanted o (yielded ops a.tmps) = true
    · rw [if_pos hw] at h ⊢
      rcases h with h | h
      · exact Oper.wpIn_mono hk (wpIn_of_wp hF (hd i o ho) h)
      · exact (no h.2).elim
    · rw [if_neg hw] at h ⊢
      exact ⟨fun f _ => hF.fn f, hk _ _ h⟩
theorem anyIn_of_any (hF : Wide F (n - 1) P) (hd : ∀ (i : Nat) (o : Oper), ops[i]? = some o → ∀ c, o.op ≠ .defer c) (md : Region.Mode) : ∀ (fuel : Nat) (listed : Array Bool) (a : Act) (w : World), wpAny P md ops (NormalAt Q) fuel listed a w → wpAnyIn F n P md ops Q fuel listed a w
  | 0, _, _, _, h => h
  | fuel + 1, _, _, _, h => ⟨h.1, fun i hi => opIn_of_op hF hd (fun a w h' => anyIn_of_any hF hd md fuel _ a w h') (h.2 i hi)⟩
def noDefer (ops : Array Oper) : Bool := ops.toList.all fun o => match o.op with | .defer _ => false | _ => true
theorem noDefer_spec (h : noDefer ops = true) : ∀ (i : Nat) (o : Oper), ops[i]? = some o → ∀ c, o.op ≠ .defer c := fun i o ho c hc => by
  have := List.all_eq_true.1 h o (by have := Array.mem_of_getElem? ho; simpa using this)
  rw [hc] at this
  cases this
/-- a region that draws its order, in a round: by the walk outside one. -/
theorem regionIn_held_drew {S : World → Prop} (hF : Wide F (n - 1) P) (hd : noDefer ops = true) {id : Nat} {a : Act} {w : World} (hm : P.follows .mixedOrders = true) (hS : S w.drew)
    (h : S w.drew → wpAnyH P .any ops (NormalAt Q) S ops.size (Array.replicate ops.size false) a w.drew) : (Code.region id ops true).wpIn F n P Q a w :=
  wpIn_region_any hm (anyIn_of_any hF (noDefer_spec hd) .any _ _ _ _ (wpAny_of_held _ _ _ _ (h hS)))
end
end Go.Proofs.YteapnkedpmcokaaGreatDoor
namespace Go.Proofs.YteapnkedpmcokaaGreatDoor
set_option maxRecDepth 100000
open Go.RowKit Go
section
variable {P : Program} {ops : Array Oper} {Q : Exit → Act → World → Prop} {md : Region.Mode} {S : World → Prop}
/-- whatever order is picked from here on; S holds behind each operation that is carried out ahead of the key. -/
def wpAnyK (P : Program) (md : Region.Mode) (ops : Array Oper) (Q : Exit → Act → World → Prop) (S : World → Prop) (key : Nat) : Nat → Array Bool → Act → World → Prop
  | 0, listed, a, w => Region.ready md ops listed = [] ∧ Q .normal a w
  | fuel + 1, listed, a, w =>
    (Region.ready md ops listed = [] → Q .normal a w) ∧
    ∀ i ∈ Region.ready md ops listed, wpOp P ops Q i (fun a' w' => (i ≠ key → listed.getD key true = false → S w') ∧ wpAnyK P md ops Q S key fuel (listed.setIfInBounds i true) a' w') a w
theorem wpAny_of_key {key : Nat} : ∀ (fuel : Nat) (listed : Array Bool) (a : Act) (w : World), wpAnyK P md ops Q S key fuel listed a w → wpAny P md ops Q fuel listed a w
  | 0, _, _, _, h => h
  | fuel + 1, _, _, _, h => ⟨h.1, fun i hi => wpOp_mono (fun a' w' h' => wpAny_of_key fuel _ a' w' h'.2) (h.2 i hi)⟩
/-- the key waits for operation i, maybe by way of others. -/
def waits (md : Region.Mode) (ops : Array Oper) : Nat → Nat → Nat → Bool
  | 0, _, _ => false
  | f + 1, key, i => match ops[key]? with
    | some o => o.after.any fun e => Region.binds md e && (e.on == i || waits md ops f e.on i)
    | none => false
/-- what is listed waits for what is listed alone. -/
def Closed (md : Region.Mode) (ops : Array Oper) (listed : Array Bool) : Prop := ∀ j o, ops[j]? = some o → listed.getD j true = true → ∀ e ∈ o.after, Region.binds md e = true → listed.getD e.on false = true
def closedB (md : Region.Mode) (ops : Array Oper) (listed : Array Bool) : Bool := (List.range ops.size).all fun j => match ops[j]? with
  | some o => !listed.getD j true || o.after.all fun e => !Region.binds md e || listed.getD e.on false
  | none => true
theorem closedB_spec {listed : Array Bool} (h : closedB md ops listed = true) : Closed md ops listed := fun j o ho hl e he hb => by
  have hj : j < ops.size := (Array.getElem?_eq_some_iff.1 ho).1
  have h1 := List.all_eq_true.1 h j (List.mem_range.2 hj)
  rw [ho] at h1
  dsimp only at h1
  rw [hl, Bool.not_true, Bool.false_or] at h1
  have h2 := Array.all_eq_true_iff_forall_mem.1 h1 e he
  rw [hb, Bool.not_true, Bool.false_or] at h2
  exact h2
theorem getD_up {listed : Array Bool} {i : Nat} (h : listed.getD i false = true) : listed.getD i true = true := by
  rcases Nat.lt_or_ge i listed.size with h' | h'
  · simpa [h'] using h
  · simp [Array.getElem?_eq_none h']
theorem waits_listed {i : Nat} {listed : Array Bool} (hc : Closed md ops listed) : ∀ (f key : Nat), waits md ops f key i = true → (∀ o, ops[key]? = some o → ∀ e ∈ o.after, Region.binds md e = true → listed.getD e.on false = true) → listed.getD i false = true
  | 0, _, h, _ => by cases h
  | f + 1, key, h, hk => by
    unfold waits at h
    cases ho : ops[key]? with
    | none => rw [ho] at h; cases h
    | some o =>
      rw [ho] at h
      dsimp only at h
      rw [Array.any_eq_true] at h
      obtain ⟨n, hn, hb⟩ := h
      have he := Array.getElem_mem hn
      generalize o.after[n] = e at *
      rw [Bool.and_eq_true, Bool.or_eq_true, beq_iff_eq] at hb
      have h1 := hk o ho e he hb.1
      rcases hb.2 with h2 | h2
      · rw [← h2]; exact h1
      · exact waits_listed hc f e.on h2 (fun o' ho' e' he' hb' => hc e.on o' ho' (getD_up h1) e' he' hb')
theorem waits_not {f key i : Nat} {listed : Array Bool} (hw : waits md ops f key i = true) (hc : Closed md ops listed) (hi : listed.getD i true = false) : key ∉ Region.ready md ops listed := fun hr => by
  obtain ⟨_, o, hoj, hall⟩ := mem_ready.1 hr
  have h1 := waits_listed hc f key hw (fun o' ho' => by
    rw [hoj] at ho'
    injection ho' with ho'
    subst ho'
    exact hall)
  rw [getD_up h1] at hi
  cases hi
theorem Closed.more {j : Nat} {listed : Array Bool} (hc : Closed md ops listed) (hj : j ∈ Region.ready md ops listed) : Closed md ops (listed.setIfInBounds j true) := fun k o ho hl e he hb => by
  by_cases hjk : j = k
  · subst hjk
    obtain ⟨_, o', ho', hall⟩ := mem_ready.1 hj
    rw [ho] at ho'
    injection ho' with ho'
    subst ho'
    exact getD_set_true (hall e he hb)
  · rw [getD_set_ne true hjk] at hl
    exact getD_set_true (hc k o ho hl e he hb)
theorem wpAnyK_first {i key f : Nat} {oi : Oper} {v : Value} (hi : ops[i]? = some oi) (hsel : ∀ (j : Nat) (o : Oper) cs b, ops[j]? = some o → o.op ≠ .select cs b)
    (hQ : ∀ c a w, Q (.panic c) (a.put oi.dst v) w → Q (.panic c) a w) (hw : waits md ops f key i = true) :
    ∀ (fuel : Nat) (listed : Array Bool) (a : Act) (w : World),
      (∀ j oj, ops[j]? = some oj → j ≠ i → listed.getD j true = false → (∀ e ∈ oj.after, Region.binds md e = true → e.on ≠ i) → oi.apart ops oj = true) →
      i ∈ Region.ready md ops listed → YieldsIf P ops S oi v a → S w → listed.getD key true = false → Closed md ops listed →
      wpAnyK P md ops Q S key fuel (listed.setIfInBounds i true) (a.put oi.dst v) w → wpAnyK P md ops Q S key (fuel + 1) listed a w := by
  intro fuel
  induction fuel with
  | zero =>
    intro listed a w _ hr hy hS _ _ H
    refine ⟨fun h => (by rw [h] at hr; cases hr), fun j hj => ?_⟩
    by_cases hji : j = i
    · subst hji; exact hy.wpOp hi hS ⟨fun _ _ => hS, H⟩
    · have := ready_mono hj hji
      rw [H.1] at this
      cases this
  | succ fuel ih =>
    intro listed a w hfree hr hy hS hkey hcl H
    have hui : listed.getD i true = false := (mem_ready.1 hr).1
    have hki : key ≠ i := fun e => waits_not hw hcl hui (e ▸ hr)
    refine ⟨fun h => (by rw [h] at hr; cases hr), fun j hj => ?_⟩
    by_cases hji : j = i
    · subst hji; exact hy.wpOp hi hS ⟨fun _ _ => hS, H⟩
    · have h1 := H.2 j (ready_mono hj hji)
      have hjk : j ≠ key := fun e => waits_not hw hcl hui (e ▸ hj)
      obtain ⟨hjun, oj, hoj, hall⟩ := mem_ready.1 hj
      have hnot : ∀ e ∈ oj.after, Region.binds md e = true → e.on ≠ i := fun e he hb heq => by
        have h1 := hall e he hb
        have h0 := (mem_ready.1 hr).1
        rw [heq] at h1
        rcases Nat.lt_or_ge i listed.size with h' | h'
        · simp [h'] at h0 h1; rw [h0] at h1; cases h1
        · simp [Array.getElem?_eq_none h'] at h1
      have h2 := wpOp_putIf hoj (hfree j oj hoj hji hjun hnot) (fun cs b => hsel i oi cs b hi) (fun cs b => hsel j oj cs b hoj) hQ hy h1
      have hfree' : ∀ k ok, ops[k]? = some ok → k ≠ i → (listed.setIfInBounds j true).getD k true = false →
          (∀ e ∈ ok.after, Region.binds md e = true → e.on ≠ i) → oi.apart ops ok = true := fun k ok hk hki hun hno => by
        refine hfree k ok hk hki ?_ hno
        by_cases hjk : j = k
        · subst hjk; exact hjun
        · rw [getD_set_ne true hjk] at hun; exact hun
      refine wpOp_mono (fun a' w' h3 => ?_) h2
      have hS' : S w' := h3.2.1 hjk (by rw [getD_set_ne true (Ne.symm hki)]; exact hkey)
      refine ⟨fun _ _ => hS', ih (listed.setIfInBounds j true) a' w' hfree' (ready_mono hr (Ne.symm hji)) h3.1 hS' (by rw [getD_set_ne true hjk]; exact hkey) (hcl.more hj) ?_⟩
      rw [Array.setIfInBounds_comm _ _ hji]
      exact h3.2.2
theorem wpAnyK_take {i key : Nat} {oi : Oper} {v : Value} {fuel : Nat} {listed : Array Bool} {a : Act} {w : World} (hi : ops[i]? = some oi)
    (hs : Region.noSelect ops = true) (hf : Region.free md ops listed i = true) (hr : (Region.ready md ops listed).contains i = true) (hw : (waits md ops ops.size key i && (listed.getD key true == false) && closedB md ops listed) = true)
    (hQ : ∀ c a w, Q (.panic c) (a.put oi.dst v) w → Q (.panic c) a w) (hy : YieldsIf P ops S oi v a) (hS : S w)
    (h : wpAnyK P md ops Q S key fuel (listed.setIfInBounds i true) (a.put oi.dst v) w) : wpAnyK P md ops Q S key (fuel + 1) listed a w := by
  rw [Bool.and_eq_true, Bool.and_eq_true, beq_iff_eq] at hw
  exact wpAnyK_first hi (Region.noSelect_spec hs) hQ hw.1.1 fuel listed a w (Region.free_spec hi hf) (by simpa using hr) hy hS hw.1.2 (closedB_spec hw.2) h
def AllReadyK (P : Program) (md : Region.Mode) (ops : Array Oper) (Q : Exit → Act → World → Prop) (S : World → Prop) (key fuel : Nat) (listed : Array Bool) (a : Act) (w : World) (rs : List Nat) : Prop :=
  ∀ i ∈ rs, wpOp P ops Q i (fun a' w' => (i ≠ key → listed.getD key true = false → S w') ∧ wpAnyK P md ops Q S key fuel (listed.setIfInBounds i true) a' w') a w
theorem AllReadyK.nil {key fuel : Nat} {listed : Array Bool} {a : Act} {w : World} : AllReadyK P md ops Q S key fuel listed a w [] := fun _ h => by cases h
/-- an operation ahead of the key. -/
theorem AllReadyK.cons {key fuel : Nat} {listed : Array Bool} {a : Act} {w : World} {i : Nat} {o : Oper} {rs : List Nat} (ho : ops[i]? = some o)
    (h : ∀ K' : Act → World → Prop, Shut (∀ a w, S w → (S w → wpAnyK P md ops Q S key fuel (listed.setIfInBounds i true) a w) → K' a w) → if Region.wanted o (yielded ops a.tmps) = true then Oper.wp P o a w K' Q else K' (a.put o.dst undef) w)
    (hs : AllReadyK P md ops Q S key fuel listed a w rs) : AllReadyK P md ops Q S key fuel listed a w (i :: rs) := fun j hj => by
  rcases List.mem_cons.1 hj with rfl | hj
  · exact wpOp_step ho (fun K' hK => h K' (fun a w hS hW => hK a w ⟨fun _ _ => hS, hW hS⟩))
  · exact hs j hj
/-- the key, and what comes behind it. -/
theorem AllReadyK.late {key fuel : Nat} {listed : Array Bool} {a : Act} {w : World} {i : Nat} {o : Oper} {rs : List Nat} (ho : ops[i]? = some o) (hk : (i == key || listed.getD key true) = true)
    (h : ∀ K' : Act → World → Prop, Shut (∀ a w, True → (True → wpAnyK P md ops Q S key fuel (listed.setIfInBounds i true) a w) → K' a w) → if Region.wanted o (yielded ops a.tmps) = true then Oper.wp P o a w K' Q else K' (a.put o.dst undef) w)
    (hs : AllReadyK P md ops Q S key fuel listed a w rs) : AllReadyK P md ops Q S key fuel listed a w (i :: rs) := fun j hj => by
  rcases List.mem_cons.1 hj with rfl | hj
  · refine wpOp_step ho (fun K' hK => h K' (fun a w _ hW => hK a w ⟨fun h1 h2 => ?_, hW trivial⟩))
    rw [Bool.or_eq_true, beq_iff_eq] at hk
    rcases hk with hk | hk
    · exact absurd hk h1
    · rw [hk] at h2; cases h2
  · exact hs j hj
theorem wpAnyK_ready {rs : List Nat} {key fuel : Nat} {listed : Array Bool} {a : Act} {w : World} (hr : Region.ready md ops listed = rs) (hne : rs ≠ [])
    (h : AllReadyK P md ops Q S key fuel listed a w rs) : wpAnyK P md ops Q S key (fuel + 1) listed a w := ⟨fun h0 => absurd (hr ▸ h0) hne, hr ▸ h⟩
theorem wpAnyK_done {key : Nat} {listed : Array Bool} {a : Act} {w : World} (hr : Region.ready md ops listed = []) (h : Q .normal a w) :
    ∀ fuel, wpAnyK P md ops Q S key fuel listed a w
  | 0 => ⟨hr, h⟩
  | _ + 1 => ⟨fun _ => h, by rw [hr]; simp⟩
theorem wp_region_key (S : World → Prop) (key : Nat) {id : Nat} {a : Act} {w : World} (hm : P.follows .mixedOrders = true) (hS : S w.drew)
    (h : S w.drew → wpAnyK P .any ops Q S key ops.size (Array.replicate ops.size false) a w.drew) : (Code.region id ops true).wp P Q a w :=
  wp_region_any hm (wpAny_of_key _ _ _ _ (h hS))
theorem regionIn_key {F : Fence} {n : Nat} (S : World → Prop) (key : Nat) (hF : Wide F (n - 1) P) (hd : noDefer ops = true) {id : Nat} {a : Act} {w : World} (hm : P.follows .mixedOrders = true) (hS : S w.drew)
    (h : S w.drew → wpAnyK P .any ops (NormalAt Q) S key ops.size (Array.replicate ops.size false) a w.drew) : (Code.region id ops true).wpIn F n P Q a w :=
  wpIn_region_any hm (anyIn_of_any hF (noDefer_spec hd) .any _ _ _ _ (wpAny_of_key _ _ _ _ (h hS)))
end
end Go.Proofs.YteapnkedpmcokaaGreatDoor
namespace Go.Proofs.YteapnkedpmcokaaGreatDoor
set_option maxRecDepth 100000
open Go.RowKit Go
section
variable {P : Program} {ops : Array Oper} {Q : Exit → Act → World → Prop} {md : Region.Mode} {S S' : World → Prop}
theorem wpAnyH_more (h : ∀ w, S' w → S w) : ∀ {fuel : Nat} {listed : Array Bool} {a : Act} {w : World}, wpAnyH P md ops Q S' fuel listed a w → wpAnyH P md ops Q S fuel listed a w
  | 0, _, _, _, hw => hw
  | _ + 1, _, _, _, hw => ⟨hw.1, fun i hi => wpOp_mono (fun _ w' h' => ⟨h w' h'.1, wpAnyH_more h h'.2⟩) (hw.2 i hi)⟩
theorem wpAnyK_more {key : Nat} (h : ∀ w, S' w → S w) : ∀ {fuel : Nat} {listed : Array Bool} {a : Act} {w : World}, wpAnyK P md ops Q S' key fuel listed a w → wpAnyK P md ops Q S key fuel listed a w
  | 0, _, _, _, hw => hw
  | _ + 1, _, _, _, hw => ⟨hw.1, fun i hi => wpOp_mono (fun _ w' h' => ⟨fun h1 h2 => h w' (h'.1 h1 h2), wpAnyK_more h h'.2⟩) (hw.2 i hi)⟩
end
end Go.Proofs.YteapnkedpmcokaaGreatDoor
/- strings.Cut, LastIndexByte, path.cut. Conditions: as stated at each. -/
namespace Go.Proofs.YteapnkedpmcokaaGreatDoor
set_option maxRecDepth 100000
namespace Pa
open Go.RowKit Go
theorem str_size (l : List UInt8) : (str l).size = l.length := by simp [str, ByteArray.size]
theorem str_data (l : List UInt8) : (str l).data.toList = l := by simp [str]
theorem str_extract (l : List UInt8) (a b : Nat) : (str l).extract a b = str ((l.drop a).take (b - a)) := by
  rw [Go.Lib.extract_eq, str_data]; rfl
theorem str_append (a b : List UInt8) : str a ++ str b = str (a ++ b) := by
  apply ByteArray.ext
  simp [str]
theorem sub_any (c : UInt8) (l : List UInt8) (w : World) (hl : l.length ≤ 1000000) :
    Calls Tryz.prog 152 #[.string (str l), .string ⟨#[c]⟩] w fun e w' => e = .returned (.tuple #[.string (str (ahead c l)), .string (str (behind c l)), .bool (has c l)]) ∧ ∃ n, w' = w.drewN n := by
  have hi := Tryz.stringslite_Index_one (str l) c w
  rw [str_data, idx_has] at hi
  have hsz := str_size l
  by_cases hc : c ∈ l
  · rw [if_pos hc] at hi
    have hb := behind_len hc
    have e1 : (str l).extract 0 (ahead c l).length = str (ahead c l) := by rw [str_extract, List.drop_zero, Nat.sub_zero, (take_ahead hc).1]
    have e2 : (str l).extract ((ahead c l).length + 1) l.length = str (behind c l) := by
      rw [str_extract, (take_ahead hc).2, List.take_of_length_le (by omega)]
    rw [has_t hc]
    have HI := Lib.hid hi
    have E1 := Lib.hid e1
    have E2 := Lib.hid e2
    clear hi e1 e2
    generalize (ahead c l) = a at *
    generalize (behind c l) = b at *
    go_enter Tryz.func152, Tryz.ntmps152
    go_wp2_with (first
      | (refine HI.out.mono ?_; rintro e w' ⟨rfl, rfl⟩)
      | fail)
    go_quiet (fail)
    go_wp2_with fail
    refine bodyPost_ret (results_tmp3 rfl _ _ _) rfl ?_
    refine ⟨?_, _, rfl⟩
    show Ending.returned (.tuple #[.string ((str l).extract 0 a.length), .string ((str l).extract (a.length + 1) l.length), .bool true]) = _
    rw [E1.out, E2.out]
  · rw [if_neg hc] at hi
    rw [has_f hc, (ahead_no hc).1, (ahead_no hc).2]
    have HI := Lib.hid hi
    clear hi
    go_enter Tryz.func152, Tryz.ntmps152
    go_wp2_with (first
      | (refine HI.out.mono ?_; rintro e w' ⟨rfl, rfl⟩)
      | fail)
    refine bodyPost_ret (results_tmp3 rfl _ _ _) rfl ?_
    exact ⟨rfl, 0, rfl⟩
/-- strings.Cut at one byte. -/
theorem cut_any (c : UInt8) (l : List UInt8) (w : World) (hl : l.length ≤ 1000000) :
    Calls Tryz.prog 150 #[.string (str l), .string ⟨#[c]⟩] w fun e w' => e = .returned (.tuple #[.string (str (ahead c l)), .string (str (behind c l)), .bool (has c l)]) ∧ ∃ n, w' = w.drewN n := by
  have HI := Lib.hid (sub_any c l w hl)
  go_enter Tryz.func150, Tryz.ntmps150
  go_wp2_with (first
    | (refine HI.out.mono ?_; rintro e w' ⟨rfl, n, rfl⟩)
    | fail)
  refine bodyPost_ret (results_tmp3 rfl _ _ _) rfl ?_
  exact ⟨rfl, n, rfl⟩
theorem clone_s (l : List UInt8) (w : World) (hl : l.length ≤ 140737488355328) :
    Calls Tryz.prog 133 #[.string (str l)] w fun e w' => e = .returned (.string (str l)) ∧ Below w.heap.size w w' := by
  have HI := Lib.hid (Tryz.stringslite_Clone (str l) w (by rw [str_size]; omega))
  go_enter Tryz.func133, Tryz.ntmps133
  go_wp2_with (first
    | (refine HI.out.mono ?_; rintro e w' ⟨rfl, hb⟩)
    | fail)
  go_ret
  exact ⟨rfl, hb⟩
theorem lastI_lt (l : List UInt8) : -1 ≤ lastI l ∧ lastI l < l.length := by
  rcases last_cases l with ⟨_, h⟩ | ⟨a, b, rfl, _, h⟩
  · rw [h]; omega
  · rw [h]; simp; omega
theorem lastByte_any (l : List UInt8) (w : World) (hl : l.length ≤ 140737488355328) :
    Calls Tryz.prog 144 #[.string (str l), .int .u8 64] w fun e w' => e = .returned (.int .i64 (lastI l)) ∧ w' = w :=
  Tryz.strings_LastIndexByte (str l) 64 (by rw [str_size]; omega) w
/-- path.cut: ahead of the last at sign, behind it. -/
theorem pcut_any (l : List UInt8) (w : World) (hl : l.length ≤ 140737488355328) :
    Calls Tryz.prog 138 #[.string (str l)] w fun e w' => e = .returned (.tuple #[.string (str (loc l)), .string (str (dom l))]) ∧ ∃ n, w' = w.drewN n := by
  have HI := Lib.hid (lastByte_any l w hl)
  have hsz := str_size l
  rcases last_cases l with ⟨hn, h⟩ | ⟨a, b, hab, hn, h⟩
  · rw [h] at HI
    rw [(loc_no hn).1, (loc_no hn).2]
    clear hn h
    go_enter Tryz.func138, Tryz.ntmps138
    go_wp2_with (first
      | (refine HI.out.mono ?_; rintro e w' ⟨rfl, rfl⟩)
      | fail)
    refine bodyPost_ret (results_tmp2 rfl _ _ _) rfl ?_
    exact ⟨rfl, 0, rfl⟩
  · rw [h] at HI
    have e1 := (loc_at (a := a) hn).1
    have e2 := (loc_at (a := a) hn).2
    rw [← hab] at e1 e2
    have hlen : l.length = a.length + b.length + 1 := by rw [hab]; simp; omega
    have E1 : Hid ((str l).extract 0 a.length = str (loc l)) := Lib.hid (by rw [str_extract, e1, List.drop_zero, Nat.sub_zero, hab, List.take_left])
    have E2 : Hid ((str l).extract (a.length + 1) l.length = str (dom l)) := Lib.hid (by
      rw [str_extract, e2, List.take_of_length_le (by rw [List.length_drop]; omega), hab, show a ++ 64 :: b = (a ++ [64]) ++ b by simp, show a.length + 1 = (a ++ [64]).length by simp, List.drop_left])
    have hlen2 : a.length + 1 ≤ l.length := by omega
    clear hn h e1 e2 hab hlen
    go_enter Tryz.func138, Tryz.ntmps138
    go_wp2_with (first
      | (refine HI.out.mono ?_; rintro e w' ⟨rfl, rfl⟩)
      | fail)
    go_quiet (fail)
    go_wp2_with fail
    refine bodyPost_ret (results_tmp2 rfl _ _ _) rfl ?_
    refine ⟨?_, _, rfl⟩
    show Ending.returned (.tuple #[.string ((str l).extract 0 a.length), .string ((str l).extract (a.length + 1) l.length)]) = _
    rw [E1.out, E2.out]
end Pa
end Go.Proofs.YteapnkedpmcokaaGreatDoor
/- path.told, letter.OrDigit, letter.Small, the document's letter and atom. Conditions: none. -/
namespace Go.Proofs.YteapnkedpmcokaaGreatDoor
set_option maxRecDepth 100000
namespace Pa
open Go.RowKit Go
theorem u8_eq (c : UInt8) (n : Nat) (hn : n < 256) : c = UInt8.ofNat n ↔ c.toNat = n := by
  constructor
  · rintro rfl; simp; omega
  · intro h; apply UInt8.toNat_inj.1; rw [h]; simp; omega
theorem labB_num (c : UInt8) : labB c = (decide ((97 ≤ c.toNat ∧ c.toNat ≤ 122) ∨ (65 ≤ c.toNat ∧ c.toNat ≤ 90) ∨ (48 ≤ c.toNat ∧ c.toNat ≤ 57) ∨ c.toNat = 45)) := by
  have e : (c == 45) = decide (c.toNat = 45) := by
    rw [Bool.eq_iff_iff, beq_iff_eq, decide_eq_true_eq]; exact u8_eq c 45 (by decide)
  unfold labB letB
  rw [e, Bool.eq_iff_iff]
  simp only [Bool.or_eq_true, Bool.and_eq_true, decide_eq_true_eq]
  omega
theorem mem_marks (c : UInt8) : marksL.contains c = (decide (0 ≤ Go.Lib.indexByte marksL c)) := by
  rw [idx_has, Bool.eq_iff_iff, List.contains_iff_mem, decide_eq_true_eq]
  by_cases h : c ∈ marksL
  · rw [if_pos h]; simp [h]
  · rw [if_neg h]; simp [h]
theorem marks_any (c : UInt8) (w : World) :
    Calls Tryz.prog 151 #[.string ⟨#[33, 35, 36, 37, 38, 39, 42, 43, 47, 61, 63, 94, 95, 123, 124, 125, 126, 96]⟩, .int .u8 (c.toNat : Int)] w fun e w' => e = .returned (.int .i64 (Go.Lib.indexByte marksL c)) ∧ w = w' := by
  have h := Tryz.strings_IndexByte ⟨#[33, 35, 36, 37, 38, 39, 42, 43, 47, 61, 63, 94, 95, 123, 124, 125, 126, 96]⟩ (c.toNat : Int) w
  refine h.mono fun e w' ⟨h1, h2⟩ => ⟨?_, h2.symm⟩
  rw [h1]
  simp [marksL]
theorem ret_bools {a b c d : Bool} (h : a = b) (h' : c = d) : Ending.returned (.tuple #[.bool a, .bool c]) = .returned (.tuple #[.bool b, .bool d]) := by rw [h, h']
theorem ret_bool {a b : Bool} (h : a = b) : Ending.returned (.bool a) = .returned (.bool b) := by rw [h]
theorem letB_num (c : UInt8) : letB c = decide ((97 ≤ (c.toNat : Int) ∧ (c.toNat : Int) ≤ 122) ∨ (65 ≤ (c.toNat : Int) ∧ (c.toNat : Int) ≤ 90) ∨ (48 ≤ (c.toNat : Int) ∧ (c.toNat : Int) ≤ 57)) := by
  unfold letB
  rw [Bool.eq_iff_iff]
  simp only [Bool.or_eq_true, Bool.and_eq_true, decide_eq_true_eq]
  omega
set_option maxHeartbeats 800000 in
theorem orDigit_any (c : UInt8) (w : World) :
    Calls Tryz.prog 136 #[.int .u8 (c.toNat : Int)] w fun e w' => e = .returned (.bool (letB c)) ∧ w = w' := by
  have hl := letB_num c
  have hn := c.toNat_lt
  rw [hl]
  clear hl
  generalize (c.toNat : Int) = n at *
  go_enter Tryz.func136, Tryz.ntmps136
  go_wp2_with fail
  all_goals (go_ret; refine ⟨ret_bool ?_, rfl⟩)
  all_goals first
    | (simp; omega)
    | (simp; done)
    | (rw [Bool.eq_iff_iff]; simp only [Bool.or_eq_true, Bool.and_eq_true, decide_eq_true_eq]; omega)
set_option maxHeartbeats 800000 in
theorem told_any (c : UInt8) (w : World) :
    Calls Tryz.prog 146 #[.int .u8 (c.toNat : Int)] w fun e w' => e = .returned (.tuple #[.bool (labB c), .bool (atB c)]) ∧ w = w' := by
  have HM := Lib.hid (marks_any c)
  have HO := Lib.hid (orDigit_any c)
  have hm := mem_marks c
  have h45 : (c == 45) = decide (c.toNat = 45) := by
    rw [Bool.eq_iff_iff, beq_iff_eq, decide_eq_true_eq]; exact u8_eq c 45 (by decide)
  have hl : labB c = (letB c || decide (c.toNat = 45)) := by rw [← h45]; rfl
  have ha : atB c = (labB c || marksL.contains c) := rfl
  rw [hm] at ha
  rw [ha, hl]
  have hn := c.toNat_lt
  clear hm ha hl h45
  generalize Go.Lib.indexByte marksL c = i at *
  generalize letB c = p at *
  generalize c.toNat = n at *
  cases p with
  | true =>
    go_enter Tryz.func146, Tryz.ntmps146
    go_wp2_with (first | (refine (HO.out _).mono ?_; rintro e w' ⟨rfl, rfl⟩) | fail)
    refine bodyPost_ret (results_tmp2 rfl _ _ _) rfl ?_
    exact ⟨ret_bools (by simp) (by simp), rfl⟩
  | false =>
    by_cases h45 : n = 45
    · have n45 : ((n : Int) == 45) = true := by rw [h45]; rfl
      have H := Lib.hid h45
      clear h45
      go_enter Tryz.func146, Tryz.ntmps146
      go_wp2_with (first | (refine (HO.out _).mono ?_; rintro e w' ⟨rfl, rfl⟩) | fail)
      refine bodyPost_ret (results_tmp2 rfl _ _ _) rfl ?_
      exact ⟨ret_bools (by rw [decide_eq_true H.out]; rfl) (by rw [decide_eq_true H.out]; rfl), rfl⟩
    · have n45 : ((n : Int) == 45) = false := by rw [beq_eq_false_iff_ne]; omega
      have H := Lib.hid h45
      clear h45
      by_cases hi : 0 ≤ i
      · go_enter Tryz.func146, Tryz.ntmps146
        go_wp2_with (first | (refine (HO.out _).mono ?_; rintro e w' ⟨rfl, rfl⟩) | (refine (HM.out _).mono ?_; rintro e w' ⟨rfl, rfl⟩) | fail)
        refine bodyPost_ret (results_tmp2 rfl _ _ _) rfl ?_
        exact ⟨ret_bools (by rw [decide_eq_false H.out]; rfl) (by rw [decide_eq_false H.out, decide_eq_true hi]; rfl), rfl⟩
      · go_enter Tryz.func146, Tryz.ntmps146
        go_wp2_with (first | (refine (HO.out _).mono ?_; rintro e w' ⟨rfl, rfl⟩) | (refine (HM.out _).mono ?_; rintro e w' ⟨rfl, rfl⟩) | fail)
        refine bodyPost_ret (results_tmp2 rfl _ _ _) rfl ?_
        exact ⟨ret_bools (by rw [decide_eq_false H.out]; rfl) (by rw [decide_eq_false H.out, decide_eq_false (by omega)]; rfl), rfl⟩
theorem lowB_num (c : UInt8) : ((lowB c).toNat : Int) = if (65 : Int) ≤ c.toNat ∧ (c.toNat : Int) ≤ 90 then (c.toNat : Int) + 32 else c.toNat := by
  rcases lowB_cases c with ⟨h1, h2, h3⟩ | ⟨h1, h2⟩
  · rw [if_pos (by omega), h3]; omega
  · rw [if_neg (by omega), h2]
theorem small_any (c : UInt8) (w : World) :
    Calls Tryz.prog 137 #[.int .u8 (c.toNat : Int)] w fun e w' => e = .returned (.int .u8 ((lowB c).toNat : Int)) ∧ w = w' := by
  have hl := lowB_num c
  have hn := c.toNat_lt
  by_cases c1 : (65 : Int) ≤ c.toNat
  · by_cases c2 : (c.toNat : Int) ≤ 90
    · rw [if_pos ⟨c1, c2⟩] at hl
      rw [hl]
      generalize c.toNat = n at *
      clear hl
      have e1 : IntKind.u8.wrap ((n : Int) - 65) = n - 65 := IntWalk.u8_in _ (by omega)
      have e2 : IntKind.u8.wrap ((n : Int) - 65 + 97) = n + 32 := by rw [IntWalk.u8_in _ (by omega)]; omega
      go_enter Tryz.func137, Tryz.ntmps137
      go_wp2_with fail
      go_ret
      exact ⟨rfl, rfl⟩
    · rw [if_neg (fun h => c2 h.2)] at hl
      rw [hl]
      go_enter Tryz.func137, Tryz.ntmps137
      go_wp2_with fail
      go_ret
      exact ⟨rfl, rfl⟩
  · rw [if_neg (fun h => c1 h.1)] at hl
    rw [hl]
    go_enter Tryz.func137, Tryz.ntmps137
    go_wp2_with fail
    go_ret
    exact ⟨rfl, rfl⟩
theorem letter_any (c : UInt8) (w : World) :
    Calls Tryz.prog 66 #[.int .u8 (c.toNat : Int)] w fun e w' => e = .returned (.bool (letB c)) ∧ w = w' := by
  have hl := letB_num c
  have hn := c.toNat_lt
  rw [hl]
  clear hl
  generalize (c.toNat : Int) = n at *
  go_enter Tryz.func66, Tryz.ntmps66
  go_wp2_with fail
  all_goals (go_ret; refine ⟨ret_bool ?_, rfl⟩)
  all_goals first
    | (simp; omega)
    | (simp; done)
    | (rw [Bool.eq_iff_iff]; simp only [Bool.or_eq_true, Bool.and_eq_true, decide_eq_true_eq]; omega)
theorem atB_num (c : UInt8) (h : letB c = false) : atB c = decide ((c.toNat : Int) ∈ [33, 35, 36, 37, 38, 39, 42, 43, 45, 47, 61, 63, 94, 95, 123, 124, 125, 126, 96]) := by
  have e : ∀ k : UInt8, (c = k) ↔ (c.toNat : Int) = (k.toNat : Int) := fun k => by
    rw [← UInt8.toNat_inj]; omega
  unfold atB labB
  rw [h, Bool.eq_iff_iff]
  simp only [Bool.or_eq_true, decide_eq_true_eq, beq_iff_eq, List.contains_iff_mem, marksL, List.mem_cons, List.not_mem_nil, or_false, e]
  simp
  omega
set_option maxHeartbeats 1600000 in
theorem ratom_any (c : UInt8) (w : World) :
    Calls Tryz.prog 58 #[.int .u8 (c.toNat : Int)] w fun e w' => e = .returned (.bool (atB c)) ∧ w = w' := by
  have HL := Lib.hid (letter_any c)
  cases hl : letB c with
  | true =>
    have ha : atB c = true := by unfold atB labB; rw [hl]; rfl
    rw [hl] at HL
    rw [ha]
    go_enter Tryz.func58, Tryz.ntmps58
    go_wp2_with (first | (refine (HL.out _).mono ?_; rintro e w' ⟨rfl, rfl⟩) | fail)
    go_ret
    exact ⟨rfl, rfl⟩
  | false =>
    rw [atB_num c hl]
    rw [hl] at HL
    generalize (c.toNat : Int) = n at *
    have HM : Hid (∀ k, (n == k) = true → k ∈ [33, 35, 36, 37, 38, 39, 42, 43, 45, 47, 61, 63, 94, 95, 123, 124, 125, 126, (96 : Int)] → true = decide (n ∈ [33, 35, 36, 37, 38, 39, 42, 43, 45, 47, 61, 63, 94, 95, 123, 124, 125, 126, (96 : Int)])) := Lib.hid fun k hk hm => by
      rw [beq_iff_eq] at hk; rw [hk]; exact (decide_eq_true hm).symm
    go_enter Tryz.func58, Tryz.ntmps58
    go_wp2_with (first | (refine (HL.out _).mono ?_; rintro e w' ⟨rfl, rfl⟩) | fail)
    all_goals (go_ret; refine ⟨ret_bool ?_, rfl⟩)
    all_goals first
      | exact HM.out _ (by assumption) (by decide)
      | (symm; rw [decide_eq_false_iff_not]; simp only [beq_eq_false_iff_ne, ne_eq] at *; simp only [List.mem_cons, List.not_mem_nil, or_false, not_or]; omega)
end Pa
end Go.Proofs.YteapnkedpmcokaaGreatDoor
/- path.atom, path.label. Conditions: as stated at each. -/
namespace Go.Proofs.YteapnkedpmcokaaGreatDoor
set_option maxRecDepth 100000
namespace Pa
open Go.RowKit Go
theorem str_at (l : List UInt8) (k : Nat) (h : k < (str l).size) : (str l)[k] = l.getD k 0 := by
  have hk : k < l.length := by rw [str_size] at h; exact h
  simp [str, List.getD, hk]
  rfl
/-- the first k may all be. -/
def allK (f : UInt8 → Bool) (l : List UInt8) (k : Nat) : Bool := (l.take k).all f
theorem allK_zero (f : UInt8 → Bool) (l : List UInt8) : allK f l 0 = true := rfl
theorem allK_succ {f : UInt8 → Bool} {l : List UInt8} {k : Nat} (h : k < l.length) : allK f l (k + 1) = (allK f l k && f (l.getD k 0)) := by
  unfold allK
  rw [List.take_succ_eq_append_getElem h, List.all_append]
  simp [List.getD, h]
theorem allK_full {f : UInt8 → Bool} {l : List UInt8} {k : Nat} (h : l.length ≤ k) : allK f l k = l.all f := by
  unfold allK; rw [List.take_of_length_le h]
theorem allK_false {f : UInt8 → Bool} {l : List UInt8} {k : Nat} (hk : k < l.length) (h : f (l.getD k 0) = false) : l.all f = false := by
  rw [Bool.eq_false_iff]
  intro ha
  rw [List.all_eq_true] at ha
  have := ha (l.getD k 0) (by simp [List.getD, hk])
  rw [h] at this
  cases this
theorem atS_f {l : List UInt8} (h : l.all atB = false) : false = atS l := by unfold atS; rw [h]; rfl
theorem labS_f {l : List UInt8} (h : l.all labB = false) : false = labS l := by unfold labS; rw [h]; rfl
theorem str_empty (l : List UInt8) : (!(str l).toList.isEmpty) = (l != []) := by
  rw [Go.Lib.toList_data, str_data]; cases l <;> rfl
set_option maxHeartbeats 800000 in
theorem atom_any (l : List UInt8) (w : World) (hl : l.length ≤ 1000000) :
    Calls Tryz.prog 140 #[.string (str l)] w fun e w' => e = .returned (.bool (atS l)) ∧ w = w' := by
  have hsz := str_size l
  have hat := str_at l
  have HSZ := Lib.hid hsz
  have HE := Lib.hid (str_empty l)
  generalize str l = s at *
  have HAT := Lib.hid hat
  clear hat
  go_enter Tryz.func140, Tryz.ntmps140
  go_wp2_with fail
  go_loop [8] (fun i => ∃ k : Nat, k ≤ s.size ∧ i = .int .i64 k ∧ allK atB l k = true) (fun i => s.size - (intOf i).toNat)
  case atStart => exact ⟨0, Nat.zero_le _, rfl, rfl⟩
  case round =>
    obtain ⟨k, hk, rfl, ha⟩ := hrel
    have HA := Lib.hid ha
    clear ha
    by_cases hlt : k < s.size
    · have hc := HAT.out k hlt
      have HLT : Hid (k < l.length) := Lib.hid (by have := HSZ.out; omega)
      have HS := Lib.hid (allK_succ (f := atB) HLT.out)
      have HF := Lib.hid (fun h => allK_false (f := atB) HLT.out h)
      generalize l.getD k 0 = c at *
      have HT := Lib.hid (told_any c)
      cases hn : atB c
      · rw [hn] at HT HF
        go_wp2_with (first | (rw [hc]; refine (HT.out _).mono ?_; rintro e w' ⟨rfl, rfl⟩) | (refine (HT.out _).mono ?_; rintro e w' ⟨rfl, rfl⟩) | fail)
        go_ret
        exact ⟨ret_bool (atS_f (HF.out (by simp))), rfl⟩
      · rw [hn] at HT HS
        go_wp2_with (first | (rw [hc]; refine (HT.out _).mono ?_; rintro e w' ⟨rfl, rfl⟩) | (refine (HT.out _).mono ?_; rintro e w' ⟨rfl, rfl⟩) | fail)
        go_round
        case rel => exact ⟨k + 1, by omega, by go_num, by rw [HS.out, HA.out]; rfl⟩
        case measure => simp [intOf]; omega
    · go_wp2_with fail
      go_ret
      refine ⟨ret_bool ?_, rfl⟩
      have h1 := HA.out
      rw [allK_full (by have := HSZ.out; omega)] at h1
      rw [HE.out]
      unfold atS
      rw [h1]
      rfl
set_option maxHeartbeats 800000 in
theorem label_any (l : List UInt8) (w : World) (hl : l.length ≤ 1000000) :
    Calls Tryz.prog 147 #[.string (str l)] w fun e w' => e = .returned (.bool (labS l)) ∧ w = w' := by
  have hsz := str_size l
  have hat := str_at l
  have HSZ := Lib.hid hsz
  have HE := Lib.hid (str_empty l)
  generalize str l = s at *
  have HAT := Lib.hid hat
  clear hat
  go_enter Tryz.func147, Tryz.ntmps147
  go_wp2_with fail
  go_loop [8] (fun i => ∃ k : Nat, k ≤ s.size ∧ i = .int .i64 k ∧ allK labB l k = true) (fun i => s.size - (intOf i).toNat)
  case atStart => exact ⟨0, Nat.zero_le _, rfl, rfl⟩
  case round =>
    obtain ⟨k, hk, rfl, ha⟩ := hrel
    have HA := Lib.hid ha
    clear ha
    by_cases hlt : k < s.size
    · have hc := HAT.out k hlt
      have HLT : Hid (k < l.length) := Lib.hid (by have := HSZ.out; omega)
      have HS := Lib.hid (allK_succ (f := labB) HLT.out)
      have HF := Lib.hid (fun h => allK_false (f := labB) HLT.out h)
      generalize l.getD k 0 = c at *
      have HT := Lib.hid (told_any c)
      cases hn : labB c
      · rw [hn] at HT HF
        go_wp2_with (first | (rw [hc]; refine (HT.out _).mono ?_; rintro e w' ⟨rfl, rfl⟩) | (refine (HT.out _).mono ?_; rintro e w' ⟨rfl, rfl⟩) | fail)
        go_ret
        exact ⟨ret_bool (labS_f (HF.out (by simp))), rfl⟩
      · rw [hn] at HT HS
        go_wp2_with (first | (rw [hc]; refine (HT.out _).mono ?_; rintro e w' ⟨rfl, rfl⟩) | (refine (HT.out _).mono ?_; rintro e w' ⟨rfl, rfl⟩) | fail)
        go_round
        case rel => exact ⟨k + 1, by omega, by go_num, by rw [HS.out, HA.out]; rfl⟩
        case measure => simp [intOf]; omega
    · have h1 := HA.out
      rw [allK_full (by have := HSZ.out; omega)] at h1
      have HL1 := Lib.hid h1
      clear h1 HA hk
      by_cases h0 : s.size = 0
      · have HL0 : Hid (l = []) := Lib.hid (List.eq_nil_of_length_eq_zero (by have := HSZ.out; omega))
        have he : (!s.toList.isEmpty) = false := by rw [HE.out, HL0.out]; rfl
        have HEE := Lib.hid he
        go_wp2_with fail
        go_ret
        exact ⟨ret_bool (by rw [HL0.out]; rfl), rfl⟩
      · have h00 : 0 < s.size := by omega
        have he : (!s.toList.isEmpty) = true := by rw [HE.out, bne_iff_ne]; intro e; have := HSZ.out; rw [e, List.length_nil] at this; omega
        have HN : Hid ((l != []) = true) := Lib.hid (by rw [← HE.out]; exact he)
        have hg0 := HAT.out 0 h00
        have hlast : l.length - 1 < s.size := by omega
        have hg1 := HAT.out (l.length - 1) hlast
        have hw1 : IntKind.i64.wrap ((l.length : Int) - 1) = ((l.length - 1 : Nat) : Int) := by rw [IntWalk.i64_in _ (by omega)]; omega
        have HLS : Hid (labS l = (decide ((l.length : Int) ≤ 63) && (((l.getD 0 0).toNat : Int) != 45) && (((l.getD (l.length - 1) 0).toNat : Int) != 45))) := Lib.hid (by
          have e : ∀ c : UInt8, ((c.toNat : Int) != 45) = (c != 45) := fun c => by
            rw [Bool.eq_iff_iff, bne_iff_ne, bne_iff_ne, Ne, Ne, ← UInt8.toNat_inj]
            show ¬ (c.toNat : Int) = 45 ↔ ¬ c.toNat = 45
            omega
          have e2 : decide ((l.length : Int) ≤ 63) = decide (l.length ≤ 63) := by rw [Bool.eq_iff_iff, decide_eq_true_eq, decide_eq_true_eq]; omega
          unfold labS; rw [HL1.out, HN.out, e, e, e2]; simp)
        generalize l.getD 0 0 = c0 at *
        generalize l.getD (l.length - 1) 0 = c1 at *
        go_wp2_with fail
        all_goals (go_ret; refine ⟨ret_bool ?_, rfl⟩; rw [HLS.out])
        all_goals first
          | rfl
          | (simp [*]; done)
          | (simp [*]; omega)
end Pa
end Go.Proofs.YteapnkedpmcokaaGreatDoor
/- The document's last, parts. Conditions: as stated at each. -/
namespace Go.Proofs.YteapnkedpmcokaaGreatDoor
set_option maxRecDepth 100000
namespace Pa
open Go.RowKit Go
theorem last_step (l : List UInt8) (k : Nat) (h : k < l.length) : Go.Lib.lastIdx (str l) 64 (k + 1) = if l.getD k 0 = 64 then (k : Int) else Go.Lib.lastIdx (str l) 64 k := by
  have e : ((str l).data[k]!) = l.getD k 0 := str_get h
  have to64 : ((l.getD k 0).toNat : Int) = 64 ↔ l.getD k 0 = 64 := by
    rw [← UInt8.toNat_inj]
    show ((l.getD k 0).toNat : Int) = 64 ↔ (l.getD k 0).toNat = 64
    omega
  by_cases h1 : l.getD k 0 = 64
  · rw [Go.Lib.lastIdx_hit _ _ _ (by rw [e, to64]; exact h1), if_pos h1]
  · rw [Go.Lib.lastIdx_miss _ _ _ (by rw [e, Ne, to64]; exact h1), if_neg h1]
theorem last_full (l : List UInt8) : Go.Lib.lastIdx (str l) 64 l.length = lastI l := by
  unfold lastI Go.Lib.lastIndexByte
  rw [str_size]
theorem ret_int {a b : Int} (h : a = b) : Ending.returned (.int .i64 a) = .returned (.int .i64 b) := by rw [h]
set_option maxHeartbeats 800000 in
theorem rlast_any (l : List UInt8) (w : World) (hl : l.length ≤ 140737488355328) :
    Calls Tryz.prog 55 #[.string (str l), .int .u8 64] w fun e w' => e = .returned (.int .i64 (lastI l)) ∧ w = w' := by
  have hsz := str_size l
  have HAT := Lib.hid (str_at l)
  have HST := Lib.hid (last_step l)
  have HFU := Lib.hid (last_full l)
  have HL0 : Hid (Go.Lib.lastIdx (str l) 64 0 = -1) := Lib.hid rfl
  generalize lastI l = r at *
  generalize Go.Lib.lastIdx (str l) 64 = L at *
  generalize str l = s at *
  have HSZ := Lib.hid hsz
  go_enter Tryz.func55, Tryz.ntmps55
  go_wp2_with fail
  go_loop [5] (fun i => ∃ k : Nat, k ≤ l.length ∧ i = .int .i64 ((k : Int) - 1) ∧ L k = r) (fun i => (intOf i + 1).toNat)
  case atStart => exact ⟨l.length, Nat.le_refl _, rfl, HFU.out⟩
  case round =>
    obtain ⟨k, hk, rfl, ha⟩ := hrel
    have HA := Lib.hid ha
    clear ha
    cases k with
    | zero =>
      go_wp2_with fail
      go_ret
      exact ⟨ret_int (show (-1 : Int) = r by rw [← HA.out, HL0.out]), rfl⟩
    | succ k =>
      have hlt : k < s.size := by omega
      have hc := HAT.out k hlt
      have HS := Lib.hid (HST.out k (by omega))
      have e1 : ((k + 1 : Nat) : Int) - 1 = (k : Int) := by omega
      rw [e1]
      have h0 : 0 ≤ (k : Int) := by omega
      generalize l.getD k 0 = c at *
      by_cases h64 : c = 64
      · have h64' : ((c.toNat : Int) == 64) = true := by rw [h64]; rfl
        go_wp2_with fail
        go_ret
        exact ⟨ret_int (show (k : Int) = r by rw [← HA.out, HS.out, if_pos h64]), rfl⟩
      · have h64' : ((c.toNat : Int) == 64) = false := by
          rw [beq_eq_false_iff_ne]; intro e; exact h64 (UInt8.toNat_inj.1 (show c.toNat = 64 by omega))
        have HN := Lib.hid h64
        clear h64
        go_wp2_with fail
        go_round
        case rel => exact ⟨k, by omega, by go_num, by rw [← HA.out, HS.out, if_neg HN.out]⟩
        case measure => simp [intOf]
/-- texts as cells. -/
def tv (ps : List (List UInt8)) : List Value := ps.map fun p => Value.string (str p)
theorem tv_length (ps : List (List UInt8)) : (tv ps).length = ps.length := by simp [tv]
theorem tv_one (ps : List (List UInt8)) : ∀ u ∈ tv ps, u.oneCell' = true := by
  intro u hu
  simp only [tv, List.mem_map] at hu
  obtain ⟨b, _, rfl⟩ := hu
  rfl
theorem info9 : (Tryz.prog.info? 9).map (fun i => (i.zero, i.size, i.bytes)) = some (some (.string ⟨#[]⟩), 1, 16) := by kernel_rfl
/-- one text more. -/
theorem appT {w : World} {ops : Array Oper} {rest : List Oper} {o : Oper} {a : Act} {Q : Exit → Act → World → Prop} (s x : Operand)
    (ho : o.op = .call { callee := .builtin .append, args := #[s, x], argTypes := #[22, 22] }) (hgd : o.guard = none)
    (N : Nat) (v : Value) (ps : List (List UInt8)) (p : List UInt8) (hs : a.eval s = v) (hown : w.ownsRow N 9 1 v ps.length (tv ps))
    (g c : Nat) (hx : a.eval x = .slice (some ⟨g, 0, none⟩) 1 c) (hc : w.cell? ⟨g, 0, none⟩ = some (.string (str p))) (hg : g < w.heap.size) (h63 : ps.length + 1 ≤ 1000000000) (hN : N ≤ w.heap.size)
    (h : ∀ v' w', w'.ownsRow N 9 1 v' (ps ++ [p]).length (tv (ps ++ [p])) → w.grownBy w' v.ownBlock → wpList Tryz.prog ops Q rest (a.put o.dst v') w') : wpList Tryz.prog ops Q (o :: rest) a w := by
  obtain ⟨i, hi, hz, h0, h1⟩ := info_parts info9
  have hr : Cs w w.heap.size (some ⟨g, 0, none⟩) (tv [p]) := fun j u hj => by
    have hj0 : j = 0 := by
      have := (List.getElem?_eq_some_iff.1 hj).1
      rw [tv_length] at this
      simpa using this
    subst hj0
    have hu : u = .string (str p) := by simpa [tv] using hj.symm
    subst hu
    exact ⟨_, rfl, hg, by simpa [Addr.add] using hc⟩
  refine wpList_plain hgd fun _ hK => wp_app s x ho Tryz.underlying22 hi hz h0 h1 rfl hs hown hx hr (by rw [tv_length]; rfl) (tv_one [p]) h63 (by decide) hN fun v' w' h2 h3 => hK _ _ (h v' w' ?_ h3)
  rw [List.length_append, show tv (ps ++ [p]) = tv ps ++ tv [p] by simp [tv]]
  exact h2
/-- between two rounds of parts: i bytes are read, the part under way begins at a. -/
structure PtSt (l : List UInt8) (a i : Nat) (done : List (List UInt8)) : Prop where
  le : a ≤ i
  le' : i ≤ l.length + 1
  end_ : i = l.length + 1 → done = parts l
  way : i ≤ l.length → (46 : UInt8) ∉ (l.drop a).take (i - a) ∧ done ++ parts (l.drop a) = parts l
theorem PtSt.init (l : List UInt8) : PtSt l 0 0 [] := ⟨by omega, by omega, fun h => by omega, fun _ => ⟨by simp, by simp⟩⟩
theorem drop_cut {l : List UInt8} {a i : Nat} (h1 : a ≤ i) (h2 : i < l.length) : l.drop a = (l.drop a).take (i - a) ++ l.getD i 0 :: l.drop (i + 1) := by
  have e : (l.drop a).drop (i - a) = l.getD i 0 :: l.drop (i + 1) := by
    rw [List.drop_drop, show a + (i - a) = i by omega, List.drop_eq_getElem_cons h2]
    simp [List.getD, h2]
  rw [← e, List.take_append_drop]
theorem PtSt.last {l : List UInt8} {a i : Nat} {done : List (List UInt8)} (h : PtSt l a i done) (hi : i = l.length) : PtSt l (i + 1) (i + 1) (done ++ [(l.drop a).take (i - a)]) := by
  obtain ⟨h1, h2⟩ := h.way (by omega)
  have e : (l.drop a).take (i - a) = l.drop a := List.take_of_length_le (by rw [List.length_drop]; omega)
  refine ⟨by omega, by omega, fun _ => ?_, fun h => by omega⟩
  rw [e] at h1 ⊢
  rw [parts_no h1] at h2
  exact h2
theorem PtSt.point {l : List UInt8} {a i : Nat} {done : List (List UInt8)} (h : PtSt l a i done) (hi : i < l.length) (hp : l.getD i 0 = 46) : PtSt l (i + 1) (i + 1) (done ++ [(l.drop a).take (i - a)]) := by
  obtain ⟨h1, h2⟩ := h.way (by omega)
  refine ⟨by omega, by omega, fun h => by omega, fun _ => ⟨by simp, ?_⟩⟩
  rw [drop_cut h.le hi, hp, parts_at h1] at h2
  rw [List.append_assoc]
  exact h2
theorem PtSt.other {l : List UInt8} {a i : Nat} {done : List (List UInt8)} (h : PtSt l a i done) (hi : i < l.length) (hp : l.getD i 0 ≠ 46) : PtSt l a (i + 1) done := by
  obtain ⟨h1, h2⟩ := h.way (by omega)
  refine ⟨by have := h.le; omega, by omega, fun h => by omega, fun _ => ⟨?_, h2⟩⟩
  have hle := h.le
  have e : (l.drop a).take (i + 1 - a) = (l.drop a).take (i - a) ++ [l.getD i 0] := by
    rw [show i + 1 - a = (i - a) + 1 by omega, List.take_succ_eq_append_getElem (by rw [List.length_drop]; omega)]
    congr 2
    rw [List.getElem_drop]
    simp [List.getD, show a + (i - a) = i by omega, hi]
  rw [e, List.mem_append, not_or]
  exact ⟨h1, by rw [List.mem_singleton]; exact Ne.symm hp⟩
theorem belowA (w : World) (o : Obj) : Below w.heap.size w (w.alloc o) := (Below.refl _ w).alloc (Nat.le_refl _) _
set_option maxHeartbeats 1600000 in
theorem rparts_any (l : List UInt8) (W : World) (hl : l.length ≤ 1000000) :
    Calls Tryz.prog 57 #[.string (str l)] W fun e w' => ∃ v, e = .returned v ∧ w'.ownsRow W.heap.size 9 1 v (parts l).length (tv (parts l)) ∧ Below W.heap.size W w' := by
  have hsz := str_size l
  have HAT := Lib.hid (str_at l)
  have HEX := Lib.hid (str_extract l)
  generalize str l = s at *
  have HSZ := Lib.hid hsz
  go_enter Tryz.func57, Tryz.ntmps57
  go_wp2_with fail
  go_loopw [3, 4, 5] (fun x y z wr => ∃ (a i : Nat) (done : List (List UInt8)), y = .int .i64 a ∧ z = .int .i64 i ∧ PtSt l a i done ∧ done.length ≤ i ∧ wr.ownsRow W.heap.size 9 1 x done.length (tv done) ∧ Below W.heap.size W wr) (fun _ _ z _ => l.length + 1 - (intOf z).toNat)
  case atStart => exact ⟨0, 0, [], rfl, rfl, PtSt.init l, by simp, World.ownsRow_nil _ _ _ _, Below.refl _ _⟩
  case round =>
    obtain ⟨a, i, done, rfl, rfl, hst, hdl, hown, hbel⟩ := hrel
    have HST := Lib.hid hst
    have HB := Lib.hid hbel
    have h1 := hst.le
    have h2 := hst.le'
    have hws := hbel.size
    have HOW := Lib.hid hown
    obtain ⟨A, c, rfl, hc1, hc2⟩ := own_slice hown
    clear hst hbel hown
    have hx : Hid (∀ (p : List UInt8), (wr.alloc (.cells #[.string (str p)] 9)).cell? ⟨wr.heap.size, 0, none⟩ = some (.string (str p))) := Lib.hid fun p => (cell_of_row _ wr.heap.size 0 #[.string (str p)] 9 (0, 0) (heap_alloc_new wr _)).trans rfl
    have hal : Hid (∀ o, (wr.alloc o).ownsRow W.heap.size 9 1 (.slice A done.length c) done.length (tv done)) := Lib.hid fun o => own_kept HOW.out (belowA wr o) (Nat.le_refl _)
    by_cases hi : i ≤ l.length
    · by_cases he : i = l.length
      · have HE := Lib.hid he
        have hei : ((i : Int) == (l.length : Int)) = true := by rw [he]; simp
        have hlen : s.size = i := by rw [hsz]; exact he.symm
        have HN := Lib.hid (HST.out.last he)
        have hext := HEX.out a i
        generalize (l.drop a).take (i - a) = p at *
        clear he
        go_wp2_with (first
          | (refine appT (.tmp 22) (.tmp 27) rfl rfl W.heap.size _ done p rfl (hal.out _) wr.heap.size 1 rfl (hx.out p) (by simp) (by omega) (by simp; omega) ?_; intro v2 w2 ho2 hg2)
          | fail)
        exact ⟨⟨i + 1, i + 1, _, rfl, rfl, HN.out, by simp; omega, ho2, HB.out.trans ((((belowA wr _).mono (by omega))).grown hg2 (by simp; omega) (fun k hk => (HOW.out.lt k hk).1))⟩, by simp [intOf]; omega⟩
      · have hi2 : i < l.length := by omega
        have hei : ((i : Int) == (l.length : Int)) = false := by rw [beq_eq_false_iff_ne]; omega
        have hlt : i < s.size := by omega
        have hc := HAT.out i hlt
        by_cases hp : l.getD i 0 = 46
        · have HN := Lib.hid (HST.out.point hi2 hp)
          have hext := HEX.out a i
          generalize (l.drop a).take (i - a) = p at *
          rw [hp] at hc
          clear hp he
          go_wp2_with (first
            | (refine appT (.tmp 22) (.tmp 27) rfl rfl W.heap.size _ done p rfl (hal.out _) wr.heap.size 1 rfl (hx.out p) (by simp) (by omega) (by simp; omega) ?_; intro v2 w2 ho2 hg2)
            | fail)
          exact ⟨⟨i + 1, i + 1, _, rfl, rfl, HN.out, by simp; omega, ho2, HB.out.trans ((((belowA wr _).mono (by omega))).grown hg2 (by simp; omega) (fun k hk => (HOW.out.lt k hk).1))⟩, by simp [intOf]; omega⟩
        · have HN := Lib.hid (HST.out.other hi2 hp)
          have hne : (((l.getD i 0).toNat : Int) == 46) = false := by
            rw [beq_eq_false_iff_ne]; intro e; exact hp (UInt8.toNat_inj.1 (show (l.getD i 0).toNat = 46 by omega))
          generalize l.getD i 0 = cc at *
          clear hp he
          go_wp2_with fail
          exact ⟨⟨a, i + 1, done, rfl, rfl, HN.out, by omega, HOW.out, HB.out⟩, by simp [intOf]; omega⟩
    · have HE := Lib.hid (HST.out.end_ (by omega))
      go_wp2_with fail
      go_ret
      exact ⟨_, rfl, by rw [← HE.out]; exact HOW.out, HB.out⟩
end Pa
end Go.Proofs.YteapnkedpmcokaaGreatDoor
