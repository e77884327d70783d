/- RgKey RgFunc. Conditions: as stated at each. -/
import Derived.RangeFuncBox
import Derived.RangeFuncNested
import Derived.RangeFuncBound
import Derived.RangeFuncCalls
import Derived.RangeFuncLeaves
import Derived.OwnWalkIn
import Derived.TacticsInMore
import Derived.LoopNIn
import Derived.LoopIn
import Derived.OrdersIn
import Derived.Deep.RegionHeld
import Derived.WalkKit
/- Regions that draw their order: in a round of a loop over an iterator, with a condition that is owed, with one that grows. Conditions: as stated at each. -/
namespace Go.Proofs.YtidadjlhnlmfkaaGreatDoor
set_option maxRecDepth 100000
open Go.RowKit Go
/-- met at the normal end alone. -/
def NormalAt (Q : Exit → Act → World → Prop) : Exit → Act → World → Prop
  | .normal, a, w => Q .normal a w
  | _, _, _ => False
theorem NormalAt.mk {Q : Exit → Act → World → Prop} {a : Act} {w : World} (h : Q .normal a w) : NormalAt Q .normal a w := h
theorem NormalAt.out {Q : Exit → Act → World → Prop} {a : Act} {w : World} (h : NormalAt Q .normal a w) : Q .normal a w := h
/-- a fence that lets all by. -/
structure Wide (F : Fence) (n : Nat) (P : Program) : Prop where
  fn : ∀ f, F.fn f
  depth : F.depth = none
  calls : ∀ {f : FuncId} {args : Array Value} {w : World} {R : Ending → World → Prop}, Calls P f args w R → CallsIn F n P f args w R
  rows : ∀ {row : String} {args : Array Value} {w : World} {R : Value → World → Prop}, Rows P row args w R → RowsIn F n P row args w R
theorem Wide.wide (n : Nat) (P : Program) : Wide Fence.wide n P := ⟨fun _ => trivial, rfl, fun h => callsIn_wide.2 h, fun h c cs _ => let ⟨v, w', r, s⟩ := h c cs; ⟨v, w', r, stepsIn_wide.2 s⟩⟩
theorem Wide.round (n : Nat) (P : Program) (l : Nat) : Wide (Fence.wide.inRound l) n P := ⟨fun _ => trivial, rfl, fun h => CallsIn.inRound l (callsIn_wide.2 h), fun h c cs _ => let ⟨v, w', r, s⟩ := h c cs; ⟨v, w', r, stepsIn_wide.2 s⟩⟩
section
variable {F : Fence} {n : Nat} {P : Program} {ops : Array Oper} {Q : Exit → Act → World → Prop}
theorem uponIn_of_upon (hF : Wide F (n - 1) P) {o : Oper} {a : Act} {K : Act → World → Prop} {r : Result Next} (h : o.upon P a K (NormalAt Q) r) : o.uponIn F n P a K Q r := by
  have no : ¬ LetsOut (NormalAt Q) := fun ⟨_, _, h⟩ => h
  cases r with
  | ok x w' =>
    cases x with
    | value v => exact h
    | skip => exact h
    | defer d => exact h
    | enter f args =>
      refine ⟨(fun hd => by (rw [hF.depth] at hd; cases hd)), hF.calls (Calls.mono h fun e w'' he => ?_)⟩
      cases e with
      | returned v => exact he
      | panicked c => exact (he : False).elim
      | outgrown => exact (no he).elim
    | row row args => exact ⟨(fun hd => by (rw [hF.depth] at hd; cases hd)), hF.rows h⟩
    | _ => exact (h : False).elim
  | halt x w' =>
    cases x with
    | panic v => exact (h : False).elim
    | _ => exact (h : False).elim
theorem wpIn_of_wp (hF : Wide F (n - 1) P) {o : Oper} {a : Act} {w : World} {K : Act → World → Prop} (hd : ∀ c, o.op ≠ .defer c) (h : o.wp P a w K (NormalAt Q)) : o.wpIn F n P a w K Q := by
  refine ⟨fun f _ => hF.fn f, ?_⟩
  rw [Oper.semAt_eq _ _ _ hd]
  exact uponIn_of_upon hF h
/-- one operation of a list. -/
theorem lin_wp (hF : Wide F (n - 1) P) {o : Oper} {rest : List Oper} {a : Act} {w : World} (hg : o.guard = none) (hd : ∀ c, o.op ≠ .defer c) (h : ∀ K : Act → World → Prop, (∀ a w, wpListIn F n P ops Q rest a w → K a w) → o.wp P a w K (NormalAt Q)) :
    wpListIn F n P ops Q (o :: rest) a w := wpListIn_plain hg fun K hK => wpIn_of_wp hF hd (h K hK)
theorem opIn_of_op (hF : Wide F (n - 1) P) (hd : ∀ (i : Nat) (o : Oper), ops[i]? = some o → ∀ c, o.op ≠ .defer c) {i : Nat} {K K' : Act → World → Prop} {a : Act} {w : World} (hk : ∀ a w, K a w → K' a w) (h : wpOp P ops (NormalAt Q) i K a w) : wpOpIn F n P ops Q i K' a w := by
  have no : ¬ LetsOut (NormalAt Q) := fun ⟨_, _, h⟩ => h
  unfold wpOp at h
  unfold wpOpIn
  cases ho : ops[i]? with
  | none => rw [ho] at h; exact hk _ _ h
  | some o =>
    rw [ho] at h
    dsimp only at h ⊢
    by_cases hw : Region.wanted o (yielded ops a.tmps) = true
    · rw [if_pos hw] at h ⊢
      rcases h with h | h
      · exact Oper.wpIn_mono hk (wpIn_of_wp hF (hd i o ho) h)
      · exact (no h.2).elim
    · rw [if_neg hw] at h ⊢
      exact ⟨fun f _ => hF.fn f, hk _ _ h⟩
theorem anyIn_of_any (hF : Wide F (n - 1) P) (hd : ∀ (i : Nat) (o : Oper), ops[i]? = some o → ∀ c, o.op ≠ .defer c) (md : Region.Mode) : ∀ (fuel : Nat) (listed : Array Bool) (a : Act) (w : World), wpAny P md ops (NormalAt Q) fuel listed a w → wpAnyIn F n P md ops Q fuel listed a w
  | 0, _, _, _, h => h
  | fuel + 1, _, _, _, h => ⟨h.1, fun i hi => opIn_of_op hF hd (fun a w h' => anyIn_of_any hF hd md fuel _ a w h') (h.2 i hi)⟩
def noDefer (ops : Array Oper) : Bool := ops.toList.all fun o => match o.op with | .defer _ => false | _ => true
theorem noDefer_spec (h : noDefer ops = true) : ∀ (i : Nat) (o : Oper), ops[i]? = some o → ∀ c, o.op ≠ .defer c := fun i o ho c hc => by
  have := List.all_eq_true.1 h o (by have := Array.mem_of_getElem? ho; simpa using this)
  rw [hc] at this
  cases this
/-- a region that draws its order, in a round: by the walk outside one. -/
theorem regionIn_held_drew {S : World → Prop} (hF : Wide F (n - 1) P) (hd : noDefer ops = true) {id : Nat} {a : Act} {w : World} (hm : P.follows .mixedOrders = true) (hS : S w.drew)
    (h : S w.drew → wpAnyH P .any ops (NormalAt Q) S ops.size (Array.replicate ops.size false) a w.drew) : (Code.region id ops true).wpIn F n P Q a w :=
  wpIn_region_any hm (anyIn_of_any hF (noDefer_spec hd) .any _ _ _ _ (wpAny_of_held _ _ _ _ (h hS)))
end
end Go.Proofs.YtidadjlhnlmfkaaGreatDoor
namespace Go.Proofs.YtidadjlhnlmfkaaGreatDoor
set_option maxRecDepth 100000
open Go.RowKit Go
section
variable {P : Program} {ops : Array Oper} {Q : Exit → Act → World → Prop} {md : Region.Mode} {S : World → Prop}
/-- whatever order is picked from here on; S holds behind each operation that is carried out ahead of the key. -/
def wpAnyK (P : Program) (md : Region.Mode) (ops : Array Oper) (Q : Exit → Act → World → Prop) (S : World → Prop) (key : Nat) : Nat → Array Bool → Act → World → Prop
  | 0, listed, a, w => Region.ready md ops listed = [] ∧ Q .normal a w
  | fuel + 1, listed, a, w =>
    (Region.ready md ops listed = [] → Q .normal a w) ∧
    ∀ i ∈ Region.ready md ops listed, wpOp P ops Q i (fun a' w' => (i ≠ key → listed.getD key true = false → S w') ∧ wpAnyK P md ops Q S key fuel (listed.setIfInBounds i true) a' w') a w
theorem wpAny_of_key {key : Nat} : ∀ (fuel : Nat) (listed : Array Bool) (a : Act) (w : World), wpAnyK P md ops Q S key fuel listed a w → wpAny P md ops Q fuel listed a w
  | 0, _, _, _, h => h
  | fuel + 1, _, _, _, h => ⟨h.1, fun i hi => wpOp_mono (fun a' w' h' => wpAny_of_key fuel _ a' w' h'.2) (h.2 i hi)⟩
/-- the key waits for operation i, maybe by way of others. -/
def waits (md : Region.Mode) (ops : Array Oper) : Nat → Nat → Nat → Bool
  | 0, _, _ => false
  | f + 1, key, i => match ops[key]? with
    | some o => o.after.any fun e => Region.binds md e && (e.on == i || waits md ops f e.on i)
    | none => false
/-- what is listed waits for what is listed alone. -/
def Closed (md : Region.Mode) (ops : Array Oper) (listed : Array Bool) : Prop := ∀ j o, ops[j]? = some o → listed.getD j true = true → ∀ e ∈ o.after, Region.binds md e = true → listed.getD e.on false = true
def closedB (md : Region.Mode) (ops : Array Oper) (listed : Array Bool) : Bool := (List.range ops.size).all fun j => match ops[j]? with
  | some o => !listed.getD j true || o.after.all fun e => !Region.binds md e || listed.getD e.on false
  | none => true
theorem closedB_spec {listed : Array Bool} (h : closedB md ops listed = true) : Closed md ops listed := fun j o ho hl e he hb => by
  have hj : j < ops.size := (Array.getElem?_eq_some_iff.1 ho).1
  have h1 := List.all_eq_true.1 h j (List.mem_range.2 hj)
  rw [ho] at h1
  dsimp only at h1
  rw [hl, Bool.not_true, Bool.false_or] at h1
  have h2 := Array.all_eq_true_iff_forall_mem.1 h1 e he
  rw [hb, Bool.not_true, Bool.false_or] at h2
  exact h2
theorem getD_up {listed : Array Bool} {i : Nat} (h : listed.getD i false = true) : listed.getD i true = true := by
  rcases Nat.lt_or_ge i listed.size with h' | h'
  · simpa [h'] using h
  · simp [Array.getElem?_eq_none h']
theorem waits_listed {i : Nat} {listed : Array Bool} (hc : Closed md ops listed) : ∀ (f key : Nat), waits md ops f key i = true → (∀ o, ops[key]? = some o → ∀ e ∈ o.after, Region.binds md e = true → listed.getD e.on false = true) → listed.getD i false = true
  | 0, _, h, _ => by cases h
  | f + 1, key, h, hk => by
    unfold waits at h
    cases ho : ops[key]? with
    | none => rw [ho] at h; cases h
    | some o =>
      rw [ho] at h
      dsimp only at h
      rw [Array.any_eq_true] at h
      obtain ⟨n, hn, hb⟩ := h
      have he := Array.getElem_mem hn
      generalize o.after[n] = e at *
      rw [Bool.and_eq_true, Bool.or_eq_true, beq_iff_eq] at hb
      have h1 := hk o ho e he hb.1
      rcases hb.2 with h2 | h2
      · rw [← h2]; exact h1
      · exact waits_listed hc f e.on h2 (fun o' ho' e' he' hb' => hc e.on o' ho' (getD_up h1) e' he' hb')
theorem waits_not {f key i : Nat} {listed : Array Bool} (hw : waits md ops f key i = true) (hc : Closed md ops listed) (hi : listed.getD i true = false) : key ∉ Region.ready md ops listed := fun hr => by
  obtain ⟨_, o, hoj, hall⟩ := mem_ready.1 hr
  have h1 := waits_listed hc f key hw (fun o' ho' => by
    rw [hoj] at ho'
    injection ho' with ho'
    subst ho'
    exact hall)
  rw [getD_up h1] at hi
  cases hi
theorem Closed.more {j : Nat} {listed : Array Bool} (hc : Closed md ops listed) (hj : j ∈ Region.ready md ops listed) : Closed md ops (listed.setIfInBounds j true) := fun k o ho hl e he hb => by
  by_cases hjk : j = k
  · subst hjk
    obtain ⟨_, o', ho', hall⟩ := mem_ready.1 hj
    rw [ho] at ho'
    injection ho' with ho'
    subst ho'
    exact getD_set_true (hall e he hb)
  · rw [getD_set_ne true hjk] at hl
    exact getD_set_true (hc k o ho hl e he hb)
theorem wpAnyK_first {i key f : Nat} {oi : Oper} {v : Value} (hi : ops[i]? = some oi) (hsel : ∀ (j : Nat) (o : Oper) cs b, ops[j]? = some o → o.op ≠ .select cs b)
    (hQ : ∀ c a w, Q (.panic c) (a.put oi.dst v) w → Q (.panic c) a w) (hw : waits md ops f key i = true) :
    ∀ (fuel : Nat) (listed : Array Bool) (a : Act) (w : World),
      (∀ j oj, ops[j]? = some oj → j ≠ i → listed.getD j true = false → (∀ e ∈ oj.after, Region.binds md e = true → e.on ≠ i) → oi.apart ops oj = true) →
      i ∈ Region.ready md ops listed → YieldsIf P ops S oi v a → S w → listed.getD key true = false → Closed md ops listed →
      wpAnyK P md ops Q S key fuel (listed.setIfInBounds i true) (a.put oi.dst v) w → wpAnyK P md ops Q S key (fuel + 1) listed a w := by
  intro fuel
  induction fuel with
  | zero =>
    intro listed a w _ hr hy hS _ _ H
    refine ⟨fun h => (by rw [h] at hr; cases hr), fun j hj => ?_⟩
    by_cases hji : j = i
    · subst hji; exact hy.wpOp hi hS ⟨fun _ _ => hS, H⟩
    · have := ready_mono hj hji
      rw [H.1] at this
      cases this
  | succ fuel ih =>
    intro listed a w hfree hr hy hS hkey hcl H
    have hui : listed.getD i true = false := (mem_ready.1 hr).1
    have hki : key ≠ i := fun e => waits_not hw hcl hui (e ▸ hr)
    refine ⟨fun h => (by rw [h] at hr; cases hr), fun j hj => ?_⟩
    by_cases hji : j = i
    · subst hji; exact hy.wpOp hi hS ⟨fun _ _ => hS, H⟩
    · have h1 := H.2 j (ready_mono hj hji)
      have hjk : j ≠ key := fun e => waits_not hw hcl hui (e ▸ hj)
      obtain ⟨hjun, oj, hoj, hall⟩ := mem_ready.1 hj
      have hnot : ∀ e ∈ oj.after, Region.binds md e = true → e.on ≠ i := fun e he hb heq => by
        have h1 := hall e he hb
        have h0 := (mem_ready.1 hr).1
        rw [heq] at h1
        rcases Nat.lt_or_ge i listed.size with h' | h'
        · simp [h'] at h0 h1; rw [h0] at h1; cases h1
        · simp [Array.getElem?_eq_none h'] at h1
      have h2 := wpOp_putIf hoj (hfree j oj hoj hji hjun hnot) (fun cs b => hsel i oi cs b hi) (fun cs b => hsel j oj cs b hoj) hQ hy h1
      have hfree' : ∀ k ok, ops[k]? = some ok → k ≠ i → (listed.setIfInBounds j true).getD k true = false →
          (∀ e ∈ ok.after, Region.binds md e = true → e.on ≠ i) → oi.apart ops ok = true := fun k ok hk hki hun hno => by
        refine hfree k ok hk hki ?_ hno
        by_cases hjk : j = k
        · subst hjk; exact hjun
        · rw [getD_set_ne true hjk] at hun; exact hun
      refine wpOp_mono (fun a' w' h3 => ?_) h2
      have hS' : S w' := h3.2.1 hjk (by rw [getD_set_ne true (Ne.symm hki)]; exact hkey)
      refine ⟨fun _ _ => hS', ih (listed.setIfInBounds j true) a' w' hfree' (ready_mono hr (Ne.symm hji)) h3.1 hS' (by rw [getD_set_ne true hjk]; exact hkey) (hcl.more hj) ?_⟩
      rw [Array.setIfInBounds_comm _ _ hji]
      exact h3.2.2
theorem wpAnyK_take {i key : Nat} {oi : Oper} {v : Value} {fuel : Nat} {listed : Array Bool} {a : Act} {w : World} (hi : ops[i]? = some oi)
    (hs : Region.noSelect ops = true) (hf : Region.free md ops listed i = true) (hr : (Region.ready md ops listed).contains i = true) (hw : (waits md ops ops.size key i && (listed.getD key true == false) && closedB md ops listed) = true)
    (hQ : ∀ c a w, Q (.panic c) (a.put oi.dst v) w → Q (.panic c) a w) (hy : YieldsIf P ops S oi v a) (hS : S w)
    (h : wpAnyK P md ops Q S key fuel (listed.setIfInBounds i true) (a.put oi.dst v) w) : wpAnyK P md ops Q S key (fuel + 1) listed a w := by
  rw [Bool.and_eq_true, Bool.and_eq_true, beq_iff_eq] at hw
  exact wpAnyK_first hi (Region.noSelect_spec hs) hQ hw.1.1 fuel listed a w (Region.free_spec hi hf) (by simpa using hr) hy hS hw.1.2 (closedB_spec hw.2) h
def AllReadyK (P : Program) (md : Region.Mode) (ops : Array Oper) (Q : Exit → Act → World → Prop) (S : World → Prop) (key fuel : Nat) (listed : Array Bool) (a : Act) (w : World) (rs : List Nat) : Prop :=
  ∀ i ∈ rs, wpOp P ops Q i (fun a' w' => (i ≠ key → listed.getD key true = false → S w') ∧ wpAnyK P md ops Q S key fuel (listed.setIfInBounds i true) a' w') a w
theorem AllReadyK.nil {key fuel : Nat} {listed : Array Bool} {a : Act} {w : World} : AllReadyK P md ops Q S key fuel listed a w [] := fun _ h => by cases h
/-- an operation ahead of the key. -/
theorem AllReadyK.cons {key fuel : Nat} {listed : Array Bool} {a : Act} {w : World} {i : Nat} {o : Oper} {rs : List Nat} (ho : ops[i]? = some o)
    (h : ∀ K' : Act → World → Prop, Shut (∀ a w, S w → (S w → wpAnyK P md ops Q S key fuel (listed.setIfInBounds i true) a w) → K' a w) → if Region.wanted o (yielded ops a.tmps) = true then Oper.wp P o a w K' Q else K' (a.put o.dst undef) w)
    (hs : AllReadyK P md ops Q S key fuel listed a w rs) : AllReadyK P md ops Q S key fuel listed a w (i :: rs) := fun j hj => by
  rcases List.mem_cons.1 hj with rfl | hj
  · exact wpOp_step ho (fun K' hK => h K' (fun a w hS hW => hK a w ⟨fun _ _ => hS, hW hS⟩))
  · exact hs j hj
/-- the key, and what comes behind it. -/
theorem AllReadyK.late {key fuel : Nat} {listed : Array Bool} {a : Act} {w : World} {i : Nat} {o : Oper} {rs : List Nat} (ho : ops[i]? = some o) (hk : (i == key || listed.getD key true) = true)
    (h : ∀ K' : Act → World → Prop, Shut (∀ a w, True → (True → wpAnyK P md ops Q S key fuel (listed.setIfInBounds i true) a w) → K' a w) → if Region.wanted o (yielded ops a.tmps) = true then Oper.wp P o a w K' Q else K' (a.put o.dst undef) w)
    (hs : AllReadyK P md ops Q S key fuel listed a w rs) : AllReadyK P md ops Q S key fuel listed a w (i :: rs) := fun j hj => by
  rcases List.mem_cons.1 hj with rfl | hj
  · refine wpOp_step ho (fun K' hK => h K' (fun a w _ hW => hK a w ⟨fun h1 h2 => ?_, hW trivial⟩))
    rw [Bool.or_eq_true, beq_iff_eq] at hk
    rcases hk with hk | hk
    · exact absurd hk h1
    · rw [hk] at h2; cases h2
  · exact hs j hj
theorem wpAnyK_ready {rs : List Nat} {key fuel : Nat} {listed : Array Bool} {a : Act} {w : World} (hr : Region.ready md ops listed = rs) (hne : rs ≠ [])
    (h : AllReadyK P md ops Q S key fuel listed a w rs) : wpAnyK P md ops Q S key (fuel + 1) listed a w := ⟨fun h0 => absurd (hr ▸ h0) hne, hr ▸ h⟩
theorem wpAnyK_done {key : Nat} {listed : Array Bool} {a : Act} {w : World} (hr : Region.ready md ops listed = []) (h : Q .normal a w) :
    ∀ fuel, wpAnyK P md ops Q S key fuel listed a w
  | 0 => ⟨hr, h⟩
  | _ + 1 => ⟨fun _ => h, by rw [hr]; simp⟩
theorem wp_region_key (S : World → Prop) (key : Nat) {id : Nat} {a : Act} {w : World} (hm : P.follows .mixedOrders = true) (hS : S w.drew)
    (h : S w.drew → wpAnyK P .any ops Q S key ops.size (Array.replicate ops.size false) a w.drew) : (Code.region id ops true).wp P Q a w :=
  wp_region_any hm (wpAny_of_key _ _ _ _ (h hS))
theorem regionIn_key {F : Fence} {n : Nat} (S : World → Prop) (key : Nat) (hF : Wide F (n - 1) P) (hd : noDefer ops = true) {id : Nat} {a : Act} {w : World} (hm : P.follows .mixedOrders = true) (hS : S w.drew)
    (h : S w.drew → wpAnyK P .any ops (NormalAt Q) S key ops.size (Array.replicate ops.size false) a w.drew) : (Code.region id ops true).wpIn F n P Q a w :=
  wpIn_region_any hm (anyIn_of_any hF (noDefer_spec hd) .any _ _ _ _ (wpAny_of_key _ _ _ _ (h hS)))
end
end Go.Proofs.YtidadjlhnlmfkaaGreatDoor
namespace Go.Proofs.YtidadjlhnlmfkaaGreatDoor
set_option maxRecDepth 100000
open Go.RowKit Go
section
variable {P : Program} {ops : Array Oper} {Q : Exit → Act → World → Prop} {md : Region.Mode} {S S' : World → Prop}
theorem wpAnyH_more (h : ∀ w, S' w → S w) : ∀ {fuel : Nat} {listed : Array Bool} {a : Act} {w : World}, wpAnyH P md ops Q S' fuel listed a w → wpAnyH P md ops Q S fuel listed a w
  | 0, _, _, _, hw => hw
  | _ + 1, _, _, _, hw => ⟨hw.1, fun i hi => wpOp_mono (fun _ w' h' => ⟨h w' h'.1, wpAnyH_more h h'.2⟩) (hw.2 i hi)⟩
theorem wpAnyK_more {key : Nat} (h : ∀ w, S' w → S w) : ∀ {fuel : Nat} {listed : Array Bool} {a : Act} {w : World}, wpAnyK P md ops Q S' key fuel listed a w → wpAnyK P md ops Q S key fuel listed a w
  | 0, _, _, _, hw => hw
  | _ + 1, _, _, _, hw => ⟨hw.1, fun i hi => wpOp_mono (fun _ w' h' => ⟨fun h1 h2 => h w' (h'.1 h1 h2), wpAnyK_more h h'.2⟩) (hw.2 i hi)⟩
end
end Go.Proofs.YtidadjlhnlmfkaaGreatDoor
/- Walks of the activations of one function; a range over a function whose round may end in a panic. Conditions: as stated at each. -/
namespace Go.Proofs.YtidadjlhnlmfkaaGreatDoor
set_option maxRecDepth 100000
open Go.RowKit Go
section
variable {P : Program} {f : FuncId} {n : Nat}
/-- a walk of the activations of function f alone. -/
def WpF (P : Program) (f : FuncId) (c : Code) (Q : Exit → Act → World → Prop) (a : Act) (w : World) : Prop :=
  ∀ (b : Frame) (k : List Item) (cs : List Frame), b.roundOf = none → b.fn = f → ∃ e a' w', Q e a' w' ∧ ArrivesIn (Machine.fenced P Fence.wide) P (lone (b.atR a (.code c :: k)) cs w) b k cs e a' w'
theorem wpF_of {c : Code} {Q : Exit → Act → World → Prop} {a : Act} {w : World} (h : c.wpIn Fence.wide n P Q a w) : WpF P f c Q a w := fun b k cs hro _ => h b k cs hro trivial (room_wide _)
theorem calmW (fr : Frame) (cs : List Frame) (w : World) (h : fr.about P w = none) : (lone fr cs w).fenced P Fence.wide := fenced_calm (n := 0) trivial (room_wide _) h
theorem wpF_seq {x y : Code} {Q : Exit → Act → World → Prop} {a : Act} {w : World} (h : x.wpIn Fence.wide n P (Exit.then (WpF P f y Q) Q) a w) : WpF P f (.seq x y) Q a w := by
  intro b k cs hro hb
  have s0 : StepsIn (Machine.fenced P Fence.wide) P (lone (b.atR a (.code (.seq x y) :: k)) cs w) (lone (b.atR a (.code x :: .code y :: k)) cs w) := StepsIn.one (calmW (b.atR a (.code (.seq x y) :: k)) cs w rfl) (stepR_seq (P := P))
  obtain ⟨e, a1, w1, hq, ha⟩ := h b (.code y :: k) cs hro trivial (room_wide _)
  cases e
  case normal =>
    obtain ⟨e2, a2, w2, hq2, ha2⟩ := hq b k cs hro hb
    exact ⟨e2, a2, w2, hq2, .of_steps (s0.trans ha) ha2⟩
  all_goals exact ⟨_, a1, w1, hq, .of_steps s0 (.pass (x := .code y) rfl (fun _ _ => .inl (by simp)) ha)⟩
theorem wpF_block {id : Nat} {c : Code} {Q : Exit → Act → World → Prop} {a : Act} {w : World} (h : WpF P f c (Exit.inBlock id Q) a w) : WpF P f (.block id c) Q a w := by
  intro b k cs hro hb
  have s0 : StepsIn (Machine.fenced P Fence.wide) P (lone (b.atR a (.code (.block id c) :: k)) cs w) (lone (b.atR a (.code c :: .inBlock id :: k)) cs w) := StepsIn.one (calmW (b.atR a (.code (.block id c) :: k)) cs w rfl) (stepR_block (P := P))
  have no : ¬ b.roundOf.isSome = true := by rw [hro]; simp
  obtain ⟨e, a1, w1, hq, ha⟩ := h b (.inBlock id :: k) cs hro hb
  cases e with
  | normal => exact ⟨.normal, a1, w1, hq, s0.trans (StepsIn.trans ha (.one (calmW (b.atR a1 (.inBlock id :: k)) cs w1 rfl) stepR_inBlock))⟩
  | exit i =>
    by_cases hid : i = id
    · simp only [Exit.inBlock, hid, if_true] at hq
      exact ⟨.normal, a1, w1, hq, s0.trans (ha.1 k (by simp [exitTo, hid]))⟩
    · simp only [Exit.inBlock, hid, if_false] at hq
      have hx : exitTo i (.inBlock id :: k) = exitTo i k := by
        have : (id == i) = false := by simp; exact fun h => hid h.symm
        simp [exitTo, this]
      exact ⟨.exit i, a1, w1, hq, fun k' hk => s0.trans (ha.1 k' (by rw [hx]; exact hk)), fun hr' => absurd hr' no⟩
  | goto l =>
    have hx : gotoIn l (.inBlock id :: k) = gotoIn l k := by simp [gotoIn]
    exact ⟨_, a1, w1, hq, fun k' hk => s0.trans (ha.1 k' (by rw [hx]; exact hk)), fun hr' => absurd hr' no⟩
  | ret => exact ⟨_, a1, w1, hq, .of_steps s0 ha⟩
  | panic ch => exact ⟨_, a1, w1, hq, .of_steps s0 ha⟩
  | outgrown => exact ⟨_, a1, w1, hq, .of_steps s0 ha⟩
/-- the statement, in an activation of f. -/
theorem wpF_range {g : Operand} {ps : Array Tmp} {assign body : Code} {Q : Exit → Act → World → Prop} {a : Act} {w : World} {gf : Nat} {lb : Array Value}
    (hg : a.eval g = .func (.func gf) #[] lb) (eg : ∀ args w, (callFunc gf args).run P w = .ok (.enter gf args) w)
    (h : ∀ W1, W1 = (w.alloc (.deferred (some []))).alloc (.loop { state := .ready, pending := none, fn := f, tmps := a.tmps, params := ps, assign := assign, body := body, defers := w.heap.size }) →
      CallsIn Fence.wide n P gf (#[.func (.yield (w.heap.size + 1)) #[] #[]] ++ lb) W1 (rangePost Fence.wide n P (w.heap.size + 1) Q { a with defers := { target := .collected w.heap.size, args := #[] } :: a.defers })) :
    WpF P f (.rangeFunc g ps assign body) Q a w := by
  intro b k cs hro hb
  subst hb
  obtain ⟨W1, hW1⟩ : ∃ W1, W1 = (w.alloc (.deferred (some []))).alloc (.loop { state := .ready, pending := none, fn := b.fn, tmps := a.tmps, params := ps, assign := assign, body := body, defers := w.heap.size }) := ⟨_, rfl⟩
  have he := run_enterLoop_outer (P := P) (w := w) b.fn a.tmps ps assign body
  rw [← hW1] at he
  have hres : (resolve a.eval (rangeCall g (w.heap.size + 1)) 0).run P W1 = .ok { target := .fn (.func gf) lb, args := #[.func (.yield (w.heap.size + 1)) #[] #[]] } W1 := by
    simp only [resolve, hg]
    simp [go_sem]
  have hinv : (invoke (Target.fn (.func gf) lb) #[.func (.yield (w.heap.size + 1)) #[] #[]]).run P W1 = .ok (.enter gf (#[.func (.yield (w.heap.size + 1)) #[] #[]] ++ lb)) W1 := by simp [invoke, go_sem, eg]
  have hst := stepR_rangeFunc (P := P) (b := b) (a := a) (k := k) (cs := cs) (w := w) (g := g) (ps := ps) (assign := assign) (body := body) (by rw [hro]; exact he) hres hinv
  have h0 : (lone (b.atR a (.code (.rangeFunc g ps assign body) :: k)) cs w).fenced P Fence.wide := fenced_lone (.inl trivial) (fun _ _ => trivial) (room_wide _)
  obtain ⟨e, w3, fr, hR, hs, hfn, hlv⟩ := (h W1 hW1).2 (b.atR { a with defers := [{ target := .collected w.heap.size, args := #[] }] ++ a.defers } (.inRangeFunc (w.heap.size + 1) :: k) :: cs) (room_wide _)
  cases e with
  | outgrown =>
    obtain ⟨a0, w0, hq⟩ := hR
    exact ⟨.outgrown, a0, w0, hq, .inr (Outgrown.of_steps (.one hst) hs)⟩
  | returned v =>
    have hl : (lone fr (b.atR { a with defers := [{ target := .collected w.heap.size, args := #[] }] ++ a.defers } (.inRangeFunc (w.heap.size + 1) :: k) :: cs) w3).fenced P Fence.wide := fenced_leaving (n := 0) trivial (room_wide _) hlv
    obtain ⟨jump, w4, hend, hj⟩ := hR
    have sb : StepsIn (Machine.fenced P Fence.wide) P (lone (b.atR a (.code (.rangeFunc g ps assign body) :: k)) cs w) (lone (b.atR { a with defers := [{ target := .collected w.heap.size, args := #[] }] ++ a.defers } ((jump.map Item.code).toList ++ k)) cs w4) := by
      refine .head h0 hst (hs.trans (.head hl ?_ (.one (calmW (b.atR { a with defers := [{ target := .collected w.heap.size, args := #[] }] ++ a.defers } (.endRangeFunc (w.heap.size + 1) :: k)) cs w3 rfl) (stepR_endRangeFunc hend))))
      rw [← finish_atR_inRangeFunc (w.heap.size + 1) v]
      exact step_leave_returned hlv
    cases jump with
    | none => exact ⟨.normal, _, w4, hj, sb⟩
    | some c =>
      obtain ⟨e', a2, w5, hq, ha⟩ := hj b k cs hro trivial (room_wide _)
      exact ⟨e', a2, w5, hq, .of_steps sb ha⟩
  | panicked chain =>
    have hl : (lone fr (b.atR { a with defers := [{ target := .collected w.heap.size, args := #[] }] ++ a.defers } (.inRangeFunc (w.heap.size + 1) :: k) :: cs) w3).fenced P Fence.wide := fenced_leaving (n := 0) trivial (room_wide _) hlv
    refine ⟨.panic chain, _, w3, hR, .inRangeFunc (w.heap.size + 1) :: k, .head h0 hst (hs.trans (.one hl ?_))⟩
    rw [← Frame.raise_atR]
    exact step_leave_panicked hlv
/-- a function's contract out of its body's walk. -/
theorem calls_of_wpF {fn : Func} {c : Code} {args : Array Value} {w : World} {R : Ending → World → Prop} (hf : P.funcs[f]? = some fn) (hb : fn.body = some c)
    (h : WpF P f c (bodyPostM Fence.wide n P fn R) { tmps := args ++ Array.replicate (fn.ntmps - args.size) undef, defers := [] } w) : CallsIn Fence.wide n P f args w R := by
  refine ⟨trivial, fun cs hr => ?_⟩
  let b : Frame := { (default : Frame) with fn := f, kind := .normal, roundOf := none }
  have he : Frame.enter P f args .normal = b.atR { tmps := args ++ Array.replicate (fn.ntmps - args.size) undef, defers := [] } [.code c] := by
    simp [Frame.enter, Frame.atR, hf, hb, b]
  obtain ⟨e, a', w', hq, ha⟩ := h b [] cs rfl rfl
  rw [← he] at ha
  have go : ∀ (u : FrameMode) (todo : List Item), LeavesInM Fence.wide n P fn a'.tmps R a'.defers u w' → StepsIn (Machine.fenced P Fence.wide) P (lone (Frame.enter P f args .normal) cs w) (lone { b.atR a' todo with mode := u } cs w') →
      ∃ e w' fr, R e w' ∧ ComesIn (Machine.fenced P Fence.wide) P (lone (Frame.enter P f args .normal) cs w) (lone fr cs w') e ∧ fr.fn = f ∧ fr.leaving P w' e := fun u todo hq hs => by
    obtain ⟨e', w'', fr', hR, hs', hfn, hl⟩ := leaves_stepsInM a'.defers u w' { b.atR a' todo with mode := u } cs rfl rfl rfl hf rfl trivial hr hq
    exact ⟨e', w'', fr', hR, ComesIn.of_steps hs hs', hfn, hl⟩
  cases e with
  | normal => exact go .returning [] hq (StepsIn.trans ha (.one (calmW (b.atR a' []) cs w' rfl) (stepR_end rfl)))
  | ret =>
    obtain ⟨todo, hs⟩ := ha.1 rfl
    exact go .returning todo hq hs
  | panic chain =>
    obtain ⟨todo, hs⟩ := ha
    exact go (.panicking chain) todo hq hs
  | exit id => exact hq.elim
  | goto l => exact hq.elim
  | outgrown => exact ⟨.outgrown, w', b, hq, ha.resolve_left (by simp [b]), rfl, trivial⟩
/-- how a round of f may be left: off its end, by return, by a panic. -/
def roundPan (P : Program) (l : Nat) (R : Ending → World → Prop) : Exit → Act → World → Prop
  | .normal, _, w => ∃ v w', (Instr.endRound l none).run P w = .ok v w' ∧ R (.returned v) w'
  | .ret, _, w => ∃ v w', (Instr.endRound l (some .ret)).run P w = .ok v w' ∧ R (.returned v) w'
  | .panic ch, a, w => a.defers = [] ∧ R (.panicked ch) w
  | _, _, _ => False
theorem roundIn_pan {fnc : Func} (hfn : P.funcs[f]? = some fnc) {l : Nat} {tmps : Array Value} {assign body : Code} {w : World} {R : Ending → World → Prop}
    (h : assign.wpIn (Fence.wide.inRound l) n P (Exit.then (fun a1 w1 => ∃ w2, (Instr.beginRound l).run P w1 = .ok () w2 ∧ body.wpIn (Fence.wide.inRound l) n P (roundPan P l R) a1 w2) (fun _ _ _ => False)) { tmps := tmps, defers := [] } w) :
    RoundIn Fence.wide n P l f tmps assign body w R := by
  refine ⟨trivial, fun c cs _ => ?_⟩
  let b : Frame := { (default : Frame) with fn := f, kind := .normal, roundOf := some l }
  have e0 : Frame.round l f tmps assign body .normal = b.atR { tmps := tmps, defers := [] } [.code assign, .beginRound, .code body] := by
    simp [Frame.round, Frame.atR, b]
  have calm : ∀ (fr : Frame) (cs : List Frame) (w : World), fr.about P w = none → (lone fr cs w).fenced P (Fence.wide.inRound l) := fun fr cs w h => fenced_calm (n := 0) trivial (room_wide _) h
  have wide : ∀ {m m' : Machine}, StepsIn (Machine.fenced P (Fence.wide.inRound l)) P m m' → StepsIn (Machine.fenced P Fence.wide) P m m' := fun h => stepsIn_wide.2 h.steps
  obtain ⟨e, a1, w1, hq, ha⟩ := h b [.beginRound, .code body] (c :: cs) rfl trivial (room_wide _)
  rw [← e0] at ha
  cases e
  case normal =>
    obtain ⟨w2, hbr, hbody⟩ := hq
    have s1 : StepsIn (Machine.fenced P (Fence.wide.inRound l)) P (lone (b.atR a1 [.beginRound, .code body]) (c :: cs) w1) (lone (b.atR a1 [.code body]) (c :: cs) w2) := .one (calm _ _ _ rfl) (stepR_beginRound rfl hbr)
    have s2 := StepsIn.trans ha s1
    obtain ⟨e2, a2, w3, hq2, ha2⟩ := hbody b [] (c :: cs) rfl trivial (room_wide _)
    cases e2 with
    | normal =>
      obtain ⟨v, w4, hend, hR⟩ := hq2
      exact ⟨.returned v, w4, hR, wide (s2.trans (StepsIn.trans ha2 (.one (calm (b.atR a2 []) _ _ rfl) (stepR_round_end rfl rfl hend))))⟩
    | ret =>
      obtain ⟨v, w4, hend, hR⟩ := hq2
      obtain ⟨k1, hs⟩ := ha2.2 rfl
      exact ⟨.returned v, w4, hR, wide (s2.trans (hs.trans (.one (calm (b.atR a2 (.code .ret :: k1)) _ _ rfl) (stepR_round_ret rfl rfl hend))))⟩
    | panic ch =>
      obtain ⟨hd, hR⟩ := hq2
      obtain ⟨todo, hs⟩ := ha2
      have hlv : ({ b.atR a2 todo with mode := .panicking ch } : Frame).leaving P w3 (.panicked ch) := ⟨rfl, hd, fnc, hfn⟩
      exact ⟨.panicked ch, w3, hR, wide (s2.trans (hs.trans (.one (fenced_leaving (n := 0) trivial (room_wide _) hlv) (step_leave_panicked hlv))))⟩
    | exit id => exact hq2.elim
    | goto t => exact hq2.elim
    | outgrown => exact hq2.elim
  all_goals exact hq.elim
/-- what a round's yield comes to: on, out, or a panic. -/
def YdG {S : Type} (J : S → World → Prop) (Jx : World → Prop) (Jp : List PanicEntry → World → Prop) (N : Nat) (r : S) (W1 : World) (e : Ending) (W' : World) : Prop :=
  (e = .returned (.bool true) ∧ J r W' ∧ Below N W1 W') ∨ (e = .returned (.bool false) ∧ Jx W') ∨ (∃ ch, e = .panicked ch ∧ Jp ch W')
/-- what the iterator comes to. -/
def LnG {S : Type} (fin : S → Prop) (J : S → World → Prop) (Jx : World → Prop) (Jp : List PanicEntry → World → Prop) (e : Ending) (W' : World) : Prop :=
  ((∃ v, e = .returned v) ∧ ((∃ r, fin r ∧ J r W') ∨ Jx W')) ∨ (∃ ch, e = .panicked ch ∧ Jp ch W')
/-- how a round's body may be left. -/
def BodyG {S : Type} (B N : Nat) (I : S → World → Prop) (Ix : World → Prop) (Ip : List PanicEntry → World → Prop) (r : S) (W : World) : Exit → Act → World → Prop
  | .normal, _, W' => KeepsFrom B W W' ∧ Below N W W' ∧ I r W'
  | .ret, _, W' => KeepsFrom B W W' ∧ Ix W'
  | .panic ch, a, W' => a.defers = [] ∧ KeepsFrom B W W' ∧ Ip ch W'
  | _, _, _ => False
/-- a range over an iterator that tells its elements one by one: 'step r x r' W': at r the next one is x, and r' is left. -/
theorem wpF_rangeJ {fnc : Func} (hfn : P.funcs[f]? = some fnc) {S α : Type} {g : Operand} {ps : Array Tmp} {assign body : Code} {Q : Exit → Act → World → Prop} {a : Act} {w : World} {gf : Nat} {lb : Array Value}
    (hg : a.eval g = .func (.func gf) #[] lb) (eg : ∀ args w, (callFunc gf args).run P w = .ok (.enter gf args) w)
    (enc : α → Array Value) (hps : ∀ x, (enc x).size = ps.size) (N : Nat) (hN : N ≤ w.heap.size) (step : S → α → S → World → Prop) (fin : S → Prop) (s0 : S)
    (hseq : ∀ (lp : Nat) (J : S → World → Prop) (Jx : World → Prop) (Jp : List PanicEntry → World → Prop) (W : World), Below w.heap.size w W → (∀ r W W', J r W → W.grownBy W' none → J r W') →
      (∀ r x r' W1, J r W1 → step r x r' W1 → YieldAt Fence.wide (n - 1) P lp (enc x) W1 (YdG J Jx Jp N r' W1)) → J s0 W → CallsIn Fence.wide n P gf (#[.func (.yield lp) #[] #[]] ++ lb) W (LnG fin J Jx Jp))
    (I : S → World → Prop) (Ix : World → Prop) (Ip : List PanicEntry → World → Prop)
    (hI : ∀ r W W', I r W → W.grownBy W' none → I r W')
    (hIp : ∀ r W l o o', I r W → w.heap.size ≤ l → W.heap[l]? = some o → o.isCells = false → I r (W.putObj l o'))
    (hXp : ∀ W l o o', Ix W → w.heap.size ≤ l → W.heap[l]? = some o → o.isCells = false → Ix (W.putObj l o'))
    (hst : ∀ r x r' W l o o', step r x r' W → w.heap.size ≤ l → W.heap[l]? = some o → o.isCells = false → step r x r' (W.putObj l o'))
    (h0 : I s0 w) (a₁ : α → Act)
    (hassign : ∀ (l : Nat) (x : α) (W : World) (K : Act → World → Prop), K (a₁ x) W →
      assign.wpIn (Fence.wide.inRound l) (n - 1) P (Exit.then K (fun _ _ _ => False)) { tmps := (ps.zip (enc x)).foldl (fun t (p, v) => t.setIfInBounds p v) a.tmps, defers := [] } W)
    (hbody : ∀ (l : Nat) (r : S) (x : α) (r' : S) (W : World), I r W → step r x r' W → body.wpIn (Fence.wide.inRound l) (n - 1) P (BodyG w.heap.size N I Ix Ip r' W) (a₁ x) W)
    (hdone : ∀ (D : Nat) (r : S) (W : World), w.heap.size ≤ D → fin r → I r W → W.heap[D]? = some (.deferred (some [])) → Q .normal { a with defers := { target := .collected D, args := #[] } :: a.defers } W)
    (hstop : ∀ (D : Nat) (W : World), w.heap.size ≤ D → Ix W → W.heap[D]? = some (.deferred (some [])) → Q .ret { a with defers := { target := .collected D, args := #[] } :: a.defers } W)
    (hpan : ∀ (D : Nat) (ch : List PanicEntry) (W : World), w.heap.size ≤ D → Ip ch W → W.heap[D]? = some (.deferred (some [])) → Q (.panic ch) { a with defers := { target := .collected D, args := #[] } :: a.defers } W) :
    WpF P f (.rangeFunc g ps assign body) Q a w := by
  refine wpF_range (n := n) hg eg fun W1 hW1 => ?_
  obtain ⟨rec, hrec⟩ : ∃ rec : LoopState → Option Code → Loop, rec = fun st pe => { state := st, pending := pe, fn := f, tmps := a.tmps, params := ps, assign, body, defers := w.heap.size } := ⟨_, rfl⟩
  have e1 : W1 = (w.alloc (.deferred (some []))).alloc (.loop (rec .ready none)) := by rw [hW1, hrec]
  clear hW1
  have hL1 : W1.heap[w.heap.size + 1]? = some (.loop (rec .ready none)) := by
    rw [e1]; have := World.alloc_heap_new (w.alloc (.deferred (some []))) (.loop (rec .ready none)); rwa [World.size_alloc] at this
  have hD1 : W1.heap[w.heap.size]? = some (.deferred (some [])) := by
    rw [e1]; exact (Below.heap_alloc _ _ _ (by simp)).trans (World.alloc_heap_new w _)
  have hI1 : I s0 W1 := by
    rw [e1]; exact hI _ _ _ (hI _ _ _ h0 (World.grownBy_alloc w _ none)) (World.grownBy_alloc _ _ none)
  have hB1 : Below w.heap.size w W1 := by
    rw [e1]; exact ((Below.refl _ w).alloc (Nat.le_refl _) _).alloc (by simp) _
  refine (hseq (w.heap.size + 1) (fun r W => I r W ∧ W.heap[w.heap.size + 1]? = some (.loop (rec .ready none)) ∧ W.heap[w.heap.size]? = some (.deferred (some [])))
    (fun W => Ix W ∧ W.heap[w.heap.size + 1]? = some (.loop (rec .done (some .ret))) ∧ W.heap[w.heap.size]? = some (.deferred (some [])))
    (fun ch W => Ip ch W ∧ W.heap[w.heap.size]? = some (.deferred (some []))) W1 hB1
    (fun r W W' ⟨h1, h2, h3⟩ hgr => ⟨hI r W W' h1 hgr, (hgr.block _ (Array.getElem?_eq_some_iff.1 h2).1 (fun e => by cases e)).trans h2, (hgr.block _ (Array.getElem?_eq_some_iff.1 h3).1 (fun e => by cases e)).trans h3⟩) ?_ ⟨hI1, hL1, hD1⟩).mono ?_
  · rintro r x r' W ⟨hi, hl, hd⟩ hs
    have hlt : w.heap.size + 1 < W.heap.size := (Array.getElem?_eq_some_iff.1 hl).1
    have hy := run_yield (P := P) (args := enc x) hl (by rw [hrec]; exact hps x)
    rw [hrec] at hy
    refine ⟨f, _, assign, body, hy, roundIn_pan hfn (hassign _ x W _ ⟨_, run_beginRound hl (by rw [hrec]), ?_⟩)⟩
    have hl2 : (W.putObj (w.heap.size + 1) (.loop { rec .ready none with state := .busy })).heap[w.heap.size + 1]? = some (.loop { rec .ready none with state := .busy }) := World.putObj_heap_same hlt
    have hd2 : (W.putObj (w.heap.size + 1) (.loop { rec .ready none with state := .busy })).heap[w.heap.size]? = some (.deferred (some [])) := (World.putObj_heap_other (by omega)).trans hd
    have hb2 : Below N W (W.putObj (w.heap.size + 1) (.loop { rec .ready none with state := .busy })) := belowK_b hN _ _ _ _ (by omega) hl rfl rfl
    refine wpIn_mono (hbody _ r x r' _ (hIp r _ _ _ _ hi (by omega) hl rfl) (hst r x r' _ _ _ _ hs (by omega) hl rfl)) ?_
    have fin3 : ∀ (jump : Option Code) (W3 : World), KeepsFrom w.heap.size (W.putObj (w.heap.size + 1) (.loop { rec .ready none with state := .busy })) W3 →
        (Instr.endRound (w.heap.size + 1) jump).run P W3 = .ok (.bool jump.isNone) (W3.putObj (w.heap.size + 1) (.loop (rec (if jump.isNone then .ready else .done) jump))) ∧
        W3.heap[w.heap.size + 1]? = some (.loop { rec .ready none with state := .busy }) ∧
        (W3.putObj (w.heap.size + 1) (.loop (rec (if jump.isNone then .ready else .done) jump))).heap[w.heap.size + 1]? = some (.loop (rec (if jump.isNone then .ready else .done) jump)) ∧
        (W3.putObj (w.heap.size + 1) (.loop (rec (if jump.isNone then .ready else .done) jump))).heap[w.heap.size]? = some (.deferred (some [])) := fun jump W3 hk3 => by
      have hl3 := hk3.same _ _ (by omega) hl2 rfl
      have := run_endRound (P := P) jump hl3
      rw [hrec] at this ⊢
      exact ⟨this, by rw [hrec] at hl3; exact hl3, World.putObj_heap_same (Array.getElem?_eq_some_iff.1 hl3).1, (World.putObj_heap_other (by omega)).trans (hk3.same _ _ (Nat.le_refl _) hd2 rfl)⟩
    rintro e a3 W3 hp
    cases e with
    | normal =>
      obtain ⟨hk3, hb3, hi3⟩ := hp
      obtain ⟨hr, hl3, hl4, hd4⟩ := fin3 none W3 hk3
      exact ⟨_, _, hr, Or.inl ⟨rfl, ⟨hIp _ _ _ _ _ hi3 (by omega) hl3 rfl, hl4, hd4⟩, (hb2.trans hb3).trans (belowK_b hN _ _ _ _ (by omega) hl3 rfl rfl)⟩⟩
    | ret =>
      obtain ⟨hk3, hx3⟩ := hp
      obtain ⟨hr, hl3, hl4, hd4⟩ := fin3 (some .ret) W3 hk3
      exact ⟨_, _, hr, Or.inr (Or.inl ⟨rfl, hXp _ _ _ _ hx3 (by omega) hl3 rfl, hl4, hd4⟩)⟩
    | panic ch =>
      obtain ⟨hdf, hk3, hp3⟩ := hp
      exact ⟨hdf, Or.inr (Or.inr ⟨ch, rfl, hp3, hk3.same _ _ (Nat.le_refl _) hd2 rfl⟩)⟩
    | exit id => exact hp.elim
    | goto t => exact hp.elim
    | outgrown => exact hp.elim
  · rintro e W2 (⟨⟨v, rfl⟩, (⟨r, hf, hi, hl, hd⟩ | ⟨hx, hl, hd⟩)⟩ | ⟨ch, rfl, hp, hd⟩)
    · exact ⟨none, _, by have := run_endLoop (P := P) hl (by rw [hrec]; simp); rw [hrec] at this; exact this, hdone _ r _ (Nat.le_refl _) hf (hIp _ _ _ _ _ hi (by omega) hl rfl) ((World.putObj_heap_other (by omega)).trans hd)⟩
    · exact ⟨some .ret, _, by have := run_endLoop (P := P) hl (by rw [hrec]; simp); rw [hrec] at this; exact this, wpIn_ret (hstop _ _ (Nat.le_refl _) (hXp _ _ _ _ hx (by omega) hl rfl) ((World.putObj_heap_other (by omega)).trans hd))⟩
    · exact hpan _ ch _ (Nat.le_refl _) hp hd
end
end Go.Proofs.YtidadjlhnlmfkaaGreatDoor
