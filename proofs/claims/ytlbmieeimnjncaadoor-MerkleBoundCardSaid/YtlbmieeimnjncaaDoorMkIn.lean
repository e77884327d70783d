/- Lists of sums compared; a list of sums as a parameter. Conditions: as stated. -/
import Derived.Test.YtlbmieeimnjncaaDoorMkAwake
import Derived.Test.YtlbmieeimnjncaaDoorDgOpen
import Derived.Deep.Slices
import Derived.RangeFuncBox
import Derived.RangeFuncNested
import Derived.RangeFuncBound
import Derived.RangeFuncCalls
import Derived.RangeFuncLeaves
import Derived.OwnWalkIn
import Derived.TacticsInMore
import Derived.LoopNIn
import Derived.LoopIn
import Derived.OrdersIn
namespace Go.Proofs.YtlbmieeimnjncaaDoor
set_option maxRecDepth 100000
open Go.RowKit Go
theorem range_append {w : World} {g o : Nat} {a b : List Value} (ha : w.rangeAt g o a) (hb : w.rangeAt g (o + a.length) b) : w.rangeAt g o (a ++ b) := fun j v hj => by
  rcases Nat.lt_or_ge j a.length with h | h
  · rw [List.getElem?_append_left h] at hj
    exact ha j v hj
  · rw [List.getElem?_append_right h] at hj
    have := hb (j - a.length) v hj
    rwa [show o + a.length + (j - a.length) = o + j from by omega] at this
theorem range_flat {w : World} {g : Nat} : ∀ (L : List (List UInt8)) (o : Nat), Sms L → (∀ k, k < L.length → w.rangeAt g (o + k * 32) (bv (L.getD k []))) → w.rangeAt g o (bv L.flatten)
  | [], _, _, _ => fun j v hj => by simp [bv] at hj
  | x :: L, o, hL, h => by
    rw [List.flatten_cons, bv_append]
    refine range_append (by simpa using h 0 (by simp)) ?_
    rw [bv_length, hL x (by simp)]
    refine range_flat L (o + 32) (fun y hy => hL y (by simp [hy])) fun k hk => ?_
    have := h (k + 1) (by simp; omega)
    rw [show o + (k + 1) * 32 = o + 32 + k * 32 from by omega] at this
    simpa using this
section
open Go.ChangeShapes Go.WideShapes Go.ChangeAt
variable {H : Type} {enc : TypeId × Value → H}
/-- a parameter of sums. -/
def IsHs (W : World) (v : Value) : Prop := ∃ A c L, v = .slice A L.length c ∧ Hs W W.heap.size A L ∧ L.length ≤ c ∧ c ≤ maxLen
set_option maxRecDepth 100000 in
theorem open_hs {W : World} {v : Value} {d : DataW H} {p : List MemPlace} (hv : Value.okWide Tryd.prog W .any 0 23 v) (h : DataW.Trod enc Tryd.prog W 0 (fun _ => true) true 23 v d p) : IsHs W v := by
  obtain ⟨a0, len0, cap0, rfl⟩ := okWide_slice Tryd.underlying23 hv
  obtain ⟨fuel, hf⟩ := h
  rcases Go.Deep.open_slice Tryd.underlying23 hf with ⟨hcs, _⟩ | ⟨a, len, cap, m, n, D, Pl, hcs, _, hl, hm, hmm, _, hi⟩
  · simp [Value.cells] at hcs
    obtain ⟨rfl, rfl, rfl⟩ := hcs
    exact ⟨none, 0, [], rfl, Hs.nil _, by simp, by unfold maxLen; omega⟩
  · simp [Value.cells] at hcs
    obtain ⟨rfl, rfl, rfl⟩ := hcs
    have hle : len0 ≤ m := by rw [hmm]; split <;> omega
    have hc26 : Tryd.prog.cellsOf 22 = 32 := by kernel_rfl
    have hc5 : Tryd.prog.cellsOf 5 = 1 := by kernel_rfl
    have each : ∀ i, i < len0 → ∃ l : List UInt8, l.length = 32 ∧ ∀ j, j < 32 → W.cell? ((a.add (i * 32)).add j) = some (.int .u8 ((l.getD j 0).toNat : Int)) := fun i hil => by
      obtain ⟨cs', h1, h2⟩ := hi i (by omega)
      rw [hc26] at h1
      obtain ⟨_, hl32, hat⟩ := World.cells?_some h1
      obtain ⟨xs, m', _, _, _, hxl, hall⟩ := DataW.trod_array Tryd.underlying22 h2
      have hb : ∀ i, i < 32 → ∃ b : UInt8, cs'[i]? = some (.int .u8 (b.toNat : Int)) := fun i hi => by
        have h1 := hall i hi
        obtain ⟨x, hx⟩ : ∃ x, xs[i]? = some x := ⟨xs[i]'(by omega), List.getElem?_eq_getElem (by omega)⟩
        rw [hx, hc5] at h1
        obtain ⟨z, hcz, _, hw⟩ := DataW.trod_int Tryd.underlying5 h1
        refine ⟨UInt8.ofNat z.toNat, ?_⟩
        have h2 : cs'[i]? = some (.int .u8 z) := by
          have := congrArg (·[0]?) hcz
          simpa [List.getElem?_take, List.getElem?_drop] using this
        rw [wf_byte hw] at h2
        exact h2
      refine ⟨(List.range 32).map fun i => if h : i < 32 then (hb i h).choose else 0, by simp, fun j hj => ?_⟩
      rw [hat j hj, (hb j hj).choose_spec]
      simp [hj]
    obtain ⟨y, hy⟩ := Deep.choose_lt each
    rcases Nat.eq_zero_or_pos len0 with h0 | h0
    · subst h0
      exact ⟨some a, cap0, [], rfl, Hs.nil _, by simp, hm⟩
    · have hsp : a.spot = none := by
        have := (hy 0 h0).2 0 (by omega)
        exact World.cell?_spot (a := a) (by simpa [Addr.add] using this)
      obtain ⟨g, o, sp⟩ := a
      obtain rfl : sp = none := hsp
      have hL : Sms ((List.range len0).map y) := fun x hx => by
        rw [List.mem_map] at hx
        obtain ⟨i, hi, rfl⟩ := hx
        exact (hy i (by simpa using hi)).1
      have hB : g < W.heap.size := World.block_lt_of_cell? W _ (by simpa [add_at] using (hy 0 h0).2 0 (by omega))
      refine ⟨some ⟨g, o, none⟩, cap0, (List.range len0).map y, by simp, ⟨hL, .inr ⟨g, o, rfl, hB, range_flat _ _ hL fun k hk => ?_⟩⟩, by simpa using hl, hm⟩
      have hk' : k < len0 := by simpa using hk
      obtain ⟨e1, e2⟩ := hy k hk'
      have e3 : ((List.range len0).map y).getD k [] = y k := by simp [List.getD_eq_getElem?_getD, hk']
      rw [e3]
      intro j v hj
      have hj32 : j < 32 := by have := (List.getElem?_eq_some_iff.1 hj).1; rw [bv_length, e1] at this; exact this
      rw [bv_get _ _ (by rw [e1]; exact hj32)] at hj
      have := e2 j hj32
      rw [add_at, add_at, hj] at this
      exact this
end
end Go.Proofs.YtlbmieeimnjncaaDoor
/- The contract of the document's way up. Conditions: as stated. -/
namespace Go.Proofs.YtlbmieeimnjncaaDoor
set_option maxRecDepth 100000
open Go.RowKit Go
theorem ret_blk3 {P : Program} {fn : Func} {R : Ending → World → Prop} {a : Act} {w : World} {p q : Tmp} {ty : TypeId} (hr : fn.results = #[.cell p ty, .tmp q]) (g : Nat) (t : TypeId) (cs : Array Value) (v : Value) (hg : BlkIs w g t cs) (d : TypeDesc)
    (hp : a.tmps.getD p undef = .pointer (some ⟨g, 0, none⟩)) (hq : a.tmps.getD q undef = v) (hu : P.underlying ty = some d) (hd : (match d with | .struct _ | .array _ _ => true | _ => false) = true) (hi : (P.info? ty).map (·.size) = some cs.size)
    (hde : a.defers = []) (hR : R (.returned (.tuple #[.agg cs, v])) w) : bodyPost P fn R .ret a w := by
  refine bodyPost_ret_by ?_ hde hR
  have hp' : a.tmps[p]?.getD undef = .pointer (some ⟨g, 0, none⟩) := by simpa using hp
  have hq' : a.tmps[q]?.getD undef = v := by simpa using hq
  simp [results, hr, hp', hq', asAddr, run_loadVar_row w g t ty cs (0, 0) d hg hu hd hi]
theorem two_blocks (w : World) (oA oB : Obj) : ((w.alloc oA).alloc oB).heap[w.heap.size]? = some oA ∧ ((w.alloc oA).alloc oB).heap[w.heap.size + 1]? = some oB := by
  have e : ∀ (w : World) (o : Obj), (w.alloc o).heap = w.heap.push o := fun _ _ => rfl
  refine ⟨?_, ?_⟩ <;> simp only [e, Array.getElem?_push, Array.size_push] <;> repeat (first | rw [if_pos trivial] | rw [if_pos (by omega)] | rw [if_neg (by omega)])
theorem range_tn {p : Nat → Prop} {w w' : World} {g o : Nat} {cs : List Value} (h : w.rangeAt g o cs) (k : Tn p w w') (hp : ¬ p g) : w'.rangeAt g o cs := fun j v hj => by
  have h1 := h j v hj
  have h2 := k.block g (World.block_lt_of_cell? w _ h1) hp
  rw [← h1]
  unfold World.cell?
  dsimp only
  rw [h2]
theorem range_lt {w : World} {g o : Nat} {x : List UInt8} (h : w.rangeAt g o (bv x)) (hx : 1 ≤ x.length) : g < w.heap.size := World.block_lt_of_cell? w _ (h 0 _ (bv_get x 0 (by omega)))
theorem upR_one (i : Nat) (leaf : List UInt8) (r : List (List UInt8)) : upR 1 i leaf r = (leaf, decide (r = [])) := by
  rcases r with _ | ⟨s, r⟩
  · rfl
  · rw [upR_end rfl]; rfl
end Go.Proofs.YtlbmieeimnjncaaDoor
/- Operations and regions in a round of a loop over an iterator, by what they do outside one. Conditions: as stated at each. -/
namespace Go.Proofs.YtlbmieeimnjncaaDoor
set_option maxRecDepth 100000
open Go.RowKit Go
/-- met at the normal end alone. -/
def NormalAt (Q : Exit → Act → World → Prop) : Exit → Act → World → Prop
  | .normal, a, w => Q .normal a w
  | _, _, _ => False
theorem NormalAt.mk {Q : Exit → Act → World → Prop} {a : Act} {w : World} (h : Q .normal a w) : NormalAt Q .normal a w := h
theorem NormalAt.out {Q : Exit → Act → World → Prop} {a : Act} {w : World} (h : NormalAt Q .normal a w) : Q .normal a w := h
/-- a fence that lets all by. -/
structure Wide (F : Fence) (n : Nat) (P : Program) : Prop where
  fn : ∀ f, F.fn f
  depth : F.depth = none
  calls : ∀ {f : FuncId} {args : Array Value} {w : World} {R : Ending → World → Prop}, Calls P f args w R → CallsIn F n P f args w R
  rows : ∀ {row : String} {args : Array Value} {w : World} {R : Value → World → Prop}, Rows P row args w R → RowsIn F n P row args w R
theorem Wide.wide (n : Nat) (P : Program) : Wide Fence.wide n P := ⟨fun _ => trivial, rfl, fun h => callsIn_wide.2 h, fun h c cs _ => let ⟨v, w', r, s⟩ := h c cs; ⟨v, w', r, stepsIn_wide.2 s⟩⟩
theorem Wide.round (n : Nat) (P : Program) (l : Nat) : Wide (Fence.wide.inRound l) n P := ⟨fun _ => trivial, rfl, fun h => CallsIn.inRound l (callsIn_wide.2 h), fun h c cs _ => let ⟨v, w', r, s⟩ := h c cs; ⟨v, w', r, stepsIn_wide.2 s⟩⟩
section
variable {F : Fence} {n : Nat} {P : Program} {ops : Array Oper} {Q : Exit → Act → World → Prop}
theorem uponIn_of_upon (hF : Wide F (n - 1) P) {o : Oper} {a : Act} {K : Act → World → Prop} {r : Result Next} (h : o.upon P a K (NormalAt Q) r) : o.uponIn F n P a K Q r := by
  have no : ¬ LetsOut (NormalAt Q) := fun ⟨_, _, h⟩ => h
  cases r with
  | ok x w' =>
    cases x with
    | value v => exact h
    | skip => exact h
    | defer d => exact h
    | enter f args =>
      refine ⟨(fun hd => by (rw [hF.depth] at hd; cases hd)), hF.calls (Calls.mono h fun e w'' he => ?_)⟩
      cases e with
      | returned v => exact he
      | panicked c => exact (he : False).elim
      | outgrown => exact (no he).elim
    | row row args => exact ⟨(fun hd => by (rw [hF.depth] at hd; cases hd)), hF.rows h⟩
    | _ => exact (h : False).elim
  | halt x w' =>
    cases x with
    | panic v => exact (h : False).elim
    | _ => exact (h : False).elim
theorem wpIn_of_wp (hF : Wide F (n - 1) P) {o : Oper} {a : Act} {w : World} {K : Act → World → Prop} (hd : ∀ c, o.op ≠ .defer c) (h : o.wp P a w K (NormalAt Q)) : o.wpIn F n P a w K Q := by
  refine ⟨fun f _ => hF.fn f, ?_⟩
  rw [Oper.semAt_eq _ _ _ hd]
  exact uponIn_of_upon hF h
/-- one operation of a list. -/
theorem lin_wp (hF : Wide F (n - 1) P) {o : Oper} {rest : List Oper} {a : Act} {w : World} (hg : o.guard = none) (hd : ∀ c, o.op ≠ .defer c) (h : ∀ K : Act → World → Prop, (∀ a w, wpListIn F n P ops Q rest a w → K a w) → o.wp P a w K (NormalAt Q)) :
    wpListIn F n P ops Q (o :: rest) a w := wpListIn_plain hg fun K hK => wpIn_of_wp hF hd (h K hK)
theorem opIn_of_op (hF : Wide F (n - 1) P) (hd : ∀ (i : Nat) (o : Oper), ops[i]? = some o → ∀ c, o.op ≠ .defer c) {i : Nat} {K K' : Act → World → Prop} {a : Act} {w : World} (hk : ∀ a w, K a w → K' a w) (h : wpOp P ops (NormalAt Q) i K a w) : wpOpIn F n P ops Q i K' a w := by
  have no : ¬ LetsOut (NormalAt Q) := fun ⟨_, _, h⟩ => h
  unfold wpOp at h
  unfold wpOpIn
  cases ho : ops[i]? with
  | none => rw [ho] at h; exact hk _ _ h
  | some o =>
    rw [ho] at h
    dsimp only at h ⊢
    by_cases hw : Region.wanted o (yielded ops a.tmps) = true
    · rw [if_pos hw] at h ⊢
      rcases h with h | h
      · exact Oper.wpIn_mono hk (wpIn_of_wp hF (hd i o ho) h)
      · exact (no h.2).elim
    · rw [if_neg hw] at h ⊢
      exact ⟨fun f _ => hF.fn f, hk _ _ h⟩
theorem anyIn_of_any (hF : Wide F (n - 1) P) (hd : ∀ (i : Nat) (o : Oper), ops[i]? = some o → ∀ c, o.op ≠ .defer c) (md : Region.Mode) : ∀ (fuel : Nat) (listed : Array Bool) (a : Act) (w : World), wpAny P md ops (NormalAt Q) fuel listed a w → wpAnyIn F n P md ops Q fuel listed a w
  | 0, _, _, _, h => h
  | fuel + 1, _, _, _, h => ⟨h.1, fun i hi => opIn_of_op hF hd (fun a w h' => anyIn_of_any hF hd md fuel _ a w h') (h.2 i hi)⟩
def noDefer (ops : Array Oper) : Bool := ops.toList.all fun o => match o.op with | .defer _ => false | _ => true
theorem noDefer_spec (h : noDefer ops = true) : ∀ (i : Nat) (o : Oper), ops[i]? = some o → ∀ c, o.op ≠ .defer c := fun i o ho c hc => by
  have := List.all_eq_true.1 h o (by have := Array.mem_of_getElem? ho; simpa using this)
  rw [hc] at this
  cases this
/-- a region that draws its order, in a round: by the walk outside one. -/
theorem regionIn_held_drew {S : World → Prop} (hF : Wide F (n - 1) P) (hd : noDefer ops = true) {id : Nat} {a : Act} {w : World} (hm : P.follows .mixedOrders = true) (hS : S w.drew)
    (h : S w.drew → wpAnyH P .any ops (NormalAt Q) S ops.size (Array.replicate ops.size false) a w.drew) : (Code.region id ops true).wpIn F n P Q a w :=
  wpIn_region_any hm (anyIn_of_any hF (noDefer_spec hd) .any _ _ _ _ (wpAny_of_held _ _ _ _ (h hS)))
end
end Go.Proofs.YtlbmieeimnjncaaDoor
