/- The contract of the way down (apart). Conditions: as stated. -/
import Derived.Test.YtlbmieeimnjncaaDoorMkSide
namespace Go.Proofs.YtlbmieeimnjncaaDoor
set_option maxRecDepth 100000
open Go.RowKit Go.Shelf Go
attribute [local go_sem] Oper.semAt_some
/-- the variables of a call of apart, N the heap's size where it began. -/
structure ApC (N : Nat) (g : FuncId) (A : Option Addr) (len c n m : Nat) (sd : List (List UInt8 × Bool)) (W0 W : World) : Prop where
  bn : BlkIs W N 3 #[.int .i64 (n : Int)]
  bm : BlkIs W (N + 1) 3 #[.int .i64 (m : Int)]
  bp : BlkIs W (N + 1 + 1) 23 #[.slice A len c]
  bf : BlkIs W (N + 1 + 1 + 1) 38 #[.func (.func g) #[] #[]]
  bs : ∃ v, BlkIs W (N + 1 + 1 + 1 + 1) 39 #[v] ∧ OwnD W (N + 8) v sd
  br : BlkIs W (N + 1 + 1 + 1 + 1 + 1) 23 #[.slice none 0 0]
  bo : BlkIs W (N + 1 + 1 + 1 + 1 + 1 + 1) 4 #[.bool false]
  below : Below N W0 W
  sz : N + 8 ≤ W.heap.size
/-- .. behind an end met on the way. -/
structure ApX (N : Nat) (A : Option Addr) (k c : Nat) (sd : List (List UInt8 × Bool)) (W0 W : World) : Prop where
  bs : ∃ v, BlkIs W (N + 1 + 1 + 1 + 1) 39 #[v] ∧ OwnD W (N + 8) v sd
  br : BlkIs W (N + 1 + 1 + 1 + 1 + 1) 23 #[.slice A k c]
  bo : BlkIs W (N + 1 + 1 + 1 + 1 + 1 + 1) 4 #[.bool true]
  below : Below N W0 W
theorem blk_grown {W W' : World} {row : Option Nat} {g : Nat} {t : TypeId} {cs : Array Value} (h : BlkIs W g t cs) (hg : W.grownBy W' row) (hr : ∀ r, row = some r → ∃ o : Obj, W.heap[r]? = some o ∧ o.isCells = false) : BlkIs W' g t cs :=
  (hg.block g h.lt (fun e => by
    obtain ⟨o, ho, hc⟩ := hr g e.symm
    unfold BlkIs at h
    rw [h] at ho
    injection ho with ho
    rw [← ho] at hc
    cases hc)).trans h
theorem ownD_grown {W W' : World} {row : Option Nat} {N : Nat} {v : Value} {L : List (List UInt8 × Bool)} (h : OwnD W N v L) (hg : W.grownBy W' row) (hr : ∀ r, row = some r → ∃ o : Obj, W.heap[r]? = some o ∧ o.isCells = false) : OwnD W' N v L := by
  refine ⟨h.1, h.2.1, ?_⟩
  rcases h.2.2 with hn | ⟨g, cap, cur, rfl, hn, hh, rest⟩
  · exact .inl hn
  · exact .inr ⟨g, cap, cur, rfl, hn, blk_grown (t := 46) hh hg hr, rest⟩
theorem ApC.grown {N : Nat} {g : FuncId} {A : Option Addr} {len c n m : Nat} {sd : List (List UInt8 × Bool)} {W0 W W' : World} {row : Option Nat} (h : ApC N g A len c n m sd W0 W) (hg : W.grownBy W' row) (hr : ∀ r, row = some r → N ≤ r ∧ ∃ o : Obj, W.heap[r]? = some o ∧ o.isCells = false) : ApC N g A len c n m sd W0 W' := by
  have hr' : ∀ r, row = some r → ∃ o : Obj, W.heap[r]? = some o ∧ o.isCells = false := fun r e => (hr r e).2
  obtain ⟨v, h1, h2⟩ := h.bs
  exact ⟨blk_grown h.bn hg hr', blk_grown h.bm hg hr', blk_grown h.bp hg hr', blk_grown h.bf hg hr', ⟨v, blk_grown h1 hg hr', ownD_grown h2 hg hr'⟩, blk_grown h.br hg hr', blk_grown h.bo hg hr', h.below.grown hg (Nat.le_of_lt h.bn.lt) (fun k hk => (hr k hk).1), Nat.le_trans h.sz hg.size⟩
theorem ApX.grown {N : Nat} {A : Option Addr} {k c : Nat} {sd : List (List UInt8 × Bool)} {W0 W W' : World} {row : Option Nat} (h : ApX N A k c sd W0 W) (hg : W.grownBy W' row) (hr : ∀ r, row = some r → N ≤ r ∧ ∃ o : Obj, W.heap[r]? = some o ∧ o.isCells = false) : ApX N A k c sd W0 W' := by
  have hr' : ∀ r, row = some r → ∃ o : Obj, W.heap[r]? = some o ∧ o.isCells = false := fun r e => (hr r e).2
  obtain ⟨v, h1, h2⟩ := h.bs
  have := h1.lt
  exact ⟨⟨v, blk_grown h1 hg hr', ownD_grown h2 hg hr'⟩, blk_grown h.br hg hr', blk_grown h.bo hg hr', h.below.grown hg (by omega) (fun k hk => (hr k hk).1)⟩
/-- the blocks that a round turns. -/
def Pb (N i : Nat) : Prop := N ≤ i ∧ i < N + 7
/-- what a round is handed of the box of its sum. -/
def ApA (N len : Nat) (L : List (List UInt8)) (A : Option Addr) (c g n m : Nat) (x : {i : Nat // i < len}) (a' : Act) (W : World) : Prop := ∃ Bx, N + 7 < Bx ∧ BlkIs W Bx 22 (bv (L.getD x.1 [])).toArray ∧
  a' = { tmps := #[.int .i64 (n : Int), .int .i64 (m : Int), .slice A len c, .func (.func g) #[] #[], .pointer (some ⟨N, 0, none⟩), .pointer (some ⟨N + 1, 0, none⟩), .pointer (some ⟨N + 1 + 1, 0, none⟩), .pointer (some ⟨N + 1 + 1 + 1, 0, none⟩), .pointer (some ⟨N + 1 + 1 + 1 + 1, 0, none⟩), .pointer (some ⟨N + 1 + 1 + 1 + 1 + 1, 0, none⟩), .pointer (some ⟨N + 1 + 1 + 1 + 1 + 1 + 1, 0, none⟩), .int .i64 (x.1 : Int), .pointer (some ⟨Bx, 0, none⟩), undef, undef, .slice A len c, .func (.func 29) #[] #[.pointer (some ⟨N + 1 + 1 + 1 + 1 + 1 + 1 + 1, 0, none⟩)], .int .i64 (x.1 : Int), .agg (bv (L.getD x.1 [])).toArray, undef, undef, undef, undef, undef, undef, undef, undef, undef, undef, undef, undef, undef, undef, undef, undef, undef, undef, undef, undef, undef, undef, undef, undef, undef, undef, undef, undef, undef, undef, undef, undef, undef], defers := [] }
theorem keeps_below {B : Nat} {W W' : World} (h : Below W.heap.size W W') : KeepsFrom B W W' := ⟨h.size, fun k _ _ hk _ => (h.block k (Array.getElem?_eq_some_iff.1 hk).1).trans hk⟩
theorem Kq.of_below {n0 : Nat} {p : Nat → Prop} {W W' : World} (h : Below W.heap.size W W') (hn : n0 ≤ W.heap.size) : Kq n0 p W W' := ⟨h.size, fun i hi _ => h.block i (by omega)⟩
theorem ApC.more {N : Nat} {g : FuncId} {A : Option Addr} {len c n m : Nat} {sd : List (List UInt8 × Bool)} {W0 W W' : World} (h : ApC N g A len c n m sd W0 W) (k : Below W.heap.size W W') : ApC N g A len c n m sd W0 W' := by
  obtain ⟨v, h1, h2⟩ := h.bs
  exact ⟨(k.block _ h.bn.lt).trans h.bn, (k.block _ h.bm.lt).trans h.bm, (k.block _ h.bp.lt).trans h.bp, (k.block _ h.bf.lt).trans h.bf, ⟨v, (k.block _ h1.lt).trans h1, h2.kept k (Nat.le_refl _)⟩, (k.block _ h.br.lt).trans h.br, (k.block _ h.bo.lt).trans h.bo, h.below.trans (k.mono (Nat.le_of_lt h.bn.lt)), Nat.le_trans h.sz k.size⟩
/-- between two rounds. -/
def ApI (N : Nat) (fin : Nat → Nat → Bool) (g : FuncId) (A : Option Addr) (len c n m : Nat) (L : List (List UInt8)) (W0 : World) (pre : List {i : Nat // i < len}) (W : World) : Prop :=
  noEnd fin (n, m, []) (pre.map fun x => L.getD x.1 []) ∧ ApC N g A len c (runs (n, m, []) (pre.map fun x => L.getD x.1 [])).1 (runs (n, m, []) (pre.map fun x => L.getD x.1 [])).2.1 (runs (n, m, []) (pre.map fun x => L.getD x.1 [])).2.2 W0 W
/-- left at an end. -/
def ApIx (N : Nat) (fin : Nat → Nat → Bool) (A : Option Addr) (len c n m : Nat) (L : List (List UInt8)) (W0 : World) (cd : Code) (pre : List {i : Nat // i < len}) (W : World) : Prop :=
  cd = .ret ∧ ∃ pre0 x, pre = pre0 ++ [x] ∧ noEnd fin (n, m, []) (pre0.map fun x => L.getD x.1 []) ∧ fin (runs (n, m, []) (pre0.map fun x => L.getD x.1 [])).1 (runs (n, m, []) (pre0.map fun x => L.getD x.1 [])).2.1 = true ∧
    ApX N A (x.1 + 1) c (runs (n, m, []) (pre0.map fun x => L.getD x.1 [])).2.2 W0 W
theorem apI_own {N B : Nat} {fin : Nat → Nat → Bool} {g : FuncId} {A : Option Addr} {len c n m : Nat} {L : List (List UInt8)} {W0 : World} (hB : N ≤ B) : OwnFrom B (ApI N fin g A len c n m L W0) := fun s _ _ row hs hg hr =>
  ⟨hs.1, hs.2.grown hg (fun r e => ⟨by have := (hr r e).1; omega, (hr r e).2⟩)⟩
theorem apIx_own {N B : Nat} {fin : Nat → Nat → Bool} {A : Option Addr} {len c n m : Nat} {L : List (List UInt8)} {W0 : World} (hB : N ≤ B) (cd : Code) : OwnFrom B (ApIx N fin A len c n m L W0 cd) := fun s _ _ row ⟨h1, pre0, x, h2, h3, h4, h5⟩ hg hr =>
  ⟨h1, pre0, x, h2, h3, h4, h5.grown hg (fun r e => ⟨by have := (hr r e).1; omega, (hr r e).2⟩)⟩
theorem apA_own {N B len : Nat} {L : List (List UInt8)} {A : Option Addr} {c g n m : Nat} (x : {i : Nat // i < len}) (a' : Act) : OwnFrom B (fun (_ : Unit) W => ApA N len L A c g n m x a' W) := fun _ _ _ _ ⟨Bx, h1, h2, h3⟩ hg hr =>
  ⟨Bx, h1, blk_grown h2 hg (fun r e => (hr r e).2), h3⟩
theorem ownD_tn {p : Nat → Prop} {W W' : World} {N : Nat} {v : Value} {L : List (List UInt8 × Bool)} (h : OwnD W N v L) (k : Tn p W W') (hp : ∀ i, N ≤ i → ¬ p i) : OwnD W' N v L := by
  refine ⟨h.1, h.2.1, ?_⟩
  rcases h.2.2 with hn | ⟨g, cap, cur, rfl, hn, hh, rest⟩
  · exact .inl hn
  · exact .inr ⟨g, cap, cur, rfl, hn, (k.block g (Array.getElem?_eq_some_iff.1 hh).1 (hp g hn)).trans hh, rest⟩
theorem tn_drew (p : Nat → Prop) (W : World) : Tn p W W.drew := ⟨rfl, rfl, rfl, Nat.le_refl _, fun _ _ _ => rfl⟩
theorem lin_build {F : Fence} {n : Nat} {P : Program} {ops : Array Oper} {Q : Exit → Act → World → Prop} (hF : Wide F (n - 1) P) {o : Oper} {rest : List Oper} {a : Act} {w : World} (t : TypeId) (parts : Array (Nat × Operand)) (vs : Array (Nat × Value)) (v : Value)
    (hrun : (Instr.build t vs).run P w = .ok v w) (ho : o.op = .build t parts) (hx : (parts.map fun (i, x) => (i, a.eval x)) = vs) (hgd : o.guard = none)
    (h : wpListIn F n P ops Q rest (a.put o.dst v) w) : wpListIn F n P ops Q (o :: rest) a w :=
  lin_wp hF hgd (fun c hc => by (rw [ho] at hc; cases hc)) fun _ hK => by
    unfold Oper.wp execOp
    simp only [ho, hx, Sem.run_bind, hrun, Result.andThen, Sem.run_pure]
    exact hK _ _ h
theorem lin_buildSl {F : Fence} {n : Nat} {P : Program} {ops : Array Oper} {Q : Exit → Act → World → Prop} (hF : Wide F (n - 1) P) {o : Oper} {rest : List Oper} {a : Act} {w w' : World} (t : TypeId) (k : Nat) (parts : Array (Nat × Operand)) (vs : Array (Nat × Value)) (v : Value)
    (hrun : (Instr.buildSlice t k vs).run P w = .ok v w') (ho : o.op = .buildSlice t k parts) (hx : (parts.map fun (i, x) => (i, a.eval x)) = vs) (hgd : o.guard = none)
    (h : wpListIn F n P ops Q rest (a.put o.dst v) w') : wpListIn F n P ops Q (o :: rest) a w :=
  lin_wp hF hgd (fun c hc => by (rw [ho] at hc; cases hc)) fun _ hK => by
    unfold Oper.wp execOp
    simp only [ho, hx, Sem.run_bind, hrun, Result.andThen, Sem.run_pure]
    exact hK _ _ h
theorem lin_appD {F : Fence} {n : Nat} {ops : Array Oper} {Q : Exit → Act → World → Prop} (hF : Wide F (n - 1) Tryd.prog) {o : Oper} {rest : List Oper} {a : Act} {w : World} (x y : Operand) {N : Nat} {v : Value} {L : List (List UInt8 × Bool)} {s : List UInt8 × Bool} {g c : Nat} (hown : OwnD w N v L) (hs : s.1.length = 32) (hc : w.rangeAt g 0 (sv s))
    (ho : o.op = .call { callee := .builtin .append, args := #[x, y], argTypes := #[39, 39] }) (hx : a.eval x = v) (hy : a.eval y = .slice (some ⟨g, 0, none⟩) 1 c) (hgd : o.guard = none) (hl : L.length + 1 ≤ 1000000000) (hN : N ≤ w.heap.size)
    (h : ∀ v' w', OwnD w' N v' (L ++ [s]) → w.grownBy w' v.ownBlock → wpListIn F n Tryd.prog ops Q rest (a.put o.dst v') w') : wpListIn F n Tryd.prog ops Q (o :: rest) a w :=
  lin_wp hF hgd (fun c hc => by (rw [ho] at hc; cases hc)) fun _ hK => by
    obtain ⟨v', w', hrun, h2, h3⟩ := run_appD (w := w) o.type (c := c) hown hs hc hl hN
    unfold Oper.wp execOp
    simp only [ho, resolve, invoke, builtin, Sem.run_bind, Sem.run_pure, Result.andThen_ok, List.map_toArray, List.map_cons, List.map_nil, hx, hy, hrun]
    exact hK _ _ (h v' w' h2 h3)
theorem BlkIs.rng {w : World} {g : Nat} {t : TypeId} {l : List Value} (h : BlkIs w g t l.toArray) : w.rangeAt g 0 l := fun j v hj => by
  rw [Nat.zero_add]
  exact h.get hj
theorem keeps_app {B N : Nat} {W W' : World} {v : Value} {L : List (List UInt8 × Bool)} (h : OwnD W N v L) (hg : W.grownBy W' v.ownBlock) : KeepsFrom B W W' := ⟨hg.size, fun k o _ hk ho => by
  refine (hg.block k (Array.getElem?_eq_some_iff.1 hk).1 (fun e => ?_)).trans hk
  rcases h.2.2 with ⟨rfl, _⟩ | ⟨g, cap, cur, rfl, _, hh, _⟩
  · simp [Value.ownBlock] at e
  · have e2 : k = g := by simpa [Value.ownBlock] using e
    subst e2
    rw [hh] at hk
    injection hk with hk
    rw [← hk] at ho
    cases ho⟩
theorem Kq.of_low {n0 : Nat} {p : Nat → Prop} {W W' : World} (h : Below n0 W W') : Kq n0 p W W' := ⟨h.size, fun i hi _ => h.block i hi⟩
theorem KeepsFrom.tr {B : Nat} {X Y Z : World} (h : KeepsFrom B X Y) (k : KeepsFrom B Y Z) : KeepsFrom B X Z := h.trans k
theorem apI_next {N : Nat} {fin : Nat → Nat → Bool} {g : FuncId} {A : Option Addr} {len c n m n' m' : Nat} {sd : List (List UInt8 × Bool)} {L : List (List UInt8)} {W0 W : World} {pre : List {i : Nat // i < len}} {x : {i : Nat // i < len}} {sx : List UInt8}
    (hne : noEnd fin (n, m, []) (pre.map fun x => L.getD x.1 [])) (hst : (n', m', sd) = runs (n, m, []) (pre.map fun x => L.getD x.1 [])) (hsx : sx = L.getD x.1 []) (hf : fin n' m' = false)
    (hC : ApC N g A len c (step1 (n', m', sd) sx).1 (step1 (n', m', sd) sx).2.1 (step1 (n', m', sd) sx).2.2 W0 W) : ApI N fin g A len c n m L W0 (pre ++ [x]) W := by
  unfold ApI
  rw [List.map_append, List.map_cons, List.map_nil, runs_snoc, ← hst, ← hsx]
  exact ⟨noEnd_snoc hne (by rw [← hst]; exact hf), hC⟩
theorem ap_grow {N : Nat} {g : FuncId} {A : Option Addr} {len c n m B : Nat} {sd sd5 : List (List UInt8 × Bool)} {W0 W w5 : World} {o : Obj} {v v5 : Value} (hC : ApC N g A len c n m sd W0 W) (hv : BlkIs W (N + 1 + 1 + 1 + 1) 39 #[v]) (hov : OwnD W (N + 8) v sd) (hov5 : OwnD w5 (N + 8) v5 sd5) (hg5 : (W.alloc o).grownBy w5 v.ownBlock) :
    ∃ A5 s5 c5, v5 = .slice A5 s5 c5 ∧ BlkIs w5 N 3 #[.int .i64 (n : Int)] ∧ BlkIs w5 (N + 1) 3 #[.int .i64 (m : Int)] ∧ BlkIs w5 (N + 1 + 1 + 1 + 1) 39 #[v] ∧ Below (N + 8) W w5 ∧ KeepsFrom B W w5 := by
  have hN8 := hC.sz
  have h1 := hov.kept (below1 W o) (Nat.le_refl _)
  have hK5 : Below (N + 8) W w5 := ((below1 W o).mono hN8).trans ((Below.refl (N + 8) (W.alloc o)).grown hg5 (by simp; omega) h1.low)
  obtain ⟨A5, c5, ev5, _, _⟩ := hov5.slice
  exact ⟨A5, _, c5, ev5, (hK5.block _ (by omega)).trans hC.bn, (hK5.block _ (by omega)).trans hC.bm, (hK5.block _ (by omega)).trans hv, hK5, (keeps_below (below1 W o)).trans (keeps_app h1 hg5)⟩
/-- the blocks that a round turns which goes on. -/
def Pc (N i : Nat) : Prop := i = N ∨ i = N + 1 ∨ i = N + 1 + 1 + 1 + 1
theorem ap_done {N : Nat} {g : FuncId} {A : Option Addr} {len c n m n2 m2 B : Nat} {sd sd5 : List (List UInt8 × Bool)} {W0 W w5 X : World} {v5 : Value} (hC : ApC N g A len c n m sd W0 W) (hK5 : Below (N + 8) W w5) (hF5 : KeepsFrom B W w5) (hov5 : OwnD w5 (N + 8) v5 sd5) (hT : Tn (Pc N) w5 X)
    (b0 : BlkIs X N 3 #[.int .i64 (n2 : Int)]) (b1 : BlkIs X (N + 1) 3 #[.int .i64 (m2 : Int)]) (b4 : BlkIs X (N + 1 + 1 + 1 + 1) 39 #[v5]) (hB : B = N + 8) :
    KeepsFrom B W X ∧ Kq B (Pb N) W X ∧ ApC N g A len c n2 m2 sd5 W0 X := by
  subst hB
  have hN8 := hC.sz
  have h5 := hK5.size
  have keep : ∀ {i : Nat} {t : TypeId} {cs : Array Value}, i < N + 8 → ¬ Pc N i → BlkIs W i t cs → BlkIs X i t cs := fun hi hp hb => BlkIs.tn ((hK5.block _ hi).trans hb) hT hp
  refine ⟨hF5.trans (keeps_of_tn hT (fun i hp => by unfold Pc at hp; omega)), (Kq.of_low hK5).trans (Kq.of_tn (hT.mono (fun i _ hp => by unfold Pc at hp; unfold Pb; omega)) (by omega)), b0, b1, keep (by omega) (by unfold Pc; omega) hC.bp, keep (by omega) (by unfold Pc; omega) hC.bf,
    ⟨v5, b4, ownD_tn hov5 hT (fun i hi hp => by unfold Pc at hp; omega)⟩, keep (by omega) (by unfold Pc; omega) hC.br, keep (by omega) (by unfold Pc; omega) hC.bo, (hC.below.trans (hK5.mono (by omega))).trans (hT.below (by omega) (fun i hi hp => by unfold Pc at hp; omega)), Nat.le_trans hN8 (Nat.le_trans h5 hT.size)⟩
theorem downs_sums {len : Nat} {L : List (List UInt8)} (h : L.length = len) : (downs len).map (fun x => L.getD x.1 []) = L.reverse := by
  have e : (downs len).map (fun x => L.getD x.1 []) = ((downs len).map Subtype.val).map (fun i => L.getD i []) := by rw [List.map_map]; rfl
  rw [e, downs_val, List.map_reverse]
  congr 1
  apply List.ext_getElem
  · simp [h]
  · intro i h1 h2
    simp
    rw [List.getElem?_eq_getElem h2]
    rfl
theorem apart_at {fin : Nat → Nat → Bool} {len n m j : Nat} {L : List (List UInt8)} (hlen : L.length = len) (hj : j < len) (hne : noEnd fin (n, m, []) (((downs len).take j).map fun x => L.getD x.1 [])) (hf : fin (runs (n, m, []) (((downs len).take j).map fun x => L.getD x.1 [])).1 (runs (n, m, []) (((downs len).take j).map fun x => L.getD x.1 [])).2.1 = true) :
    apartR fin n m L.reverse = ((runs (n, m, []) (((downs len).take j).map fun x => L.getD x.1 [])).2.2, (L.take (len - j)).reverse, true) := by
  rw [List.map_take, downs_sums hlen] at *
  obtain ⟨e1, e2⟩ := apart_runs fin (L.reverse.take j) (L.reverse.drop j) (n, m, []) hne
  rw [List.take_append_drop] at e1 e2
  have hd : L.reverse.drop j = (L.take (len - j)).reverse := by rw [List.drop_reverse, hlen]
  have hne2 : L.reverse.drop j ≠ [] := by
    intro h
    have := congrArg List.length h
    simp at this
    omega
  obtain ⟨s, r, hsr⟩ := List.exists_cons_of_ne_nil hne2
  have hend := apartR_end hf s r
  rw [← hsr] at hend
  rw [hend] at e1 e2
  rw [hd] at e2
  refine Prod.ext ?_ e2
  simpa using e1
theorem apart_all {fin : Nat → Nat → Bool} {len n m : Nat} {L : List (List UInt8)} (hlen : L.length = len) (hne : noEnd fin (n, m, []) ((downs len).map fun x => L.getD x.1 [])) :
    apartR fin n m L.reverse = ((runs (n, m, []) ((downs len).map fun x => L.getD x.1 [])).2.2, [], fin (runs (n, m, []) ((downs len).map fun x => L.getD x.1 [])).1 (runs (n, m, []) ((downs len).map fun x => L.getD x.1 [])).2.1) := by
  rw [downs_sums hlen] at *
  obtain ⟨e1, e2⟩ := apart_runs fin L.reverse [] (n, m, []) hne
  rw [List.append_nil] at e1 e2
  refine Prod.ext ?_ e2
  simpa [apartR] using e1
/-- what is behind the call, once the loop's record is put away. -/
theorem ap_end {N D : Nat} {W0 W : World} {Av A2 : Option Addr} {sl cv k c : Nat} {b : Bool} {sd : List (List UInt8 × Bool)} {L2 : List (List UInt8)} (hD : N + 8 ≤ D) (hDl : D < W.heap.size) (h4 : BlkIs W (N + 1 + 1 + 1 + 1) 39 #[.slice Av sl cv]) (h5 : BlkIs W (N + 1 + 1 + 1 + 1 + 1) 23 #[.slice A2 k c]) (h6 : BlkIs W (N + 1 + 1 + 1 + 1 + 1 + 1) 4 #[.bool b])
    (hov : OwnD W (N + 8) (.slice Av sl cv) sd) (hK : W.heap[D]? = some (.deferred (some []))) (hb : Below N W0 W) (hs : Hs W N A2 L2) :
    ((W.putObj D (.deferred none)).cell? ⟨N + 1 + 1 + 1 + 1, 0, none⟩ = some (.slice Av sl cv) ∧ (W.putObj D (.deferred none)).cell? ⟨N + 1 + 1 + 1 + 1 + 1, 0, none⟩ = some (.slice A2 k c) ∧ (W.putObj D (.deferred none)).cell? ⟨N + 1 + 1 + 1 + 1 + 1 + 1, 0, none⟩ = some (.bool b)) ∧
    OwnD (W.putObj D (.deferred none)) N (.slice Av sl cv) sd ∧ Hs (W.putObj D (.deferred none)) (W.putObj D (.deferred none)).heap.size A2 L2 ∧ Below N W0 (W.putObj D (.deferred none)) := by
  have hg := grownBy_putObj' W D (.deferred none)
  have hr : ∀ r, some D = some r → ∃ o : Obj, W.heap[r]? = some o ∧ o.isCells = false := fun r e => by
    injection e with e
    subst e
    exact ⟨_, hK, rfl⟩
  have hbn : Below N W (W.putObj D (.deferred none)) := (Below.refl N W).grown hg (by omega) (fun k hk => by injection hk with hk; omega)
  have ho := ownD_grown hov hg hr
  have h4' := blk_grown h4 hg hr
  have h5' := blk_grown h5 hg hr
  have h6' := blk_grown h6 hg hr
  exact ⟨⟨h4'.cell 0, h5'.cell 0, h6'.cell 0⟩, ho.more (by omega), (hs.below hbn).more (by have := hg.size; omega), hb.trans hbn⟩
theorem eight_blocks (w : World) (o0 o1 o2 o3 o4 o5 o6 o7 : Obj) : ∃ W, W = (((((((w.alloc o0).alloc o1).alloc o2).alloc o3).alloc o4).alloc o5).alloc o6).alloc o7 ∧ W.heap[w.heap.size]? = some o0 ∧ W.heap[w.heap.size + 1]? = some o1 ∧ W.heap[w.heap.size + 1 + 1]? = some o2 ∧ W.heap[w.heap.size + 1 + 1 + 1]? = some o3 ∧
    W.heap[w.heap.size + 1 + 1 + 1 + 1]? = some o4 ∧ W.heap[w.heap.size + 1 + 1 + 1 + 1 + 1]? = some o5 ∧ W.heap[w.heap.size + 1 + 1 + 1 + 1 + 1 + 1]? = some o6 ∧ W.heap[w.heap.size + 1 + 1 + 1 + 1 + 1 + 1 + 1]? = some o7 ∧ W.heap.size = w.heap.size + 8 ∧ Below w.heap.size w W := by
  have e : ∀ (w : World) (o : Obj), (w.alloc o).heap = w.heap.push o := fun _ _ => rfl
  refine ⟨_, rfl, ?_, ?_, ?_, ?_, ?_, ?_, ?_, ?_, by simp, ?_⟩
  · simp only [e, Array.getElem?_push, Array.size_push]; repeat (first | rw [if_pos trivial] | rw [if_pos (by omega)] | rw [if_neg (by omega)])
  · simp only [e, Array.getElem?_push, Array.size_push]; repeat (first | rw [if_pos trivial] | rw [if_pos (by omega)] | rw [if_neg (by omega)])
  · simp only [e, Array.getElem?_push, Array.size_push]; repeat (first | rw [if_pos trivial] | rw [if_pos (by omega)] | rw [if_neg (by omega)])
  · simp only [e, Array.getElem?_push, Array.size_push]; repeat (first | rw [if_pos trivial] | rw [if_pos (by omega)] | rw [if_neg (by omega)])
  · simp only [e, Array.getElem?_push, Array.size_push]; repeat (first | rw [if_pos trivial] | rw [if_pos (by omega)] | rw [if_neg (by omega)])
  · simp only [e, Array.getElem?_push, Array.size_push]; repeat (first | rw [if_pos trivial] | rw [if_pos (by omega)] | rw [if_neg (by omega)])
  · simp only [e, Array.getElem?_push, Array.size_push]; repeat (first | rw [if_pos trivial] | rw [if_pos (by omega)] | rw [if_neg (by omega)])
  · simp only [e, Array.getElem?_push, Array.size_push]; repeat (first | rw [if_pos trivial] | rw [if_pos (by omega)] | rw [if_neg (by omega)])
  · exact (((((((below1 w o0).alloc (by simp) o1).alloc (by simp; omega) o2).alloc (by simp; omega) o3).alloc (by simp; omega) o4).alloc (by simp; omega) o5).alloc (by simp; omega) o6).alloc (by simp; omega) o7
set_option maxRecDepth 100000 in
set_option maxHeartbeats 3200000 in
theorem apart_any (g : FuncId) (fin : Nat → Nat → Bool) (eg : ∀ args w, (callFunc g args).run Tryd.prog w = .ok (.enter g args) w)
    (hfin : ∀ n m w, 1 ≤ m → m ≤ n → n ≤ 9223372036854775807 → Calls Tryd.prog g #[.int .i64 (n : Nat), .int .i64 (m : Nat)] w fun e w' => e = .returned (.bool (fin n m)) ∧ w = w') (hf2 : ∀ n m, 1 ≤ m → m ≤ n → fin n m = false → 2 ≤ n)
    (A : Option Addr) (len c n m : Nat) (L : List (List UInt8)) (w : World) (hlen : L.length = len) (h9 : len ≤ 100000) (hc : len ≤ c) (hm : c ≤ maxLen) (h : Hs w w.heap.size A L) (hm1 : 1 ≤ m) (hmn : m ≤ n) (h63 : n ≤ 9223372036854775807) :
    CallsIn Fence.wide 3 Tryd.prog 14 #[.int .i64 n, .int .i64 m, .slice A len c, .func (.func g) #[] #[]] w fun e w' => ∃ v1 A2 len2 c2 L2, e = .returned (.tuple #[v1, .slice A2 len2 c2, .bool (apartR fin n m L.reverse).2.2]) ∧
      OwnD w' w.heap.size v1 (apartR fin n m L.reverse).1 ∧ Hs w' w'.heap.size A2 L2 ∧ L2.length = len2 ∧ len2 ≤ c2 ∧ c2 ≤ maxLen ∧ L2.reverse = (apartR fin n m L.reverse).2.1 ∧ Below w.heap.size w w' := by
  have h1 : 1 ≤ 3 := by omega
  refine callsIn_of_wp_marks Tryd.func14 rfl trivial ?_ rfl
  simp only [Tryd.ntmps14, List.size_toArray, List.length_cons, List.length_nil, Nat.reduceAdd, Nat.reduceSub, Array.replicate_succ, Array.replicate_zero, List.push_toArray, List.append_toArray, List.nil_append, List.cons_append]
  gi_wp2_with fail
  refine ⟨trivial, callsIn_wide.2 ((back_H _ _ _ _).mono ?_)⟩
  rintro e w1 ⟨rfl, e1⟩
  obtain ⟨W1, eW, b0, b1, b2, b3, b4, b5, b6, b7, hsz, hbel⟩ := eight_blocks w (.cells #[.int .i64 (n : Int)] 3) (.cells #[.int .i64 (m : Int)] 3) (.cells #[.slice A len c] 23) (.cells #[.func (.func g) #[] #[]] 38) (.cells #[.slice none 0 0] 39) (.cells #[.slice none 0 0] 23) (.cells #[.bool false] 4) (.cells #[.slice A len c] 23)
  obtain rfl : w1 = W1 := by rw [e1, eW]
  clear e1 eW
  have hC0 : ApC w.heap.size g A len c n m [] w w1 := ⟨b0, b1, b2, b3, ⟨_, b4, OwnD.nil _ _⟩, b5, b6, hbel, by omega⟩
  have hb7 : BlkIs w1 (w.heap.size + 1 + 1 + 1 + 1 + 1 + 1 + 1) 23 #[.slice A len c] := b7
  have c7 := hb7.cell 0
  have hI1 : Hs w1 w.heap.size A L := h.below hbel
  clear b0 b1 b2 b3 b4 b5 b6 b7
  gi_wp2_with fail
  have hl1 : w1.heap.size = w.heap.size + 8 := hsz
  refine wpIn_rangeFunc_ownH rfl h1 (gf := 29) (lb := #[.pointer (some ⟨w.heap.size + 1 + 1 + 1 + 1 + 1 + 1 + 1, 0, none⟩)]) rfl trivial (enters_of Tryd.func29 (by kernel_rfl) rfl)
    (back_stops_H (w.heap.size + 1 + 1 + 1 + 1 + 1 + 1 + 1) w1.heap.size w.heap.size len c (Pb w.heap.size) A L hlen h9 w1 (by omega) (fun h => by (unfold Pb at h; omega)) (Nat.le_refl _) (by omega) (fun i hi h => by (unfold Pb at h; omega)) c7 hI1) Kq.trans (Kq.book (Nat.le_refl _)) (Below.refl _ _) (fun _ => rfl)
    (ApI w.heap.size fin g A len c n m L w) (ApIx w.heap.size fin A len c n m L w) (apI_own (by omega)) (apIx_own (by omega)) ⟨noEnd_nil _ _, hC0⟩
    (ApA w.heap.size len L A c g n m) apA_own ?assign ?body ?done ?stop
  case assign =>
    intro l pre x W K hi hK
    have hx32 := h.1.getD (k := x.1) (by rw [hlen]; exact x.2)
    have hlt := hi.2.sz
    have hZ : (bv (List.replicate 32 0)).toArray.size = (bv (L.getD x.1 [])).toArray.size := by rw [List.size_toArray, List.size_toArray, bv_length, bv_length, hx32]; rfl
    dsimp only [encH]
    obtain ⟨sx, hsx⟩ : ∃ sx, sx = L.getD x.1 [] := ⟨_, rfl⟩
    rw [← hsx] at hx32 hZ ⊢
    have HSX := Lib.hid hsx
    have HX := Lib.hid hx32
    have HZ := Lib.hid hZ
    clear hsx hx32 hZ
    gi_wp2_with (first
      | (refine lin_store (Wide.round _ _ _) (.tmp 12) (.tmp 18) 22 W.heap.size 22 _ (bv sx).toArray (BlkIs.new W _ _) rfl rfl rfl rfl rfl (isz26a HX.out) HZ.out (bv_all _) ?_; intro w4 hb4 ht4)
      | fail)
    have hb : Below W.heap.size W w4 := (below1 W _).trans (ht4.below (by simp) (fun i hi h => by omega))
    exact hK _ _ (keeps_below hb) (Kq.of_below hb (by omega)) ⟨hi.1, hi.2.more hb⟩ ⟨W.heap.size, by omega, by rw [← HSX.out]; exact hb4, by rw [← HSX.out]⟩
  case body =>
    rintro l pre x a' W _ ⟨r, hr⟩ ⟨hne, hC⟩ ⟨Bx, hBx, bX, rfl⟩ hlt
    obtain ⟨st, hst⟩ : ∃ st, st = runs (n, m, []) (pre.map fun x => L.getD x.1 []) := ⟨_, rfl⟩
    obtain ⟨i1, i2, i3⟩ := runs_in fin hf2 (pre.map fun x => L.getD x.1 []) (n, m, []) hm1 hmn hne
    have hsl := runs_sides (pre.map fun x => L.getD x.1 []) (n, m, [])
    have hx32 := h.1.getD (k := x.1) (by rw [hlen]; exact x.2)
    have hsd := (hsl.2 (fun _ h => by cases h) (fun y hy => by
      rw [List.mem_map] at hy
      obtain ⟨z, _, rfl⟩ := hy
      exact h.1.getD (by rw [hlen]; exact z.2)))
    have hsl1 := hsl.1
    rw [List.length_map] at hsl1
    rw [← hst] at hC i1 i2 i3 hsl1 hsd
    obtain ⟨n', m', sd⟩ := st
    dsimp only at hC i1 i2 i3 hsl1 hsd
    have HST := Lib.hid hst
    have HNE := Lib.hid hne
    obtain ⟨xi, hxi⟩ := x
    dsimp only at *
    obtain ⟨sx, hsx⟩ : ∃ sx, sx = L.getD xi [] := ⟨_, rfl⟩
    rw [← hsx] at hx32 bX ⊢
    have HSX := Lib.hid hsx
    have HX := Lib.hid hx32
    have hff := hfin n' m'
    obtain ⟨v, hv, hov⟩ := hC.bs
    obtain ⟨Av, cv, ev, _, _⟩ := hov.slice
    obtain ⟨sl, hsl2⟩ : ∃ sl, sl = sd.length := ⟨_, rfl⟩
    rw [← hsl2] at ev hsl1
    subst ev
    have HSL := Lib.hid hsl2
    have hsl9 : sl ≤ 100000 := by (simp at hsl1; omega)
    clear hsl2 hsl1
    have hN8 := hC.sz
    have HC := Lib.hid hC
    have c0 := hC.bn.cell 0
    have c1 := hC.bm.cell 0
    have c2 := hC.bp.cell 0
    have c3 := hC.bf.cell 0
    have c4 := hv.cell 0
    have c5 := hC.br.cell 0
    have c6 := hC.bo.cell 0
    have z0 := hC.bn.froz 0
    have z1 := hC.bm.froz 0
    have z4 := hv.froz 0
    have z5 := hC.br.froz 0
    have z6 := hC.bo.froz 0
    clear hst hne hsx hx32 hsl hC
    cases hf : fin n' m'
    · rw [hf] at hff
      have h2 := hf2 n' m' i1 i2 hf
      obtain ⟨k, hk⟩ : ∃ k, k = spl n' := ⟨_, rfl⟩
      have hk1 : 1 ≤ k := by rw [hk]; exact spl_pos n'
      have hkn : k < n' := by rw [hk]; exact spl_lt h2
      have HCUT : Hid (∀ w, Calls Tryd.prog 19 #[.int .i64 n'] w fun e w' => e = .returned (.int .i64 k) ∧ w = w') := Lib.hid fun w => by rw [hk]; exact cut_any n' w h2 (by omega)
      have hbx := BlkIs.sum bX
      have HK := Lib.hid hk
      have hsd1 : sl + 1 ≤ 1000000000 := by omega
      clear hk
      by_cases hkm : k < m'
      · have hkm1 : (k : Int) < (m' : Int) := by omega
        have hstep : Hid (step1 (n', m', sd) sx = (n' - k, m' - k, sd ++ [(sx, true)])) := Lib.hid (by unfold step1; rw [← HK.out, if_pos hkm])
        gi_wp2_with (first
          | (refine ⟨trivial, CallsIn.inRound l (callsIn_wide.2 ((hff _ i1 i2 (by omega)).mono ?_))⟩; rintro e w' ⟨rfl, rfl⟩)
          | (refine ⟨trivial, CallsIn.inRound l (callsIn_wide.2 ((HCUT.out _).mono ?_))⟩; rintro e w' ⟨rfl, rfl⟩)
          | (refine lin_load_mid (Wide.round _ _ _) rfl 22 (.tmp 12) rfl Bx 0 rfl (bv sx) _ hbx Tryd.underlying22 rfl (isz26s HX.out) ?_)
          | (refine lin_build (Wide.round _ _ _) 46 #[(0, .tmp 34), (1, .tmp 35)] #[(0, .agg (bv sx).toArray), (1, .bool true)] _ (run_build56 true HX.out _) rfl (by simp only [List.map_toArray, List.map_cons, List.map_nil]; rfl) rfl ?_)
          | (refine lin_buildSl (Wide.round _ _ _) 39 1 #[(0, .tmp 36)] #[(0, .agg (sv (sx, true)).toArray)] _ (run_buildD1 (s := (sx, true)) HX.out _) rfl (by simp only [List.map_toArray, List.map_cons, List.map_nil]; rfl) rfl ?_)
          | (refine lin_appD (Wide.round _ _ _) (.tmp 33) (.tmp 37) (s := (sx, true)) (hov.kept (below1 W _) (Nat.le_refl _)) HX.out (BlkIs.new W _ _).rng rfl rfl rfl rfl (by rw [← HSL.out]; exact hsd1) (by simp; omega) ?_; intro v5 w5 hov5 hg5; obtain ⟨A5, s5, c5, rfl, y0, y1, y4, hK5, hF5⟩ := ap_grow (B := w1.heap.size) HC.out hv hov hov5 hg5; have yc0 := y0.cell 0; have yc1 := y1.cell 0; have yc4 := y4.cell 0; have yz0 := y0.froz 0; have yz1 := y1.froz 0; have yz4 := y4.froz 0; clear hg5 hff HCUT)
          | fail)
        have d4 : BlkIs (w5.setCell ⟨w.heap.size + 1 + 1 + 1 + 1, 0, none⟩ (.slice A5 s5 c5)).drew (w.heap.size + 1 + 1 + 1 + 1) 39 #[.slice A5 s5 c5] := (Alk.drew _).blk (y4.put 0 (.slice A5 s5 c5))
        have d0 : BlkIs (w5.setCell ⟨w.heap.size + 1 + 1 + 1 + 1, 0, none⟩ (.slice A5 s5 c5)).drew (w.heap.size) 3 #[.int .i64 (n' : Int)] := (Alk.drew _).blk (y0.far (x := ⟨w.heap.size + 1 + 1 + 1 + 1, 0, none⟩) (by show w.heap.size ≠ w.heap.size + 1 + 1 + 1 + 1; omega) _)
        have d1 : BlkIs (w5.setCell ⟨w.heap.size + 1 + 1 + 1 + 1, 0, none⟩ (.slice A5 s5 c5)).drew (w.heap.size + 1) 3 #[.int .i64 (m' : Int)] := (Alk.drew _).blk (y1.far (x := ⟨w.heap.size + 1 + 1 + 1 + 1, 0, none⟩) (by show w.heap.size + 1 ≠ w.heap.size + 1 + 1 + 1 + 1; omega) _)
        have tD : Tn (Pc w.heap.size) w5 (w5.setCell ⟨w.heap.size + 1 + 1 + 1 + 1, 0, none⟩ (.slice A5 s5 c5)).drew := ((Tn.refl (Pc w.heap.size) w5).setCell (x := ⟨w.heap.size + 1 + 1 + 1 + 1, 0, none⟩) (.inl (.inr (.inr rfl))) _).trans (tn_drew _ _)
        refine regionIn_held_drew (S := (fun _ => True)) (Wide.round _ _ _) (by kernel_rfl) (by kernel_rfl) (trivial) (fun hHeld => ?_)
        generalize (w5.setCell ⟨w.heap.size + 1 + 1 + 1 + 1, 0, none⟩ (.slice A5 s5 c5)).drew = X at *
        have es1 : IntKind.i64.wrap ((n' : Int) - (k : Int)) = (n' : Int) - (k : Int) := IntWalk.i64_in _ (by omega)
        have es2 : IntKind.i64.wrap ((m' : Int) - (k : Int)) = (m' : Int) - (k : Int) := IntWalk.i64_in _ (by omega)
        have x0 := d0.cell 0
        have x1 := d1.cell 0
        have xz0 := d0.froz 0
        have xz1 := d1.froz 0
        have f0 := d0.put 0 (.int .i64 ((n' : Int) - (k : Int)))
        have f1 := d1.far (x := ⟨w.heap.size, 0, none⟩) (by show w.heap.size + 1 ≠ w.heap.size; omega) (.int .i64 ((n' : Int) - (k : Int)))
        have fx1 := f1.cell 0
        have fz1 := f1.froz 0
        have FIN : Hid (KeepsFrom w1.heap.size W ((X.setCell ⟨w.heap.size, 0, none⟩ (.int .i64 ((n' : Int) - (k : Int)))).setCell ⟨w.heap.size + 1, 0, none⟩ (.int .i64 ((m' : Int) - (k : Int)))) ∧ Kq w1.heap.size (Pb w.heap.size) W ((X.setCell ⟨w.heap.size, 0, none⟩ (.int .i64 ((n' : Int) - (k : Int)))).setCell ⟨w.heap.size + 1, 0, none⟩ (.int .i64 ((m' : Int) - (k : Int)))) ∧
            ApI w.heap.size fin g A len c n m L w (pre ++ [⟨xi, hxi⟩]) ((X.setCell ⟨w.heap.size, 0, none⟩ (.int .i64 ((n' : Int) - (k : Int)))).setCell ⟨w.heap.size + 1, 0, none⟩ (.int .i64 ((m' : Int) - (k : Int))))) := Lib.hid (by
          have g0 := f0.far (x := ⟨w.heap.size + 1, 0, none⟩) (by show w.heap.size ≠ w.heap.size + 1; omega) (.int .i64 ((m' : Int) - (k : Int)))
          have g1 := f1.put 0 (.int .i64 ((m' : Int) - (k : Int)))
          have g4 := (d4.far (x := ⟨w.heap.size, 0, none⟩) (by show w.heap.size + 1 + 1 + 1 + 1 ≠ w.heap.size; omega) (.int .i64 ((n' : Int) - (k : Int)))).far (x := ⟨w.heap.size + 1, 0, none⟩) (by show w.heap.size + 1 + 1 + 1 + 1 ≠ w.heap.size + 1; omega) (.int .i64 ((m' : Int) - (k : Int)))
          have hT := (tD.setCell (x := ⟨w.heap.size, 0, none⟩) (.inl (.inl rfl)) (.int .i64 ((n' : Int) - (k : Int)))).setCell (x := ⟨w.heap.size + 1, 0, none⟩) (.inl (.inr (.inl rfl))) (.int .i64 ((m' : Int) - (k : Int)))
          have e1 : (n' : Int) - (k : Int) = ((n' - k : Nat) : Int) := by omega
          have e2 : (m' : Int) - (k : Int) = ((m' - k : Nat) : Int) := by omega
          obtain ⟨q1, q2, q3⟩ := ap_done (n2 := n' - k) (m2 := m' - k) HC.out hK5 hF5 hov5 hT (by rw [← e1]; simpa using g0) (by rw [← e2]; simpa using g1) (by simpa using g4) hl1
          exact ⟨q1, q2, apI_next HNE.out HST.out HSX.out hf (by rw [hstep.out]; exact q3)⟩)
        clear d4 d0 d1 tD f0 f1 hov5 hK5 hF5 y0 y1 y4 yc0 yc1 yc4 yz0 yz1 yz4
        refine wpAnyH_take (i := 1) (v := .int .i64 k) rfl (by kernel_rfl) (by kernel_rfl) (by kernel_rfl) (fun _ _ _ h => h) (Or.inl ⟨by rfl, fun w hS => by first | (go_simp; done) | (go_simp; with_reducible rfl)⟩) hHeld ?_
        try simp only [Act.put, List.getElem_toArray, List.getElem_cons_zero, List.getElem_cons_succ, List.setIfInBounds_toArray, List.set_cons_zero, List.set_cons_succ]
        refine wpAnyH_take (i := 4) (v := .int .i64 k) rfl (by kernel_rfl) (by kernel_rfl) (by kernel_rfl) (fun _ _ _ h => h) (Or.inl ⟨by rfl, fun w hS => by first | (go_simp; done) | (go_simp; with_reducible rfl)⟩) hHeld ?_
        try simp only [Act.put, List.getElem_toArray, List.getElem_cons_zero, List.getElem_cons_succ, List.setIfInBounds_toArray, List.set_cons_zero, List.set_cons_succ]
        refine wpAnyH_ready (rs := [0, 3]) (by kernel_rfl) (by simp) ?_
        refine AllReadyH.cons rfl (fun K hK => ?_) (AllReadyH.cons rfl (fun K hK => ?_) AllReadyH.nil)
        go_simp
        refine hK.out _ _ ?_ (fun hHeld => ?_)
        · trivial
        clear hK K
        try simp only [Act.put, List.getElem_toArray, List.getElem_cons_zero, List.getElem_cons_succ, List.setIfInBounds_toArray, List.set_cons_zero, List.set_cons_succ]
        refine wpAnyH_take (i := 2) (v := .int .i64 ((n' : Int) - (k : Int))) rfl (by kernel_rfl) (by kernel_rfl) (by kernel_rfl) (fun _ _ _ h => h) (Or.inl ⟨by rfl, fun w hS => by first | (go_simp; done) | (go_simp; with_reducible rfl)⟩) hHeld ?_
        try simp only [Act.put, List.getElem_toArray, List.getElem_cons_zero, List.getElem_cons_succ, List.setIfInBounds_toArray, List.set_cons_zero, List.set_cons_succ]
        refine wpAnyH_ready (rs := [3, 6]) (by kernel_rfl) (by simp) ?_
        refine AllReadyH.cons rfl (fun K hK => ?_) (AllReadyH.cons rfl (fun K hK => ?_) AllReadyH.nil)
        go_simp
        refine hK.out _ _ ?_ (fun hHeld => ?_)
        · trivial
        clear hK K
        try simp only [Act.put, List.getElem_toArray, List.getElem_cons_zero, List.getElem_cons_succ, List.setIfInBounds_toArray, List.set_cons_zero, List.set_cons_succ]
        refine wpAnyH_take (i := 5) (v := .int .i64 ((m' : Int) - (k : Int))) rfl (by kernel_rfl) (by kernel_rfl) (by kernel_rfl) (fun _ _ _ h => h) (Or.inl ⟨by rfl, fun w hS => by first | (go_simp; done) | (go_simp; with_reducible rfl)⟩) hHeld ?_
        try simp only [Act.put, List.getElem_toArray, List.getElem_cons_zero, List.getElem_cons_succ, List.setIfInBounds_toArray, List.set_cons_zero, List.set_cons_succ]
        refine wpAnyH_ready (rs := [6]) (by kernel_rfl) (by simp) ?_
        refine AllReadyH.cons rfl (fun K hK => ?_) AllReadyH.nil
        go_simp
        refine hK.out _ _ ?_ (fun hHeld => ?_)
        · trivial
        clear hK K
        try simp only [Act.put, List.getElem_toArray, List.getElem_cons_zero, List.getElem_cons_succ, List.setIfInBounds_toArray, List.set_cons_zero, List.set_cons_succ]
        refine wpAnyH_ready (rs := [7]) (by kernel_rfl) (by simp) ?_
        refine AllReadyH.cons rfl (fun K hK => ?_) AllReadyH.nil
        go_simp
        refine hK.out _ _ ?_ (fun hHeld => ?_)
        · trivial
        clear hK K
        try simp only [Act.put, List.getElem_toArray, List.getElem_cons_zero, List.getElem_cons_succ, List.setIfInBounds_toArray, List.set_cons_zero, List.set_cons_succ]
        refine wpAnyH_done (by kernel_rfl) (NormalAt.mk ?_) _
        gi_wp2_with fail
        rotate_left
        go_simp
        refine hK.out _ _ ?_ (fun hHeld => ?_)
        · trivial
        clear hK K
        try simp only [Act.put, List.getElem_toArray, List.getElem_cons_zero, List.getElem_cons_succ, List.setIfInBounds_toArray, List.set_cons_zero, List.set_cons_succ]
        refine wpAnyH_ready (rs := [3]) (by kernel_rfl) (by simp) ?_
        refine AllReadyH.cons rfl (fun K hK => ?_) AllReadyH.nil
        go_simp
        refine hK.out _ _ ?_ (fun hHeld => ?_)
        · trivial
        clear hK K
        try simp only [Act.put, List.getElem_toArray, List.getElem_cons_zero, List.getElem_cons_succ, List.setIfInBounds_toArray, List.set_cons_zero, List.set_cons_succ]
        refine wpAnyH_take (i := 5) (v := .int .i64 ((m' : Int) - (k : Int))) rfl (by kernel_rfl) (by kernel_rfl) (by kernel_rfl) (fun _ _ _ h => h) (Or.inl ⟨by rfl, fun w hS => by first | (go_simp; done) | (go_simp; with_reducible rfl)⟩) hHeld ?_
        try simp only [Act.put, List.getElem_toArray, List.getElem_cons_zero, List.getElem_cons_succ, List.setIfInBounds_toArray, List.set_cons_zero, List.set_cons_succ]
        refine wpAnyH_ready (rs := [7]) (by kernel_rfl) (by simp) ?_
        refine AllReadyH.cons rfl (fun K hK => ?_) AllReadyH.nil
        go_simp
        refine hK.out _ _ ?_ (fun hHeld => ?_)
        · trivial
        clear hK K
        try simp only [Act.put, List.getElem_toArray, List.getElem_cons_zero, List.getElem_cons_succ, List.setIfInBounds_toArray, List.set_cons_zero, List.set_cons_succ]
        refine wpAnyH_done (by kernel_rfl) (NormalAt.mk ?_) _
        gi_wp2_with fail
        rotate_left
        go_simp
        refine hK.out _ _ ?_ (fun hHeld => ?_)
        · trivial
        clear hK K
        try simp only [Act.put, List.getElem_toArray, List.getElem_cons_zero, List.getElem_cons_succ, List.setIfInBounds_toArray, List.set_cons_zero, List.set_cons_succ]
        refine wpAnyH_take (i := 5) (v := .int .i64 ((m' : Int) - (k : Int))) rfl (by kernel_rfl) (by kernel_rfl) (by kernel_rfl) (fun _ _ _ h => h) (Or.inl ⟨by rfl, fun w hS => by first | (go_simp; done) | (go_simp; with_reducible rfl)⟩) hHeld ?_
        try simp only [Act.put, List.getElem_toArray, List.getElem_cons_zero, List.getElem_cons_succ, List.setIfInBounds_toArray, List.set_cons_zero, List.set_cons_succ]
        refine wpAnyH_ready (rs := [0]) (by kernel_rfl) (by simp) ?_
        refine AllReadyH.cons rfl (fun K hK => ?_) AllReadyH.nil
        go_simp
        refine hK.out _ _ ?_ (fun hHeld => ?_)
        · trivial
        clear hK K
        try simp only [Act.put, List.getElem_toArray, List.getElem_cons_zero, List.setIfInBounds_toArray, List.set_cons_zero, List.set_cons_succ]
        refine wpAnyH_take (i := 2) (v := .int .i64 ((n' : Int) - (k : Int))) rfl (by kernel_rfl) (by kernel_rfl) (by kernel_rfl) (fun _ _ _ h => h) (Or.inl ⟨by rfl, fun w hS => by first | (go_simp; done) | (go_simp; with_reducible rfl)⟩) hHeld ?_
        try simp only [Act.put, List.getElem_toArray, List.getElem_cons_zero, List.getElem_cons_succ, List.setIfInBounds_toArray, List.set_cons_zero, List.set_cons_succ]
        refine wpAnyH_ready (rs := [6]) (by kernel_rfl) (by simp) ?_
        refine AllReadyH.cons rfl (fun K hK => ?_) AllReadyH.nil
        go_simp
        refine hK.out _ _ ?_ (fun hHeld => ?_)
        · trivial
        clear hK K
        try simp only [Act.put, List.getElem_toArray, List.getElem_cons_zero, List.getElem_cons_succ, List.setIfInBounds_toArray, List.set_cons_zero, List.set_cons_succ]
        refine wpAnyH_ready (rs := [7]) (by kernel_rfl) (by simp) ?_
        refine AllReadyH.cons rfl (fun K hK => ?_) AllReadyH.nil
        go_simp
        refine hK.out _ _ ?_ (fun hHeld => ?_)
        · trivial
        clear hK K
        try simp only [Act.put, List.getElem_toArray, List.getElem_cons_zero, List.getElem_cons_succ, List.setIfInBounds_toArray, List.set_cons_zero, List.set_cons_succ]
        refine wpAnyH_done (by kernel_rfl) (NormalAt.mk ?_) _
        gi_wp2_with fail
        all_goals exact FIN.out
      · have hkm1 : ¬ (k : Int) < (m' : Int) := by omega
        have hstep : Hid (step1 (n', m', sd) sx = (k, m', sd ++ [(sx, false)])) := Lib.hid (by unfold step1; rw [← HK.out, if_neg hkm])
        gi_wp2_with (first
          | (refine ⟨trivial, CallsIn.inRound l (callsIn_wide.2 ((hff _ i1 i2 (by omega)).mono ?_))⟩; rintro e w' ⟨rfl, rfl⟩)
          | (refine ⟨trivial, CallsIn.inRound l (callsIn_wide.2 ((HCUT.out _).mono ?_))⟩; rintro e w' ⟨rfl, rfl⟩)
          | (refine lin_load_mid (Wide.round _ _ _) rfl 22 (.tmp 12) rfl Bx 0 rfl (bv sx) _ hbx Tryd.underlying22 rfl (isz26s HX.out) ?_)
          | (refine lin_build (Wide.round _ _ _) 46 #[(0, .tmp 34), (1, .tmp 35)] #[(0, .agg (bv sx).toArray), (1, .bool false)] _ (run_build56 false HX.out _) rfl (by simp only [List.map_toArray, List.map_cons, List.map_nil]; rfl) rfl ?_)
          | (refine lin_buildSl (Wide.round _ _ _) 39 1 #[(0, .tmp 36)] #[(0, .agg (sv (sx, false)).toArray)] _ (run_buildD1 (s := (sx, false)) HX.out _) rfl (by simp only [List.map_toArray, List.map_cons, List.map_nil]; rfl) rfl ?_)
          | (refine lin_appD (Wide.round _ _ _) (.tmp 33) (.tmp 37) (s := (sx, false)) (hov.kept (below1 W _) (Nat.le_refl _)) HX.out (BlkIs.new W _ _).rng rfl rfl rfl rfl (by rw [← HSL.out]; exact hsd1) (by simp; omega) ?_; intro v5 w5 hov5 hg5; obtain ⟨A5, s5, c5, rfl, y0, y1, y4, hK5, hF5⟩ := ap_grow (B := w1.heap.size) HC.out hv hov hov5 hg5; have yc0 := y0.cell 0; have yc1 := y1.cell 0; have yc4 := y4.cell 0; have yz0 := y0.froz 0; have yz1 := y1.froz 0; have yz4 := y4.froz 0; clear hg5 hff HCUT)
          | fail)
        have g4 := (y4.put 0 (.slice A5 s5 c5)).far (x := ⟨w.heap.size, 0, none⟩) (by show w.heap.size + 1 + 1 + 1 + 1 ≠ w.heap.size; omega) (.int .i64 (k : Int))
        have g0 := (y0.far (x := ⟨w.heap.size + 1 + 1 + 1 + 1, 0, none⟩) (by show w.heap.size ≠ w.heap.size + 1 + 1 + 1 + 1; omega) (.slice A5 s5 c5)).put 0 (.int .i64 (k : Int))
        have g1 := (y1.far (x := ⟨w.heap.size + 1 + 1 + 1 + 1, 0, none⟩) (by show w.heap.size + 1 ≠ w.heap.size + 1 + 1 + 1 + 1; omega) (.slice A5 s5 c5)).far (x := ⟨w.heap.size, 0, none⟩) (by show w.heap.size + 1 ≠ w.heap.size; omega) (.int .i64 (k : Int))
        have hT := ((Tn.refl (Pc w.heap.size) w5).setCell (x := ⟨w.heap.size + 1 + 1 + 1 + 1, 0, none⟩) (.inl (.inr (.inr rfl))) (.slice A5 s5 c5)).setCell (x := ⟨w.heap.size, 0, none⟩) (.inl (.inl rfl)) (.int .i64 (k : Int))
        obtain ⟨q1, q2, q3⟩ := ap_done (n2 := k) (m2 := m') HC.out hK5 hF5 hov5 hT (by simpa using g0) (by simpa using g1) (by simpa using g4) hl1
        exact ⟨q1, q2, apI_next HNE.out HST.out HSX.out hf (by rw [hstep.out]; exact q3)⟩
    · rw [hf] at hff
      gi_wp2_with (first
        | (refine ⟨trivial, CallsIn.inRound l (callsIn_wide.2 ((hff _ i1 i2 (by omega)).mono ?_))⟩; rintro e w' ⟨rfl, rfl⟩)
        | fail)
      have hxl : xi + 1 ≤ len := by omega
      have exi : IntKind.i64.wrap ((xi : Int) + 1) = (xi : Int) + 1 := IntWalk.i64_in _ (by omega)
      have hlo : ∀ w', (Instr.slice 23 (.slice A len c) none (some (.int .i64 ((xi : Int) + 1))) none).run Tryd.prog w' = .ok (.slice A (xi + 1) c) w' := fun w' => by
        have := cutH_lo A len c (xi + 1) hxl hc w'
        simpa using this
      have d4 : BlkIs W.drew (w.heap.size + 1 + 1 + 1 + 1) 39 #[(Value.slice Av sl cv)] := (Alk.drew W).blk hv
      have d2 : BlkIs W.drew (w.heap.size + 1 + 1) 23 #[.slice A len c] := (Alk.drew W).blk HC.out.bp
      have d5 : BlkIs W.drew (w.heap.size + 1 + 1 + 1 + 1 + 1) 23 #[.slice none 0 0] := (Alk.drew W).blk HC.out.br
      have d6 : BlkIs W.drew (w.heap.size + 1 + 1 + 1 + 1 + 1 + 1) 4 #[.bool false] := (Alk.drew W).blk HC.out.bo
      have tD : Tn (Pb w.heap.size) W W.drew := tn_drew _ W
      have c24 := d2.cell 0
      have c44 := d4.cell 0
      refine regionIn_held_drew (S := (fun W' => W'.cell? ⟨w.heap.size + 1 + 1 + 1 + 1, 0, none⟩ = some (Value.slice Av sl cv) ∧ W'.cell? ⟨w.heap.size + 1 + 1, 0, none⟩ = some (.slice A len c))) (Wide.round _ _ _) (by kernel_rfl) (by kernel_rfl) (⟨c44, c24⟩) (fun hHeld => ?_)
      generalize W.drew = X at *
      refine wpAnyH_take (i := 0) (v := (Value.slice Av sl cv)) rfl (by kernel_rfl) (by kernel_rfl) (by kernel_rfl) (fun _ _ _ h => h) (Or.inl ⟨by rfl, fun w hS => by (have hc1 := hS.1; have hc2 := hS.2; first | (go_simp; done) | (go_simp; with_reducible rfl))⟩) hHeld ?_
      try simp only [Act.put, List.getElem_toArray, List.getElem_cons_zero, List.setIfInBounds_toArray, List.set_cons_zero, List.set_cons_succ]
      refine wpAnyH_take (i := 1) (v := .slice A len c) rfl (by kernel_rfl) (by kernel_rfl) (by kernel_rfl) (fun _ _ _ h => h) (Or.inl ⟨by rfl, fun w hS => by (have hc1 := hS.1; have hc2 := hS.2; first | (go_simp; done) | (go_simp; with_reducible rfl))⟩) hHeld ?_
      try simp only [Act.put, List.getElem_toArray, List.getElem_cons_zero, List.getElem_cons_succ, List.setIfInBounds_toArray, List.set_cons_zero, List.set_cons_succ]
      refine wpAnyH_take (i := 2) (v := .int .i64 xi) rfl (by kernel_rfl) (by kernel_rfl) (by kernel_rfl) (fun _ _ _ h => h) (Or.inl ⟨by rfl, fun w hS => by first | (go_simp; done) | (go_simp; with_reducible rfl)⟩) hHeld ?_
      try simp only [Act.put, List.getElem_toArray, List.getElem_cons_zero, List.getElem_cons_succ, List.setIfInBounds_toArray, List.set_cons_zero, List.set_cons_succ]
      refine wpAnyH_take (i := 3) (v := .int .i64 ((xi : Int) + 1)) rfl (by kernel_rfl) (by kernel_rfl) (by kernel_rfl) (fun _ _ _ h => h) (Or.inl ⟨by rfl, fun w hS => by first | (go_simp; done) | (go_simp; with_reducible rfl)⟩) hHeld ?_
      try simp only [Act.put, List.getElem_toArray, List.getElem_cons_zero, List.getElem_cons_succ, List.setIfInBounds_toArray, List.set_cons_zero, List.set_cons_succ]
      refine wpAnyH_take (i := 4) (v := .slice A (xi + 1) c) rfl (by kernel_rfl) (by kernel_rfl) (by kernel_rfl) (fun _ _ _ h => h) (Or.inl ⟨by rfl, fun w hS => by first | (go_simp; done) | (go_simp; with_reducible rfl)⟩) hHeld ?_
      try simp only [Act.put, List.getElem_toArray, List.getElem_cons_zero, List.getElem_cons_succ, List.setIfInBounds_toArray, List.set_cons_zero, List.set_cons_succ]
      have zz4 := d4.froz 0
      have e4 := d4.put 0 (Value.slice Av sl cv)
      have e2 := d2.far (x := ⟨w.heap.size + 1 + 1 + 1 + 1, 0, none⟩) (by show w.heap.size + 1 + 1 ≠ w.heap.size + 1 + 1 + 1 + 1; omega) (Value.slice Av sl cv)
      have e5 := d5.far (x := ⟨w.heap.size + 1 + 1 + 1 + 1, 0, none⟩) (by show w.heap.size + 1 + 1 + 1 + 1 + 1 ≠ w.heap.size + 1 + 1 + 1 + 1; omega) (Value.slice Av sl cv)
      have e6 := d6.far (x := ⟨w.heap.size + 1 + 1 + 1 + 1, 0, none⟩) (by show w.heap.size + 1 + 1 + 1 + 1 + 1 + 1 ≠ w.heap.size + 1 + 1 + 1 + 1; omega) (Value.slice Av sl cv)
      have t4 := tD.setCell (x := ⟨w.heap.size + 1 + 1 + 1 + 1, 0, none⟩) (.inl (by unfold Pb; show w.heap.size ≤ w.heap.size + 1 + 1 + 1 + 1 ∧ w.heap.size + 1 + 1 + 1 + 1 < w.heap.size + 7; omega)) (Value.slice Av sl cv)
      refine wpAnyH_ready (rs := [5]) (by kernel_rfl) (by simp) ?_
      refine AllReadyH.cons rfl (fun K hK => ?_) AllReadyH.nil
      go_simp
      refine hK.out _ _ ?_ (fun hHeld => ?_)
      · exact ⟨e4.cell 0, e2.cell 0⟩
      clear hK K
      try simp only [Act.put, List.getElem_toArray, List.getElem_cons_zero, List.getElem_cons_succ, List.setIfInBounds_toArray, List.set_cons_zero, List.set_cons_succ]
      clear d2 d4 d5 d6 zz4 tD c24 c44
      generalize X.setCell ⟨w.heap.size + 1 + 1 + 1 + 1, 0, none⟩ (Value.slice Av sl cv) = X4 at *
      have zz5 := e5.froz 0
      have cc5 := e5.cell 0
      have f5 := e5.put 0 (.slice A (xi + 1) c)
      have f2 := e2.far (x := ⟨w.heap.size + 1 + 1 + 1 + 1 + 1, 0, none⟩) (by show w.heap.size + 1 + 1 ≠ w.heap.size + 1 + 1 + 1 + 1 + 1; omega) (.slice A (xi + 1) c)
      have f4 := e4.far (x := ⟨w.heap.size + 1 + 1 + 1 + 1 + 1, 0, none⟩) (by show w.heap.size + 1 + 1 + 1 + 1 ≠ w.heap.size + 1 + 1 + 1 + 1 + 1; omega) (.slice A (xi + 1) c)
      have f6 := e6.far (x := ⟨w.heap.size + 1 + 1 + 1 + 1 + 1, 0, none⟩) (by show w.heap.size + 1 + 1 + 1 + 1 + 1 + 1 ≠ w.heap.size + 1 + 1 + 1 + 1 + 1; omega) (.slice A (xi + 1) c)
      have t5 := t4.setCell (x := ⟨w.heap.size + 1 + 1 + 1 + 1 + 1, 0, none⟩) (.inl (by unfold Pb; show w.heap.size ≤ w.heap.size + 1 + 1 + 1 + 1 + 1 ∧ w.heap.size + 1 + 1 + 1 + 1 + 1 < w.heap.size + 7; omega)) (.slice A (xi + 1) c)
      refine wpAnyH_ready (rs := [6]) (by kernel_rfl) (by simp) ?_
      refine AllReadyH.cons rfl (fun K hK => ?_) AllReadyH.nil
      go_simp
      refine hK.out _ _ ?_ (fun hHeld => ?_)
      · exact ⟨f4.cell 0, f2.cell 0⟩
      clear hK K
      try simp only [Act.put, List.getElem_toArray, List.getElem_cons_zero, List.getElem_cons_succ, List.setIfInBounds_toArray, List.set_cons_zero, List.set_cons_succ]
      clear e2 e4 e5 e6 zz5 cc5 t4
      generalize X4.setCell ⟨w.heap.size + 1 + 1 + 1 + 1 + 1, 0, none⟩ (.slice A (xi + 1) c) = X5 at *
      have zz6 := f6.froz 0
      have cc6 := f6.cell 0
      have g6 := f6.put 0 (.bool true)
      have g2 := f2.far (x := ⟨w.heap.size + 1 + 1 + 1 + 1 + 1 + 1, 0, none⟩) (by show w.heap.size + 1 + 1 ≠ w.heap.size + 1 + 1 + 1 + 1 + 1 + 1; omega) (.bool true)
      have g4 := f4.far (x := ⟨w.heap.size + 1 + 1 + 1 + 1 + 1 + 1, 0, none⟩) (by show w.heap.size + 1 + 1 + 1 + 1 ≠ w.heap.size + 1 + 1 + 1 + 1 + 1 + 1; omega) (.bool true)
      have g5 := f5.far (x := ⟨w.heap.size + 1 + 1 + 1 + 1 + 1 + 1, 0, none⟩) (by show w.heap.size + 1 + 1 + 1 + 1 + 1 ≠ w.heap.size + 1 + 1 + 1 + 1 + 1 + 1; omega) (.bool true)
      have t6 := t5.setCell (x := ⟨w.heap.size + 1 + 1 + 1 + 1 + 1 + 1, 0, none⟩) (.inl (by unfold Pb; show w.heap.size ≤ w.heap.size + 1 + 1 + 1 + 1 + 1 + 1 ∧ w.heap.size + 1 + 1 + 1 + 1 + 1 + 1 < w.heap.size + 7; omega)) (.bool true)
      refine wpAnyH_ready (rs := [7]) (by kernel_rfl) (by simp) ?_
      refine AllReadyH.cons rfl (fun K hK => ?_) AllReadyH.nil
      go_simp
      refine hK.out _ _ ?_ (fun hHeld => ?_)
      · exact ⟨g4.cell 0, g2.cell 0⟩
      clear hK K
      try simp only [Act.put, List.getElem_toArray, List.getElem_cons_zero, List.getElem_cons_succ, List.setIfInBounds_toArray, List.set_cons_zero, List.set_cons_succ]
      clear f2 f4 f5 f6 zz6 cc6 t5
      generalize X5.setCell ⟨w.heap.size + 1 + 1 + 1 + 1 + 1 + 1, 0, none⟩ (.bool true) = X6 at *
      refine wpAnyH_done (by kernel_rfl) (NormalAt.mk ?_) _
      gi_wp2_with fail
      have hov6 := ownD_tn hov t6 (fun i hi hp => by unfold Pb at hp; omega)
      have hbl6 : Below w.heap.size w X6 := HC.out.below.trans (t6.below (by omega) (fun i hi hp => by unfold Pb at hp; omega))
      exact ⟨keeps_of_tn t6 (fun i hp => by unfold Pb at hp; omega), rfl, pre, ⟨xi, hxi⟩, rfl, HNE.out, by rw [← HST.out]; exact hf, by rw [← HST.out]; exact ⟨⟨(Value.slice Av sl cv), by simpa using g4, hov6⟩, by simpa using g5, by simpa using g6, hbl6⟩⟩
  case done =>
    rintro D xs W hD rfl ⟨hne, hC⟩ hK
    have hall := apart_all hlen hne
    obtain ⟨i1, i2, i3⟩ := runs_in fin hf2 ((downs len).map fun x => L.getD x.1 []) (n, m, []) hm1 hmn hne
    generalize runs (n, m, []) ((downs len).map fun x => L.getD x.1 []) = st at *
    obtain ⟨n', m', sd⟩ := st
    dsimp only at hC i1 i2 i3 hall
    have HALL := Lib.hid hall
    have hff := hfin n' m'
    obtain ⟨v, hv, hov⟩ := hC.bs
    obtain ⟨Av, cv, ev, _, _⟩ := hov.slice
    obtain ⟨sl, hsl2⟩ : ∃ sl, sl = sd.length := ⟨_, rfl⟩
    rw [← hsl2] at ev
    subst ev
    have HC := Lib.hid hC
    have hN8 := hC.sz
    clear hsl2 hC hall hne
    gi_wp2_with fail
    have d4 : BlkIs W.drew (w.heap.size + 1 + 1 + 1 + 1) 39 #[.slice Av sl cv] := (Alk.drew W).blk hv
    have d3 : BlkIs W.drew (w.heap.size + 1 + 1 + 1) 38 #[.func (.func g) #[] #[]] := (Alk.drew W).blk HC.out.bf
    have d0 : BlkIs W.drew (w.heap.size) 3 #[.int .i64 (n' : Int)] := (Alk.drew W).blk HC.out.bn
    have d1 : BlkIs W.drew (w.heap.size + 1) 3 #[.int .i64 (m' : Int)] := (Alk.drew W).blk HC.out.bm
    have d5 : BlkIs W.drew (w.heap.size + 1 + 1 + 1 + 1 + 1) 23 #[.slice none 0 0] := (Alk.drew W).blk HC.out.br
    have d6 : BlkIs W.drew (w.heap.size + 1 + 1 + 1 + 1 + 1 + 1) 4 #[.bool false] := (Alk.drew W).blk HC.out.bo
    have tD : Tn (Pb w.heap.size) W W.drew := tn_drew _ W
    refine regionIn_held_drew (S := (fun W' => W'.cell? ⟨w.heap.size + 1 + 1 + 1 + 1, 0, none⟩ = some (.slice Av sl cv) ∧ W'.cell? ⟨w.heap.size + 1 + 1 + 1, 0, none⟩ = some (.func (.func g) #[] #[]) ∧ W'.cell? ⟨w.heap.size, 0, none⟩ = some (.int .i64 (n' : Int)) ∧ W'.cell? ⟨w.heap.size + 1, 0, none⟩ = some (.int .i64 (m' : Int)))) (Wide.wide _ _) (by kernel_rfl) (by kernel_rfl) (⟨d4.cell 0, d3.cell 0, d0.cell 0, d1.cell 0⟩) (fun hHeld => ?_)
    generalize W.drew = X at *
    refine wpAnyH_take (i := 0) (v := (.slice Av sl cv)) rfl (by kernel_rfl) (by kernel_rfl) (by kernel_rfl) (fun _ _ _ h => h) (Or.inl ⟨by rfl, fun w hS => by (have hc1 := hS.1; have hc2 := hS.2.1; have hc3 := hS.2.2.1; have hc4 := hS.2.2.2; first | (go_simp; done) | (go_simp; with_reducible rfl))⟩) hHeld ?_
    try simp only [Act.put, List.getElem_toArray, List.getElem_cons_zero, List.setIfInBounds_toArray, List.set_cons_zero, List.set_cons_succ]
    refine wpAnyH_take (i := 1) (v := .func (.func g) #[] #[]) rfl (by kernel_rfl) (by kernel_rfl) (by kernel_rfl) (fun _ _ _ h => h) (Or.inl ⟨by rfl, fun w hS => by (have hc1 := hS.1; have hc2 := hS.2.1; have hc3 := hS.2.2.1; have hc4 := hS.2.2.2; first | (go_simp; done) | (go_simp; with_reducible rfl))⟩) hHeld ?_
    try simp only [Act.put, List.getElem_toArray, List.getElem_cons_zero, List.getElem_cons_succ, List.setIfInBounds_toArray, List.set_cons_zero, List.set_cons_succ]
    refine wpAnyH_take (i := 2) (v := .int .i64 n') rfl (by kernel_rfl) (by kernel_rfl) (by kernel_rfl) (fun _ _ _ h => h) (Or.inl ⟨by rfl, fun w hS => by (have hc1 := hS.1; have hc2 := hS.2.1; have hc3 := hS.2.2.1; have hc4 := hS.2.2.2; first | (go_simp; done) | (go_simp; with_reducible rfl))⟩) hHeld ?_
    try simp only [Act.put, List.getElem_toArray, List.getElem_cons_zero, List.getElem_cons_succ, List.setIfInBounds_toArray, List.set_cons_zero, List.set_cons_succ]
    refine wpAnyH_take (i := 3) (v := .int .i64 m') rfl (by kernel_rfl) (by kernel_rfl) (by kernel_rfl) (fun _ _ _ h => h) (Or.inl ⟨by rfl, fun w hS => by (have hc1 := hS.1; have hc2 := hS.2.1; have hc3 := hS.2.2.1; have hc4 := hS.2.2.2; first | (go_simp; done) | (go_simp; with_reducible rfl))⟩) hHeld ?_
    try simp only [Act.put, List.getElem_toArray, List.getElem_cons_zero, List.getElem_cons_succ, List.setIfInBounds_toArray, List.set_cons_zero, List.set_cons_succ]
    refine wpAnyH_ready (rs := [4]) (by kernel_rfl) (by simp) ?_
    refine AllReadyH.cons rfl (fun K hK => ?_) AllReadyH.nil
    go_simp
    go_wp2_with (refine (hff _ i1 i2 (by omega)).mono ?_; rintro e w' ⟨rfl, rfl⟩)
    refine hK.out _ _ ?_ (fun hHeld => ?_)
    · exact hHeld
    clear hK K
    try simp only [Act.put, List.getElem_toArray, List.getElem_cons_zero, List.getElem_cons_succ, List.setIfInBounds_toArray, List.set_cons_zero, List.set_cons_succ]
    generalize fin n' m' = fb at *
    have zz5 := d4.froz 0
    have cc5 := d4.cell 0
    have e4 := d4.put 0 (.slice Av sl cv)
    have e3 := d3.far (x := ⟨w.heap.size + 1 + 1 + 1 + 1, 0, none⟩) (by show w.heap.size + 1 + 1 + 1 ≠ w.heap.size + 1 + 1 + 1 + 1; omega) (.slice Av sl cv)
    have e0 := d0.far (x := ⟨w.heap.size + 1 + 1 + 1 + 1, 0, none⟩) (by show w.heap.size ≠ w.heap.size + 1 + 1 + 1 + 1; omega) (.slice Av sl cv)
    have e1 := d1.far (x := ⟨w.heap.size + 1 + 1 + 1 + 1, 0, none⟩) (by show w.heap.size + 1 ≠ w.heap.size + 1 + 1 + 1 + 1; omega) (.slice Av sl cv)
    have e5 := d5.far (x := ⟨w.heap.size + 1 + 1 + 1 + 1, 0, none⟩) (by show w.heap.size + 1 + 1 + 1 + 1 + 1 ≠ w.heap.size + 1 + 1 + 1 + 1; omega) (.slice Av sl cv)
    have e6 := d6.far (x := ⟨w.heap.size + 1 + 1 + 1 + 1, 0, none⟩) (by show w.heap.size + 1 + 1 + 1 + 1 + 1 + 1 ≠ w.heap.size + 1 + 1 + 1 + 1; omega) (.slice Av sl cv)
    have t4 := tD.setCell (x := ⟨w.heap.size + 1 + 1 + 1 + 1, 0, none⟩) (.inl (by unfold Pb; show w.heap.size ≤ w.heap.size + 1 + 1 + 1 + 1 ∧ w.heap.size + 1 + 1 + 1 + 1 < w.heap.size + 7; omega)) (.slice Av sl cv)
    refine wpAnyH_ready (rs := [5]) (by kernel_rfl) (by simp) ?_
    refine AllReadyH.cons rfl (fun K hK => ?_) AllReadyH.nil
    go_simp
    refine hK.out _ _ ?_ (fun hHeld => ?_)
    · exact ⟨e4.cell 0, e3.cell 0, e0.cell 0, e1.cell 0⟩
    clear hK K
    try simp only [Act.put, List.getElem_toArray, List.getElem_cons_zero, List.getElem_cons_succ, List.setIfInBounds_toArray, List.set_cons_zero, List.set_cons_succ]
    clear zz5 cc5 d4 d3 d0 d1 d5 d6 tD
    generalize X.setCell ⟨w.heap.size + 1 + 1 + 1 + 1, 0, none⟩ (.slice Av sl cv) = X4 at *
    have zz6 := e5.froz 0
    have cc6 := e5.cell 0
    have f4 := e4.far (x := ⟨w.heap.size + 1 + 1 + 1 + 1 + 1, 0, none⟩) (by show w.heap.size + 1 + 1 + 1 + 1 ≠ w.heap.size + 1 + 1 + 1 + 1 + 1; omega) (.slice none 0 0)
    have f3 := e3.far (x := ⟨w.heap.size + 1 + 1 + 1 + 1 + 1, 0, none⟩) (by show w.heap.size + 1 + 1 + 1 ≠ w.heap.size + 1 + 1 + 1 + 1 + 1; omega) (.slice none 0 0)
    have f0 := e0.far (x := ⟨w.heap.size + 1 + 1 + 1 + 1 + 1, 0, none⟩) (by show w.heap.size ≠ w.heap.size + 1 + 1 + 1 + 1 + 1; omega) (.slice none 0 0)
    have f1 := e1.far (x := ⟨w.heap.size + 1 + 1 + 1 + 1 + 1, 0, none⟩) (by show w.heap.size + 1 ≠ w.heap.size + 1 + 1 + 1 + 1 + 1; omega) (.slice none 0 0)
    have f5 := e5.put 0 (.slice none 0 0)
    have f6 := e6.far (x := ⟨w.heap.size + 1 + 1 + 1 + 1 + 1, 0, none⟩) (by show w.heap.size + 1 + 1 + 1 + 1 + 1 + 1 ≠ w.heap.size + 1 + 1 + 1 + 1 + 1; omega) (.slice none 0 0)
    have t5 := t4.setCell (x := ⟨w.heap.size + 1 + 1 + 1 + 1 + 1, 0, none⟩) (.inl (by unfold Pb; show w.heap.size ≤ w.heap.size + 1 + 1 + 1 + 1 + 1 ∧ w.heap.size + 1 + 1 + 1 + 1 + 1 < w.heap.size + 7; omega)) (.slice none 0 0)
    refine wpAnyH_ready (rs := [6]) (by kernel_rfl) (by simp) ?_
    refine AllReadyH.cons rfl (fun K hK => ?_) AllReadyH.nil
    go_simp
    refine hK.out _ _ ?_ (fun hHeld => ?_)
    · exact ⟨f4.cell 0, f3.cell 0, f0.cell 0, f1.cell 0⟩
    clear hK K
    try simp only [Act.put, List.getElem_toArray, List.getElem_cons_zero, List.getElem_cons_succ, List.setIfInBounds_toArray, List.set_cons_zero, List.set_cons_succ]
    clear zz6 cc6 e4 e3 e0 e1 e5 e6 t4
    generalize X4.setCell ⟨w.heap.size + 1 + 1 + 1 + 1 + 1, 0, none⟩ (.slice none 0 0) = X5 at *
    have zz7 := f6.froz 0
    have cc7 := f6.cell 0
    have y4 := f4.far (x := ⟨w.heap.size + 1 + 1 + 1 + 1 + 1 + 1, 0, none⟩) (by show w.heap.size + 1 + 1 + 1 + 1 ≠ w.heap.size + 1 + 1 + 1 + 1 + 1 + 1; omega) (.bool fb)
    have y3 := f3.far (x := ⟨w.heap.size + 1 + 1 + 1 + 1 + 1 + 1, 0, none⟩) (by show w.heap.size + 1 + 1 + 1 ≠ w.heap.size + 1 + 1 + 1 + 1 + 1 + 1; omega) (.bool fb)
    have y0 := f0.far (x := ⟨w.heap.size + 1 + 1 + 1 + 1 + 1 + 1, 0, none⟩) (by show w.heap.size ≠ w.heap.size + 1 + 1 + 1 + 1 + 1 + 1; omega) (.bool fb)
    have y1 := f1.far (x := ⟨w.heap.size + 1 + 1 + 1 + 1 + 1 + 1, 0, none⟩) (by show w.heap.size + 1 ≠ w.heap.size + 1 + 1 + 1 + 1 + 1 + 1; omega) (.bool fb)
    have y5 := f5.far (x := ⟨w.heap.size + 1 + 1 + 1 + 1 + 1 + 1, 0, none⟩) (by show w.heap.size + 1 + 1 + 1 + 1 + 1 ≠ w.heap.size + 1 + 1 + 1 + 1 + 1 + 1; omega) (.bool fb)
    have y6 := f6.put 0 (.bool fb)
    have t6 := t5.setCell (x := ⟨w.heap.size + 1 + 1 + 1 + 1 + 1 + 1, 0, none⟩) (.inl (by unfold Pb; show w.heap.size ≤ w.heap.size + 1 + 1 + 1 + 1 + 1 + 1 ∧ w.heap.size + 1 + 1 + 1 + 1 + 1 + 1 < w.heap.size + 7; omega)) (.bool fb)
    refine wpAnyH_ready (rs := [7]) (by kernel_rfl) (by simp) ?_
    refine AllReadyH.cons rfl (fun K hK => ?_) AllReadyH.nil
    go_simp
    refine hK.out _ _ ?_ (fun hHeld => ?_)
    · exact ⟨y4.cell 0, y3.cell 0, y0.cell 0, y1.cell 0⟩
    clear hK K
    try simp only [Act.put, List.getElem_toArray, List.getElem_cons_zero, List.getElem_cons_succ, List.setIfInBounds_toArray, List.set_cons_zero, List.set_cons_succ]
    clear zz7 cc7 f4 f3 f0 f1 f5 f6 t5
    generalize X5.setCell ⟨w.heap.size + 1 + 1 + 1 + 1 + 1 + 1, 0, none⟩ (.bool fb) = X6 at *
    refine wpAnyH_done (by kernel_rfl) (NormalAt.mk ?_) _
    gi_wp2_with fail
    have hK6 : X6.heap[D]? = some (.deferred (some [])) := (t6.block D (Array.getElem?_eq_some_iff.1 hK).1 (fun hp => by unfold Pb at hp; omega)).trans hK
    have hDl := (Array.getElem?_eq_some_iff.1 hK6).1
    refine ⟨by simp, .inl ⟨_, _, rfl, run_takeDeferred hK6, ?_⟩⟩
    have hov6 := ownD_tn hov t6 (fun i hi hp => by unfold Pb at hp; omega)
    have hbl6 : Below w.heap.size w X6 := HC.out.below.trans (t6.below (by omega) (fun i hi hp => by unfold Pb at hp; omega))
    have g4 : BlkIs X6 (w.heap.size + 1 + 1 + 1 + 1) 39 #[(.slice Av sl cv)] := by simpa using y4
    have g5 : BlkIs X6 (w.heap.size + 1 + 1 + 1 + 1 + 1) 23 #[.slice none 0 0] := by simpa using y5
    have g6 : BlkIs X6 (w.heap.size + 1 + 1 + 1 + 1 + 1 + 1) 4 #[.bool fb] := by simpa using y6
    obtain ⟨⟨q4, q5, q6⟩, qo, qs, qb⟩ := ap_end (by omega) hDl g4 g5 g6 hov6 hK6 hbl6 (Hs.nil (w := X6) (B := w.heap.size) none)
    refine ⟨.tuple #[(.slice Av sl cv), .slice none 0 0, .bool fb], ?_, _, none, 0, 0, [], by rw [HALL.out], by rw [HALL.out]; exact qo, qs, rfl, Nat.le_refl _, Nat.zero_le _, by rw [HALL.out]; rfl, qb⟩
    clear HALL y4 y5 y6 g4 g5 g6
    generalize X6.putObj D (.deferred none) = Y at *
    simp [results, Tryd.results14, go_sem, q4, q5, q6]
  case stop =>
    rintro D cd pre W hD ⟨k, hk, rfl⟩ ⟨rfl, pre0, x, hpre, hne, hf, hX⟩ hK
    obtain ⟨j, rfl⟩ : ∃ j, k = j + 1 := ⟨k - 1, by
      rcases k with _ | k
      · simp at hpre
      · rfl⟩
    rw [downs_take len j (by omega)] at hpre
    obtain ⟨e1, e2⟩ := List.append_inj' hpre rfl
    subst e1
    have e3 : x.1 + 1 = len - j := by
      have := congrArg Subtype.val (List.singleton_inj.1 e2)
      dsimp only at this
      omega
    have hat := Lib.hid (apart_at hlen (by omega) hne hf)
    obtain ⟨v, hv, hov⟩ := hX.bs
    obtain ⟨Av, cv, ev, _, _⟩ := hov.slice
    obtain ⟨sl, hsl2⟩ : ∃ sl, sl = (runs (n, m, []) (((downs len).take j).map fun x => L.getD x.1 [])).2.2.length := ⟨_, rfl⟩
    rw [← hsl2] at ev
    subst ev
    have c4 := hv.cell 0
    have c5 := hX.br.cell 0
    have c6 := hX.bo.cell 0
    gi_wp2_with fail
    refine ⟨by simp, .inl ⟨_, _, rfl, run_takeDeferred hK, ?_⟩⟩
    have hDl := (Array.getElem?_eq_some_iff.1 hK).1
    obtain ⟨⟨q4, q5, q6⟩, qo, qs, qb⟩ := ap_end (by omega) hDl hv hX.br hX.bo hov hK hX.below ((h.below hX.below).take (len - j))
    refine ⟨.tuple #[.slice Av sl cv, .slice A (x.1 + 1) c, .bool true], ?_, _, A, x.1 + 1, c, L.take (len - j), by rw [hat.out], by rw [hat.out]; exact qo, qs, by rw [List.length_take]; omega, by omega, hm, by rw [hat.out], qb⟩
    clear hat
    generalize W.putObj D (.deferred none) = X at *
    simp [results, Tryd.results14, go_sem, q4, q5, q6]
theorem apart_calls (g : FuncId) (fin : Nat → Nat → Bool) (eg : ∀ args w, (callFunc g args).run Tryd.prog w = .ok (.enter g args) w)
    (hfin : ∀ n m w, 1 ≤ m → m ≤ n → n ≤ 9223372036854775807 → Calls Tryd.prog g #[.int .i64 (n : Nat), .int .i64 (m : Nat)] w fun e w' => e = .returned (.bool (fin n m)) ∧ w = w') (hf2 : ∀ n m, 1 ≤ m → m ≤ n → fin n m = false → 2 ≤ n)
    (A : Option Addr) (len c n m : Nat) (L : List (List UInt8)) (w : World) (hlen : L.length = len) (h9 : len ≤ 100000) (hc : len ≤ c) (hm : c ≤ maxLen) (h : Hs w w.heap.size A L) (hm1 : 1 ≤ m) (hmn : m ≤ n) (h63 : n ≤ 9223372036854775807) :
    Calls Tryd.prog 14 #[.int .i64 n, .int .i64 m, .slice A len c, .func (.func g) #[] #[]] w fun e w' => ∃ v1 A2 len2 c2 L2, e = .returned (.tuple #[v1, .slice A2 len2 c2, .bool (apartR fin n m L.reverse).2.2]) ∧
      OwnD w' w.heap.size v1 (apartR fin n m L.reverse).1 ∧ Hs w' w'.heap.size A2 L2 ∧ L2.length = len2 ∧ len2 ≤ c2 ∧ c2 ≤ maxLen ∧ L2.reverse = (apartR fin n m L.reverse).2.1 ∧ Below w.heap.size w w' :=
  callsIn_wide.1 (apart_any g fin eg hfin hf2 A len c n m L w hlen h9 hc hm h hm1 hmn h63)
end Go.Proofs.YtlbmieeimnjncaaDoor
