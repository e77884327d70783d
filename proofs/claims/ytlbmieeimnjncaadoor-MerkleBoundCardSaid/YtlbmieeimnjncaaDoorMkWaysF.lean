/- Ways from a leaf up, as lists: two unlike leaves under one root. Conditions: none. -/
import Derived.Test.YtlbmieeimnjncaaDoorMkMath
import Derived.Test.YtlbmieeimnjncaaDoorSeApart
import Derived.Test.YtlbmieeimnjncaaDoorMkSide
namespace Go.Proofs.YtlbmieeimnjncaaDoor
set_option maxRecDepth 100000
/-- the turns to the right on the way down. -/
def rights (n i : Nat) : List Bool :=
  if _h : 2 ≤ n then (if i < spl n then false :: rights (spl n) i else true :: rights (n - spl n) (i - spl n)) else []
termination_by n
decreasing_by
  · exact spl_lt _h
  · have := spl_pos n; omega
theorem rights_end {n : Nat} (h : ¬ 2 ≤ n) (i : Nat) : rights n i = [] := by rw [rights, dif_neg h]
theorem rights_lo {n i : Nat} (h : 2 ≤ n) (hi : i < spl n) : rights n i = false :: rights (spl n) i := by rw [rights, dif_pos h, if_pos hi]
theorem rights_hi {n i : Nat} (h : 2 ≤ n) (hi : ¬ i < spl n) : rights n i = true :: rights (n - spl n) (i - spl n) := by rw [rights, dif_pos h, if_neg hi]
/-- a node and what stands beside it, in their order. -/
def pairS (right : Bool) (leaf s : List UInt8) : List UInt8 × List UInt8 := if right then (s, leaf) else (leaf, s)
/-- the pairs on the way up. -/
def waysL : List UInt8 → List (List UInt8) → List Bool → List (List UInt8 × List UInt8)
  | leaf, s :: p, b :: bs => pairS b leaf s :: waysL (nodeS (pairS b leaf s).1 (pairS b leaf s).2) p bs
  | _, [], _ => []
  | _, _ :: _, [] => []
/-- what the way up comes to. -/
def runL : List UInt8 → List (List UInt8) → List Bool → List UInt8
  | leaf, s :: p, b :: bs => runL (nodeS (pairS b leaf s).1 (pairS b leaf s).2) p bs
  | leaf, [], _ => leaf
  | leaf, _ :: _, [] => leaf
theorem runL_snoc : ∀ (P : List (List UInt8)) (B : List Bool) (leaf s : List UInt8) (b : Bool), P.length = B.length → runL leaf (P ++ [s]) (B ++ [b]) = nodeS (pairS b (runL leaf P B) s).1 (pairS b (runL leaf P B) s).2
  | [], [], leaf, s, b, _ => rfl
  | [], _ :: _, _, _, _, h => by simp at h
  | _ :: _, [], _, _, _, h => by simp at h
  | x :: P, c :: B, leaf, s, b, h => by
    rw [List.cons_append, List.cons_append, runL, runL]
    exact runL_snoc P B _ s b (by simpa using h)
theorem up_run (leaf : List UInt8) : ∀ (r : List (List UInt8)) (n i : Nat), i < n → (upR n i leaf r).2 = true → (upR n i leaf r).1 = runL leaf r.reverse (rights n i).reverse ∧ r.length = (rights n i).length
  | [], n, i, hi, h => by
    have h1 : n = 1 := by simpa [upR] using h
    subst h1
    rw [rights_end (by omega)]
    exact ⟨rfl, rfl⟩
  | s :: r, n, i, hi, h => by
    by_cases h1 : n = 1
    · rw [upR_end h1] at h
      cases h
    · have h2 : 2 ≤ n := by omega
      have h3 := spl_lt h2
      by_cases hs : i < spl n
      · rw [upR_lo h1 hs] at h ⊢
        obtain ⟨e1, e2⟩ := up_run leaf r (spl n) i hs h
        rw [rights_lo h2 hs, List.reverse_cons, List.reverse_cons, runL_snoc _ _ _ _ _ (by simpa using e2), ← e1]
        exact ⟨rfl, by simp [e2]⟩
      · rw [upR_hi h1 (by omega)] at h ⊢
        obtain ⟨e1, e2⟩ := up_run leaf r (n - spl n) (i - spl n) (by omega) h
        rw [rights_hi h2 hs, List.reverse_cons, List.reverse_cons, runL_snoc _ _ _ _ _ (by simpa using e2), ← e1]
        exact ⟨rfl, by simp [e2]⟩
/-- whether somewhere two unlike pairs have one node. -/
def foundS (X Y : List (List UInt8 × List UInt8)) : Bool := (X.zip Y).any fun z => !(z.1 == z.2) && (nodeS z.1.1 z.1.2 == nodeS z.2.1 z.2.2)
theorem pairS_ne {b : Bool} {x y s t : List UInt8} (h : x ≠ y) : pairS b x s ≠ pairS b y t := by
  unfold pairS
  cases b
  · simp
    intro e
    exact absurd e h
  · simp
    intro _ e
    exact h e
theorem found_bound : ∀ (P Q : List (List UInt8)) (B : List Bool) (x y : List UInt8), P.length = B.length → Q.length = B.length → x ≠ y → runL x P B = runL y Q B → foundS (waysL x P B) (waysL y Q B) = true
  | [], [], [], x, y, _, _, hne, h => absurd h hne
  | s :: P, t :: Q, b :: B, x, y, hP, hQ, hne, h => by
    rw [runL, runL] at h
    rw [waysL, waysL]
    unfold foundS
    rw [List.zip_cons_cons, List.any_cons, Bool.or_eq_true]
    by_cases hn : nodeS (pairS b x s).1 (pairS b x s).2 = nodeS (pairS b y t).1 (pairS b y t).2
    · left
      have := pairS_ne (b := b) (s := s) (t := t) hne
      simp [hn, this]
    · right
      exact found_bound P Q B _ _ (by simpa using hP) (by simpa using hQ) hn h
  | [], _ :: _, B, _, _, hP, hQ, _, _ => by simp at hP hQ; omega
  | _ :: _, [], B, _, _, hP, hQ, _, _ => by simp at hP hQ; omega
  | [], [], _ :: _, _, _, hP, _, _, _ => by simp at hP
  | _ :: _, _ :: _, [], _, _, hP, _, _, _ => by simp at hP
end Go.Proofs.YtlbmieeimnjncaaDoor
/- The contract of the law's ways: lists of flags, of pairs; the way down. Conditions: as stated at each. -/
namespace Go.Proofs.YtlbmieeimnjncaaDoor
set_option maxRecDepth 100000
open Go.RowKit Go
def bb (l : List Bool) : List Value := l.map Value.bool
theorem bb_length (l : List Bool) : (bb l).length = l.length := by simp [bb]
theorem bb_append (a b : List Bool) : bb (a ++ b) = bb a ++ bb b := by simp [bb]
theorem bb_one (l : List Bool) : ∀ u ∈ bb l, u.oneCell' = true := by
  intro u hu
  simp only [bb, List.mem_map] at hu
  obtain ⟨b, _, rfl⟩ := hu
  rfl
theorem info4 : (Tryd.prog.info? 4).map (fun i => (i.zero, i.size, i.bytes)) = some (some (.bool false), 1, 1) := by kernel_rfl
/-- one flag more. -/
theorem appB {w : World} {ops : Array Oper} {rest : List Oper} {o : Oper} {a : Act} {Q : Exit → Act → World → Prop} (s x : Operand)
    (ho : o.op = .call { callee := .builtin .append, args := #[s, x], argTypes := #[47, 47] }) (hgd : o.guard = none)
    (N : Nat) (v : Value) (l : List Bool) (b : Bool) (hs : a.eval s = v) (hown : w.ownsRow N 4 1 v l.length (bb l))
    (g c : Nat) (hx : a.eval x = .slice (some ⟨g, 0, none⟩) 1 c) (hc : w.cell? ⟨g, 0, none⟩ = some (.bool b)) (hg : g < w.heap.size) (h63 : l.length + 1 ≤ 1000000000) (hN : N ≤ w.heap.size)
    (h : ∀ v' w', w'.ownsRow N 4 1 v' (l ++ [b]).length (bb (l ++ [b])) → w.grownBy w' v.ownBlock → wpList Tryd.prog ops Q rest (a.put o.dst v') w') : wpList Tryd.prog ops Q (o :: rest) a w := by
  obtain ⟨i, hi, hz, h0, h1⟩ := info_parts info4
  have hr : Cs w w.heap.size (some ⟨g, 0, none⟩) (bb [b]) := fun j u hj => by
    have hj0 : j = 0 := by
      have := (List.getElem?_eq_some_iff.1 hj).1
      rw [bb_length] at this
      simpa using this
    subst hj0
    have hu : u = .bool b := by simpa [bb] using hj.symm
    subst hu
    exact ⟨_, rfl, hg, by rw [add_at]; exact hc⟩
  refine wpList_plain hgd fun _ hK => wp_app s x ho Tryd.underlying47 hi hz h0 h1 rfl hs hown hx hr (by rw [bb_length]; rfl) (bb_one [b]) h63 (by decide) hN fun v' w' h2 h3 => hK _ _ (h v' w' ?_ h3)
  rw [List.length_append, bb_append]
  exact h2
theorem run_buildB (b : Bool) (w : World) : (Instr.buildSlice 47 1 #[(0, .bool b)]).run Tryd.prog w = .ok (.slice (some ⟨w.heap.size, 0, none⟩) 1 1) (w.alloc (.cells #[.bool b] 4)) := by
  obtain ⟨i, hi, hz, h0, h1⟩ := info_parts info4
  simp [Instr.buildSlice, Sem.run_bind, run_underlying Tryd.underlying47, sizeOf, typeInfo, hi, h0, zeroValue, hz, Value.cells, Instr.fill, newRow]
  have e : ∀ f : Nat → Value, (Array.map f (Array.range 1)).setIfInBounds 0 (Value.bool b) = #[Value.bool b] := fun f => by
    apply Array.ext
    · simp
    · intro j h1 h2
      have hj : j = 0 := by simpa using h2
      subst hj
      simp
  rw [e]
/-- pairs as cells. -/
def pc (l : List (List UInt8 × List UInt8)) : List UInt8 := l.flatMap fun z => z.1 ++ z.2
def Pok (l : List (List UInt8 × List UInt8)) : Prop := ∀ z ∈ l, z.1.length = 32 ∧ z.2.length = 32
theorem pc_length : ∀ {l : List (List UInt8 × List UInt8)}, Pok l → (pc l).length = 64 * l.length
  | [], _ => rfl
  | z :: l, h => by
    rw [pc, List.flatMap_cons, List.length_append, List.length_append, (h z (by simp)).1, (h z (by simp)).2, List.length_cons]
    have := pc_length (l := l) (fun y hy => h y (by simp [hy]))
    rw [pc] at this
    omega
/-- a row of pairs of the call's own. -/
def OwnP (w : World) (N : Nat) (v : Value) (l : List (List UInt8 × List UInt8)) : Prop := Pok l ∧ w.ownsRow N 29 64 v l.length (bv (pc l))
theorem OwnP.nil (w : World) (N : Nat) : OwnP w N (.slice none 0 0) [] := ⟨(fun _ h => by cases h), World.ownsRow_nil w N 29 64⟩
theorem OwnP.kept {w w' : World} {N B : Nat} {v : Value} {l : List (List UInt8 × List UInt8)} (h : OwnP w N v l) (hb : Below B w w') (hB : w.heap.size ≤ B) : OwnP w' N v l := ⟨h.1, ownsRow_kept h.2 hb hB⟩
/-- one pair more. -/
theorem run_appP {w : World} (ty : TypeId) {N : Nat} {v : Value} {l : List (List UInt8 × List UInt8)} {z : List UInt8 × List UInt8} {g o c : Nat} (hown : OwnP w N v l) (h1 : z.1.length = 32) (h2 : z.2.length = 32) (hc : w.rangeAt g o (bv (z.1 ++ z.2))) (hl : l.length + 1 ≤ 1000000000) (hN : N ≤ w.heap.size) :
    ∃ v' w', (Builtin.append_ #[27, 27] ty #[v, .slice (some ⟨g, o, none⟩) 1 c]).run Tryd.prog w = .ok v' w' ∧ OwnP w' N v' (l ++ [z]) ∧ w.grownBy w' v.ownBlock := by
  obtain ⟨i, hi, hz, h0, h1'⟩ := info_parts info35
  obtain ⟨v', w', hrun, hq, h3, _⟩ := run_append_own_at (P := Tryd.prog) w N 27 ty 29 i _ 64 64 Tryd.underlying27 hi hz h0 h1' (by kernel_rfl) (by omega) v l.length (bv (pc l)) hown.2 ⟨g, o, none⟩ 1 c (bv (z.1 ++ z.2)) (by rw [bv_length, List.length_append, h1, h2])
    (fun j u hj => by rw [add_at]; exact hc j u hj) (bv_one _) (by unfold maxLen; omega) (by omega) hN
  refine ⟨v', w', hrun, ⟨fun y hy => ?_, ?_⟩, h3⟩
  · rw [List.mem_append, List.mem_singleton] at hy
    rcases hy with hy | rfl
    · exact hown.1 y hy
    · exact ⟨h1, h2⟩
  · rw [List.length_append, show pc (l ++ [z]) = pc l ++ (z.1 ++ z.2) by simp [pc], bv_append]
    simpa using hq
theorem appP {w : World} {ops : Array Oper} {rest : List Oper} {o : Oper} {a : Act} {Q : Exit → Act → World → Prop} (s x : Operand)
    (ho : o.op = .call { callee := .builtin .append, args := #[s, x], argTypes := #[27, 27] }) (hgd : o.guard = none)
    (N : Nat) (v : Value) (l : List (List UInt8 × List UInt8)) (z : List UInt8 × List UInt8) (hs : a.eval s = v) (hown : OwnP w N v l)
    (g c : Nat) (hx : a.eval x = .slice (some ⟨g, 0, none⟩) 1 c) (hc : w.rangeAt g 0 (bv (z.1 ++ z.2))) (h1 : z.1.length = 32) (h2 : z.2.length = 32) (h63 : l.length + 1 ≤ 1000000000) (hN : N ≤ w.heap.size)
    (h : ∀ v' w', OwnP w' N v' (l ++ [z]) → w.grownBy w' v.ownBlock → wpList Tryd.prog ops Q rest (a.put o.dst v') w') : wpList Tryd.prog ops Q (o :: rest) a w := by
  obtain ⟨v', w', hrun, hq, hg⟩ := run_appP (w := w) o.type (c := c) hown h1 h2 hc h63 hN
  refine wpList_plain hgd fun _ hK => ?_
  unfold Oper.wp execOp
  simp only [ho, resolve, invoke, builtin, Sem.run_bind, Sem.run_pure, Result.andThen_ok, List.map_toArray, List.map_cons, List.map_nil, hs, hx, hrun]
  exact hK _ _ (h v' w' hq hg)
theorem run_buildP1 {x : List UInt8} (hx : x.length = 64) (w : World) : (Instr.buildSlice 27 1 #[(0, .agg (bv x).toArray)]).run Tryd.prog w = .ok (.slice (some ⟨w.heap.size, 0, none⟩) 1 1) (w.alloc (.cells (bv x).toArray 29)) := by
  obtain ⟨i, hi, hz, h0, h2⟩ := info_parts info35
  have key : ∀ cs : Array Value, cs.size = 64 → Instr.fill (fun i => some (i * 64, 64)) cs [(0, Value.agg (bv x).toArray)] = some (bv x).toArray := fun cs hcs => fill_one 64 _ cs (by rw [List.size_toArray, bv_length, hx]) hcs
  simp [Instr.buildSlice, Sem.run_bind, run_underlying Tryd.underlying27, sizeOf, typeInfo, hi, h0, zeroValue, hz, Value.cells]
  rw [key _ (by simp)]
  simp [newRow]
end Go.Proofs.YtlbmieeimnjncaaDoor
/- The law's ways, its first loop: the turns on the way down. Conditions: as stated. -/
namespace Go.Proofs.YtlbmieeimnjncaaDoor
set_option maxRecDepth 100000
open Go.RowKit Go
theorem ownP_tn {p : Nat → Prop} {W W' : World} {N : Nat} {v : Value} {l : List (List UInt8 × List UInt8)} (h : OwnP W N v l) (k : Tn p W W') (hp : ∀ i, N ≤ i → ¬ p i) : OwnP W' N v l := by
  refine ⟨h.1, h.2.1, ?_⟩
  rcases h.2.2 with hn | ⟨g, cap, cur, rfl, hn, hh, rest⟩
  · exact .inl hn
  · exact .inr ⟨g, cap, cur, rfl, hn, (k.block g (Array.getElem?_eq_some_iff.1 hh).1 (hp g hn)).trans hh, rest⟩
/-- between two rounds of the way down. -/
structure RtW (n i : Nat) (leaf : List UInt8) (w wr : World) (n' i' : Nat) (v : Value) (Bs : List Bool) : Prop where
  lt : i' < n'
  le : n' ≤ 9223372036854775807
  way : Bs ++ rights n' i' = rights n i
  own : wr.ownsRow (w.heap.size + 1) 4 1 v Bs.length (bb Bs)
  leaf : BlkIs wr w.heap.size 22 (bv leaf).toArray
  below : Below w.heap.size w wr
theorem RtW.next {n i n' i' n2 i2 : Nat} {leaf : List UInt8} {w wr w2 : World} {v v2 : Value} {Bs : List Bool} {b : Bool} {o : Obj} (h : RtW n i leaf w wr n' i' v Bs) (hlt : i2 < n2) (hle : n2 ≤ n') (hr : rights n' i' = b :: rights n2 i2)
    (ho : w2.ownsRow (w.heap.size + 1) 4 1 v2 (Bs ++ [b]).length (bb (Bs ++ [b]))) (hg : (wr.alloc o).grownBy w2 v.ownBlock) : RtW n i leaf w w2 n2 i2 v2 (Bs ++ [b]) := by
  have hl := h.leaf.lt
  have hsz := h.below.size
  have k1 : Below (w.heap.size + 1) wr w2 := (((below1 wr o).mono (by omega)).trans ((Below.refl (w.heap.size + 1) (wr.alloc o)).grown hg (by simp; omega) (fun k hk => (World.ownsRow.lt h.own k hk).1)))
  exact ⟨hlt, Nat.le_trans hle h.le, by rw [List.append_assoc, List.singleton_append, ← hr]; exact h.way, ho, (k1.block _ (by omega)).trans h.leaf, h.below.trans (k1.mono (by omega))⟩
theorem waysL_snoc : ∀ (P : List (List UInt8)) (B : List Bool) (leaf s : List UInt8) (b : Bool), P.length = B.length → waysL leaf (P ++ [s]) (B ++ [b]) = waysL leaf P B ++ [pairS b (runL leaf P B) s]
  | [], [], leaf, s, b, _ => rfl
  | [], _ :: _, _, _, _, h => by simp at h
  | _ :: _, [], _, _, _, h => by simp at h
  | x :: P, c :: B, leaf, s, b, h => by
    rw [List.cons_append, List.cons_append, waysL, runL, waysL, List.cons_append]
    rw [waysL_snoc P B _ s b (by simpa using h)]
theorem waysL_length : ∀ (P : List (List UInt8)) (B : List Bool) (leaf : List UInt8), P.length = B.length → (waysL leaf P B).length = P.length
  | [], _, _, _ => by simp [waysL]
  | _ :: _, [], _, h => by simp at h
  | x :: P, c :: B, leaf, h => by
    rw [waysL, List.length_cons, List.length_cons, waysL_length P B _ (by simpa using h)]
theorem take_at {α : Type} {l : List α} {k : Nat} {d : α} (h : k < l.length) : l.take (k + 1) = l.take k ++ [l.getD k d] := by
  rw [← List.take_append_getElem h]
  simp [List.getD, List.getElem?_eq_getElem h]
theorem flag_at {w : World} {N n c j : Nat} {A : Option Addr} {l : List Bool} (h : w.ownsRow N 4 1 (.slice A n c) n (bb l)) (hj : j < l.length) :
    ∃ g, A = some ⟨g, 0, none⟩ ∧ N ≤ g ∧ g < w.heap.size ∧ w.cell? ⟨g, j, none⟩ = some (.bool (l.getD j false)) := by
  obtain ⟨ad, rfl, hb, hc⟩ := Cs.of_own h j (.bool (l.getD j false)) (by simp [bb, List.getElem?_map, List.getElem?_eq_getElem hj, List.getD])
  rcases h.2 with ⟨hv, _⟩ | ⟨g, cap, cur, hv, hN, _⟩
  · cases hv
  · injection hv with h1 h2 h3
    injection h1 with h1
    subst h1
    exact ⟨g, rfl, hN, hb, by rw [add_at, Nat.zero_add] at hc; exact hc⟩
theorem getD_rev {l : List Bool} {k p : Nat} (hl : l.length = p) (hk : k < p) : l.reverse.getD k false = l.getD (p - 1 - k) false := by
  subst hl
  simp only [List.getD, List.getElem?_reverse hk]
theorem pairS_len {b : Bool} {x y : List UInt8} (hx : x.length = 32) (hy : y.length = 32) : (pairS b x y).1.length = 32 ∧ (pairS b x y).2.length = 32 := by
  cases b
  · exact ⟨hx, hy⟩
  · exact ⟨hy, hx⟩
theorem runL_length : ∀ (P : List (List UInt8)) (B : List Bool) (leaf : List UInt8), leaf.length = 32 → (runL leaf P B).length = 32
  | [], _, _, h => by simpa [runL] using h
  | _ :: _, [], _, h => by simpa [runL] using h
  | _ :: P, _ :: B, _, _ => by rw [runL]; exact runL_length P B _ (nodeS_length _ _)
/-- on the way up, k pairs done. -/
structure UpW (leaf : List UInt8) (P : List (List UInt8)) (B : List Bool) (w w1 wr : World) (k : Nat) (v : Value) : Prop where
  le : k ≤ P.length
  own : OwnP wr w1.heap.size v (waysL leaf (P.take k) (B.take k))
  leaf : BlkIs wr w.heap.size 22 (bv (runL leaf (P.take k) (B.take k))).toArray
  tn : Tn (· = w.heap.size) w1 wr
theorem buildV_ops {P : Program} {ops : Array Oper} {rest : List Oper} {o : Oper} {a : Act} {w w' : World} {Q : Exit → Act → World → Prop} (t : TypeId) (parts : Array (Nat × Operand)) (vs : Array (Nat × Value)) (v : Value)
    (hrun : (Instr.build t vs).run P w = .ok v w') (ho : o.op = .build t parts) (hx : (parts.map fun (i, x) => (i, a.eval x)) = vs) (hgd : o.guard = none)
    (h : wpList P ops Q rest (a.put o.dst v) w') : wpList P ops Q (o :: rest) a w := by
  refine wpList_plain hgd fun _ hK => ?_
  unfold Oper.wp execOp
  simp only [ho, hx, Sem.run_bind, hrun, Result.andThen, Sem.run_pure]
  exact hK _ _ h
theorem buildS_ops {P : Program} {ops : Array Oper} {rest : List Oper} {o : Oper} {a : Act} {w w' : World} {Q : Exit → Act → World → Prop} (t : TypeId) (n : Nat) (parts : Array (Nat × Operand)) (vs : Array (Nat × Value)) (v : Value)
    (hrun : (Instr.buildSlice t n vs).run P w = .ok v w') (ho : o.op = .buildSlice t n parts) (hx : (parts.map fun (i, x) => (i, a.eval x)) = vs) (hgd : o.guard = none)
    (h : wpList P ops Q rest (a.put o.dst v) w') : wpList P ops Q (o :: rest) a w := by
  refine wpList_plain hgd fun _ hK => ?_
  unfold Oper.wp execOp
  simp only [ho, hx, Sem.run_bind, hrun, Result.andThen, Sem.run_pure]
  exact hK _ _ h
/-- a pair's row, its Node, the leaf's block behind it: one round of the way up. -/
theorem UpW.step {leaf s L : List UInt8} {P : List (List UInt8)} {B : List Bool} {b : Bool} {w w1 wr wx w2 w3 w4 : World} {o : Obj} {k : Nat} {v v2 : Value}
    (h : UpW leaf P B w w1 wr k v) (hk : k < P.length) (hs1 : w.heap.size < w1.heap.size) (HTS : P.take (k + 1) = P.take k ++ [s]) (HTB : B.take (k + 1) = B.take k ++ [b])
    (HWY : waysL leaf (P.take k ++ [s]) (B.take k ++ [b]) = waysL leaf (P.take k) (B.take k) ++ [pairS b L s]) (HRN : runL leaf (P.take k ++ [s]) (B.take k ++ [b]) = nodeS (pairS b L s).1 (pairS b L s).2)
    (kx : Below wr.heap.size wr wx) (ho : OwnP w2 w1.heap.size v2 (waysL leaf (P.take k) (B.take k) ++ [pairS b L s])) (hg : (wx.alloc o).grownBy w2 v.ownBlock)
    (h3 : Below w2.heap.size w2 w3) (h4 : BlkIs w4 w.heap.size 22 (bv (nodeS (pairS b L s).1 (pairS b L s).2)).toArray) (ht4 : Tn (fun i => i = w.heap.size) w3 w4) : UpW leaf P B w w1 w4 (k + 1) v2 := by
  have hz1 := h.tn.size
  have hz2 := kx.size
  have k1 : Below w1.heap.size wr w2 := ((kx.trans ((below1 wx o).mono (by omega))).mono hz1).grown hg (by simp; omega) (fun k hk => (World.ownsRow.lt h.own.2 k hk).1)
  have k2 : Below w1.heap.size wr w3 := k1.trans (h3.mono (Nat.le_trans hz1 k1.size))
  have t3 : Tn (fun i => i = w.heap.size) w1 w3 := ⟨k2.os.trans h.tn.os, k2.tape.trans h.tn.tape, k2.output.trans h.tn.output, Nat.le_trans h.tn.size k2.size, fun i hi hp => (k2.block i hi).trans (h.tn.block i hi hp)⟩
  refine ⟨hk, ?_, ?_, t3.trans ht4⟩
  · rw [HTS, HTB, HWY]
    exact ownP_tn (ho.kept h3 (Nat.le_refl _)) ht4 (fun i hi e => by omega)
  · rw [HTS, HTB, HRN]
    exact h4
set_option maxHeartbeats 6400000 in
theorem ways_any (n i : Nat) (leaf : List UInt8) (P : List (List UInt8)) (A : Option Addr) (p c : Nat) (w : World) (hl : leaf.length = 32) (hP : P.length = p) (h20 : p ≤ 20) (hR : (rights n i).length = p) (hi : i < n) (h63 : n ≤ 9223372036854775807) (h : Hs w w.heap.size A P) :
    Calls Tryd.prog 7 #[.int .i64 n, .int .i64 i, .agg (bv leaf).toArray, .slice A p c] w fun e w' => ∃ v, e = .returned v ∧ OwnP w' w.heap.size v (waysL leaf P (rights n i).reverse) ∧ Below w.heap.size w w' := by
  have HB0 : Hid (RtW n i leaf w (w.alloc (.cells (bv leaf).toArray 22)) n i (.slice none 0 0) []) := Lib.hid ⟨hi, h63, rfl, World.ownsRow_nil _ _ _ _, BlkIs.new w _ _, below1 w _⟩
  have HL := Lib.hid hl
  have HP := Lib.hid hP
  have HR := Lib.hid hR
  clear hl hP hR
  go_enter Tryd.func7, Tryd.ntmps7
  go_wp2_with fail
  go_loopw [0, 1, 9] (fun a b r wr => ∃ (n' i' : Nat) (Bs : List Bool), a = .int .i64 n' ∧ b = .int .i64 i' ∧ Hid (RtW n i leaf w wr n' i' r Bs)) (fun a _ _ _ => (intOf a).toNat)
  case atStart => exact ⟨n, i, [], rfl, rfl, HB0⟩
  case round =>
    rename_i r0
    obtain ⟨n', i', Bs, rfl, rfl, HW⟩ := hrel
    by_cases h1 : 1 < n'
    · have h1' : (1 : Int) < (n' : Int) := by omega
      have hle := HW.out.le
      go_wp2_with fail
      go_loop [10] (fun y => ∃ q : Nat, Hid (∃ j, q = 2 ^ j) ∧ 1 ≤ q ∧ q < n' ∧ y = .int .i64 q) (fun y => n' - (intOf y).toNat)
      case atStart => exact ⟨1, Lib.hid ⟨0, rfl⟩, by omega, by omega, rfl⟩
      case round =>
        obtain ⟨q, hq, q1, qlt, rfl⟩ := hrel
        by_cases hcc : q < n' - q
        · have hc1 : (q : Int) < (n' : Int) - (q : Int) := by omega
          go_wp2_with fail
          go_round
          case rel =>
            refine ⟨2 * q, Lib.hid ?_, by omega, by omega, by go_num⟩
            obtain ⟨j, hj⟩ := hq.out
            exact ⟨j + 1, by rw [hj, Nat.pow_succ]; omega⟩
          case measure => simp [intOf]; omega
        · have hc1 : ¬ (q : Int) < (n' : Int) - (q : Int) := by omega
          have HQ : Hid (spl n' = q) := Lib.hid (by
            obtain ⟨j, hj⟩ := hq.out
            rw [hj]
            exact spl_is (j := j) (by omega) (by omega))
          have hown := HW.out.own
          have hBl : Bs.length ≤ p := by
            have e := congrArg List.length HW.out.way
            rw [List.length_append, HR.out] at e
            omega
          have hsz := HW.out.below.size
          have hlf := HW.out.leaf.lt
          by_cases hiq : i' < q
          · have hiq1 : (i' : Int) < (q : Int) := by omega
            have hiq2 : ¬ q ≤ i' := by omega
            have hiq3 : ¬ (q : Int) ≤ (i' : Int) := by omega
            have hbf : ∀ w', (Instr.buildSlice 47 1 #[(0, .bool false)]).run Tryd.prog w' = .ok (.slice (some ⟨w'.heap.size, 0, none⟩) 1 1) (w'.alloc (.cells #[.bool false] 4)) := run_buildB false
            go_wp2_with (first
              | (refine appB (.tmp 23) (.tmp 27) rfl rfl (w.heap.size + 1) _ Bs false rfl (ownsRow_kept hown (below1 _ _) (Nat.le_refl _)) _ 1 rfl ((BlkIs.new _ _ _).cell 0) (by simp) (by omega) (by simp; omega) ?_; intro v2 w2 ho2 hg2; have HW2 := Lib.hid (HW.out.next hiq (by omega) (by rw [rights_lo (by omega) (by rw [HQ.out]; exact hiq), HQ.out]) ho2 hg2))
              | fail)
            go_roundw
            case rel => exact ⟨q, i', Bs ++ [false], rfl, rfl, HW2⟩
            case measure => simp [intOf]; omega
          · have hiq1 : ¬ (i' : Int) < (q : Int) := by omega
            have hiq2 : q ≤ i' := by omega
            have hiq3 : (q : Int) ≤ (i' : Int) := by omega
            have hi9 := HW.out.lt
            have en : IntKind.i64.wrap ((n' : Int) - (q : Int)) = (n' : Int) - (q : Int) := IntWalk.i64_in _ (by omega)
            have ei : IntKind.i64.wrap ((i' : Int) - (q : Int)) = (i' : Int) - (q : Int) := IntWalk.i64_in _ (by omega)
            have cn : ((n' - q : Nat) : Int) = (n' : Int) - (q : Int) := by omega
            have ci : ((i' - q : Nat) : Int) = (i' : Int) - (q : Int) := by omega
            have hbf : ∀ w', (Instr.buildSlice 47 1 #[(0, .bool true)]).run Tryd.prog w' = .ok (.slice (some ⟨w'.heap.size, 0, none⟩) 1 1) (w'.alloc (.cells #[.bool true] 4)) := run_buildB true
            go_wp2_with (first
              | (refine appB (.tmp 23) (.tmp 27) rfl rfl (w.heap.size + 1) _ Bs true rfl (ownsRow_kept hown (below1 _ _) (Nat.le_refl _)) _ 1 rfl ((BlkIs.new _ _ _).cell 0) (by simp) (by omega) (by simp; omega) ?_; intro v2 w2 ho2 hg2; have HW2 := Lib.hid (HW.out.next (n2 := n' - q) (i2 := i' - q) (by have := HW.out.lt; omega) (by omega) (by rw [rights_hi (by omega) (by rw [HQ.out]; exact hiq), HQ.out]) ho2 hg2))
              | fail)
            go_roundw
            case rel => exact ⟨n' - q, i' - q, Bs ++ [true], by go_num, by go_num, HW2⟩
            case measure => simp [intOf]; omega
    · have hrn : rights n' i' = [] := rights_end (by omega) i'
      have hway := HW.out.way
      rw [hrn, List.append_nil] at hway
      subst hway
      obtain ⟨A9, c9, rfl, _, _⟩ := own_slice HW.out.own
      have HF : Hid (wr.ownsRow (w.heap.size + 1) 4 1 (.slice A9 p c9) p (bb (rights n i))) := Lib.hid (by have h9 := HW.out.own; rw [HR.out] at h9; exact h9)
      rename World => w1
      have HRR : Hid ((rights n i).reverse.length = p) := Lib.hid (by rw [List.length_reverse]; exact HR.out)
      have HU0 : Hid (UpW leaf P (rights n i).reverse w w1 w1 0 (.slice none 0 0)) := Lib.hid ⟨Nat.zero_le _, OwnP.nil _ _, HW.out.leaf, Tn.refl _ _⟩
      have HB1 := Lib.hid HW.out.below
      have HFB : Hid (∀ k, k < p → (rights n i).reverse.getD k false = (rights n i).getD (p - 1 - k) false) := Lib.hid fun k hk => getD_rev HR.out hk
      generalize hB : (rights n i).reverse = B at *
      rw [HR.out]
      clear HW hrn
      go_wp2_with fail
      go_loopw [11, 12] (fun v kk wq => ∃ k : Nat, kk = .int .i64 k ∧ Hid (UpW leaf P B w w1 wq k v)) (fun _ kk _ => p - (intOf kk).toNat)
      case atStart => exact ⟨0, rfl, HU0⟩
      case round =>
        obtain ⟨k, rfl, HU⟩ := hrel
        by_cases hk : k < p
        · have hk1 : (k : Int) < (p : Int) := by omega
          obtain ⟨g, o, rfl, hgB, hr⟩ := h.at_ (k := k) (by rw [HP.out]; exact hk)
          have hs := Sms.getD h.1 (k := k) (by rw [HP.out]; exact hk)
          have HTS : Hid (P.take (k + 1) = P.take k ++ [P.getD k []]) := Lib.hid (take_at (by rw [HP.out]; exact hk))
          have HTB : Hid (B.take (k + 1) = B.take k ++ [B.getD k false]) := Lib.hid (take_at (by rw [HRR.out]; exact hk))
          have HL32 : Hid ((runL leaf (P.take k) (B.take k)).length = 32) := Lib.hid (runL_length _ _ _ HL.out)
          have hle : (P.take k).length = (B.take k).length := by rw [List.length_take, List.length_take, HP.out, HRR.out]
          have HWY := Lib.hid (waysL_snoc (P.take k) (B.take k) leaf (P.getD k []) (B.getD k false) hle)
          have HRN := Lib.hid (runL_snoc (P.take k) (B.take k) leaf (P.getD k []) (B.getD k false) hle)
          have hlf := HU.out.leaf
          have hbw := HB1.out.trans (HU.out.tn.below HB1.out.size (fun i hi h => by omega))
          have HR2 : Hid (∀ W, Below wr.heap.size wr W → W.rangeAt g (o + k * 32) (bv (P.getD k [])) ∧ W.rangeAt w.heap.size 0 (bv (runL leaf (P.take k) (B.take k)))) := Lib.hid fun W hb =>
            ⟨range_below hr (hbw.trans (hb.mono hbw.size)) hgB, BlkIs.sum ((hb.block _ hlf.lt).trans hlf)⟩
          have HS32 := Lib.hid hs
          generalize P.getD k [] = s at *
          generalize hb : B.getD k false = b at *
          generalize runL leaf (P.take k) (B.take k) = L at *
          go_wp2_with fail
          have k0 : Below wr.heap.size wr wr.drew := (Below.refl _ wr).drew
          refine wp_region_held_drew (S := (fun W => Below wr.heap.size wr W)) (by kernel_rfl) (k0) (fun hHeld => ?_)
          generalize wr.drew = wd at *
          refine wpAnyH_take (i := 0) (v := _) rfl (by kernel_rfl) (by kernel_rfl) (by kernel_rfl) (fun _ _ _ h => h) (yieldsIf_load_mid (by rfl) 22 (.tmp 6) rfl w.heap.size 0 rfl (bv L) _ (fun w h => (HR2.out w h).2) Tryd.underlying22 rfl (isz26s HL32.out)) hHeld ?_
          try simp only [Act.put, List.getElem_toArray, List.getElem_cons_zero, List.setIfInBounds_toArray, List.set_cons_zero, List.set_cons_succ]
          refine wpAnyH_take (i := 1) (v := .slice (some ⟨g, o, none⟩) p c) rfl (by kernel_rfl) (by kernel_rfl) (by kernel_rfl) (fun _ _ _ h => h) (Or.inl ⟨by rfl, fun w hS => by first | (go_simp; done) | (go_simp; with_reducible rfl)⟩) hHeld ?_
          try simp only [Act.put, List.getElem_toArray, List.getElem_cons_zero, List.getElem_cons_succ, List.setIfInBounds_toArray, List.set_cons_zero, List.set_cons_succ]
          refine wpAnyH_take (i := 2) (v := .int .i64 k) rfl (by kernel_rfl) (by kernel_rfl) (by kernel_rfl) (fun _ _ _ h => h) (Or.inl ⟨by rfl, fun w hS => by first | (go_simp; done) | (go_simp; with_reducible rfl)⟩) hHeld ?_
          try simp only [Act.put, List.getElem_toArray, List.getElem_cons_zero, List.getElem_cons_succ, List.setIfInBounds_toArray, List.set_cons_zero, List.set_cons_succ]
          refine wpAnyH_take (i := 3) (v := .pointer (some ⟨g, o + k * 32, none⟩)) rfl (by kernel_rfl) (by kernel_rfl) (by kernel_rfl) (fun _ _ _ h => h) (Or.inl ⟨by rfl, fun w hS => by first | (go_simp; done) | (go_simp; with_reducible rfl)⟩) hHeld ?_
          try simp only [Act.put, List.getElem_toArray, List.getElem_cons_zero, List.getElem_cons_succ, List.setIfInBounds_toArray, List.set_cons_zero, List.set_cons_succ]
          refine wpAnyH_take (i := 4) (v := _) rfl (by kernel_rfl) (by kernel_rfl) (by kernel_rfl) (fun _ _ _ h => h) (yieldsIf_load_mid (by rfl) 22 (.tmp 54) rfl g (o + k * 32) rfl (bv s) _ (fun w h => (HR2.out w h).1) Tryd.underlying22 rfl (isz26s HS32.out)) hHeld ?_
          try simp only [Act.put, List.getElem_toArray, List.getElem_cons_zero, List.getElem_cons_succ, List.setIfInBounds_toArray, List.set_cons_zero, List.set_cons_succ]
          refine wpAnyH_take (i := 5) (v := _) rfl (by kernel_rfl) (by kernel_rfl) (by kernel_rfl) (fun _ _ _ h => h) (yields_build 29 #[(0, .tmp 51), (1, .tmp 55)] #[(0, .agg (bv L).toArray), (1, .agg (bv s).toArray)] _ (fun w => run_build35 L s HL32.out HS32.out w) rfl (by simp only [List.map_toArray, List.map_cons, List.map_nil]; rfl) rfl) hHeld ?_
          try simp only [Act.put, List.getElem_toArray, List.getElem_cons_zero, List.getElem_cons_succ, List.setIfInBounds_toArray, List.set_cons_zero, List.set_cons_succ]
          have HLs : Hid ((L ++ s).length = 64) := Lib.hid (by rw [List.length_append, HL32.out, HS32.out])
          have HZs : Hid ((bv (List.replicate 64 0)).toArray.size = (bv (L ++ s)).toArray.size) := Lib.hid (by rw [List.size_toArray, List.size_toArray, bv_length, bv_length, HLs.out]; rfl)
          have ksz := k0.size
          refine wpAnyH_ready (rs := [6]) (by kernel_rfl) (by simp) ?_
          refine AllReadyH.cons rfl (fun K hK => ?_) AllReadyH.nil
          go_simp
          refine hK.out _ _ ?_ (fun hHeld => ?_)
          · exact k0.alloc k0.size _
          clear hK K
          try simp only [Act.put, List.getElem_toArray, List.getElem_cons_zero, List.getElem_cons_succ, List.setIfInBounds_toArray, List.set_cons_zero, List.set_cons_succ]
          have kz := k0.alloc k0.size (.cells (bv (List.replicate 64 0)).toArray 29)
          refine wpAnyH_ready (rs := [7]) (by kernel_rfl) (by simp) ?_
          refine AllReadyH.cons rfl (fun K hK => ?_) AllReadyH.nil
          refine step_store (.tmp 13) (.tmp 56) 29 wd.heap.size 29 _ (bv (L ++ s)).toArray (BlkIs.new _ _ _) rfl rfl rfl rfl rfl (isz35a HLs.out) HZs.out (bv_all _) ?_; intro wx blx htx
          refine hK.out _ _ ?_ (fun hHeld => ?_)
          · exact kz.trans (htx.below kz.size (fun i hi h => by omega))
          clear hK K
          try simp only [Act.put, List.getElem_toArray, List.getElem_cons_zero, List.getElem_cons_succ, List.setIfInBounds_toArray, List.set_cons_zero, List.set_cons_succ]
          refine wpAnyH_done (by kernel_rfl) ?_ _
          have kx : Below wr.heap.size wr wx := kz.trans (htx.below kz.size (fun i hi h => by omega))
          clear htx
          obtain ⟨gx, hgx⟩ : ∃ g, g = wd.heap.size := ⟨_, rfl⟩
          rw [← hgx] at blx ⊢
          have hgx1 : wr.heap.size ≤ gx := by omega
          clear hgx kz ksz
          obtain ⟨g9, rfl, hg9, hg9l, hc9⟩ := flag_at (j := p - 1 - k) HF.out (by rw [HR.out]; omega)
          rw [← HFB.out k hk, hb] at hc9
          have hcx : wx.cell? ⟨g9, p - 1 - k, none⟩ = some (.bool b) := by
            have e1 := HU.out.tn.block g9 hg9l (by omega)
            have e2 := kx.block g9 (Nat.lt_of_lt_of_le hg9l HU.out.tn.size)
            rw [← hc9]
            simp only [World.cell?, e2, e1]
          have hgxl := blx.lt
          have hgl : g9 < wx.heap.size := Nat.lt_of_lt_of_le hg9l (Nat.le_trans HU.out.tn.size kx.size)
          have q1 : IntKind.i64.wrap ((p : Int) - 1) = ((p - 1 : Nat) : Int) := by rw [IntWalk.i64_in _ (by omega)]; omega
          have q2 : IntKind.i64.wrap (((p - 1 : Nat) : Int) - (k : Int)) = ((p - 1 - k : Nat) : Int) := by rw [IntWalk.i64_in _ (by omega)]; omega
          have q3 : p - 1 - k < p := by omega
          clear hc9
          have hs1 := HF.out
          have hws : w.heap.size < w1.heap.size := by
            have := HU.out.tn.size
            omega
          have hbp : ∀ x : List UInt8, x.length = 64 → ∀ w', (Instr.buildSlice 27 1 #[(0, .agg (bv x).toArray)]).run Tryd.prog w' = .ok (.slice (some ⟨w'.heap.size, 0, none⟩) 1 1) (w'.alloc (.cells (bv x).toArray 29)) := fun x hx => run_buildP1 hx
          clear hs1
          cases b
          · have hrx : wx.rangeAt gx 0 (bv (L ++ s)) := BlkIs.sum blx
            have hb1 := hbp _ HLs.out
            have hown := HU.out.own
            have HLF : BlkIs wx w.heap.size 22 (bv L).toArray := (kx.block _ hlf.lt).trans hlf
            have hwl : (waysL leaf (List.take k P) (List.take k B)).length + 1 ≤ 1000000000 := by
              rw [waysL_length _ _ _ hle, List.length_take, HP.out]; omega
            have hz1 := HU.out.tn.size
            have hz2 := kx.size
            have HNO : Hid (∀ W, Calls Tryd.prog 8 #[.agg (bv L).toArray, .agg (bv s).toArray] W fun e w' => e = .returned (.agg (bv (nodeS L s)).toArray) ∧ Below W.heap.size W w') := Lib.hid fun W => rnode_any L s W HL32.out HS32.out
            have HNL : Hid ((nodeS L s).length = 32) := Lib.hid (nodeS_length _ _)
            have HZN : Hid ((bv L).toArray.size = (bv (nodeS L s)).toArray.size) := Lib.hid (by rw [List.size_toArray, List.size_toArray, bv_length, bv_length, HL32.out, HNL.out])
            have HQ : Hid (∀ w2, (wx.alloc (.cells (bv (L ++ s)).toArray 29)).grownBy w2 u11.ownBlock → w2.rangeAt gx 0 (bv L) ∧ w2.rangeAt gx 32 (bv s) ∧ BlkIs w2 w.heap.size 22 (bv L).toArray) := Lib.hid fun w2 hg2 => by
              have hl3 := HLF.lt
              have p2 : BlkIs w2 gx 29 (bv (L ++ s)).toArray := (hg2.block gx (by simp; omega) (fun e => by have := (World.ownsRow.lt hown.2 gx e.symm).2; omega)).trans ((Below.heap_alloc wx _ gx hgxl).trans blx)
              have l2 : BlkIs w2 w.heap.size 22 (bv L).toArray := (hg2.block w.heap.size (by simp; omega) (fun e => by have := (World.ownsRow.lt hown.2 w.heap.size e.symm).1; omega)).trans ((Below.heap_alloc wx _ w.heap.size HLF.lt).trans HLF)
              obtain ⟨pr1, pr2⟩ := pair_ranges p2 HL32.out
              exact ⟨pr1, pr2, l2⟩
            clear hbp
            go_wp2_with (first
              | (refine load_wt (by rfl) 29 (.tmp 13) rfl gx 0 rfl (bv (L ++ s)) _ hrx Tryd.underlying29 rfl (isz35s HLs.out) ?_
                 refine buildS_ops 27 1 #[(0, .tmp 72)] #[(0, .agg (bv (L ++ s)).toArray)] _ (hb1 _) (by rfl) (by first | rfl | (simp; rfl) | (simp; done)) (by rfl) ?_
                 refine appP (.tmp 71) (.tmp 73) rfl rfl w1.heap.size u11 (waysL leaf (List.take k P) (List.take k B)) (L, s) rfl (hown.kept (kx.trans ((below1 wx _).mono hz2)) (Nat.le_refl _)) wx.heap.size 1 rfl (BlkIs.sum (BlkIs.new wx _ _)) HL32.out HS32.out hwl (by simp; omega) ?_
                 intro v2 w2 ho2 hg2
                 obtain ⟨pr1, pr2, l2⟩ := HQ.out w2 hg2
                 go_simp)
              | (refine load_wt (by rfl) 22 (.tmp 75) rfl gx 0 rfl (bv L) _ pr1 Tryd.underlying22 rfl (isz26s HL32.out) ?_)
              | (refine load_wt (by rfl) 22 (.tmp 77) rfl gx 32 rfl (bv s) _ pr2 Tryd.underlying22 rfl (isz26s HS32.out) ?_)
              | (go_at_call 8; refine (HNO.out _).mono ?_; rintro e w3 ⟨rfl, hb3⟩; have l3 : BlkIs w3 w.heap.size 22 (bv L).toArray := (hb3.block _ l2.lt).trans l2)
              | (refine store_bl (.tmp 6) (.tmp 79) 22 w.heap.size 22 _ (bv (nodeS L s)).toArray l3 rfl rfl rfl rfl rfl (isz26a HNL.out) HZN.out (bv_all _) ?_; intro w4 h4 ht4)
              | fail)
            go_roundw
            case rel => exact ⟨k + 1, by go_num, Lib.hid (HU.out.step (by rw [HP.out]; exact hk) hws HTS.out HTB.out HWY.out HRN.out kx ho2 hg2 hb3 h4 ht4)⟩
            case measure => simp [intOf]; omega
          · have HLr : Hid ((s ++ L).length = 64) := Lib.hid (by rw [List.length_append, HL32.out, HS32.out])
            have HZr : Hid ((bv (L ++ s)).toArray.size = (bv (s ++ L)).toArray.size) := Lib.hid (by rw [List.size_toArray, List.size_toArray, bv_length, bv_length, HLs.out, HLr.out])
            have kxd : Below wr.heap.size wr wx.drew := kx.drew
            have bxd : BlkIs wx.drew gx 29 (bv (L ++ s)).toArray := ((Below.refl wx.heap.size wx).drew.block gx hgxl).trans blx
            go_wp2_with fail
            refine wp_region_held_drew (S := (fun W => Below wr.heap.size wr W)) (by kernel_rfl) (kxd) (fun hHeld => ?_)
            generalize wx.drew = we at *
            refine wpAnyH_take (i := 0) (v := .slice (some ⟨g, o, none⟩) p c) rfl (by kernel_rfl) (by kernel_rfl) (by kernel_rfl) (fun _ _ _ h => h) (Or.inl ⟨by rfl, fun w hS => by first | (go_simp; done) | (go_simp; with_reducible rfl)⟩) hHeld ?_
            try simp only [Act.put, List.getElem_toArray, List.getElem_cons_zero, List.setIfInBounds_toArray, List.set_cons_zero, List.set_cons_succ]
            refine wpAnyH_take (i := 1) (v := .int .i64 k) rfl (by kernel_rfl) (by kernel_rfl) (by kernel_rfl) (fun _ _ _ h => h) (Or.inl ⟨by rfl, fun w hS => by first | (go_simp; done) | (go_simp; with_reducible rfl)⟩) hHeld ?_
            try simp only [Act.put, List.getElem_toArray, List.getElem_cons_zero, List.getElem_cons_succ, List.setIfInBounds_toArray, List.set_cons_zero, List.set_cons_succ]
            refine wpAnyH_take (i := 2) (v := .pointer (some ⟨g, o + k * 32, none⟩)) rfl (by kernel_rfl) (by kernel_rfl) (by kernel_rfl) (fun _ _ _ h => h) (Or.inl ⟨by rfl, fun w hS => by first | (go_simp; done) | (go_simp; with_reducible rfl)⟩) hHeld ?_
            try simp only [Act.put, List.getElem_toArray, List.getElem_cons_zero, List.getElem_cons_succ, List.setIfInBounds_toArray, List.set_cons_zero, List.set_cons_succ]
            refine wpAnyH_take (i := 3) (v := _) rfl (by kernel_rfl) (by kernel_rfl) (by kernel_rfl) (fun _ _ _ h => h) (yieldsIf_load_mid (by rfl) 22 (.tmp 67) rfl g (o + k * 32) rfl (bv s) _ (fun w h => (HR2.out w h).1) Tryd.underlying22 rfl (isz26s HS32.out)) hHeld ?_
            try simp only [Act.put, List.getElem_toArray, List.getElem_cons_zero, List.getElem_cons_succ, List.setIfInBounds_toArray, List.set_cons_zero, List.set_cons_succ]
            refine wpAnyH_take (i := 4) (v := _) rfl (by kernel_rfl) (by kernel_rfl) (by kernel_rfl) (fun _ _ _ h => h) (yieldsIf_load_mid (by rfl) 22 (.tmp 6) rfl w.heap.size 0 rfl (bv L) _ (fun w h => (HR2.out w h).2) Tryd.underlying22 rfl (isz26s HL32.out)) hHeld ?_
            try simp only [Act.put, List.getElem_toArray, List.getElem_cons_zero, List.getElem_cons_succ, List.setIfInBounds_toArray, List.set_cons_zero, List.set_cons_succ]
            refine wpAnyH_take (i := 5) (v := _) rfl (by kernel_rfl) (by kernel_rfl) (by kernel_rfl) (fun _ _ _ h => h) (yields_build 29 #[(0, .tmp 68), (1, .tmp 69)] #[(0, .agg (bv s).toArray), (1, .agg (bv L).toArray)] _ (fun w => run_build35 s L HS32.out HL32.out w) rfl (by simp only [List.map_toArray, List.map_cons, List.map_nil]; rfl) rfl) hHeld ?_
            try simp only [Act.put, List.getElem_toArray, List.getElem_cons_zero, List.getElem_cons_succ, List.setIfInBounds_toArray, List.set_cons_zero, List.set_cons_succ]
            refine wpAnyH_ready (rs := [6]) (by kernel_rfl) (by simp) ?_
            refine AllReadyH.cons rfl (fun K hK => ?_) AllReadyH.nil
            refine step_store (.tmp 13) (.tmp 70) 29 gx 29 _ (bv (s ++ L)).toArray bxd rfl rfl rfl rfl rfl (isz35a HLr.out) HZr.out (bv_all _) ?_; intro wy bly hty
            refine hK.out _ _ ?_ (fun hHeld => ?_)
            · exact kxd.trans (hty.below kxd.size (fun i hi h => by omega))
            clear hK K
            try simp only [Act.put, List.getElem_toArray, List.getElem_cons_zero, List.getElem_cons_succ, List.setIfInBounds_toArray, List.set_cons_zero, List.set_cons_succ]
            refine wpAnyH_done (by kernel_rfl) ?_ _
            have ky : Below wr.heap.size wr wy := kxd.trans (hty.below kxd.size (fun i hi h => by omega))
            have hgyl := bly.lt
            clear bxd kxd hty
            have hrx : wy.rangeAt gx 0 (bv (s ++ L)) := BlkIs.sum bly
            have hb1 := hbp _ HLr.out
            have hown := HU.out.own
            have HLF : BlkIs wy w.heap.size 22 (bv L).toArray := (ky.block _ hlf.lt).trans hlf
            have hwl : (waysL leaf (List.take k P) (List.take k B)).length + 1 ≤ 1000000000 := by
              rw [waysL_length _ _ _ hle, List.length_take, HP.out]; omega
            have hz1 := HU.out.tn.size
            have hz2 := ky.size
            have HNO : Hid (∀ W, Calls Tryd.prog 8 #[.agg (bv s).toArray, .agg (bv L).toArray] W fun e w' => e = .returned (.agg (bv (nodeS s L)).toArray) ∧ Below W.heap.size W w') := Lib.hid fun W => rnode_any s L W HS32.out HL32.out
            have HNL : Hid ((nodeS s L).length = 32) := Lib.hid (nodeS_length _ _)
            have HZN : Hid ((bv L).toArray.size = (bv (nodeS s L)).toArray.size) := Lib.hid (by rw [List.size_toArray, List.size_toArray, bv_length, bv_length, HL32.out, HNL.out])
            have HQ : Hid (∀ w2, (wy.alloc (.cells (bv (s ++ L)).toArray 29)).grownBy w2 u11.ownBlock → w2.rangeAt gx 0 (bv s) ∧ w2.rangeAt gx 32 (bv L) ∧ BlkIs w2 w.heap.size 22 (bv L).toArray) := Lib.hid fun w2 hg2 => by
              have hl3 := HLF.lt
              have p2 : BlkIs w2 gx 29 (bv (s ++ L)).toArray := (hg2.block gx (by simp; omega) (fun e => by have := (World.ownsRow.lt hown.2 gx e.symm).2; omega)).trans ((Below.heap_alloc wy _ gx hgyl).trans bly)
              have l2 : BlkIs w2 w.heap.size 22 (bv L).toArray := (hg2.block w.heap.size (by simp; omega) (fun e => by have := (World.ownsRow.lt hown.2 w.heap.size e.symm).1; omega)).trans ((Below.heap_alloc wy _ w.heap.size HLF.lt).trans HLF)
              obtain ⟨pr1, pr2⟩ := pair_ranges p2 HS32.out
              exact ⟨pr1, pr2, l2⟩
            clear hbp
            go_wp2_with (first
              | (refine load_wt (by rfl) 29 (.tmp 13) rfl gx 0 rfl (bv (s ++ L)) _ hrx Tryd.underlying29 rfl (isz35s HLr.out) ?_
                 refine buildS_ops 27 1 #[(0, .tmp 72)] #[(0, .agg (bv (s ++ L)).toArray)] _ (hb1 _) (by rfl) (by first | rfl | (simp; rfl) | (simp; done)) (by rfl) ?_
                 refine appP (.tmp 71) (.tmp 73) rfl rfl w1.heap.size u11 (waysL leaf (List.take k P) (List.take k B)) (s, L) rfl (hown.kept (ky.trans ((below1 wy _).mono hz2)) (Nat.le_refl _)) wy.heap.size 1 rfl (BlkIs.sum (BlkIs.new wy _ _)) HS32.out HL32.out hwl (by simp; omega) ?_
                 intro v2 w2 ho2 hg2
                 obtain ⟨pr1, pr2, l2⟩ := HQ.out w2 hg2
                 go_simp)
              | (refine load_wt (by rfl) 22 (.tmp 75) rfl gx 0 rfl (bv s) _ pr1 Tryd.underlying22 rfl (isz26s HS32.out) ?_)
              | (refine load_wt (by rfl) 22 (.tmp 77) rfl gx 32 rfl (bv L) _ pr2 Tryd.underlying22 rfl (isz26s HL32.out) ?_)
              | (go_at_call 8; refine (HNO.out _).mono ?_; rintro e w3 ⟨rfl, hb3⟩; have l3 : BlkIs w3 w.heap.size 22 (bv L).toArray := (hb3.block _ l2.lt).trans l2)
              | (refine store_bl (.tmp 6) (.tmp 79) 22 w.heap.size 22 _ (bv (nodeS s L)).toArray l3 rfl rfl rfl rfl rfl (isz26a HNL.out) HZN.out (bv_all _) ?_; intro w4 h4 ht4)
              | fail)
            go_roundw
            case rel => exact ⟨k + 1, by go_num, Lib.hid (HU.out.step (by rw [HP.out]; exact hk) hws HTS.out HTB.out HWY.out HRN.out ky ho2 hg2 hb3 h4 ht4)⟩
            case measure => simp [intOf]; omega
        · have hk1 : ¬ (k : Int) < (p : Int) := by omega
          have hkp : k = p := by have := HU.out.le; rw [HP.out] at this; omega
          have HE := HU.out.own
          have HT := HU.out.tn
          rw [List.take_of_length_le (by rw [HP.out]; omega), List.take_of_length_le (by rw [HRR.out]; omega)] at HE
          have hbs := HB1.out.size
          go_wp2_with fail
          go_ret
          exact ⟨_, rfl, ⟨HE.1, ownsRow_more HE.2 hbs⟩, HB1.out.trans (HT.below hbs (fun i hi h => by omega))⟩
end Go.Proofs.YtlbmieeimnjncaaDoor
