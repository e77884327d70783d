/- Lists of sums laid out of sums; appended. Conditions: as stated at each. -/
import Derived.Test.YtlbmieeimnjncaaDoorMkRoot
namespace Go.Proofs.YtlbmieeimnjncaaDoor
set_option maxRecDepth 100000
open Go.RowKit Go
theorem set_fold (off : Nat) : ∀ (l : List Value) (k : Nat) (cs : Array Value), off + k + l.length ≤ cs.size →
    ((l.zipIdx k).foldl (fun (cs : Array Value) (p : Value × Nat) => cs.setIfInBounds (off + p.2) p.1) cs).toList = cs.toList.take (off + k) ++ (l ++ cs.toList.drop (off + k + l.length))
  | [], k, cs, h => by simp
  | x :: l, k, cs, h => by
    simp only [List.length_cons] at h
    have hsz : off + k < cs.toList.length := by simp; omega
    rw [List.zipIdx_cons, List.foldl_cons, set_fold off l (k + 1) _ (by simp; omega)]
    simp only [Array.toList_setIfInBounds, List.length_cons]
    rw [← Nat.add_assoc, List.take_succ_eq_append_getElem (by simpa using hsz), List.take_set_of_le (Nat.le_refl _), List.getElem_set_self, List.drop_set_of_lt (by omega), List.append_assoc, List.singleton_append, List.cons_append,
      show off + k + 1 + l.length = off + k + (l.length + 1) from by omega]
theorem set_all (off : Nat) (X cs : Array Value) (h : off + X.size ≤ cs.size) :
    (X.zipIdx.foldl (fun (cs : Array Value) (p : Value × Nat) => cs.setIfInBounds (off + p.2) p.1) cs).toList = cs.toList.take off ++ (X.toList ++ cs.toList.drop (off + X.size)) := by
  rw [← Array.foldl_toList, Array.toList_zipIdx]
  have := set_fold off X.toList 0 cs (by simpa using h)
  simpa using this
theorem fill_step (k : Nat) (X cs : Array Value) (rest : List (Nat × Value)) (hX : X.size = 32) (h : k * 32 + 32 ≤ cs.size) :
    Instr.fill (fun i => some (i * 32, 32)) cs ((k, .agg X) :: rest) = Instr.fill (fun i => some (i * 32, 32)) (X.zipIdx.foldl (fun (cs : Array Value) (p : Value × Nat) => cs.setIfInBounds (k * 32 + p.2) p.1) cs) rest := by
  show (if (decide (¬ X.size = 32) || decide (k * 32 + X.size > cs.size)) = true then none else Instr.fill (fun i => some (i * 32, 32)) (X.zipIdx.foldl (fun (cs : Array Value) (p : Value × Nat) => cs.setIfInBounds (k * 32 + p.2) p.1) cs) rest) = _
  rw [if_neg (by simp [hX]; omega)]
theorem fill_sums : ∀ (L : List (List UInt8)) (k : Nat) (cs : Array Value), Sms L → 32 * (k + L.length) ≤ cs.size →
    ∃ cs', Instr.fill (fun i => some (i * 32, 32)) cs ((L.zipIdx k).map fun p => (p.2, Value.agg (bv p.1).toArray)) = some cs' ∧ cs'.toList = cs.toList.take (32 * k) ++ (bv L.flatten ++ cs.toList.drop (32 * (k + L.length)))
  | [], k, cs, h, hs => ⟨cs, rfl, by simp [bv]⟩
  | s :: L, k, cs, h, hs => by
    have h32 : s.length = 32 := h s (by simp)
    simp only [List.length_cons] at hs
    have hX : (bv s).toArray.size = 32 := by rw [List.size_toArray, bv_length, h32]
    obtain ⟨cs1, hcs1⟩ : ∃ cs1, cs1 = (bv s).toArray.zipIdx.foldl (fun (cs : Array Value) (p : Value × Nat) => cs.setIfInBounds (k * 32 + p.2) p.1) cs := ⟨_, rfl⟩
    have e1 := set_all (k * 32) (bv s).toArray cs (by rw [hX]; omega)
    rw [← hcs1, hX] at e1
    have hl1 : cs1.size = cs.size := by
      have := congrArg List.length e1
      simp [bv_length, h32] at this
      omega
    obtain ⟨cs2, e2, e3⟩ := fill_sums L (k + 1) cs1 (fun x hx => h x (by simp [hx])) (by omega)
    refine ⟨cs2, ?_, ?_⟩
    · rw [List.zipIdx_cons, List.map_cons, fill_step k _ _ _ hX (by omega), ← hcs1, e2]
    · have hT : (cs.toList.take (k * 32)).length = k * 32 := by rw [List.length_take]; simp; omega
      have hb : (bv s).length = 32 := by rw [bv_length, h32]
      have hab : (cs.toList.take (k * 32) ++ bv s).length = 32 * (k + 1) := by rw [List.length_append, hT, hb]; omega
      have e4 : cs1.toList = (cs.toList.take (k * 32) ++ bv s) ++ cs.toList.drop (k * 32 + 32) := by rw [e1, List.append_assoc]
      rw [e3, e4, List.take_left' hab, List.drop_append, List.drop_eq_nil_of_le (by omega), List.nil_append, hab, List.drop_drop, List.flatten_cons, bv_append, List.length_cons, Nat.mul_comm 32 k,
        show k * 32 + 32 + (32 * (k + 1 + L.length) - 32 * (k + 1)) = 32 * (k + (L.length + 1)) from by omega, List.append_assoc, List.append_assoc]
/-- a slice laid out of sums. -/
theorem run_buildH (L : List (List UInt8)) (n : Nat) (parts : Array (Nat × Value)) (hL : Sms L) (hn : L.length = n) (h1 : 1 ≤ n) (h9 : n ≤ 1000) (hp : parts.toList = (L.zipIdx 0).map fun p => (p.2, Value.agg (bv p.1).toArray)) (w : World) :
    (Instr.buildSlice 23 n parts).run Tryd.prog w = .ok (.slice (some ⟨w.heap.size, 0, none⟩) n n) (w.alloc (.cells (bv L.flatten).toArray 22)) := by
  obtain ⟨i, hi, hz, h0, h2⟩ := info_parts info26
  have key : ∀ cs : Array Value, cs.size = n * 32 → Instr.fill (fun i => some (i * 32, 32)) cs parts.toList = some (bv L.flatten).toArray := fun cs hcs => by
    obtain ⟨cs', e1, e2⟩ := fill_sums L 0 cs hL (by omega)
    rw [hp, e1]
    congr 1
    apply Array.toList_inj.1
    rw [e2, List.drop_eq_nil_of_le (by simp; omega)]
    simp
  have hbig : ¬ 16777216 < n * 32 := by omega
  have hn0 : ¬ n * 32 = 0 := by omega
  simp [Instr.buildSlice, Sem.run_bind, run_underlying Tryd.underlying23, sizeOf, typeInfo, hi, h0, hbig, zeroValue, hz, Value.cells]
  rw [if_neg hn0, key _ (by simp)]
  simp [newRow]
theorem run_build1 {s : List UInt8} (hs : s.length = 32) (w : World) : (Instr.buildSlice 23 1 #[(0, .agg (bv s).toArray)]).run Tryd.prog w = .ok (.slice (some ⟨w.heap.size, 0, none⟩) 1 1) (w.alloc (.cells (bv s).toArray 22)) := by
  have := run_buildH [s] 1 #[(0, .agg (bv s).toArray)] (Sms.one hs) rfl (by omega) (by omega) rfl w
  rwa [show [s].flatten = s by simp] at this
theorem step_build {P : Program} {ops : Array Oper} {o : Oper} {a : Act} {w w' : World} {K : Act → World → Prop} {Q : Exit → Act → World → Prop} {E : Prop} (t : TypeId) (n : Nat) (parts : Array (Nat × Operand)) (vs : Array (Nat × Value)) (v : Value)
    (hrun : (Instr.buildSlice t n vs).run P w = .ok v w') (ho : o.op = .buildSlice t n parts) (hx : (parts.map fun (i, x) => (i, a.eval x)) = vs) (hgd : o.guard = none)
    (h : K (a.put o.dst v) w') : if Region.wanted o (yielded ops a.tmps) = true then Oper.wp P o a w K Q else E := by
  have hw : Region.wanted o (yielded ops a.tmps) = true := by simp [Region.wanted, hgd]
  rw [if_pos hw]
  unfold Oper.wp execOp
  simp only [ho, hx, Sem.run_bind, hrun, Result.andThen, Sem.run_pure]
  exact h
theorem list_build {P : Program} {ops : Array Oper} {rest : List Oper} {o : Oper} {a : Act} {w w' : World} {Q : Exit → Act → World → Prop} (t : TypeId) (n : Nat) (parts : Array (Nat × Operand)) (vs : Array (Nat × Value)) (v : Value)
    (hrun : (Instr.buildSlice t n vs).run P w = .ok v w') (ho : o.op = .buildSlice t n parts) (hx : (parts.map fun (i, x) => (i, a.eval x)) = vs) (hgd : o.guard = none)
    (h : wpList P ops Q rest (a.put o.dst v) w') : wpList P ops Q (o :: rest) a w := by
  refine wpList_plain hgd fun K hK => ?_
  unfold Oper.wp execOp
  simp only [ho, hx, Sem.run_bind, hrun, Result.andThen, Sem.run_pure]
  exact hK _ _ h
theorem OwnH.low {w : World} {N : Nat} {v : Value} {L : List (List UInt8)} (h : OwnH w N v L) : ∀ k, v.ownBlock = some k → N ≤ k := fun k hk => (h.2.lt k hk).1
/-- one sum more, in a region that draws its order. -/
theorem step_appH {ops : Array Oper} {o : Oper} {a : Act} {w : World} {K : Act → World → Prop} {Q : Exit → Act → World → Prop} {E : Prop} (x y : Operand) {N : Nat} {v : Value} {L : List (List UInt8)} {s : List UInt8} {g c : Nat} (hown : OwnH w N v L) (hs : s.length = 32) (hc : w.rangeAt g 0 (bv s))
    (ho : o.op = .call { callee := .builtin .append, args := #[x, y], argTypes := #[23, 23] }) (hx : a.eval x = v) (hy : a.eval y = .slice (some ⟨g, 0, none⟩) 1 c) (hgd : o.guard = none) (hl : L.length + 1 ≤ 1000000000) (hN : N ≤ w.heap.size)
    (h : ∀ v' w', OwnH w' N v' (L ++ [s]) → Below N w w' → K (a.put o.dst v') w') : if Region.wanted o (yielded ops a.tmps) = true then Oper.wp Tryd.prog o a w K Q else E := by
  have hw : Region.wanted o (yielded ops a.tmps) = true := by simp [Region.wanted, hgd]
  rw [if_pos hw]
  obtain ⟨v', w', hrun, h2, h3⟩ := run_appH (w := w) o.type (c := c) hown hs hc hl hN
  unfold Oper.wp execOp
  simp only [ho, resolve, invoke, builtin, Sem.run_bind, Sem.run_pure, Result.andThen_ok, List.map_toArray, List.map_cons, List.map_nil, hx, hy, hrun]
  exact h v' w' h2 ((Below.refl N w).grown h3 hN hown.low)
end Go.Proofs.YtlbmieeimnjncaaDoor
