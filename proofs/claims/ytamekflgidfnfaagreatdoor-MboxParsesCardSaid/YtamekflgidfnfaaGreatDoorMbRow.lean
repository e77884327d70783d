/- Rows of letters that a call makes; what one letter's three parts come to. Conditions: as stated at each. -/
import Derived.Test.YtamekflgidfnfaaGreatDoorMbBody
import Derived.Deep.MidRow
namespace Go.Proofs.YtamekflgidfnfaaGreatDoor
set_option maxRecDepth 100000
namespace Mb
open Go.RowKit Go Go.Proofs.YtamekflgidfnfaaGreatDoor.Pa
abbrev V3 : Type := Value × Value × Value
def tc (xs : List V3) : List Value := xs.flatMap fun p => [p.1, p.2.1, p.2.2]
theorem tc_nil : tc [] = [] := rfl
theorem tc_cons (p : V3) (xs : List V3) : tc (p :: xs) = p.1 :: p.2.1 :: p.2.2 :: tc xs := rfl
theorem tc_append (a b : List V3) : tc (a ++ b) = tc a ++ tc b := by simp [tc]
theorem tc_length : ∀ xs : List V3, (tc xs).length = xs.length * 3
  | [] => rfl
  | p :: xs => by rw [tc_cons, List.length_cons, List.length_cons, List.length_cons, tc_length xs, List.length_cons]; omega
theorem tc_get : ∀ {xs : List V3} {k : Nat} {p : V3}, xs[k]? = some p → (tc xs)[k * 3]? = some p.1 ∧ (tc xs)[k * 3 + 1]? = some p.2.1 ∧ (tc xs)[k * 3 + 2]? = some p.2.2
  | [], k, p, h => by simp at h
  | q :: xs, 0, p, h => by
    have : q = p := by simpa using h
    subst this
    exact ⟨rfl, rfl, rfl⟩
  | q :: xs, k + 1, p, h => by
    have := tc_get (xs := xs) (k := k) (p := p) (by simpa using h)
    rw [tc_cons, show (k + 1) * 3 = (k * 3 + 2) + 1 by omega]
    simpa using this
theorem own_same {w w' : World} {N n sz : Nat} {e : TypeId} {v : Value} {xs : List Value} (h : w.ownsRow N e sz v n xs) (hb : ∀ b, v.ownBlock = some b → w'.heap[b]? = w.heap[b]?) : w'.ownsRow N e sz v n xs := by
  refine ⟨h.1, ?_⟩
  rcases h.2 with hn | ⟨g, cap, cur, rfl, hn, hh, rest⟩
  · exact .inl hn
  · exact .inr ⟨g, cap, cur, rfl, hn, (hb g rfl).trans hh, rest⟩
theorem own_range {w : World} {N n sz c : Nat} {A : Option Addr} {e : TypeId} {xs : List Value} (h : w.ownsRow N e sz (.slice A n c) n xs) (hne : xs ≠ []) : ∃ g, A = some ⟨g, 0, none⟩ ∧ N ≤ g ∧ g < w.heap.size ∧ w.rangeAt g 0 xs := by
  rcases h.2 with ⟨_, h0⟩ | ⟨g, cap, cur, hv, hn, hh, h1, h2, h3, h4⟩
  · have := h.1
    rw [h0, Nat.zero_mul] at this
    exact absurd (List.eq_nil_of_length_eq_zero this) hne
  · injection hv with hv1 _ _
    refine ⟨g, hv1, hn, (Array.getElem?_eq_some_iff.1 hh).1, fun j v hj => ?_⟩
    rw [Nat.zero_add, cell_of_row w g j cur e (0, 0) hh, ← Array.getElem?_toList]
    have hlt : j < n * sz := by
      have := (List.getElem?_eq_some_iff.1 hj).1
      rw [h.1] at this
      exact this
    rw [← h4, List.getElem?_take_of_lt hlt] at hj
    exact hj
theorem own_slice3 {w : World} {N n sz : Nat} {e : TypeId} {v : Value} {xs : List Value} (h : w.ownsRow N e sz v n xs) : ∃ A c, v = .slice A n c ∧ n ≤ c ∧ c ≤ maxLen := by
  rcases h.2 with ⟨rfl, rfl⟩ | ⟨g, cap, cur, rfl, _, _, h1, h2, _⟩
  · exact ⟨none, 0, rfl, Nat.le_refl _, Nat.zero_le _⟩
  · exact ⟨_, _, rfl, h1, h2⟩
theorem own_type {w : World} {N s : Nat} {e : TypeId} {n : Nat} {v : Value} {xs : List Value} (h : w.ownsRow N e s v n xs) {k : Nat} (hv : v.ownBlock = some k) : N ≤ k ∧ ∃ cs fr, w.heap[k]? = some (.cells cs e fr) := by
  rcases h.2 with ⟨rfl, _⟩ | ⟨g, cap, cur, rfl, hn, hh, _⟩
  · cases hv
  · have e1 : g = k := by simpa [Value.ownBlock] using hv
    subst e1
    exact ⟨hn, _, _, hh⟩
/-- one letter more. -/
theorem run_appT {P : Program} {w : World} {t ty e : TypeId} {z : Value} {bytes : Nat} (ht : P.underlying t = some (.slice e)) (hi : (P.info? e).map (fun i => (i.zero, i.size, i.bytes)) = some (some z, 3, bytes)) (hzs : z.cells.size = 3) (hby : bytes ≤ 48)
    {N : Nat} {v : Value} {xs : List V3} (hown : w.ownsRow N e 3 v xs.length (tc xs)) {p : V3} (hp1 : p.1.oneCell' = true) (hp2 : p.2.1.oneCell' = true) (hp3 : p.2.2.oneCell' = true) {g c : Nat} (hc0 : w.cell? ⟨g, 0, none⟩ = some p.1) (hc1 : w.cell? ⟨g, 1, none⟩ = some p.2.1) (hc2 : w.cell? ⟨g, 2, none⟩ = some p.2.2)
    (hl : xs.length + 1 ≤ 1000000000) (hN : N ≤ w.heap.size) :
    ∃ v' w', (Builtin.append_ #[t, t] ty #[v, .slice (some ⟨g, 0, none⟩) 1 c]).run P w = .ok v' w' ∧ w'.ownsRow N e 3 v' (xs ++ [p]).length (tc (xs ++ [p])) ∧ w.grownBy w' v.ownBlock ∧ (v'.ownBlock = v.ownBlock ∨ v'.ownBlock = some w.heap.size) := by
  obtain ⟨i, hi, hz, h0, h1⟩ := info_parts hi
  obtain ⟨v', w', hrun, h2, h3, _, h5⟩ := run_append_own_at (P := P) w N t ty e i z 3 bytes ht hi hz h0 h1 hzs (by omega) v xs.length (tc xs) hown ⟨g, 0, none⟩ 1 c (tc [p]) rfl
    (fun j u hj => by
      have : j = 0 ∨ j = 1 ∨ j = 2 := by
        have := (List.getElem?_eq_some_iff.1 hj).1
        rw [tc_length] at this
        simp at this
        omega
      rcases this with rfl | rfl | rfl
      · have : p.1 = u := by simpa [tc] using hj
        rw [← this]
        simpa [Addr.add] using hc0
      · have : p.2.1 = u := by simpa [tc] using hj
        rw [← this]
        simpa [Addr.add] using hc1
      · have : p.2.2 = u := by simpa [tc] using hj
        rw [← this]
        simpa [Addr.add] using hc2) (fun u hu => by
      have : u = p.1 ∨ u = p.2.1 ∨ u = p.2.2 := by simpa [tc] using hu
      rcases this with rfl | rfl | rfl
      · exact hp1
      · exact hp2
      · exact hp3) (by unfold maxLen; omega) (Nat.le_trans (Nat.mul_le_mul hl hby) (by decide)) hN
  refine ⟨v', w', hrun, ?_, h3, h5⟩
  rw [List.length_append, tc_append]
  exact h2
theorem stepT {P : Program} {ops : Array Oper} {o : Oper} {a : Act} {w : World} {K : Act → World → Prop} {Q : Exit → Act → World → Prop} {E : Prop} (s x : Operand) {t e : TypeId} {z : Value} {bytes : Nat} (ht : P.underlying t = some (.slice e)) (hi : (P.info? e).map (fun i => (i.zero, i.size, i.bytes)) = some (some z, 3, bytes)) (hzs : z.cells.size = 3) (hby : bytes ≤ 48)
    (ho : o.op = .call { callee := .builtin .append, args := #[s, x], argTypes := #[t, t] }) (hgd : o.guard = none)
    {N : Nat} {v : Value} {xs : List V3} (hs : a.eval s = v) (hown : w.ownsRow N e 3 v xs.length (tc xs)) {p : V3} (hp1 : p.1.oneCell' = true) (hp2 : p.2.1.oneCell' = true) (hp3 : p.2.2.oneCell' = true) {g c : Nat} (hx : a.eval x = .slice (some ⟨g, 0, none⟩) 1 c) (hc0 : w.cell? ⟨g, 0, none⟩ = some p.1) (hc1 : w.cell? ⟨g, 1, none⟩ = some p.2.1) (hc2 : w.cell? ⟨g, 2, none⟩ = some p.2.2)
    (hl : xs.length + 1 ≤ 1000000000) (hN : N ≤ w.heap.size)
    (h : ∀ v' w', w'.ownsRow N e 3 v' (xs ++ [p]).length (tc (xs ++ [p])) → w.grownBy w' v.ownBlock → (v'.ownBlock = v.ownBlock ∨ v'.ownBlock = some w.heap.size) → K (a.put o.dst v') w') : if Region.wanted o (yielded ops a.tmps) = true then Oper.wp P o a w K Q else E := by
  have hw : Region.wanted o (yielded ops a.tmps) = true := by simp [Region.wanted, hgd]
  rw [if_pos hw]
  obtain ⟨v', w', hrun, h2, h3, h4⟩ := run_appT (P := P) (w := w) (ty := o.type) ht hi hzs hby hown hp1 hp2 hp3 (c := c) hc0 hc1 hc2 hl hN
  unfold Oper.wp execOp
  simp only [ho, resolve, invoke, builtin, Sem.run_bind, Sem.run_pure, Result.andThen_ok, List.map_toArray, List.map_cons, List.map_nil, hs, hx, hrun]
  exact h v' w' h2 h3 h4
theorem info38 : (Tryz.prog.info? 43).map (fun i => (i.zero, i.size, i.bytes)) = some (some (.agg #[.string ⟨#[]⟩, .int .i64 0, .slice none 0 0]), 3, 48) := by kernel_rfl
/-- blocks of bytes lie as they lay. -/
def KU (X Y : World) : Prop := ∀ (k : Nat) (cs : Array Value) (fr : Nat × Nat), X.heap[k]? = some (.cells cs 5 fr) → Y.heap[k]? = some (.cells cs 5 fr)
theorem KU.trans {X Y Z : World} (h : KU X Y) (k : KU Y Z) : KU X Z := fun i cs fr hi => k i cs fr (h i cs fr hi)
theorem KU.tn {p : Nat → Prop} {X Y : World} (h : Tn p X Y) (hp : ∀ i, p i → ∀ cs fr, X.heap[i]? ≠ some (.cells cs 5 fr)) : KU X Y := fun k cs fr hk =>
  (h.block k (Array.getElem?_eq_some_iff.1 hk).1 (fun e => hp k e cs fr hk)).trans hk
theorem KU.grown {X Y : World} {row : Option Nat} (h : X.grownBy Y row) (hr : ∀ i, row = some i → ∀ cs fr, X.heap[i]? ≠ some (.cells cs 5 fr)) : KU X Y := fun k cs fr hk =>
  (h.block k (Array.getElem?_eq_some_iff.1 hk).1 (fun e => hr k e.symm cs fr hk)).trans hk
theorem blk_not {X : World} {g : Nat} {t : TypeId} {cs : Array Value} (h : BlkIs X g t cs) (hne : t ≠ 5) : ∀ cs' fr, X.heap[g]? ≠ some (.cells cs' 5 fr) := fun cs' fr e => by
  unfold BlkIs at h
  rw [h] at e
  injection e with e
  injection e with _ e
  exact hne e
/-- bytes that lie in a block of bytes. -/
def Bu (X : World) (A : Option Addr) (l : L) : Prop := l = [] ∨ ∃ g o cs fr, A = some ⟨g, o, none⟩ ∧ X.heap[g]? = some (.cells cs 5 fr) ∧ ∀ j u, (bv l)[j]? = some u → cs[o + j]? = some u
theorem Bu.keep {X Y : World} {A : Option Addr} {l : L} (h : Bu X A l) (hk : KU X Y) : Bu Y A l := by
  rcases h with h | ⟨g, o, cs, fr, e, hh, hc⟩
  · exact .inl h
  · exact .inr ⟨g, o, cs, fr, e, hk _ _ _ hh, hc⟩
theorem Bu.bts {X : World} {A : Option Addr} {l : L} (h : Bu X A l) : Bts X X.heap.size A l := by
  rcases h with rfl | ⟨g, o, cs, fr, rfl, hh, hc⟩
  · exact Cs.nil
  · intro j u hj
    refine ⟨_, rfl, (Array.getElem?_eq_some_iff.1 hh).1, ?_⟩
    rw [add_at, cell_of_row X g (o + j) cs _ fr hh]
    exact hc j u hj
theorem Bu.own {X : World} {N c n : Nat} {A : Option Addr} {l : L} (h : Own5 X N (.slice A n c) l) : Bu X A l := by
  have hb := Own5.bts h
  rcases h.2 with ⟨_, h0⟩ | ⟨g, cap, cur, hv, _, hh, _⟩
  · exact .inl (List.eq_nil_of_length_eq_zero h0)
  · injection hv with hv _ _
    subst hv
    refine .inr ⟨g, 0, cur, _, rfl, hh, fun j u hj => ?_⟩
    obtain ⟨ad, e, _, hc⟩ := hb j u hj
    injection e with e
    subst e
    rw [add_at, cell_of_row X g (0 + j) cur _ _ hh] at hc
    exact hc
/-- a row of letters of the call's own. -/
def Row (X : World) (M : Nat) (lv : Value) (ls : List Lt) : Prop := ∃ xs : List V3, X.ownsRow M 43 3 lv xs.length (tc xs) ∧ xs.length = ls.length ∧
  ∀ (k : Nat) (x : Lt), ls[k]? = some x → ∃ A c, xs[k]? = some ((Value.string (str x.1), Value.int .i64 x.2.1, Value.slice A x.2.2.length c) : V3) ∧ x.2.2.length ≤ c ∧ c ≤ maxLen ∧ (A = none → c = 0) ∧ Bu X A x.2.2
theorem Row.nil (X : World) (M : Nat) : Row X M (.slice none 0 0) [] := ⟨[], ⟨rfl, .inl ⟨rfl, rfl⟩⟩, rfl, fun k x h => by simp at h⟩
theorem Row.keep {X Y : World} {M : Nat} {lv : Value} {ls : List Lt} (h : Row X M lv ls) (hk : KU X Y) (hb : ∀ b, lv.ownBlock = some b → Y.heap[b]? = X.heap[b]?) : Row Y M lv ls := by
  obtain ⟨xs, h1, h2, h3⟩ := h
  refine ⟨xs, own_same h1 hb, h2, fun k x hx => ?_⟩
  obtain ⟨A, c, g1, g2, g3, g4, g5⟩ := h3 k x hx
  exact ⟨A, c, g1, g2, g3, g4, g5.keep hk⟩
theorem Row.low {X : World} {M : Nat} {lv : Value} {ls : List Lt} (h : Row X M lv ls) : ∀ b, lv.ownBlock = some b → M ≤ b ∧ ∃ cs fr, X.heap[b]? = some (.cells cs 43 fr) := by
  obtain ⟨xs, h1, _⟩ := h
  exact fun b hb => own_type h1 hb
theorem Row.slice {X : World} {M : Nat} {lv : Value} {ls : List Lt} (h : Row X M lv ls) : ∃ A c, lv = .slice A ls.length c ∧ ls.length ≤ c ∧ c ≤ maxLen := by
  obtain ⟨xs, h1, h2, _⟩ := h
  rw [← h2]
  exact own_slice3 h1
theorem Row.ls {X : World} {M n c : Nat} {A : Option Addr} {ls : List Lt} (h : Row X M (.slice A n c) ls) : Ls X X.heap.size A ls := fun k hk => by
  obtain ⟨xs, h1, h2, h3⟩ := h
  obtain ⟨A', c', e, _⟩ := own_slice3 h1
  injection e with e1 e2 e3
  subst e1; subst e2; subst e3
  obtain ⟨g, rfl, _, hg, hr⟩ := own_range h1 (by
    intro e
    have := congrArg List.length e
    rw [tc_length, h2, List.length_nil] at this
    omega)
  obtain ⟨Ab, cb, g1, g2, g3, g4, g5⟩ := h3 k (ls.getD k d0) (by simp [List.getD, hk])
  obtain ⟨t1, t2, t3⟩ := tc_get g1
  have r1 := hr _ _ t1
  have r2 := hr _ _ t2
  have r3 := hr _ _ t3
  exact ⟨g, 0, rfl, hg, r1, by rw [Nat.add_assoc]; exact r2, Ab, cb, by rw [Nat.add_assoc]; exact r3, g2, g3, g4, g5.bts⟩
/-- what the three parts come to. -/
def P2 (l : L) : Prop := has 10 (b2 l) = true ∧ ∃ n, numS (Pa.ahead 10 (b2 l)) = some n
def b3 (l : L) : L := Pa.behind 10 (b2 l)
theorem let_some {l : L} {n : Nat} (h1 : C1 l) (h2 : has 10 (b2 l) = true) (h3 : numS (Pa.ahead 10 (b2 l)) = some n) (h4 : C3 (b3 l)) : letS l = some ((whom (Pa.ahead 32 (l.drop 5)), (n : Int), unquoteS (bodyOf (b3 l)).dropLast), restOf (b3 l)) := by
  unfold letS
  rw [if_pos ⟨h1.1, h1.2.1, h1.2.2, h2⟩]
  unfold b2 at h3
  rw [h3]
  simp only
  exact if_pos h4
theorem let_no1 {l : L} (h : ¬ C1 l) : letS l = none := by
  unfold letS
  rw [if_neg]
  exact fun hc => h ⟨hc.1, hc.2.1, hc.2.2.1⟩
theorem let_no2 {l : L} (h : ¬ (has 10 (b2 l) = true ∧ ∃ n, numS (Pa.ahead 10 (b2 l)) = some n)) : letS l = none := by
  unfold letS
  split
  · rename_i hc
    cases hn : numS (Pa.ahead 10 (Pa.behind 32 (l.drop 5))) with
    | none => rfl
    | some n => exact absurd ⟨hc.2.2.2, n, hn⟩ h
  · rfl
theorem let_no3 {l : L} (h : ¬ C3 (b3 l)) : letS l = none := by
  unfold letS
  split
  · cases hn : numS (Pa.ahead 10 (Pa.behind 32 (l.drop 5))) with
    | none => rfl
    | some n =>
      simp only
      exact if_neg h
  · rfl
theorem b2_len (l : L) : (b2 l).length ≤ l.length := by
  unfold b2 Pa.behind
  have h1 : ((l.drop 5).dropWhile (· != 32)).length ≤ (l.drop 5).length := (List.dropWhile_sublist _).length_le
  rw [List.length_tail]
  rw [List.length_drop] at h1
  omega
theorem b3_len (l : L) : (b3 l).length ≤ l.length := by
  have h0 := b2_len l
  have h1 : ((b2 l).dropWhile (· != 10)).length ≤ (b2 l).length := (List.dropWhile_sublist _).length_le
  unfold b3 Pa.behind
  rw [List.length_tail]
  omega
end Mb
end Go.Proofs.YtamekflgidfnfaaGreatDoor
