/- Rows of pairs (fields) in memory; append of one more; append of bytes as a step. Conditions: none. -/
import Derived.Test.YtliaciojlcajdaaDoorHdRef
import Derived.Test.YtliaciojlcajdaaDoorDkMem
import Derived.Deep.MidRow
import Derived.Deep.RegionHeld3
import Derived.Test.YtliaciojlcajdaaDoorRgKey
namespace Go.Proofs.YtliaciojlcajdaaDoor
set_option maxRecDepth 100000
namespace Hd
open Go.RowKit Go Go.Proofs.YtliaciojlcajdaaDoor.Pa
/-- pairs as cells. -/
def pc (xs : List (Value × Value)) : List Value := xs.flatMap fun p => [p.1, p.2]
theorem pc_nil : pc [] = [] := rfl
theorem pc_cons (p : Value × Value) (xs : List (Value × Value)) : pc (p :: xs) = p.1 :: p.2 :: pc xs := rfl
theorem pc_append (a b : List (Value × Value)) : pc (a ++ b) = pc a ++ pc b := by simp [pc]
theorem pc_length : ∀ xs : List (Value × Value), (pc xs).length = xs.length * 2
  | [] => rfl
  | p :: xs => by rw [pc_cons, List.length_cons, List.length_cons, pc_length xs, List.length_cons]; omega
theorem pc_get : ∀ {xs : List (Value × Value)} {k : Nat} {p : Value × Value}, xs[k]? = some p → (pc xs)[k * 2]? = some p.1 ∧ (pc xs)[k * 2 + 1]? = some p.2
  | [], k, p, h => by simp at h
  | q :: xs, 0, p, h => by
    have : q = p := by simpa using h
    subst this
    exact ⟨rfl, rfl⟩
  | q :: xs, k + 1, p, h => by
    have := pc_get (xs := xs) (k := k) (p := p) (by simpa using h)
    rw [pc_cons, show (k + 1) * 2 = (k * 2 + 1) + 1 by omega]
    simpa using this
/-- the slice at A reads as these pairs. -/
def Prs (w : World) (B : Nat) (A : Option Addr) (xs : List (Value × Value)) : Prop := xs = [] ∨ ∃ g o, A = some ⟨g, o, none⟩ ∧ g < B ∧ w.rangeAt g o (pc xs)
section
variable {w w' : World} {B B' : Nat} {A : Option Addr} {xs : List (Value × Value)}
theorem Prs.below (h : Prs w B A xs) (hb : Below B w w') : Prs w' B A xs := by
  rcases h with h | ⟨g, o, e, hg, hr⟩
  · exact .inl h
  · exact .inr ⟨g, o, e, hg, fun j v hj => (hb.cell (p := ⟨g, o + j, none⟩) hg).trans (hr j v hj)⟩
theorem Prs.more (h : Prs w B A xs) (hB : B ≤ B') : Prs w B' A xs := by
  rcases h with h | ⟨g, o, e, hg, hr⟩
  · exact .inl h
  · exact .inr ⟨g, o, e, by omega, hr⟩
theorem Prs.at_ (h : Prs w B A xs) {k : Nat} {p : Value × Value} (hk : xs[k]? = some p) : ∃ g o, A = some ⟨g, o, none⟩ ∧ g < B ∧ w.cell? ⟨g, o + k * 2, none⟩ = some p.1 ∧ w.cell? ⟨g, o + (k * 2 + 1), none⟩ = some p.2 := by
  rcases h with rfl | ⟨g, o, rfl, hg, hr⟩
  · simp at hk
  · obtain ⟨h1, h2⟩ := pc_get hk
    exact ⟨g, o, rfl, hg, hr _ _ h1, hr _ _ h2⟩
end
theorem own_slice2 {w : World} {N n sz : Nat} {e : TypeId} {v : Value} {xs : List Value} (h : w.ownsRow N e sz v n xs) : ∃ A c, v = .slice A n c ∧ n ≤ c ∧ c ≤ maxLen := by
  rcases h.2 with ⟨rfl, rfl⟩ | ⟨g, cap, cur, rfl, _, _, h1, h2, _⟩
  · exact ⟨none, 0, rfl, Nat.le_refl _, Nat.zero_le _⟩
  · exact ⟨_, _, rfl, h1, h2⟩
theorem own_kept2 {w w' : World} {N B n sz : Nat} {e : TypeId} {v : Value} {xs : List Value} (h : w.ownsRow N e sz v n xs) (hb : Below B w w') (hB : w.heap.size ≤ B) : w'.ownsRow N e sz v n xs := by
  refine ⟨h.1, ?_⟩
  rcases h.2 with hn | ⟨g, cap, cur, rfl, hn, hh, rest⟩
  · exact .inl hn
  · refine .inr ⟨g, cap, cur, rfl, hn, ?_, rest⟩
    rw [hb.block g (Nat.lt_of_lt_of_le (Array.getElem?_eq_some_iff.1 hh).1 hB)]
    exact hh
theorem own_more2 {w : World} {N M n sz : Nat} {e : TypeId} {v : Value} {xs : List Value} (h : w.ownsRow N e sz v n xs) (hM : M ≤ N) : w.ownsRow M e sz v n xs := by
  refine ⟨h.1, ?_⟩
  rcases h.2 with hn | ⟨g, cap, cur, rfl, hn, rest⟩
  · exact .inl hn
  · exact .inr ⟨g, cap, cur, rfl, by omega, rest⟩
/-- a row stays if its block does. -/
theorem own_same {w w' : World} {N n sz : Nat} {e : TypeId} {v : Value} {xs : List Value} (h : w.ownsRow N e sz v n xs) (hb : ∀ b, v.ownBlock = some b → w'.heap[b]? = w.heap[b]?) : w'.ownsRow N e sz v n xs := by
  refine ⟨h.1, ?_⟩
  rcases h.2 with hn | ⟨g, cap, cur, rfl, hn, hh, rest⟩
  · exact .inl hn
  · exact .inr ⟨g, cap, cur, rfl, hn, by rw [hb g rfl]; exact hh, rest⟩
/-- one cell of a row of the call's own is set. -/
theorem own_set {w : World} {N n sz g c : Nat} {e : TypeId} {xs : List Value} (h : w.ownsRow N e sz (.slice (some ⟨g, 0, none⟩) n c) n xs) (j : Nat) (u : Value) :
    (w.setCell ⟨g, j, none⟩ u).ownsRow N e sz (.slice (some ⟨g, 0, none⟩) n c) n (xs.set j u) := by
  refine ⟨by rw [List.length_set]; exact h.1, ?_⟩
  rcases h.2 with ⟨hn, _⟩ | ⟨g', cap, cur, hv, hn, hh, h1, h2, h3, h4⟩
  · cases hn
  · injection hv with hv1 _ hv2
    injection hv1 with hv1
    injection hv1 with hv1
    subst hv1
    subst hv2
    refine .inr ⟨g, c, cur.setIfInBounds j u, rfl, hn, ?_, h1, h2, by simpa using h3, ?_⟩
    · simp [World.setCell, Array.getElem?_modify, hh]
    · rw [Array.toList_setIfInBounds, List.take_set, h4]
theorem own_range {w : World} {N n sz c : Nat} {A : Option Addr} {e : TypeId} {xs : List Value} (h : w.ownsRow N e sz (.slice A n c) n xs) (hne : xs ≠ []) : ∃ g, A = some ⟨g, 0, none⟩ ∧ N ≤ g ∧ g < w.heap.size ∧ w.rangeAt g 0 xs ∧ ∀ j, w.frozen? ⟨g, j, none⟩ = false := by
  rcases h.2 with ⟨_, h0⟩ | ⟨g, cap, cur, hv, hn, hh, h1, h2, h3, h4⟩
  · have := h.1
    rw [h0, Nat.zero_mul] at this
    exact absurd (List.eq_nil_of_length_eq_zero this) hne
  · injection hv with hv1 _ _
    refine ⟨g, hv1, hn, (Array.getElem?_eq_some_iff.1 hh).1, fun j v hj => ?_, fun j => by simp [World.frozen?, hh]⟩
    rw [Nat.zero_add, cell_of_row w g j cur e (0, 0) hh, ← Array.getElem?_toList]
    have hlt : j < n * sz := by
      have := (List.getElem?_eq_some_iff.1 hj).1
      rw [h.1] at this
      exact this
    rw [← h4, List.getElem?_take_of_lt hlt] at hj
    exact hj
theorem own_prs {w : World} {N c : Nat} {A : Option Addr} {e : TypeId} {xs : List (Value × Value)} (h : w.ownsRow N e 2 (.slice A xs.length c) xs.length (pc xs)) : Prs w w.heap.size A xs := by
  rcases Decidable.em (xs = []) with h0 | h0
  · exact .inl h0
  · obtain ⟨g, rfl, _, hlt, hr, _⟩ := own_range h (by
      intro e
      have := congrArg List.length e
      rw [pc_length, List.length_nil] at this
      exact h0 (List.eq_nil_of_length_eq_zero (by omega)))
    exact .inr ⟨g, 0, rfl, hlt, hr⟩
theorem own_ne2 {w : World} {N N' s s' : Nat} {e e' : TypeId} {n n' : Nat} {v v' : Value} {xs xs' : List Value} (h : w.ownsRow N e s v n xs) (h' : w.ownsRow N' e' s' v' n' xs') (hne : e ≠ e') : ∀ b, v.ownBlock = some b → v'.ownBlock ≠ some b := by
  intro b hb hb'
  rcases h.2 with ⟨rfl, _⟩ | ⟨g, cap, cur, rfl, _, hh, _⟩
  · cases hb
  · rcases h'.2 with ⟨rfl, _⟩ | ⟨g', cap', cur', rfl, _, hh', _⟩
    · cases hb'
    · have e1 : g = b := by simpa [Value.ownBlock] using hb
      have e2 : g' = b := by simpa [Value.ownBlock] using hb'
      subst e1
      subst e2
      rw [hh] at hh'
      injection hh' with hh'
      injection hh' with _ ht
      exact hne ht
theorem own_blk {w : World} {N s : Nat} {e t : TypeId} {n : Nat} {v : Value} {xs : List Value} (h : w.ownsRow N e s v n xs) {g : Nat} {cs : Array Value} (hb : BlkIs w g t cs) (hne : e ≠ t) : v.ownBlock ≠ some g := by
  intro hv
  rcases h.2 with ⟨rfl, _⟩ | ⟨g', cap, cur, rfl, _, hh, _⟩
  · cases hv
  · have e1 : g' = g := by simpa [Value.ownBlock] using hv
    subst e1
    unfold BlkIs at hb
    rw [hh] at hb
    injection hb with hb
    injection hb with _ ht
    exact hne ht
/-- one pair more. -/
theorem run_appP {P : Program} {w : World} {t ty e : TypeId} {z : Value} {bytes : Nat} (ht : P.underlying t = some (.slice e)) (hi : (P.info? e).map (fun i => (i.zero, i.size, i.bytes)) = some (some z, 2, bytes)) (hzs : z.cells.size = 2) (hby : bytes ≤ 48)
    {N : Nat} {v : Value} {xs : List (Value × Value)} (hown : w.ownsRow N e 2 v xs.length (pc xs)) {p : Value × Value} (hp1 : p.1.oneCell' = true) (hp2 : p.2.oneCell' = true) {g c : Nat} (hc0 : w.cell? ⟨g, 0, none⟩ = some p.1) (hc1 : w.cell? ⟨g, 1, none⟩ = some p.2)
    (hl : xs.length + 1 ≤ 1000000000) (hN : N ≤ w.heap.size) :
    ∃ v' w', (Builtin.append_ #[t, t] ty #[v, .slice (some ⟨g, 0, none⟩) 1 c]).run P w = .ok v' w' ∧ w'.ownsRow N e 2 v' (xs ++ [p]).length (pc (xs ++ [p])) ∧ w.grownBy w' v.ownBlock ∧ (v'.ownBlock = v.ownBlock ∨ v'.ownBlock = some w.heap.size) := by
  obtain ⟨i, hi, hz, h0, h1⟩ := info_parts hi
  obtain ⟨v', w', hrun, h2, h3, _, h5⟩ := run_append_own_at (P := P) w N t ty e i z 2 bytes ht hi hz h0 h1 hzs (by omega) v xs.length (pc xs) hown ⟨g, 0, none⟩ 1 c (pc [p]) rfl
    (fun j u hj => by
      have : j = 0 ∨ j = 1 := by
        have := (List.getElem?_eq_some_iff.1 hj).1
        rw [pc_length] at this
        simp at this
        omega
      rcases this with rfl | rfl
      · have : p.1 = u := by simpa [pc] using hj
        rw [← this]
        simpa [Addr.add] using hc0
      · have : p.2 = u := by simpa [pc] using hj
        rw [← this]
        simpa [Addr.add] using hc1) (fun u hu => by
      have : u = p.1 ∨ u = p.2 := by simpa [pc] using hu
      rcases this with rfl | rfl
      · exact hp1
      · exact hp2) (by unfold maxLen; omega) (Nat.le_trans (Nat.mul_le_mul hl hby) (by decide)) hN
  refine ⟨v', w', hrun, ?_, h3, h5⟩
  rw [List.length_append, pc_append]
  exact h2
theorem stepP {P : Program} {ops : Array Oper} {o : Oper} {a : Act} {w : World} {K : Act → World → Prop} {Q : Exit → Act → World → Prop} {E : Prop} (s x : Operand) {t e : TypeId} {z : Value} {bytes : Nat} (ht : P.underlying t = some (.slice e)) (hi : (P.info? e).map (fun i => (i.zero, i.size, i.bytes)) = some (some z, 2, bytes)) (hzs : z.cells.size = 2) (hby : bytes ≤ 48)
    (ho : o.op = .call { callee := .builtin .append, args := #[s, x], argTypes := #[t, t] }) (hgd : o.guard = none)
    {N : Nat} {v : Value} {xs : List (Value × Value)} (hs : a.eval s = v) (hown : w.ownsRow N e 2 v xs.length (pc xs)) {p : Value × Value} (hp1 : p.1.oneCell' = true) (hp2 : p.2.oneCell' = true) {g c : Nat} (hx : a.eval x = .slice (some ⟨g, 0, none⟩) 1 c) (hc0 : w.cell? ⟨g, 0, none⟩ = some p.1) (hc1 : w.cell? ⟨g, 1, none⟩ = some p.2)
    (hl : xs.length + 1 ≤ 1000000000) (hN : N ≤ w.heap.size)
    (h : ∀ v' w', w'.ownsRow N e 2 v' (xs ++ [p]).length (pc (xs ++ [p])) → w.grownBy w' v.ownBlock → (v'.ownBlock = v.ownBlock ∨ v'.ownBlock = some w.heap.size) → K (a.put o.dst v') w') : if Region.wanted o (yielded ops a.tmps) = true then Oper.wp P o a w K Q else E := by
  have hw : Region.wanted o (yielded ops a.tmps) = true := by simp [Region.wanted, hgd]
  rw [if_pos hw]
  obtain ⟨v', w', hrun, h2, h3, h4⟩ := run_appP (P := P) (w := w) (ty := o.type) ht hi hzs hby hown hp1 hp2 (c := c) hc0 hc1 hl hN
  unfold Oper.wp execOp
  simp only [ho, resolve, invoke, builtin, Sem.run_bind, Sem.run_pure, Result.andThen_ok, List.map_toArray, List.map_cons, List.map_nil, hs, hx, hrun]
  exact h v' w' h2 h3 h4
/-- bytes behind bytes, and where they lie then. -/
theorem run_app5b {w : World} (ty : TypeId) {N : Nat} {v : Value} {l m : List UInt8} (hown : Own5 w N v l) {B : Nat} {A : Option Addr} {c : Nat} (hr : Bts w B A m) (h63 : l.length + m.length ≤ 1000000000) (hN : N ≤ w.heap.size) :
    ∃ v' w', (Builtin.append_ #[22, 22] ty #[v, .slice A m.length c]).run Tryd.prog w = .ok v' w' ∧ Own5 w' N v' (l ++ m) ∧ w.grownBy w' v.ownBlock := by
  obtain ⟨i, hi, hz, h0, h1⟩ := info_parts info5
  obtain ⟨v', w', hrun, h2, h3⟩ := run_app (P := Tryd.prog) w (ty := ty) Tryd.underlying22 hi hz h0 h1 rfl hown hr (bv_length m) (bv_one m) h63 (by decide) hN (c := c)
  refine ⟨v', w', hrun, ?_, h3⟩
  unfold Own5
  rw [List.length_append, bv_append]
  exact h2
theorem step5b {ops : Array Oper} {o : Oper} {a : Act} {w : World} {K : Act → World → Prop} {Q : Exit → Act → World → Prop} {E : Prop} (s x : Operand)
    (ho : o.op = .call { callee := .builtin .append, args := #[s, x], argTypes := #[22, 22] }) (hgd : o.guard = none)
    {N : Nat} {v : Value} {l m : List UInt8} {n : Nat} (hs : a.eval s = v) (hown : Own5 w N v l)
    {B : Nat} {A : Option Addr} {c : Nat} (hx : a.eval x = .slice A n c) (hl : m.length = n) (hr : Bts w B A m) (h63 : l.length + n ≤ 1000000000) (hN : N ≤ w.heap.size)
    (h : ∀ v' w', Own5 w' N v' (l ++ m) → w.grownBy w' v.ownBlock → K (a.put o.dst v') w') : if Region.wanted o (yielded ops a.tmps) = true then Oper.wp Tryd.prog o a w K Q else E := by
  have hw : Region.wanted o (yielded ops a.tmps) = true := by simp [Region.wanted, hgd]
  rw [if_pos hw]
  subst hl
  obtain ⟨v', w', hrun, h2, h3⟩ := run_app5b o.type hown hr h63 hN (c := c)
  unfold Oper.wp execOp
  simp only [ho, resolve, invoke, builtin, Sem.run_bind, Sem.run_pure, Result.andThen_ok, List.map_toArray, List.map_cons, List.map_nil, hs, hx, hrun]
  exact h v' w' h2 h3
theorem info47 : (Tryd.prog.info? 47).map (fun i => (i.zero, i.size, i.bytes)) = some (some (.agg #[.string ⟨#[]⟩, .string ⟨#[]⟩]), 2, 32) := by kernel_rfl
theorem info68 : (Tryd.prog.info? 68).map (fun i => (i.zero, i.size, i.bytes)) = some (some (.agg #[.string ⟨#[]⟩, .slice none 0 0]), 2, 40) := by kernel_rfl
/-- fields as pairs. -/
def fv (fs : List F) : List (Value × Value) := fs.map fun f => (.string (str f.1), .string (str f.2))
theorem fv_length (fs : List F) : (fv fs).length = fs.length := by simp [fv]
theorem fv_append (a b : List F) : fv (a ++ b) = fv a ++ fv b := by simp [fv]
theorem fv_get {fs : List F} {k : Nat} {f : F} (h : fs[k]? = some f) : (fv fs)[k]? = some (.string (str f.1), .string (str f.2)) := by simp [fv, h]
/-- a row of fields of the call's own. -/
def OwnA (w : World) (N : Nat) (v : Value) (fs : List F) : Prop := w.ownsRow N 47 2 v (fv fs).length (pc (fv fs))
/-- a field as it is read: name, body, where the body lies. -/
abbrev G : Type := F × Value
def gv (gs : List G) : List (Value × Value) := gs.map fun g => (.string (str g.1.1), g.2)
theorem gv_length (gs : List G) : (gv gs).length = gs.length := by simp [gv]
theorem gv_append (a b : List G) : gv (a ++ b) = gv a ++ gv b := by simp [gv]
/-- the bodies: each is the call's own; the last one lies behind all others. -/
structure Bod (w : World) (N M : Nat) (gs : List G) : Prop where
  le : N ≤ M
  le' : M ≤ w.heap.size
  own : ∀ g, g ∈ gs → Own5 w N g.2 g.1.2
  low : ∀ (k : Nat) g, k + 1 < gs.length → gs[k]? = some g → ∀ b, g.2.ownBlock = some b → b < M
  last : ∀ g, gs.getLast? = some g → Own5 w M g.2 g.1.2
/-- the reader in block R: these fields, so many bytes. -/
def Rd (w : World) (N R : Nat) (fs : List F) (sz : Int) : Prop :=
  ∃ (v : Value) (gs : List G) (M : Nat), BlkIs w R 50 #[v, .int .i64 sz] ∧ N ≤ R ∧ gs.map Prod.fst = fs ∧ w.ownsRow N 68 2 v (gv gs).length (pc (gv gs)) ∧ Bod w N M gs
/-- all that is neither bytes nor the reader's own stays. -/
def Keep (w w' : World) : Prop := ∀ (k : Nat) (o : Obj), w.heap[k]? = some o → (∀ cs t fr, o = .cells cs t fr → t ≠ 68 ∧ t ≠ 5 ∧ t ≠ 50) → w'.heap[k]? = some o
theorem Keep.trans {a b c : World} (h : Keep a b) (k : Keep b c) : Keep a c := fun i o hi ho => k i o (h i o hi ho) ho
theorem Keep.of_below {w w' : World} (h : Below w.heap.size w w') : Keep w w' := fun k _ hk _ => (h.block k (Array.getElem?_eq_some_iff.1 hk).1).trans hk
theorem own_type {w : World} {N s : Nat} {e : TypeId} {n : Nat} {v : Value} {xs : List Value} (h : w.ownsRow N e s v n xs) {k : Nat} (hv : v.ownBlock = some k) : ∃ cs fr, w.heap[k]? = some (.cells cs e fr) := by
  rcases h.2 with ⟨rfl, _⟩ | ⟨g, cap, cur, rfl, _, hh, _⟩
  · cases hv
  · have : g = k := by simpa [Value.ownBlock] using hv
    subst this
    exact ⟨_, _, hh⟩
end Hd
end Go.Proofs.YtliaciojlcajdaaDoor
