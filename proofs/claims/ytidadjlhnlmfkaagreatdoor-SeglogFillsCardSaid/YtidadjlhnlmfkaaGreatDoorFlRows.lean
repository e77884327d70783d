/- A slice of slices of bytes: the call's own; one that came in, appended. Conditions: none. -/
import Derived.Test.YtidadjlhnlmfkaaGreatDoorFlMem
namespace Go.Proofs.YtidadjlhnlmfkaaGreatDoor
set_option maxRecDepth 100000
open Go.RowKit Go
theorem OwnR.nil (w : World) (N : Nat) : OwnR w N (.slice none 0 0) [] := ⟨[], World.ownsRow_nil w N 26 1, rfl, fun k r u h => by simp at h⟩
theorem OwnR.kept {w w' : World} {N B : Nat} {v : Value} {ll : List (List UInt8)} (h : OwnR w N v ll) (hb : Below B w w') (hB : w.heap.size ≤ B) : OwnR w' N v ll := by
  obtain ⟨vs, h1, h2, h3⟩ := h
  exact ⟨vs, own_kept h1 hb hB, h2, fun k r u hr hu => own_kept (h3 k r u hr hu) hb hB⟩
theorem OwnR.slice {w : World} {N : Nat} {v : Value} {ll : List (List UInt8)} (h : OwnR w N v ll) : ∃ A c, v = .slice A ll.length c ∧ ll.length ≤ c ∧ c ≤ maxLen := by
  obtain ⟨vs, h1, h2, h3⟩ := h
  exact own_slice h1
theorem OwnR.rws {w : World} {N n c : Nat} {A : Option Addr} {ll : List (List UInt8)} (h : OwnR w N (.slice A n c) ll) : Rws w w.heap.size A ll := fun k r hk => by
  obtain ⟨vs, h1, h2, h3⟩ := h
  obtain ⟨A', c', e, _⟩ := own_slice h1
  have hn : n = ll.length := by injection e
  subst hn
  have hlt : k < vs.length := by
    rw [h2]
    exact (List.getElem?_eq_some_iff.1 hk).1
  have hu : vs[k]? = some vs[k] := List.getElem?_eq_getElem hlt
  have ho := h3 k r _ hk hu
  obtain ⟨Ak, ck, ek, h4, h5⟩ := own_slice ho
  obtain ⟨ad, e1, e2, e3⟩ := Cs.of_own h1 k _ hu
  rw [ek] at e3 ho
  exact ⟨ad, Ak, ck, e1, e2, e3, h4, h5, ho.bts⟩
theorem OwnR.low {w : World} {N : Nat} {v : Value} {ll : List (List UInt8)} (h : OwnR w N v ll) : ∀ k, v.ownBlock = some k → N ≤ k := by
  obtain ⟨vs, h1, _⟩ := h
  exact fun k hk => (h1.lt k hk).1
/-- what an append of one row leaves. -/
theorem OwnR.grown {w w' : World} {N n : Nat} {v v' u : Value} {ll : List (List UInt8)} {r : List UInt8} (hu : Own5 w N u r) {vs : List Value} (hvs : w.ownsRow N 26 1 v ll.length vs) (hl : vs.length = ll.length)
    (h3 : ∀ (k : Nat) r u, ll[k]? = some r → vs[k]? = some u → Own5 w N u r) (hn : n = ll.length + 1) (h' : w'.ownsRow N 26 1 v' n (vs ++ [u])) (hg : w.grownBy w' v.ownBlock) : OwnR w' N v' (ll ++ [r]) := by
  subst hn
  refine ⟨vs ++ [u], by rw [List.length_append]; exact h', by simp [hl], fun k r' u' hr hu' => ?_⟩
  have kept : ∀ u r, Own5 w N u r → Own5 w' N u r := fun u r ho => World.ownsRow.kept ho hg (own_ne_own ho hvs (by decide))
  rcases Nat.lt_trichotomy k ll.length with hk | hk | hk
  · rw [List.getElem?_append_left hk] at hr
    rw [List.getElem?_append_left (by omega)] at hu'
    exact kept _ _ (h3 k r' u' hr hu')
  · subst hk
    rw [List.getElem?_append_right (Nat.le_refl _)] at hr
    rw [List.getElem?_append_right (by omega)] at hu'
    simp [hl] at hr hu'
    subst hr
    subst hu'
    exact kept _ _ hu
  · rw [List.getElem?_eq_none (by simp; omega)] at hr
    cases hr
theorem wp_app22 {w : World} {o : Oper} {a : Act} {K : Act → World → Prop} {Q : Exit → Act → World → Prop} (s x : Operand)
    (ho : o.op = .call { callee := .builtin .append, args := #[s, x], argTypes := #[22, 22] })
    (N : Nat) (v : Value) (ll : List (List UInt8)) (hs : a.eval s = v) (hown : OwnR w N v ll)
    (g c : Nat) (u : Value) (r : List UInt8) (hx : a.eval x = .slice (some ⟨g, 0, none⟩) 1 c) (hc : w.cell? ⟨g, 0, none⟩ = some u) (hu : Own5 w N u r) (h63 : ll.length + 1 ≤ 1000000000) (hN : N ≤ w.heap.size)
    (h : ∀ v' w', OwnR w' N v' (ll ++ [r]) → Below N w w' → K (a.put o.dst v') w') : o.wp Tryz.prog a w K Q := by
  obtain ⟨i, hi, hz, h0, h1⟩ := info_parts info22
  obtain ⟨vs, g1, g2, g3⟩ := hown
  obtain ⟨Ak, ck, e, _⟩ := own_slice hu
  have hlt : g < w.heap.size := World.block_lt_of_cell? w _ hc
  have hcs : Cs w w.heap.size (some ⟨g, 0, none⟩) [u] := fun j u' hj => by
    rcases j with _ | j
    · have : u = u' := by simpa using hj
      subst this
      exact ⟨_, rfl, hlt, hc⟩
    · simp at hj
  refine wp_app s x ho Tryz.underlying22 hi hz h0 h1 rfl hs g1 hx hcs rfl (fun u' hu' => ?_) h63 (by decide) hN fun v' w' h2 h3 => h _ _ (OwnR.grown hu g1 g2 g3 rfl h2 h3) ?_
  · have : u' = u := by simpa using hu'
    rw [this, e]
    rfl
  · exact (Below.refl N w).grown h3 hN fun k hk => (g1.lt k hk).1
theorem app22 {w : World} {ops : Array Oper} {rest : List Oper} {o : Oper} {a : Act} {Q : Exit → Act → World → Prop} (s x : Operand)
    (ho : o.op = .call { callee := .builtin .append, args := #[s, x], argTypes := #[22, 22] }) (hgd : o.guard = none)
    (N : Nat) (v : Value) (ll : List (List UInt8)) (hs : a.eval s = v) (hown : OwnR w N v ll)
    (g c : Nat) (u : Value) (r : List UInt8) (hx : a.eval x = .slice (some ⟨g, 0, none⟩) 1 c) (hc : w.cell? ⟨g, 0, none⟩ = some u) (hu : Own5 w N u r) (h63 : ll.length + 1 ≤ 1000000000) (hN : N ≤ w.heap.size)
    (h : ∀ v' w', OwnR w' N v' (ll ++ [r]) → Below N w w' → wpList Tryz.prog ops Q rest (a.put o.dst v') w') : wpList Tryz.prog ops Q (o :: rest) a w :=
  wpList_plain hgd fun _ hK => wp_app22 s x ho N v ll hs hown g c u r hx hc hu h63 hN fun v' w' h2 h3 => hK _ _ (h v' w' h2 h3)
theorem OwnR.more {w : World} {N M : Nat} {v : Value} {ll : List (List UInt8)} (h : OwnR w N v ll) (hM : M ≤ N) : OwnR w M v ll := by
  obtain ⟨vs, g1, g2, g3⟩ := h
  exact ⟨vs, own_more g1 hM, g2, fun k r u hr hu => own_more (g3 k r u hr hu) hM⟩
/-- the run of an append of one row. -/
theorem run_app22 {w : World} (ty : TypeId) (N : Nat) (v : Value) (ll : List (List UInt8)) (hown : OwnR w N v ll)
    (g c : Nat) (u : Value) (r : List UInt8) (hc : w.cell? ⟨g, 0, none⟩ = some u) (hu : Own5 w N u r) (h63 : ll.length + 1 ≤ 1000000000) (hN : N ≤ w.heap.size) :
    ∃ v' w', (Builtin.append_ #[22, 22] ty #[v, .slice (some ⟨g, 0, none⟩) 1 c]).run Tryz.prog w = .ok v' w' ∧ OwnR w' N v' (ll ++ [r]) ∧ w.grownBy w' v.ownBlock := by
  obtain ⟨i, hi, hz, h0, h1⟩ := info_parts info22
  obtain ⟨vs, g1, g2, g3⟩ := hown
  obtain ⟨Ak, ck, e, _⟩ := own_slice hu
  have hlt : g < w.heap.size := World.block_lt_of_cell? w _ hc
  have hcs : Cs w w.heap.size (some ⟨g, 0, none⟩) [u] := fun j u' hj => by
    rcases j with _ | j
    · have : u = u' := by simpa using hj
      subst this
      exact ⟨_, rfl, hlt, hc⟩
    · simp at hj
  obtain ⟨v', w', hrun, h2, h3⟩ := run_app (P := Tryz.prog) w (ty := ty) Tryz.underlying22 hi hz h0 h1 rfl g1 hcs rfl (fun u' hu' => by
    have : u' = u := by simpa using hu'
    rw [this, e]
    rfl) h63 (by decide) hN (c := c)
  exact ⟨v', w', hrun, OwnR.grown hu g1 g2 g3 rfl h2 h3, h3⟩
/-- a value that reads as a row. -/
def RowV (w : World) (B : Nat) (u : Value) (r : List UInt8) : Prop := ∃ A c, u = .slice A r.length c ∧ r.length ≤ c ∧ c ≤ maxLen ∧ Bts w B A r
/-- the values of the rows. -/
def RowVs (w : World) (B : Nat) (vs : List Value) (ll : List (List UInt8)) : Prop := vs.length = ll.length ∧ ∀ (k : Nat) r u, ll[k]? = some r → vs[k]? = some u → RowV w B u r
theorem Rws.vals {w : World} {B : Nat} {A : Option Addr} {ll : List (List UInt8)} (h : Rws w B A ll) : ∃ vs, Cs w B A vs ∧ RowVs w B vs ll := by
  have each : ∀ k, k < ll.length → ∃ u, RowV w B u (ll.getD k []) ∧ ∃ ad, A = some ad ∧ ad.block < B ∧ w.cell? (ad.add k) = some u := fun k hk => by
    obtain ⟨ad, Ak, ck, e, h1, h2, h3, h4, h5⟩ := h.at_ hk
    exact ⟨_, ⟨Ak, ck, rfl, h3, h4, h5⟩, ad, e, h1, h2⟩
  have hex : ∃ f : Nat → Value, ∀ k, k < ll.length → RowV w B (f k) (ll.getD k []) ∧ ∃ ad, A = some ad ∧ ad.block < B ∧ w.cell? (ad.add k) = some (f k) := by
    refine ⟨fun k => if hk : k < ll.length then (each k hk).choose else undef, fun k hk => ?_⟩
    dsimp only
    rw [dif_pos hk]
    exact (each k hk).choose_spec
  obtain ⟨f, hf⟩ := hex
  refine ⟨(List.range ll.length).map f, fun j u hj => ?_, by simp, fun k r u hr hu => ?_⟩
  · have hlt : j < ll.length := by
      have := (List.getElem?_eq_some_iff.1 hj).1
      simpa using this
    obtain rfl : f j = u := by simpa [hlt] using hj
    exact (hf j hlt).2
  · have hlt : k < ll.length := (List.getElem?_eq_some_iff.1 hr).1
    obtain rfl : f k = u := by simpa [hlt] using hu
    have := (hf k hlt).1
    rwa [List.getD, hr] at this
theorem RowVs.one {w : World} {B : Nat} {vs : List Value} {ll : List (List UInt8)} (h : RowVs w B vs ll) : ∀ u ∈ vs, u.oneCell' = true := by
  intro u hu
  obtain ⟨k, hk, e⟩ := List.getElem_of_mem hu
  have hk2 : k < ll.length := by rw [← h.1]; exact hk
  obtain ⟨A, c, e2, _⟩ := h.2 k ll[k] u (List.getElem?_eq_getElem hk2) (by rw [List.getElem?_eq_getElem hk, e])
  rw [e2]
  rfl
theorem RowV.below {w w' : World} {B : Nat} {u : Value} {r : List UInt8} (h : RowV w B u r) (hb : Below B w w') : RowV w' B u r := by
  obtain ⟨A, c, h1, h2, h3, h4⟩ := h
  exact ⟨A, c, h1, h2, h3, h4.below hb⟩
theorem RowVs.below {w w' : World} {B : Nat} {vs : List Value} {ll : List (List UInt8)} (h : RowVs w B vs ll) (hb : Below B w w') : RowVs w' B vs ll := ⟨h.1, fun k r u hr hu => (h.2 k r u hr hu).below hb⟩
theorem RowVs.append {w : World} {B : Nat} {vs us : List Value} {ll mm : List (List UInt8)} (h : RowVs w B vs ll) (h' : RowVs w B us mm) : RowVs w B (vs ++ us) (ll ++ mm) := by
  refine ⟨by rw [List.length_append, List.length_append, h.1, h'.1], fun k r u hr hu => ?_⟩
  by_cases hk : k < ll.length
  · rw [List.getElem?_append_left hk] at hr
    rw [List.getElem?_append_left (by rw [h.1]; exact hk)] at hu
    exact h.2 k r u hr hu
  · rw [List.getElem?_append_right (by omega)] at hr
    rw [List.getElem?_append_right (by rw [h.1]; omega), h.1] at hu
    exact h'.2 _ r u hr hu
theorem RowVs.rws {w : World} {B N c n : Nat} {A : Option Addr} {vs : List Value} {ll : List (List UInt8)} (h : RowVs w B vs ll) (hB : B ≤ w.heap.size) (ho : w.ownsRow N 26 1 (.slice A n c) n vs) : Rws w w.heap.size A ll := fun k r hk => by
  have hlt : k < vs.length := by rw [h.1]; exact (List.getElem?_eq_some_iff.1 hk).1
  have hu : vs[k]? = some vs[k] := List.getElem?_eq_getElem hlt
  obtain ⟨Ak, ck, e, h1, h2, h3⟩ := h.2 k r _ hk hu
  obtain ⟨ad, e1, e2, e3⟩ := Cs.of_own ho k _ hu
  rw [e] at e3
  exact ⟨ad, Ak, ck, e1, e2, e3, h1, h2, h3.more hB⟩
/-- rows behind rows. -/
theorem appR {w : World} {ops : Array Oper} {rest : List Oper} {o : Oper} {a : Act} {Q : Exit → Act → World → Prop} (s x : Operand)
    (ho : o.op = .call { callee := .builtin .append, args := #[s, x], argTypes := #[22, 22] }) (hw : Region.wanted o (yielded ops a.tmps) = true)
    (N : Nat) (v : Value) (vs news : List Value) (hs : a.eval s = v) (hown : w.ownsRow N 26 1 v vs.length vs)
    (B : Nat) (A : Option Addr) (n c : Nat) (hx : a.eval x = .slice A n c) (hl : news.length = n) (hr : Cs w B A news) (h1 : ∀ u ∈ news, u.oneCell' = true) (h63 : vs.length + n ≤ 1000000000) (hN : N ≤ w.heap.size)
    (h : ∀ v' w', w'.ownsRow N 26 1 v' (vs ++ news).length (vs ++ news) → w.grownBy w' v.ownBlock → wpList Tryz.prog ops Q rest (a.put o.dst v') w') : wpList Tryz.prog ops Q (o :: rest) a w := by
  obtain ⟨i, hi, hz, h0, h2⟩ := info_parts info22
  refine wpList_step fun K hK => ?_
  rw [if_pos hw]
  refine wp_app s x ho Tryz.underlying22 hi hz h0 h2 rfl hs hown hx hr hl h1 h63 (by decide) hN fun v' w' h3 h4 => hK _ _ (h _ _ ?_ h4)
  rw [List.length_append, hl]
  exact h3
end Go.Proofs.YtidadjlhnlmfkaaGreatDoor
