/- A slice of slices of bytes that the call owns: kept, read, and made longer by one. Conditions: none. -/
import Derived.Test.YtljefpagoggkdaaRSome
namespace Go.Proofs.Ytljefpagoggkdaa
open Go.RowKit Go
/-- the slice v owns rows, each of which owns its bytes. -/
def OwnR (w : World) (N : Nat) (v : Value) (ll : List (List UInt8)) : Prop :=
  ∃ vs : List Value, w.ownsRow N 22 1 v ll.length vs ∧ vs.length = ll.length ∧ ∀ (k : Nat) r u, ll[k]? = some r → vs[k]? = some u → Own5 w N u r
theorem OwnR.nil (w : World) (N : Nat) : OwnR w N (.slice none 0 0) [] := ⟨[], World.ownsRow_nil w N 22 1, rfl, fun k r u h => by simp at h⟩
theorem OwnR.kept {w w' : World} {N B : Nat} {v : Value} {ll : List (List UInt8)} (h : OwnR w N v ll) (hb : Below B w w') (hB : w.heap.size ≤ B) : OwnR w' N v ll := by
  obtain ⟨vs, h1, h2, h3⟩ := h
  exact ⟨vs, own_kept h1 hb hB, h2, fun k r u hr hu => own_kept (h3 k r u hr hu) hb hB⟩
theorem OwnR.slice {w : World} {N : Nat} {v : Value} {ll : List (List UInt8)} (h : OwnR w N v ll) : ∃ A c, v = .slice A ll.length c ∧ ll.length ≤ c ∧ c ≤ maxLen := by
  obtain ⟨vs, h1, h2, h3⟩ := h
  exact own_slice h1
theorem OwnR.rws {w : World} {N n c : Nat} {A : Option Addr} {ll : List (List UInt8)} (h : OwnR w N (.slice A n c) ll) : Rws w w.heap.size A ll := fun k r hk => by
  obtain ⟨vs, h1, h2, h3⟩ := h
  obtain ⟨A', c', e, _⟩ := own_slice h1
  have hn : n = ll.length := by injection e
  subst hn
  have hlt : k < vs.length := by
    rw [h2]
    exact (List.getElem?_eq_some_iff.1 hk).1
  have hu : vs[k]? = some vs[k] := List.getElem?_eq_getElem hlt
  have ho := h3 k r _ hk hu
  obtain ⟨Ak, ck, ek, h4, h5⟩ := own_slice ho
  obtain ⟨ad, e1, e2, e3⟩ := Cs.of_own h1 k _ hu
  rw [ek] at e3 ho
  exact ⟨ad, Ak, ck, e1, e2, e3, h4, h5, ho.bts⟩
theorem OwnR.low {w : World} {N : Nat} {v : Value} {ll : List (List UInt8)} (h : OwnR w N v ll) : ∀ k, v.ownBlock = some k → N ≤ k := by
  obtain ⟨vs, h1, _⟩ := h
  exact fun k hk => (h1.lt k hk).1
/-- what an append of one row leaves. -/
theorem OwnR.grown {w w' : World} {N n : Nat} {v v' u : Value} {ll : List (List UInt8)} {r : List UInt8} (hu : Own5 w N u r) {vs : List Value} (hvs : w.ownsRow N 22 1 v ll.length vs) (hl : vs.length = ll.length)
    (h3 : ∀ (k : Nat) r u, ll[k]? = some r → vs[k]? = some u → Own5 w N u r) (hn : n = ll.length + 1) (h' : w'.ownsRow N 22 1 v' n (vs ++ [u])) (hg : w.grownBy w' v.ownBlock) : OwnR w' N v' (ll ++ [r]) := by
  subst hn
  refine ⟨vs ++ [u], by rw [List.length_append]; exact h', by simp [hl], fun k r' u' hr hu' => ?_⟩
  have kept : ∀ u r, Own5 w N u r → Own5 w' N u r := fun u r ho => World.ownsRow.kept ho hg (own_ne_own ho hvs (by decide))
  rcases Nat.lt_trichotomy k ll.length with hk | hk | hk
  · rw [List.getElem?_append_left hk] at hr
    rw [List.getElem?_append_left (by omega)] at hu'
    exact kept _ _ (h3 k r' u' hr hu')
  · subst hk
    rw [List.getElem?_append_right (Nat.le_refl _)] at hr
    rw [List.getElem?_append_right (by omega)] at hu'
    simp [hl] at hr hu'
    subst hr
    subst hu'
    exact kept _ _ hu
  · rw [List.getElem?_eq_none (by simp; omega)] at hr
    cases hr
theorem wp_app22 {w : World} {o : Oper} {a : Act} {K : Act → World → Prop} {Q : Exit → Act → World → Prop} (s x : Operand)
    (ho : o.op = .call { callee := .builtin .append, args := #[s, x], argTypes := #[35, 35] })
    (N : Nat) (v : Value) (ll : List (List UInt8)) (hs : a.eval s = v) (hown : OwnR w N v ll)
    (g c : Nat) (u : Value) (r : List UInt8) (hx : a.eval x = .slice (some ⟨g, 0, none⟩) 1 c) (hc : w.cell? ⟨g, 0, none⟩ = some u) (hu : Own5 w N u r) (h63 : ll.length + 1 ≤ 1000000000) (hN : N ≤ w.heap.size)
    (h : ∀ v' w', OwnR w' N v' (ll ++ [r]) → Below N w w' → K (a.put o.dst v') w') : o.wp Try.prog a w K Q := by
  obtain ⟨i, hi, hz, h0, h1⟩ := info_parts info22
  obtain ⟨vs, g1, g2, g3⟩ := hown
  obtain ⟨Ak, ck, e, _⟩ := own_slice hu
  have hlt : g < w.heap.size := World.block_lt_of_cell? w _ hc
  have hcs : Cs w w.heap.size (some ⟨g, 0, none⟩) [u] := fun j u' hj => by
    rcases j with _ | j
    · have : u = u' := by simpa using hj
      subst this
      exact ⟨_, rfl, hlt, hc⟩
    · simp at hj
  refine wp_app s x ho Try.underlying35 hi hz h0 h1 rfl hs g1 hx hcs rfl (fun u' hu' => ?_) h63 (by decide) hN fun v' w' h2 h3 => h _ _ (OwnR.grown hu g1 g2 g3 rfl h2 h3) ?_
  · have : u' = u := by simpa using hu'
    rw [this, e]
    rfl
  · exact (Below.refl N w).grown h3 hN fun k hk => (g1.lt k hk).1
theorem app22 {w : World} {ops : Array Oper} {rest : List Oper} {o : Oper} {a : Act} {Q : Exit → Act → World → Prop} (s x : Operand)
    (ho : o.op = .call { callee := .builtin .append, args := #[s, x], argTypes := #[35, 35] }) (hgd : o.guard = none)
    (N : Nat) (v : Value) (ll : List (List UInt8)) (hs : a.eval s = v) (hown : OwnR w N v ll)
    (g c : Nat) (u : Value) (r : List UInt8) (hx : a.eval x = .slice (some ⟨g, 0, none⟩) 1 c) (hc : w.cell? ⟨g, 0, none⟩ = some u) (hu : Own5 w N u r) (h63 : ll.length + 1 ≤ 1000000000) (hN : N ≤ w.heap.size)
    (h : ∀ v' w', OwnR w' N v' (ll ++ [r]) → Below N w w' → wpList Try.prog ops Q rest (a.put o.dst v') w') : wpList Try.prog ops Q (o :: rest) a w :=
  wpList_plain hgd fun _ hK => wp_app22 s x ho N v ll hs hown g c u r hx hc hu h63 hN fun v' w' h2 h3 => hK _ _ (h v' w' h2 h3)
end Go.Proofs.Ytljefpagoggkdaa
