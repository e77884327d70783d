/- Lists of rows one behind the other: what append makes of rows that came in. Conditions: none. -/
import Derived.Test.YtljefpagoggkdaaAll
namespace Go.Proofs.Ytljefpagoggkdaa
open Go.RowKit Go
/-- a value that reads as a row. -/
def RowV (w : World) (B : Nat) (u : Value) (r : List UInt8) : Prop := ∃ A c, u = .slice A r.length c ∧ r.length ≤ c ∧ c ≤ maxLen ∧ Bts w B A r
/-- the values of the rows. -/
def RowVs (w : World) (B : Nat) (vs : List Value) (ll : List (List UInt8)) : Prop := vs.length = ll.length ∧ ∀ (k : Nat) r u, ll[k]? = some r → vs[k]? = some u → RowV w B u r
theorem Rws.vals {w : World} {B : Nat} {A : Option Addr} {ll : List (List UInt8)} (h : Rws w B A ll) : ∃ vs, Cs w B A vs ∧ RowVs w B vs ll := by
  have each : ∀ k, k < ll.length → ∃ u, RowV w B u (ll.getD k []) ∧ ∃ ad, A = some ad ∧ ad.block < B ∧ w.cell? (ad.add k) = some u := fun k hk => by
    obtain ⟨ad, Ak, ck, e, h1, h2, h3, h4, h5⟩ := h.at_ hk
    exact ⟨_, ⟨Ak, ck, rfl, h3, h4, h5⟩, ad, e, h1, h2⟩
  have hex : ∃ f : Nat → Value, ∀ k, k < ll.length → RowV w B (f k) (ll.getD k []) ∧ ∃ ad, A = some ad ∧ ad.block < B ∧ w.cell? (ad.add k) = some (f k) := by
    refine ⟨fun k => if hk : k < ll.length then (each k hk).choose else undef, fun k hk => ?_⟩
    dsimp only
    rw [dif_pos hk]
    exact (each k hk).choose_spec
  obtain ⟨f, hf⟩ := hex
  refine ⟨(List.range ll.length).map f, fun j u hj => ?_, by simp, fun k r u hr hu => ?_⟩
  · have hlt : j < ll.length := by
      have := (List.getElem?_eq_some_iff.1 hj).1
      simpa using this
    obtain rfl : f j = u := by simpa [hlt] using hj
    exact (hf j hlt).2
  · have hlt : k < ll.length := (List.getElem?_eq_some_iff.1 hr).1
    obtain rfl : f k = u := by simpa [hlt] using hu
    have := (hf k hlt).1
    rwa [List.getD, hr] at this
theorem RowVs.one {w : World} {B : Nat} {vs : List Value} {ll : List (List UInt8)} (h : RowVs w B vs ll) : ∀ u ∈ vs, u.oneCell' = true := by
  intro u hu
  obtain ⟨k, hk, e⟩ := List.getElem_of_mem hu
  have hk2 : k < ll.length := by rw [← h.1]; exact hk
  obtain ⟨A, c, e2, _⟩ := h.2 k ll[k] u (List.getElem?_eq_getElem hk2) (by rw [List.getElem?_eq_getElem hk, e])
  rw [e2]
  rfl
theorem RowV.below {w w' : World} {B : Nat} {u : Value} {r : List UInt8} (h : RowV w B u r) (hb : Below B w w') : RowV w' B u r := by
  obtain ⟨A, c, h1, h2, h3, h4⟩ := h
  exact ⟨A, c, h1, h2, h3, h4.below hb⟩
theorem RowVs.below {w w' : World} {B : Nat} {vs : List Value} {ll : List (List UInt8)} (h : RowVs w B vs ll) (hb : Below B w w') : RowVs w' B vs ll := ⟨h.1, fun k r u hr hu => (h.2 k r u hr hu).below hb⟩
theorem RowVs.append {w : World} {B : Nat} {vs us : List Value} {ll mm : List (List UInt8)} (h : RowVs w B vs ll) (h' : RowVs w B us mm) : RowVs w B (vs ++ us) (ll ++ mm) := by
  refine ⟨by rw [List.length_append, List.length_append, h.1, h'.1], fun k r u hr hu => ?_⟩
  by_cases hk : k < ll.length
  · rw [List.getElem?_append_left hk] at hr
    rw [List.getElem?_append_left (by rw [h.1]; exact hk)] at hu
    exact h.2 k r u hr hu
  · rw [List.getElem?_append_right (by omega)] at hr
    rw [List.getElem?_append_right (by rw [h.1]; omega), h.1] at hu
    exact h'.2 _ r u hr hu
theorem RowVs.rws {w : World} {B N c n : Nat} {A : Option Addr} {vs : List Value} {ll : List (List UInt8)} (h : RowVs w B vs ll) (hB : B ≤ w.heap.size) (ho : w.ownsRow N 22 1 (.slice A n c) n vs) : Rws w w.heap.size A ll := fun k r hk => by
  have hlt : k < vs.length := by rw [h.1]; exact (List.getElem?_eq_some_iff.1 hk).1
  have hu : vs[k]? = some vs[k] := List.getElem?_eq_getElem hlt
  obtain ⟨Ak, ck, e, h1, h2, h3⟩ := h.2 k r _ hk hu
  obtain ⟨ad, e1, e2, e3⟩ := Cs.of_own ho k _ hu
  rw [e] at e3
  exact ⟨ad, Ak, ck, e1, e2, e3, h1, h2, h3.more hB⟩
/-- rows behind rows. -/
theorem appR {w : World} {ops : Array Oper} {rest : List Oper} {o : Oper} {a : Act} {Q : Exit → Act → World → Prop} (s x : Operand)
    (ho : o.op = .call { callee := .builtin .append, args := #[s, x], argTypes := #[35, 35] }) (hw : Region.wanted o (yielded ops a.tmps) = true)
    (N : Nat) (v : Value) (vs news : List Value) (hs : a.eval s = v) (hown : w.ownsRow N 22 1 v vs.length vs)
    (B : Nat) (A : Option Addr) (n c : Nat) (hx : a.eval x = .slice A n c) (hl : news.length = n) (hr : Cs w B A news) (h1 : ∀ u ∈ news, u.oneCell' = true) (h63 : vs.length + n ≤ 1000000000) (hN : N ≤ w.heap.size)
    (h : ∀ v' w', w'.ownsRow N 22 1 v' (vs ++ news).length (vs ++ news) → w.grownBy w' v.ownBlock → wpList Try.prog ops Q rest (a.put o.dst v') w') : wpList Try.prog ops Q (o :: rest) a w := by
  obtain ⟨i, hi, hz, h0, h2⟩ := info_parts info22
  refine wpList_step fun K hK => ?_
  rw [if_pos hw]
  refine wp_app s x ho Try.underlying35 hi hz h0 h2 rfl hs hown hx hr hl h1 h63 (by decide) hN fun v' w' h3 h4 => hK _ _ (h _ _ ?_ h4)
  rw [List.length_append, hl]
  exact h3
end Go.Proofs.Ytljefpagoggkdaa
