/- Rows of slices of bytes that the call makes, whose elements it makes too. Conditions: as stated at each. -/
import Derived.Test.YtpfonpjcnpfipaaGreatDoorEnTx
namespace Go.Proofs.YtpfonpjcnpfipaaGreatDoor
set_option maxRecDepth 100000
namespace En
open Go.RowKit Go Go.Proofs.YtpfonpjcnpfipaaGreatDoor.Pa
attribute [local go_sem] Oper.semAt_some
/-- an element's bytes lie apart from the row. -/
def El (w : World) (v : Value) (A : Option Addr) (l : L) : Prop := l = [] ∨ (Bts w w.heap.size A l ∧ ∀ ad, A = some ad → v.ownBlock ≠ some ad.block)
theorem El.bts {w : World} {v : Value} {A : Option Addr} {l : L} (h : El w v A l) : Bts w w.heap.size A l := by
  rcases h with rfl | h
  · exact Cs.nil
  · exact h.1
theorem El.below {w w' : World} {v : Value} {A : Option Addr} {l : L} (h : El w v A l) (hb : Below w.heap.size w w') : El w' v A l := by
  rcases h with h | ⟨h1, h2⟩
  · exact .inl h
  · exact .inr ⟨(h1.below hb).more hb.size, h2⟩
theorem El.grown {w w' : World} {v v' : Value} {A : Option Addr} {l : L} (h : El w v A l) (hg : w.grownBy w' v.ownBlock) (hv : v'.ownBlock = v.ownBlock ∨ v'.ownBlock = some w.heap.size) : El w' v' A l := by
  rcases Nat.eq_zero_or_pos l.length with h0 | h0
  · exact .inl (List.eq_nil_of_length_eq_zero h0)
  · rcases h with h | ⟨h1, h2⟩
    · subst h; simp at h0
    · obtain ⟨ad0, e0, hb0, _⟩ := h1.at_ h0
      have hne := h2 ad0 e0
      refine .inr ⟨fun j u hj => ?_, fun ad e => ?_⟩
      · obtain ⟨ad, e, hb, hc⟩ := h1 j u hj
        rw [e0] at e
        injection e with e
        subst e
        refine ⟨ad0, e0, Nat.lt_of_lt_of_le hb hg.size, ?_⟩
        have hh := hg.block ad0.block hb (fun e => hne e.symm)
        rw [← hc]
        unfold World.cell?
        rw [blk_add, hh]
      · rw [e0] at e
        injection e with e
        subst e
        rcases hv with hv | hv
        · rw [hv]; exact hne
        · rw [hv]
          intro e
          injection e with e
          omega
theorem El.old {w : World} {B : Nat} {v : Value} {A : Option Addr} {l : L} (h : Bts w B A l) (hB : B ≤ w.heap.size) (hv : ∀ k, v.ownBlock = some k → B ≤ k) : El w v A l := by
  rcases Nat.eq_zero_or_pos l.length with h0 | h0
  · exact .inl (List.eq_nil_of_length_eq_zero h0)
  · obtain ⟨ad0, e0, hb0, _⟩ := h.at_ h0
    refine .inr ⟨h.more hB, fun ad e hc => ?_⟩
    rw [e0] at e
    injection e with e
    subst e
    have := hv _ hc
    omega
def RowP (w : World) (N : Nat) (v : Value) (ls : List L) : Prop := ∃ vs, w.ownsRow N 22 1 v ls.length vs ∧ vs.length = ls.length ∧ ∀ (k : Nat) l, ls[k]? = some l → ∃ A c, vs[k]? = some (.slice A l.length c) ∧ l.length ≤ c ∧ c ≤ maxLen ∧ El w v A l
theorem RowP.slice {w : World} {N : Nat} {v : Value} {ls : List L} (h : RowP w N v ls) : ∃ A c, v = .slice A ls.length c ∧ ls.length ≤ c ∧ c ≤ maxLen := by
  obtain ⟨vs, h1, _⟩ := h
  exact own_slice h1
theorem RowP.low {w : World} {N : Nat} {v : Value} {ls : List L} (h : RowP w N v ls) : ∀ k, v.ownBlock = some k → N ≤ k ∧ k < w.heap.size := by
  obtain ⟨vs, h1, _⟩ := h
  intro k hk
  exact h1.lt k hk
theorem RowP.below {w w' : World} {N : Nat} {v : Value} {ls : List L} (h : RowP w N v ls) (hb : Below w.heap.size w w') : RowP w' N v ls := by
  obtain ⟨vs, h1, h2, h3⟩ := h
  refine ⟨vs, own_kept h1 hb (Nat.le_refl _), h2, fun k l hk => ?_⟩
  obtain ⟨A, c, g1, g2, g3, g4⟩ := h3 k l hk
  exact ⟨A, c, g1, g2, g3, g4.below hb⟩
theorem RowP.rws {w : World} {N n c : Nat} {A : Option Addr} {ls : List L} (h : RowP w N (.slice A n c) ls) : Rws w w.heap.size A ls := by
  obtain ⟨vs, h1, h2, h3⟩ := h
  obtain ⟨A', c', e, _⟩ := own_slice h1
  injection e with e1 e2 e3
  subst e1; subst e2; subst e3
  intro k r hk
  obtain ⟨Ak, ck, g1, g2, g3, g4⟩ := h3 k r hk
  obtain ⟨ad, e, hb, hc⟩ := Cs.of_own h1 k _ g1
  exact ⟨ad, Ak, ck, e, hb, hc, g2, g3, g4.bts⟩
/-- a slice's value, and what it reads. -/
def SlV (w : World) (x : Value) (l : L) : Prop := ∃ A c, x = .slice A l.length c ∧ Bts w w.heap.size A l ∧ l.length ≤ c ∧ c ≤ maxLen
theorem SlV.below {w w' : World} {x : Value} {l : L} (h : SlV w x l) (hb : Below w.heap.size w w') : SlV w' x l := by
  obtain ⟨A, c, h1, h2, h3⟩ := h
  exact ⟨A, c, h1, (h2.below hb).more hb.size, h3⟩
/-- a row written out. -/
theorem RowP.lit {w : World} (cs : Array Value) (ls : List L) (hl : cs.size = ls.length) (hm : ls.length ≤ maxLen) (h : ∀ (k : Nat) l, ls[k]? = some l → ∃ x, cs[k]? = some x ∧ SlV w x l) :
    RowP (w.alloc (.cells cs 22)) w.heap.size (.slice (some ⟨w.heap.size, 0, none⟩) ls.length ls.length) ls := by
  have hb : Below w.heap.size w (w.alloc (.cells cs 22)) := (Below.refl _ w).alloc (Nat.le_refl _) _
  refine ⟨cs.toList, World.ownsRow_lit w cs ls.length (Nat.le_refl _) hm (by rw [Nat.mul_one]; exact hl), by rw [Array.length_toList, hl], fun k l hk => ?_⟩
  obtain ⟨x, hx, A, c, rfl, h2, h3, h4⟩ := h k l hk
  refine ⟨A, c, by rw [Array.getElem?_toList]; exact hx, h3, h4, El.old (h2.below hb) hb.size (fun j hj => ?_)⟩
  have e1 : w.heap.size = j := by simpa [Value.ownBlock] using hj
  omega
theorem info45 : (Tryz.prog.info? 22).map (fun i => (i.zero, i.size, i.bytes)) = some (some (.slice none 0 0), 1, 24) := by kernel_rfl
/-- one slice more. -/
theorem lappR {w : World} {ops : Array Oper} {rest : List Oper} {o : Oper} {a : Act} {Q : Exit → Act → World → Prop} (s x : Operand)
    (ho : o.op = .call { callee := .builtin .append, args := #[s, x], argTypes := #[40, 40] }) (hgd : o.guard = none)
    {N : Nat} {v : Value} {ls : List L} {l : L} {A : Option Addr} {c : Nat} (hs : a.eval s = v) (hown : RowP w N v ls) (hl : El w v A l) (hc : l.length ≤ c) (hm : c ≤ maxLen)
    {g c1 : Nat} (hx : a.eval x = .slice (some ⟨g, 0, none⟩) 1 c1) (hcell : w.cell? ⟨g, 0, none⟩ = some (.slice A l.length c)) (h63 : ls.length + 1 ≤ 1000000000) (hN : N ≤ w.heap.size)
    (h : ∀ v' w', RowP w' N v' (ls ++ [l]) → w.grownBy w' v.ownBlock → (∀ k, v.ownBlock = some k → N ≤ k) → wpList Tryz.prog ops Q rest (a.put o.dst v') w') : wpList Tryz.prog ops Q (o :: rest) a w := by
  obtain ⟨i, hi, hz, h0, h1⟩ := info_parts info45
  obtain ⟨vs, g1, g2, g3⟩ := hown
  obtain ⟨v', w', hrun, h2, h3, _, h5⟩ := run_append_own_at (P := Tryz.prog) w N 40 o.type 22 i (.slice none 0 0) 1 24 Tryz.underlying40 hi hz h0 h1 rfl (by omega) v ls.length vs g1 ⟨g, 0, none⟩ 1 c1 [.slice A l.length c] rfl
    (fun j u hj => by
      have hj0 : j = 0 := by
        have := (List.getElem?_eq_some_iff.1 hj).1
        simpa using this
      subst hj0
      have hu : u = .slice A l.length c := by simpa using hj.symm
      subst hu
      simpa [Addr.add] using hcell) (fun u hu => by
      have : u = .slice A l.length c := by simpa using hu
      rw [this]; rfl) (by unfold maxLen; omega) (by omega) hN
  refine wpList_plain hgd fun K hK => ?_
  unfold Oper.wp execOp
  simp only [ho, resolve, invoke, builtin, Sem.run_bind, Sem.run_pure, Result.andThen_ok, List.map_toArray, List.map_cons, List.map_nil, hs, hx, hrun]
  refine hK _ _ (h v' w' ⟨vs ++ [.slice A l.length c], by rw [List.length_append]; exact h2, by simp [g2], fun k r hk => ?_⟩ h3 (fun k hk => (g1.lt k hk).1))
  rcases Nat.lt_or_ge k ls.length with hlt | hge
  · rw [List.getElem?_append_left hlt] at hk
    obtain ⟨A', c', f1, f2, f3, f4⟩ := g3 k r hk
    exact ⟨A', c', by rw [List.getElem?_append_left (by rw [g2]; exact hlt)]; exact f1, f2, f3, f4.grown h3 h5⟩
  · rw [List.getElem?_append_right hge] at hk
    have hk0 : k - ls.length = 0 := by
      have := (List.getElem?_eq_some_iff.1 hk).1
      simp at this; omega
    rw [hk0] at hk
    obtain rfl : l = r := by simpa using hk
    exact ⟨A, c, by rw [List.getElem?_append_right (by rw [g2]; exact hge), g2, hk0]; rfl, hc, hm, hl.grown h3 h5⟩
end En
end Go.Proofs.YtpfonpjcnpfipaaGreatDoor
