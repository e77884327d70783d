/- A slice of slices of bytes that the call made, whose elements lie elsewhere. Conditions: as stated at each. -/
import Derived.Test.YtamekflgidfnfaaGreatDoorDtMath
import Derived.Test.YtamekflgidfnfaaGreatDoorRgKey
namespace Go.Proofs.YtamekflgidfnfaaGreatDoor
set_option maxRecDepth 100000
namespace Dt
open Go.RowKit Go Go.Proofs.YtamekflgidfnfaaGreatDoor.Hd
theorem add_at (g o k : Nat) : (⟨g, o, none⟩ : Addr).add k = ⟨g, o + k, none⟩ := by
  unfold Addr.add
  split
  · rename_i h; subst h; rfl
  · rfl
/-- these cells are slices that read as these bytes, below block B. -/
def Sls (w : World) (B : Nat) (vs : List Value) (ls : List L) : Prop :=
  vs.length = ls.length ∧ ∀ (k : Nat) l, ls[k]? = some l → ∃ A c, vs[k]? = some (.slice A l.length c) ∧ l.length ≤ c ∧ c ≤ maxLen ∧ Bts w B A l
def RowS (w : World) (N B : Nat) (v : Value) (ls : List L) : Prop := ∃ vs, w.ownsRow N 22 1 v ls.length vs ∧ Sls w B vs ls
theorem Sls.below {w w' : World} {B : Nat} {vs : List Value} {ls : List L} (h : Sls w B vs ls) (hb : Below B w w') : Sls w' B vs ls := ⟨h.1, fun k l hk => by
  obtain ⟨A, c, h1, h2, h3, h4⟩ := h.2 k l hk
  exact ⟨A, c, h1, h2, h3, h4.below hb⟩⟩
theorem Sls.snoc {w : World} {B : Nat} {vs : List Value} {ls : List L} (h : Sls w B vs ls) {A : Option Addr} {l : L} {c : Nat} (h1 : l.length ≤ c) (h2 : c ≤ maxLen) (h3 : Bts w B A l) : Sls w B (vs ++ [.slice A l.length c]) (ls ++ [l]) := by
  refine ⟨by simp [h.1], fun k l' hk => ?_⟩
  rcases Nat.lt_or_ge k ls.length with hlt | hge
  · rw [List.getElem?_append_left hlt] at hk
    obtain ⟨A', c', g1, g2⟩ := h.2 k l' hk
    exact ⟨A', c', by rw [List.getElem?_append_left (by rw [h.1]; exact hlt)]; exact g1, g2⟩
  · rw [List.getElem?_append_right hge] at hk
    have hk0 : k - ls.length = 0 := by
      have := (List.getElem?_eq_some_iff.1 hk).1
      simp at this; omega
    rw [hk0] at hk
    obtain rfl : l = l' := by simpa using hk
    exact ⟨A, c, by rw [List.getElem?_append_right (by rw [h.1]; exact hge), h.1, hk0]; rfl, h1, h2, h3⟩
theorem RowS.nil (w : World) (N B : Nat) : RowS w N B (.slice none 0 0) [] := ⟨[], World.ownsRow_nil w N _ 1, rfl, fun k l h => by simp at h⟩
theorem RowS.slice {w : World} {N B : Nat} {v : Value} {ls : List L} (h : RowS w N B v ls) : ∃ A c, v = .slice A ls.length c ∧ ls.length ≤ c ∧ c ≤ maxLen := by
  obtain ⟨vs, h1, _⟩ := h
  exact own_slice h1
theorem RowS.low {w : World} {N B : Nat} {v : Value} {ls : List L} (h : RowS w N B v ls) : ∀ k, v.ownBlock = some k → N ≤ k := by
  obtain ⟨vs, h1, _⟩ := h
  exact fun k hk => (h1.lt k hk).1
theorem RowS.kept {w w' : World} {N B M : Nat} {v : Value} {ls : List L} (h : RowS w N B v ls) (hb : Below M w w') (hM : w.heap.size ≤ M) (hB : B ≤ M) : RowS w' N B v ls := by
  obtain ⟨vs, h1, h2⟩ := h
  exact ⟨vs, own_kept h1 hb hM, h2.below (hb.mono hB)⟩
theorem RowS.other {w w' : World} {N B : Nat} {v u : Value} {ls : List L} {l : L} (h : RowS w N B v ls) {M : Nat} (hu : Own5 w M u l) (hBM : B ≤ M) (hBw : B ≤ w.heap.size) (hg : w.grownBy w' u.ownBlock) : RowS w' N B v ls := by
  obtain ⟨vs, h1, h2⟩ := h
  refine ⟨vs, World.ownsRow.kept h1 hg (own_ne_own h1 hu (by decide)), h2.below ((Below.refl B w).grown hg hBw fun k hk => Nat.le_trans hBM (hu.lt k hk).1)⟩
theorem info22' : (Tryz.prog.info? 22).map (fun i => (i.zero, i.size, i.bytes)) = some (some (.slice none 0 0), 1, 24) := by kernel_rfl
/-- one slice more. -/
theorem lapp22 {w : World} {ops : Array Oper} {rest : List Oper} {o : Oper} {a : Act} {Q : Exit → Act → World → Prop} (s x : Operand)
    (ho : o.op = .call { callee := .builtin .append, args := #[s, x], argTypes := #[47, 47] }) (hgd : o.guard = none)
    (N B : Nat) (v : Value) (ls : List L) (l : L) (A : Option Addr) (c : Nat) (hs : a.eval s = v) (hown : RowS w N B v ls) (hl : Bts w B A l) (hc : l.length ≤ c) (hm : c ≤ maxLen)
    (g c1 : Nat) (hx : a.eval x = .slice (some ⟨g, 0, none⟩) 1 c1) (hcell : w.cell? ⟨g, 0, none⟩ = some (.slice A l.length c)) (h63 : ls.length + 1 ≤ 1000000000) (hN : N ≤ w.heap.size) (hBN : B ≤ N)
    (h : ∀ v' w', RowS w' N B v' (ls ++ [l]) → Below N w w' → wpList Tryz.prog ops Q rest (a.put o.dst v') w') : wpList Tryz.prog ops Q (o :: rest) a w := by
  obtain ⟨i, hi, hz, h0, h1⟩ := info_parts info22'
  obtain ⟨vs, g1, g2⟩ := hown
  have hr : Cs w w.heap.size (some ⟨g, 0, none⟩) [.slice A l.length c] := fun j u hj => by
    have hj0 : j = 0 := by
      have := (List.getElem?_eq_some_iff.1 hj).1
      simpa using this
    subst hj0
    have hu : u = .slice A l.length c := by simpa using hj.symm
    subst hu
    exact ⟨_, rfl, World.block_lt_of_cell? w _ hcell, by simpa [Addr.add] using hcell⟩
  refine wpList_plain hgd fun _ hK => wp_app s x ho Tryz.underlying47 hi hz h0 h1 rfl hs g1 hx hr rfl (fun u hu => by
    have : u = .slice A l.length c := by simpa using hu
    rw [this]; rfl) h63 (by decide) hN fun v' w' h2 h3 => ?_
  have hb : Below N w w' := (Below.refl N w).grown h3 hN fun k hk => (g1.lt k hk).1
  refine hK _ _ (h v' w' ⟨vs ++ [.slice A l.length c], ?_, (g2.snoc hc hm hl).below (hb.mono hBN)⟩ hb)
  rw [List.length_append]
  exact h2
theorem RowS.at_ {w : World} {N B n c : Nat} {A : Option Addr} {ls : List L} (h : RowS w N B (.slice A n c) ls) {k : Nat} (hk : k < ls.length) :
    ∃ g A' c', A = some ⟨g, 0, none⟩ ∧ g < w.heap.size ∧ w.cell? ⟨g, k, none⟩ = some (.slice A' (ls.getD k []).length c') ∧ (ls.getD k []).length ≤ c' ∧ c' ≤ maxLen ∧ Bts w B A' (ls.getD k []) := by
  obtain ⟨vs, h1, h2⟩ := h
  obtain ⟨A', c', h3, h4, h5, h6⟩ := h2.2 k (ls.getD k []) (by simp [List.getD, hk])
  obtain ⟨A2, c2, e, _⟩ := own_slice h1
  injection e with e1 e2 e3
  subst e1; subst e2; subst e3
  obtain ⟨g, cap, hv, _, hlt⟩ := h1.form (by omega)
  injection hv with hv
  subst hv
  exact ⟨g, A', c', rfl, hlt, by have := h1.cells (g := g) rfl k _ h3; rwa [add_at, Nat.zero_add] at this, h4, h5, h6⟩
/-- where there is a byte there is a block. -/
theorem bts_at_ {w : World} {B : Nat} {A : Option Addr} {l : L} (h : Bts w B A l) (hl : 0 < l.length) : ∃ g o, A = some ⟨g, o, none⟩ ∧ g < B ∧ ∀ k, k < l.length → w.cell? ⟨g, o + k, none⟩ = some (.int .u8 ((l.getD k 0).toNat : Int)) := by
  obtain ⟨ad, e, hb, hc⟩ := h.at_ hl
  have hsp := World.cell?_spot hc
  rw [add_0] at hsp
  obtain ⟨g, o, sp⟩ := ad
  obtain rfl : sp = none := hsp
  refine ⟨g, o, e, hb, fun k hk => ?_⟩
  obtain ⟨ad', e', _, hc'⟩ := h.at_ hk
  rw [e] at e'
  injection e' with e'
  subst e'
  rwa [add_at] at hc'
end Dt
end Go.Proofs.YtamekflgidfnfaaGreatDoor
