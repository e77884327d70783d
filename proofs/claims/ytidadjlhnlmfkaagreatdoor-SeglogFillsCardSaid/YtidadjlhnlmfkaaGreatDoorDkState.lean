/- The disk's files as a function of the name, and what one file's change does to them. Conditions: as stated at each. -/
import Derived.Test.YtidadjlhnlmfkaaGreatDoorDkNew
namespace Go.Proofs.YtidadjlhnlmfkaaGreatDoor
set_option maxRecDepth 100000
open Go.RowKit Go.Shelf Go
/-- a file: its bytes, and how many of them are safe. -/
abbrev Files := ByteArray → Option (List UInt8 × Nat)
def Files.upd (F : Files) (s : ByteArray) (o : Option (List UInt8 × Nat)) : Files := fun s' => if s' = s then o else F s'
/-- the map D holds the files F; their rows lie in Ft, and each has its own. -/
def FilesIs (W : World) (N : Nat) (Ft : Nat → Prop) (D : DataW Value) (F : Files) : Prop :=
  (∀ s, F s = none → at_ D s = none) ∧
  (∀ s bs z, F s = some (bs, z) → ∃ a c, at_ D s = some (.agg #[.slice a bs.length c, .int .i64 (z : Nat)]) ∧ Own5 W N (.slice a bs.length c) bs ∧ z ≤ bs.length ∧ ∀ g, (Value.slice a bs.length c).ownBlock = some g → Ft g) ∧
  (∀ s s' v v' z z', s ≠ s' → at_ D s = some (.agg #[v, z]) → at_ D s' = some (.agg #[v', z']) → v.ownBlock = none ∨ v.ownBlock ≠ v'.ownBlock)
def NewFt (Ft : Nat → Prop) (W W' : World) : Nat → Prop := fun i => Ft i ∨ (W.heap.size ≤ i ∧ i < W'.heap.size)
/-- where the slice by that name lies now. -/
def RowIs (D : DataW Value) (s : ByteArray) (r : Option Nat) : Prop := (at_ D s = none ∧ r = none) ∨ ∃ v z, at_ D s = some (.agg #[v, z]) ∧ r = v.ownBlock
theorem Own5.blk_lt {w : World} {N : Nat} {v : Value} {l : List UInt8} (h : Own5 w N v l) {g : Nat} (hg : v.ownBlock = some g) : N ≤ g ∧ g < w.heap.size := by
  rcases h.2 with ⟨rfl, _⟩ | ⟨g', cap, cur, rfl, hb, hh, _⟩
  · simp [Value.ownBlock] at hg
  · have : g' = g := by simpa [Value.ownBlock] using hg
    subst this
    exact ⟨hb, (Array.getElem?_eq_some_iff.1 hh).1⟩
theorem files_put {W W' : World} {N : Nat} {Ft : Nat → Prop} {D : DataW Value} {F : Files} {Dk M k : Nat} {s : ByteArray} {v : Value} {bs : List UInt8} {z : Nat} {t : TypeId} {cs : Array Value} {r : Option Nat}
    (h : FilesIs W N Ft D F) (hM : MapIs W M k D) (hD : BlkIs W Dk t cs) (ht : t ≠ 5) (hv : Own5 W' N v bs) (hz : z ≤ bs.length) (hR : RowIs D s r) (hrow : v.ownBlock = r ∨ ∃ g, v.ownBlock = some g ∧ W.heap.size ≤ g)
    (hT : Tn (fun i => i = Dk ∨ i = M ∨ r = some i) W W') :
    FilesIs W' N (NewFt Ft W W') (D.put (kOf s) (.held (.agg #[v, .int .i64 (z : Nat)]))) (F.upd s (some (bs, z))) := by
  obtain ⟨h1, h2, h3⟩ := h
  have hI := Held.isMap hM
  have hfile : ∀ s0 v0 z0, at_ D s0 = some (.agg #[v0, z0]) → ∃ l, Own5 W N v0 l ∧ ∀ g, v0.ownBlock = some g → Ft g := fun s0 v0 z0 ha => by
    cases hF : F s0 with
    | none => rw [h1 s0 hF] at ha; cases ha
    | some y =>
      obtain ⟨bs0, z1⟩ := y
      obtain ⟨a, c, e1, e2, _, e4⟩ := h2 s0 bs0 z1 hF
      rw [e1] at ha
      injection ha with ha
      injection ha with ha
      have ha' := congrArg Array.toList ha
      simp at ha'
      obtain ⟨rfl, _⟩ := ha'
      exact ⟨bs0, e2, e4⟩
  have hdis : ∀ s0 v0 z0 g, s0 ≠ s → at_ D s0 = some (.agg #[v0, z0]) → v0.ownBlock = some g → r ≠ some g := fun s0 v0 z0 g hne ha hg hr => by
    rcases hR with ⟨_, e⟩ | ⟨v1, z1, ha1, e1⟩
    · rw [e] at hr; cases hr
    · rcases h3 s0 s v0 v1 z0 z1 hne ha ha1 with e | e
      · rw [e] at hg; cases hg
      · exact e (hg.trans (hr.symm.trans e1))
  refine ⟨fun s' hs' => ?_, fun s' bs' z' hs' => ?_, fun s1 s2 v1 v2 z1 z2 hne ha1 ha2 => ?_⟩
  · unfold Files.upd at hs'
    rw [at_put hI]
    by_cases e : s' = s
    · rw [if_pos e] at hs'; cases hs'
    · rw [if_neg e] at hs' ⊢
      exact h1 s' hs'
  · unfold Files.upd at hs'
    rw [at_put hI]
    by_cases e : s' = s
    · rw [if_pos e] at hs' ⊢
      injection hs' with hs'
      injection hs' with e1 e2
      subst e1
      subst e2
      obtain ⟨A, c, rfl, _, _⟩ := own_slice hv
      refine ⟨A, c, rfl, hv, hz, fun g hg => ?_⟩
      rcases hrow with hr | ⟨g', hg', hge⟩
      · left
        rw [hg] at hr
        rcases hR with ⟨_, e⟩ | ⟨v0, z0, ha0, e0⟩
        · rw [e] at hr; cases hr
        · obtain ⟨_, _, hft⟩ := hfile s v0 z0 ha0
          exact hft g (e0.symm.trans hr.symm)
      · right
        rw [hg] at hg'
        injection hg' with hg'
        subst hg'
        exact ⟨hge, (Own5.blk_lt hv hg).2⟩
    · rw [if_neg e] at hs' ⊢
      obtain ⟨a, c, e1, e2, e3, e4⟩ := h2 s' bs' z' hs'
      refine ⟨a, c, e1, Own5.tn e2 hT (fun g hg hp => ?_), e3, fun g hg => .inl (e4 g hg)⟩
      rcases hp with hp | hp | hp
      · exact Own5.not_blk e2 hD ht (by rw [hg, hp])
      · exact Own5.not_map e2 hM (by rw [hg, hp])
      · exact hdis s' _ _ g e e1 hg hp
  · rw [at_put hI] at ha1 ha2
    have key : ∀ s0 v0 z0, s0 ≠ s → at_ D s0 = some (.agg #[v0, z0]) → v.ownBlock = none ∨ v.ownBlock ≠ v0.ownBlock := fun s0 v0 z0 hn ha => by
      rcases hrow with hr | ⟨g', hg', hge⟩
      · cases hv0 : v.ownBlock with
        | none => exact .inl rfl
        | some g =>
          right
          intro he
          rw [hv0] at hr
          exact hdis s0 v0 z0 g hn ha he.symm hr.symm
      · right
        intro he
        obtain ⟨l, ho, _⟩ := hfile s0 v0 z0 ha
        have := (Own5.blk_lt ho (he.symm.trans hg')).2
        omega
    have inj : ∀ {v0 z0 : Value}, (some (Value.agg #[v, .int .i64 (z : Nat)]) = some (.agg #[v0, z0])) → v = v0 := fun e => by
      injection e with e
      injection e with e
      have e' := congrArg Array.toList e
      simp at e'
      exact e'.1
    by_cases c1 : s1 = s
    · rw [if_pos c1] at ha1
      rw [if_neg (fun e => hne (c1.trans e.symm))] at ha2
      have := inj ha1
      subst this
      exact key s2 v2 z2 (fun e => hne (c1.trans e.symm)) ha2
    · rw [if_neg c1] at ha1
      by_cases c2 : s2 = s
      · rw [if_pos c2] at ha2
        have := inj ha2
        subst this
        rcases key s1 v1 z1 c1 ha1 with e | e
        · cases hv1 : v1.ownBlock with
          | none => exact .inl rfl
          | some g => right; rw [e]; simp
        · exact .inr (fun h => e h.symm)
      · rw [if_neg c2] at ha2
        exact h3 s1 s2 v1 v2 z1 z2 hne ha1 ha2
end Go.Proofs.YtidadjlhnlmfkaaGreatDoor
