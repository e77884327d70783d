/- One file taken away, and what the files' lengths come to. Conditions: as stated at each. -/
import Derived.Test.YtidadjlhnlmfkaaGreatDoorDkState
namespace Go.Proofs.YtidadjlhnlmfkaaGreatDoor
set_option maxRecDepth 100000
open Go.RowKit Go.Shelf Go
theorem files_keep {p : Nat → Prop} {W W' : World} {N : Nat} {Ft Ft' : Nat → Prop} {D : DataW Value} {F : Files} (h : FilesIs W N Ft D F) (hT : Tn p W W') (hf : ∀ i, Ft i → Ft' i)
    (hp : ∀ v l g, Own5 W N v l → v.ownBlock = some g → ¬ p g) : FilesIs W' N Ft' D F :=
  ⟨h.1, fun s bs z hs => by
    obtain ⟨a, c, e1, e2, e3, e4⟩ := h.2.1 s bs z hs
    exact ⟨a, c, e1, Own5.tn e2 hT (fun g hg => hp _ _ g e2 hg), e3, fun g hg => hf g (e4 g hg)⟩, h.2.2⟩
theorem files_del {W W' : World} {N : Nat} {Ft : Nat → Prop} {D : DataW Value} {F : Files} {Dk M k : Nat} {s : ByteArray} {t : TypeId} {cs : Array Value}
    (h : FilesIs W N Ft D F) (hM : MapIs W M k D) (hD : BlkIs W Dk t cs) (ht : t ≠ 5) (hT : Tn (fun i => i = Dk ∨ i = M) W W') :
    FilesIs W' N Ft (D.del (kOf s)) (F.upd s none) := by
  obtain ⟨h1, h2, h3⟩ := files_keep (Ft' := Ft) h hT (fun _ h => h) (fun v l g ho hg hp => by
    rcases hp with hp | hp
    · exact Own5.not_blk ho hD ht (by rw [hg, hp])
    · exact Own5.not_map ho hM (by rw [hg, hp]))
  refine ⟨fun s' hs' => ?_, fun s' bs z hs' => ?_, fun s1 s2 v1 v2 z1 z2 hne ha1 ha2 => ?_⟩
  · unfold Files.upd at hs'
    rw [at_del]
    by_cases e : s' = s
    · rw [if_pos e]
    · rw [if_neg e] at hs' ⊢
      exact h1 s' hs'
  · unfold Files.upd at hs'
    rw [at_del]
    by_cases e : s' = s
    · rw [if_pos e] at hs'; cases hs'
    · rw [if_neg e] at hs' ⊢
      exact h2 s' bs z hs'
  · rw [at_del] at ha1 ha2
    by_cases c1 : s1 = s
    · rw [if_pos c1] at ha1; cases ha1
    · by_cases c2 : s2 = s
      · rw [if_pos c2] at ha2; cases ha2
      · rw [if_neg c1] at ha1
        rw [if_neg c2] at ha2
        exact h3 s1 s2 v1 v2 z1 z2 hne ha1 ha2
/-- the files' lengths together, over names that hold them all. -/
def lenOf (F : Files) (s : ByteArray) : Nat := ((F s).getD ([], 0)).1.length
def sumOf (F : Files) (ns : List ByteArray) : Nat := (ns.map (lenOf F)).sum
theorem lenOf_upd (F : Files) (s s' : ByteArray) (o : Option (List UInt8 × Nat)) : lenOf (F.upd s o) s' = if s' = s then (o.getD ([], 0)).1.length else lenOf F s' := by
  unfold lenOf Files.upd
  by_cases e : s' = s <;> simp [e]
theorem sumOf_out (F : Files) (s : ByteArray) (o : Option (List UInt8 × Nat)) : ∀ ns : List ByteArray, s ∉ ns → sumOf (F.upd s o) ns = sumOf F ns
  | [], _ => rfl
  | a :: ns, h => by
    have h1 : ¬ a = s := fun e => h (by simp [e])
    have h2 := sumOf_out F s o ns (fun e => h (by simp [e]))
    unfold sumOf at h2 ⊢
    simp only [List.map_cons, List.sum_cons, h2, lenOf_upd, if_neg h1]
theorem sumOf_in (F : Files) (s : ByteArray) (o : Option (List UInt8 × Nat)) : ∀ ns : List ByteArray, ns.Nodup → s ∈ ns → sumOf (F.upd s o) ns + lenOf F s = sumOf F ns + (o.getD ([], 0)).1.length
  | [], _, h => by simp at h
  | a :: ns, hn, h => by
    rw [List.nodup_cons] at hn
    by_cases e : a = s
    · subst e
      have h2 := sumOf_out F a o ns hn.1
      unfold sumOf at h2 ⊢
      simp only [List.map_cons, List.sum_cons, h2, lenOf_upd, if_true]
      omega
    · have h1 : s ∈ ns := by
        rcases List.mem_cons.1 h with h | h
        · exact absurd h.symm e
        · exact h
      have h2 := sumOf_in F s o ns hn.2 h1
      unfold sumOf at h2 ⊢
      simp only [List.map_cons, List.sum_cons, lenOf_upd, if_neg e]
      omega
end Go.Proofs.YtidadjlhnlmfkaaGreatDoor
