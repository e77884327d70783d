/- Holds as plain lists: one more, one less, whom they cover; the laws of more and less. Conditions: none. -/
import Derived.Test.YtamjellnmlgbeaaPaMath
namespace Go.Proofs.Ytamjellnmlgbeaa
set_option maxRecDepth 100000
namespace Ho
open Go.Proofs.Ytamjellnmlgbeaa.Pa
abbrev L := List UInt8
/-- a hold: its name, whose. -/
abbrev H := List UInt8 × List UInt8
/-- a byte of a name. -/
def nmB (c : UInt8) : Bool := decide (97 ≤ c.toNat ∧ c.toNat ≤ 122) || decide (48 ≤ c.toNat ∧ c.toNat ≤ 57) || decide (c.toNat = 45)
def holdS (h : H) : Bool := h.1.all nmB && decide (1 ≤ h.1.length ∧ h.1.length ≤ 30) && (h.2 == [] || mailS h.2)
def hasN (l : List H) (nm : L) : Bool := l.any fun x => x.1 == nm
/-- one more: the error's number; what is answered. -/
def placeE (l : List H) (h : H) : Int := if holdS h && !hasN l h.1 then (if 100 ≤ l.length then 2 else 0) else 140
def placeS (l : List H) (h : H) : List H := if placeE l h = 0 then l ++ [h] else []
/-- one less: the first of that name left out. -/
def liftL : List H → L → List H
  | [], _ => []
  | x :: l, nm => if x.1 == nm then l else x :: liftL l nm
def liftE (l : List H) (nm : L) : Int := if hasN l nm then 0 else 3
def liftS (l : List H) (nm : L) : List H := if hasN l nm then liftL l nm else []
/-- whether a hold keeps an envelope. -/
def covB (h : H) (fr : L) (to : List L) : Bool := h.2 == [] || foldS fr == foldS h.2 || to.any (fun a => foldS a == foldS h.2)
def covS (l : List H) (fr : L) (to : List L) : Bool := l.any fun h => covB h fr to
theorem place_ok {l : List H} {h : H} (hp : placeE l h = 0) : holdS h = true ∧ hasN l h.1 = false ∧ l.length < 100 := by
  unfold placeE at hp
  split at hp
  · next hc =>
    rw [Bool.and_eq_true, Bool.not_eq_true'] at hc
    split at hp
    · cases hp
    · exact ⟨hc.1, hc.2, by omega⟩
  · cases hp
theorem lift_behind : ∀ {l : List H} {h : H}, hasN l h.1 = false → liftL (l ++ [h]) h.1 = l
  | [], h, _ => by simp [liftL]
  | x :: l, h, hn => by
    have h1 : (x.1 == h.1) = false ∧ hasN l h.1 = false := by
      unfold hasN at hn ⊢
      rw [List.any_cons, Bool.or_eq_false_iff] at hn
      exact hn
    rw [List.cons_append, liftL, h1.1, lift_behind h1.2]
    rfl
theorem has_behind (l : List H) (h : H) : hasN (l ++ [h]) h.1 = true := by simp [hasN]
/-- what is placed and lifted again leaves all as it was. -/
theorem lift_place {l : List H} {h : H} (hp : placeE l h = 0) : liftE (placeS l h) h.1 = 0 ∧ liftS (placeS l h) h.1 = l := by
  have hn := (place_ok hp).2.1
  unfold placeS liftE liftS
  rw [if_pos hp, if_pos (has_behind l h), if_pos (has_behind l h)]
  exact ⟨rfl, lift_behind hn⟩
/-- one more uncovers nothing. -/
theorem cov_more {l : List H} {h : H} {fr : L} {to : List L} (hp : placeE l h = 0) (hc : covS l fr to = true) : covS (placeS l h) fr to = true := by
  unfold placeS
  rw [if_pos hp]
  unfold covS at hc ⊢
  rw [List.any_append, hc, Bool.true_or]
theorem lift_sub : ∀ {l : List H} {nm : L} {x : H}, x ∈ liftL l nm → x ∈ l
  | [], _, x, h => by cases h
  | y :: l, nm, x, h => by
    rw [liftL] at h
    split at h
    · exact List.mem_cons_of_mem _ h
    · rcases List.mem_cons.1 h with rfl | h
      · exact List.mem_cons_self ..
      · exact List.mem_cons_of_mem _ (lift_sub h)
/-- one less covers nothing anew. -/
theorem cov_less {l : List H} {nm : L} {fr : L} {to : List L} (hc : covS (liftS l nm) fr to = true) : covS l fr to = true := by
  unfold liftS at hc
  split at hc
  · unfold covS at hc ⊢
    rw [List.any_eq_true] at hc ⊢
    obtain ⟨x, hx, hb⟩ := hc
    exact ⟨x, lift_sub hx, hb⟩
  · cases hc
theorem lift_length : ∀ {l : List H} {nm : L}, hasN l nm = true → (liftL l nm).length + 1 = l.length
  | [], _, h => by cases h
  | x :: l, nm, h => by
    rw [liftL]
    cases hx : (x.1 == nm) with
    | true => rfl
    | false =>
      have : hasN l nm = true := by
        unfold hasN at h ⊢
        rw [List.any_cons, hx, Bool.false_or] at h
        exact h
      have ih := lift_length this
      simp only [Bool.false_eq_true, if_false, List.length_cons]
      omega
/-- the first of that name at k: what stands ahead of it and behind. -/
theorem lift_at : ∀ {l : List H} {nm : L} {k : Nat}, (∀ j, j < k → ((l.getD j ([], [])).1 == nm) = false) → k < l.length → ((l.getD k ([], [])).1 == nm) = true → hasN l nm = true ∧ liftL l nm = l.take k ++ l.drop (k + 1)
  | [], _, k, _, h, _ => by simp at h
  | x :: l, nm, 0, _, _, h => by
    have hx : (x.1 == nm) = true := h
    refine ⟨?_, ?_⟩
    · unfold hasN
      rw [List.any_cons, hx]; rfl
    · rw [liftL, hx]; rfl
  | x :: l, nm, k + 1, h1, h2, h3 => by
    have hx : (x.1 == nm) = false := h1 0 (Nat.zero_lt_succ _)
    obtain ⟨i1, i2⟩ := lift_at (l := l) (nm := nm) (k := k) (fun j hj => h1 (j + 1) (Nat.succ_lt_succ hj)) (Nat.lt_of_succ_lt_succ h2) h3
    refine ⟨?_, ?_⟩
    · unfold hasN at i1 ⊢
      rw [List.any_cons, i1, Bool.or_true]
    · rw [liftL, hx, i2]; rfl
theorem has_miss {l : List H} {nm : L} (h : ∀ j, j < l.length → ((l.getD j ([], [])).1 == nm) = false) : hasN l nm = false := by
  unfold hasN
  rw [List.any_eq_false]
  intro x hx
  obtain ⟨i, hi, rfl⟩ := List.mem_iff_getElem.1 hx
  have := h i hi
  simpa [List.getD, hi] using this
theorem has_hit {l : List H} {nm : L} {k : Nat} (hk : k < l.length) (h : ((l.getD k ([], [])).1 == nm) = true) : hasN l nm = true := by
  unfold hasN
  rw [List.any_eq_true]
  exact ⟨l.getD k ([], []), by simp [List.getD, hk], h⟩
theorem cov_hit {l : List H} {fr : L} {to : List L} {k : Nat} (hk : k < l.length) (h : covB (l.getD k ([], [])) fr to = true) : covS l fr to = true := by
  unfold covS
  rw [List.any_eq_true]
  exact ⟨l.getD k ([], []), by simp [List.getD, hk], h⟩
theorem cov_miss {l : List H} {fr : L} {to : List L} (h : ∀ j, j < l.length → covB (l.getD j ([], [])) fr to = false) : covS l fr to = false := by
  unfold covS
  rw [List.any_eq_false]
  intro x hx
  obtain ⟨i, hi, rfl⟩ := List.mem_iff_getElem.1 hx
  have := h i hi
  simpa [List.getD, hi] using this
end Ho
end Go.Proofs.Ytamjellnmlgbeaa
