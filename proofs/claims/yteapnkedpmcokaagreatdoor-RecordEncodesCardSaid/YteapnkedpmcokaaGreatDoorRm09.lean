/- MkMem. Conditions: as stated at each. -/
import Derived.Test.YteapnkedpmcokaaGreatDoorRm07
import Derived.Test.YteapnkedpmcokaaGreatDoorRm08
import Derived.Maps.AppendAt
/- Lists of sums in memory. Conditions: none. -/
namespace Go.Proofs.YteapnkedpmcokaaGreatDoor
set_option maxRecDepth 100000
open Go.RowKit Go
theorem flat_length : ∀ {L : List (List UInt8)}, Sms L → L.flatten.length = 32 * L.length
  | [], _ => rfl
  | x :: L, h => by
    rw [List.flatten_cons, List.length_append, h x (by simp), flat_length (fun y hy => h y (by simp [hy])), List.length_cons]
    omega
theorem flat_cut (L : List (List UInt8)) (k : Nat) : L.flatten = (L.take k).flatten ++ (L.drop k).flatten := by rw [← List.flatten_append, List.take_append_drop]
theorem add_at (g o n : Nat) : (⟨g, o, none⟩ : Addr).add n = ⟨g, o + n, none⟩ := by
  unfold Addr.add
  split
  · next h => rw [h, Nat.add_zero]
  · rfl
theorem range_below {w w' : World} {B g o : Nat} {cs : List Value} (h : w.rangeAt g o cs) (hb : Below B w w') (hg : g < B) : w'.rangeAt g o cs :=
  fun j v hj => (hb.cell (p := ⟨g, o + j, none⟩) hg).trans (h j v hj)
theorem range_sub {w : World} {g o n : Nat} {a b c : List Value} (h : w.rangeAt g o (a ++ (b ++ c))) (hn : a.length = n) : w.rangeAt g (o + n) b := fun j v hj => by
  have hlt : j < b.length := (List.getElem?_eq_some_iff.1 hj).1
  have := h (n + j) v (by rw [List.getElem?_append_right (by omega), show n + j - a.length = j from by omega, List.getElem?_append_left hlt]; exact hj)
  rwa [← Nat.add_assoc] at this
/-- the slice at A reads as these sums. -/
def Hs (w : World) (B : Nat) (A : Option Addr) (L : List (List UInt8)) : Prop :=
  Sms L ∧ (L = [] ∨ ∃ g o, A = some ⟨g, o, none⟩ ∧ g < B ∧ w.rangeAt g o (bv L.flatten))
section
variable {w w' : World} {B B' : Nat} {A : Option Addr} {L : List (List UInt8)}
theorem Hs.sms (h : Hs w B A L) : Sms L := h.1
theorem Hs.nil (A : Option Addr) : Hs w B A [] := ⟨Sms.nil, .inl rfl⟩
theorem Hs.below (h : Hs w B A L) (hb : Below B w w') : Hs w' B A L := by
  refine ⟨h.1, ?_⟩
  rcases h.2 with e | ⟨g, o, e, hg, hr⟩
  · exact .inl e
  · exact .inr ⟨g, o, e, hg, range_below hr hb hg⟩
theorem Hs.more (h : Hs w B A L) (hB : B ≤ B') : Hs w B' A L := by
  refine ⟨h.1, ?_⟩
  rcases h.2 with e | ⟨g, o, e, hg, hr⟩
  · exact .inl e
  · exact .inr ⟨g, o, e, by omega, hr⟩
theorem Hs.take (h : Hs w B A L) (k : Nat) : Hs w B A (L.take k) := by
  refine ⟨h.1.take k, ?_⟩
  rcases h.2 with rfl | ⟨g, o, e, hg, hr⟩
  · exact .inl (by simp)
  · refine .inr ⟨g, o, e, hg, ?_⟩
    rw [flat_cut L k, bv_append] at hr
    have := range_sub (a := []) (n := 0) (b := bv (L.take k).flatten) hr rfl
    simpa using this
theorem Hs.drop (h : Hs w B A L) {k : Nat} (c : Nat) (hk : k ≤ L.length) (hc : L.length ≤ c) : Hs w B (if c = k then A else A.map (·.add (k * 32))) (L.drop k) := by
  refine ⟨h.1.drop k, ?_⟩
  rcases Nat.lt_or_ge k L.length with hlt | hge
  · rcases h.2 with rfl | ⟨g, o, rfl, hg, hr⟩
    · simp at hlt
    · refine .inr ⟨g, o + k * 32, by rw [if_neg (by omega)]; simp [add_at], hg, ?_⟩
      rw [flat_cut L k, bv_append] at hr
      refine range_sub (c := []) (by rw [List.append_nil]; exact hr) ?_
      rw [bv_length, flat_length (h.1.take k), List.length_take]
      omega
  · exact .inl (List.drop_eq_nil_of_le hge)
theorem Hs.at_ (h : Hs w B A L) {k : Nat} (hk : k < L.length) : ∃ g o, A = some ⟨g, o, none⟩ ∧ g < B ∧ w.rangeAt g (o + k * 32) (bv (L.getD k [])) := by
  rcases h.2 with rfl | ⟨g, o, rfl, hg, hr⟩
  · simp at hk
  · refine ⟨g, o, rfl, hg, ?_⟩
    have e : L.flatten = (L.take k).flatten ++ (L.getD k [] ++ (L.drop (k + 1)).flatten) := by
      rw [flat_cut L k, List.drop_eq_getElem_cons hk, List.flatten_cons, List.getD_eq_getElem?_getD, List.getElem?_eq_getElem hk]
      rfl
    rw [e, bv_append, bv_append] at hr
    refine range_sub hr ?_
    rw [bv_length, flat_length (h.1.take k), List.length_take]
    omega
end
/-- a sum's cells in a block known whole. -/
theorem BlkIs.sum {w : World} {g : Nat} {t : TypeId} {s : List UInt8} (h : BlkIs w g t (bv s).toArray) : w.rangeAt g 0 (bv s) := fun j v hj => by
  rw [Nat.zero_add]
  exact h.get hj
/-- a row of sums of the call's own. -/
def OwnH (w : World) (N : Nat) (v : Value) (L : List (List UInt8)) : Prop := Sms L ∧ w.ownsRow N 28 32 v L.length (bv L.flatten)
theorem OwnH.nil (w : World) (N : Nat) : OwnH w N (.slice none 0 0) [] := ⟨Sms.nil, World.ownsRow_nil w N 28 32⟩
theorem ownsRow_kept {w w' : World} {N B n sz : Nat} {e : TypeId} {v : Value} {xs : List Value} (h : w.ownsRow N e sz v n xs) (hb : Below B w w') (hB : w.heap.size ≤ B) : w'.ownsRow N e sz v n xs := by
  refine ⟨h.1, ?_⟩
  rcases h.2 with hn | ⟨g, cap, cur, rfl, hn, hh, rest⟩
  · exact .inl hn
  · refine .inr ⟨g, cap, cur, rfl, hn, ?_, rest⟩
    rw [hb.block g (Nat.lt_of_lt_of_le (Array.getElem?_eq_some_iff.1 hh).1 hB)]
    exact hh
theorem ownsRow_more {w : World} {N M n sz : Nat} {e : TypeId} {v : Value} {xs : List Value} (h : w.ownsRow N e sz v n xs) (hM : M ≤ N) : w.ownsRow M e sz v n xs := by
  refine ⟨h.1, ?_⟩
  rcases h.2 with hn | ⟨g, cap, cur, rfl, hn, rest⟩
  · exact .inl hn
  · exact .inr ⟨g, cap, cur, rfl, by omega, rest⟩
theorem OwnH.kept {w w' : World} {N B : Nat} {v : Value} {L : List (List UInt8)} (h : OwnH w N v L) (hb : Below B w w') (hB : w.heap.size ≤ B) : OwnH w' N v L := ⟨h.1, ownsRow_kept h.2 hb hB⟩
theorem OwnH.more {w : World} {N M : Nat} {v : Value} {L : List (List UInt8)} (h : OwnH w N v L) (hM : M ≤ N) : OwnH w M v L := ⟨h.1, ownsRow_more h.2 hM⟩
theorem OwnH.slice {w : World} {N : Nat} {v : Value} {L : List (List UInt8)} (h : OwnH w N v L) : ∃ A c, v = .slice A L.length c ∧ L.length ≤ c ∧ c ≤ maxLen := by
  rcases h.2.2 with ⟨rfl, h0⟩ | ⟨g, cap, cur, rfl, _, _, h1, h2, _⟩
  · exact ⟨none, 0, by rw [h0], by omega, Nat.zero_le _⟩
  · exact ⟨_, _, rfl, h1, h2⟩
theorem OwnH.hs {w : World} {N n c : Nat} {A : Option Addr} {L : List (List UInt8)} (h : OwnH w N (.slice A n c) L) : Hs w w.heap.size A L := by
  refine ⟨h.1, ?_⟩
  rcases h.2.2 with ⟨_, h0⟩ | ⟨g, cap, cur, e, _, hh, h1, h2, h3, ht⟩
  · exact .inl (List.eq_nil_of_length_eq_zero h0)
  · injection e with e1 _ _
    refine .inr ⟨g, 0, e1, (Array.getElem?_eq_some_iff.1 hh).1, fun j v hj => ?_⟩
    rw [Nat.zero_add, cell_of_row w g j cur 28 (0, 0) hh, ← Array.getElem?_toList]
    have hlt : j < L.length * 32 := by
      have := (List.getElem?_eq_some_iff.1 hj).1
      rw [bv_length, flat_length h.1] at this
      omega
    rw [← ht, List.getElem?_take_of_lt hlt] at hj
    exact hj
theorem info26 : (Tryz.prog.info? 28).map (fun i => (i.zero, i.size, i.bytes)) = some (some (.agg (bv (List.replicate 32 0)).toArray), 32, 32) := by kernel_rfl
theorem isz26 : (Tryz.prog.info? 28).map (·.size) = some 32 := by kernel_rfl
theorem isz26s {s : List UInt8} (h : s.length = 32) : (Tryz.prog.info? 28).map (·.size) = some (bv s).length := by rw [bv_length, h]; exact isz26
theorem isz26a {s : List UInt8} (h : s.length = 32) : (Tryz.prog.info? 28).map (·.size) = some (bv s).toArray.size := by rw [List.size_toArray]; exact isz26s h
end Go.Proofs.YteapnkedpmcokaaGreatDoor
