/- Of, Or, And, Less, and the document's Both: lists that rise, by what they have. Conditions: as stated at each. -/
import Derived.Test.YtkpolakdamiiiaaPsOf
namespace Go.Proofs.Ytkpolakdamiiiaa
set_option maxRecDepth 100000
namespace Ps
open Go.RowKit Go
attribute [local go_sem] Oper.semAt_some
/-- lists that rise and have the same are the same. -/
theorem up_eq : ∀ {a b : List Int}, Up a → Up b → (∀ x, x ∈ a ↔ x ∈ b) → a = b
  | [], [], _, _, _ => rfl
  | [], y :: b, _, _, h => by have := (h y).2 (by simp); simp at this
  | x :: a, [], _, _, h => by have := (h x).1 (by simp); simp at this
  | x :: a, y :: b, ha, hb, h => by
    have h1 := List.pairwise_cons.1 ha
    have h2 := List.pairwise_cons.1 hb
    have hxy : x = y := by
      rcases List.mem_cons.1 ((h x).1 (by simp)) with e | e
      · exact e
      · rcases List.mem_cons.1 ((h y).2 (by simp)) with e2 | e2
        · exact e2.symm
        · have := h2.1 x e; have := h1.1 y e2; omega
    subst hxy
    rw [up_eq h1.2 h2.2 (fun z => ?_)]
    constructor
    · intro hz
      rcases List.mem_cons.1 ((h z).1 (by simp [hz])) with e | e
      · have := h1.1 z hz; omega
      · exact e
    · intro hz
      rcases List.mem_cons.1 ((h z).2 (by simp [hz])) with e | e
      · have := h2.1 z hz; omega
      · exact e
theorem up_nodup {l : List Int} (h : Up l) : l.Nodup := h.imp (fun {a b} hab => by omega)
theorem count_up {l : List Int} (h : Up l) (x : Int) : l.count x = if x ∈ l then 1 else 0 := (up_nodup h).count
/-- numbers as an argument. -/
def Ar (w : World) (v : Value) (l : List Int) : Prop := ∃ A c, v = .slice A l.length c ∧ Ints w w.heap.size A l ∧ l.length ≤ c ∧ c ≤ maxLen
theorem Ar.below {w w' : World} {v : Value} {l : List Int} (h : Ar w v l) (hb : Below w.heap.size w w') : Ar w' v l := by
  obtain ⟨A, c, rfl, h1, h2⟩ := h
  exact ⟨A, c, rfl, (h1.below hb).more hb.size, h2⟩
theorem OwnI.ar {w : World} {N : Nat} {v : Value} {l : List Int} (h : OwnI w N v l) : Ar w v l := by
  obtain ⟨A, c, rfl, h1, h2, h3⟩ := h.ints
  exact ⟨A, c, rfl, h3, h1, h2⟩
/-- a list that rises and has what p says, in a row of the call's own. -/
def ResQ (w : World) (p : Int → Prop) (M : Nat) (e : Ending) (w' : World) : Prop := ∃ v r, e = .returned v ∧ OwnI w' w.heap.size v r ∧ Below w.heap.size w w' ∧ Up r ∧ (∀ x, x ∈ r ↔ p x) ∧ r.length ≤ M
theorem setOf_facts (l : List Int) : Up (setOf l) ∧ (∀ x, x ∈ setOf l ↔ x ∈ l) ∧ (setOf l).length ≤ l.length := by
  obtain ⟨h1, h2⟩ := grp_facts _ (srt l) (Nat.le_refl _) (srt_srt l)
  refine ⟨h1, fun x => ?_, by unfold setOf; rw [List.length_map]; exact grp_len l⟩
  unfold setOf
  rw [List.mem_map]
  constructor
  · rintro ⟨⟨y, k⟩, hk, rfl⟩
    have := (h2 y k).1 hk
    exact (srt_perm l).mem_iff.1 (List.count_pos_iff.1 (show 0 < (srt l).count y by omega))
  · intro hx
    have := List.count_pos_iff.2 ((srt_perm l).mem_iff.2 hx)
    exact ⟨(x, (srt l).count x), (h2 _ _).2 ⟨rfl, this⟩, rfl⟩
theorem often_facts (l : List Int) (k : Nat) (hk : 0 < k) : Up (((grp (srt l)).filter fun x => decide ((x.2 : Int) = (k : Int))).map Prod.fst) ∧ (∀ x, x ∈ ((grp (srt l)).filter fun x => decide ((x.2 : Int) = (k : Int))).map Prod.fst ↔ l.count x = k) ∧ (((grp (srt l)).filter fun x => decide ((x.2 : Int) = (k : Int))).map Prod.fst).length ≤ l.length := by
  obtain ⟨h1, h2⟩ := grp_facts _ (srt l) (Nat.le_refl _) (srt_srt l)
  refine ⟨h1.sublist (List.Sublist.map _ List.filter_sublist), fun x => ?_, ?_⟩
  · rw [List.mem_map, ← (srt_perm l).count_eq x]
    constructor
    · rintro ⟨⟨y, m⟩, hm, rfl⟩
      rw [List.mem_filter] at hm
      have h3 := (h2 y m).1 hm.1
      have h4 : (m : Int) = k := by simpa using hm.2
      show (srt l).count y = k
      omega
    · intro hx
      exact ⟨(x, k), List.mem_filter.2 ⟨(h2 _ _).2 ⟨hx.symm, hk⟩, by simp⟩, rfl⟩
  · rw [List.length_map]
    exact Nat.le_trans (List.length_filter_le _ _) (grp_len l)
theorem cs_blk {w : World} {q : Nat} {t : TypeId} {cs : List Value} (h : BlkIs w q t cs.toArray) : Cs w w.heap.size (some ⟨q, 0, none⟩) cs := fun j u hj => by
  refine ⟨_, rfl, h.lt, ?_⟩
  rw [show (Addr.add ⟨q, 0, none⟩ j) = ⟨q, j, none⟩ by unfold Addr.add; split <;> simp_all, h.cell]
  simpa using hj
set_option maxHeartbeats 1600000 in
theorem of_any {w : World} {v : Value} {l : List Int} (h : Ar w v l) (hn : l.length ≤ 20000) : Calls Try.prog 13 #[v] w (ResQ w (· ∈ l) l.length) := by
  obtain ⟨A, c, rfl, h1, h2, h3⟩ := h
  obtain ⟨n, hnl⟩ : ∃ n, l.length = n := ⟨_, rfl⟩
  have hb : Below w.heap.size w (w.alloc (.cells #[.slice A n c] 22)) := (Below.refl _ w).alloc (Nat.le_refl _) _
  have hL : Lists (w.alloc (.cells #[.slice A n c] 22)) (w.alloc (.cells #[.slice A n c] 22)).heap.size (some ⟨w.heap.size, 0, none⟩) [⟨A, c, l⟩] := ⟨by
    have := cs_blk (cs := [.slice A n c]) (BlkIs.new w 22 #[.slice A n c])
    unfold E.val
    simpa [hnl] using this, fun e he => by
    rw [List.mem_singleton.1 he]
    exact ⟨(h1.below hb).more hb.size, h2, h3⟩⟩
  have hm := merge_any (n := 1) (c := 1) rfl hL (Nat.le_refl _) (by simp [left]; omega) (by omega)
  have hle : left [(⟨A, c, l⟩ : E)] = l := by simp [left]
  rw [hle] at hm
  have HM := Lib.hid hm
  have HB := Lib.hid hb
  have HF := Lib.hid (setOf_facts l)
  rw [hnl]
  rw [hnl] at HF
  clear hm hL hb hle h1 h2 h3 hnl hn
  unfold ResP at HM
  unfold ResQ
  generalize setOf l = s at *
  go_enter Try.func13, Try.ntmps13
  go_wp2_with fail
  generalize w.alloc (.cells #[.slice A n c] 22) = w1 at *
  refine HM.out.mono ?_
  rintro e w2 ⟨v2, rfl, ho2, hb2⟩
  have HR := Lib.hid (And.intro ho2 hb2)
  clear ho2 hb2 HM
  dsimp only
  go_wp2_with fail
  go_ret
  exact ⟨v2, s, rfl, HR.out.1.more HB.out.size, HB.out.trans (HR.out.2.mono HB.out.size), HF.out.1, HF.out.2.1, HF.out.2.2⟩
set_option maxHeartbeats 1600000 in
theorem or_any {w : World} {v1 v2 : Value} {a b : List Int} (h : Ar w v1 a) (h' : Ar w v2 b) (hn : a.length + b.length ≤ 40000) : Calls Try.prog 18 #[v1, v2] w (ResQ w (fun x => x ∈ a ∨ x ∈ b) (a.length + b.length)) := by
  obtain ⟨A, c, rfl, h1, h2, h3⟩ := h
  obtain ⟨A', c', rfl, k1, k2, k3⟩ := h'
  obtain ⟨n, hnl⟩ : ∃ n, a.length = n := ⟨_, rfl⟩
  obtain ⟨m, hml⟩ : ∃ n, b.length = n := ⟨_, rfl⟩
  have hb : Below w.heap.size w (w.alloc (.cells #[.slice A n c, .slice A' m c'] 22)) := (Below.refl _ w).alloc (Nat.le_refl _) _
  have hL : Lists (w.alloc (.cells #[.slice A n c, .slice A' m c'] 22)) (w.alloc (.cells #[.slice A n c, .slice A' m c'] 22)).heap.size (some ⟨w.heap.size, 0, none⟩) [⟨A, c, a⟩, ⟨A', c', b⟩] := ⟨by
    have := cs_blk (cs := [.slice A n c, .slice A' m c']) (BlkIs.new w 22 #[.slice A n c, .slice A' m c'])
    unfold E.val
    simpa [hnl, hml] using this, fun e he => by
    rcases List.mem_cons.1 he with rfl | he
    · exact ⟨(h1.below hb).more hb.size, h2, h3⟩
    · rw [List.mem_singleton.1 he]
      exact ⟨(k1.below hb).more hb.size, k2, k3⟩⟩
  have hm := merge_any (n := 2) (c := 2) rfl hL (Nat.le_refl _) (by simp [left]; omega) (by omega)
  have hle : left [(⟨A, c, a⟩ : E), ⟨A', c', b⟩] = a ++ b := by simp [left]
  rw [hle] at hm
  have HM := Lib.hid hm
  have HB := Lib.hid hb
  have HF := Lib.hid (setOf_facts (a ++ b))
  simp only [List.mem_append, List.length_append] at HF
  rw [hnl, hml]
  rw [hnl, hml] at HF
  clear hm hL hb hle h1 h2 h3 k1 k2 k3 hnl hml hn
  unfold ResP at HM
  unfold ResQ
  generalize setOf (a ++ b) = s at *
  go_enter Try.func18, Try.ntmps18
  go_wp2_with fail
  generalize w.alloc (.cells #[.slice A n c, .slice A' m c'] 22) = w1 at *
  refine HM.out.mono ?_
  rintro e w2 ⟨v2, rfl, ho2, hb2⟩
  have HR := Lib.hid (And.intro ho2 hb2)
  clear ho2 hb2 HM
  dsimp only
  go_wp2_with fail
  go_ret
  exact ⟨v2, s, rfl, HR.out.1.more HB.out.size, HB.out.trans (HR.out.2.mono HB.out.size), HF.out.1, HF.out.2.1, HF.out.2.2⟩
set_option maxHeartbeats 1600000 in
theorem and_any {w : World} {v1 v2 : Value} {a b : List Int} (h : Ar w v1 a) (h' : Ar w v2 b) (hna : a.length ≤ 20000) (hnb : b.length ≤ 20000) : Calls Try.prog 15 #[v1, v2] w (ResQ w (fun x => x ∈ a ∧ x ∈ b) (a.length + b.length)) := by
  have HC1 := Lib.hid (of_any h hna)
  have HA2 := Lib.hid h'
  unfold ResQ at HC1
  unfold ResQ
  clear h h'
  go_enter Try.func15, Try.ntmps15
  go_wp2_with fail
  refine HC1.out.mono ?_
  rintro e w1 ⟨u1, r1, rfl, ho1, hb1, hu1, hm1, hl1⟩
  have HC2 := Lib.hid (of_any (HA2.out.below hb1) hnb)
  unfold ResQ at HC2
  have HR1 := Lib.hid (And.intro ho1 (And.intro hb1 (And.intro hu1 hm1)))
  clear HC1 ho1 hb1 hu1 hm1
  dsimp only
  go_wp2_with fail
  refine HC2.out.mono ?_
  rintro e w2 ⟨u2, r2, rfl, ho2, hb2, hu2, hm2, hl2⟩
  obtain ⟨A, c, rfl, h1, h2, h3⟩ := (HR1.out.1.below hb2).ar
  obtain ⟨A', c', rfl, k1, k2, k3⟩ := ho2.ar
  have HR2 := Lib.hid (And.intro ho2 (And.intro hb2 (And.intro hu2 hm2)))
  obtain ⟨n, hnl⟩ : ∃ n, r1.length = n := ⟨_, rfl⟩
  obtain ⟨m, hml⟩ : ∃ n, r2.length = n := ⟨_, rfl⟩
  have hb : Below w2.heap.size w2 (w2.alloc (.cells #[.slice A n c, .slice A' m c'] 22)) := (Below.refl _ w2).alloc (Nat.le_refl _) _
  have hL : Lists (w2.alloc (.cells #[.slice A n c, .slice A' m c'] 22)) (w2.alloc (.cells #[.slice A n c, .slice A' m c'] 22)).heap.size (some ⟨w2.heap.size, 0, none⟩) [⟨A, c, r1⟩, ⟨A', c', r2⟩] := ⟨by
    have := cs_blk (cs := [.slice A n c, .slice A' m c']) (BlkIs.new w2 22 #[.slice A n c, .slice A' m c'])
    unfold E.val
    simpa [hnl, hml] using this, fun e he => by
    rcases List.mem_cons.1 he with rfl | he
    · exact ⟨(h1.below hb).more hb.size, h2, h3⟩
    · rw [List.mem_singleton.1 he]
      exact ⟨(k1.below hb).more hb.size, k2, k3⟩⟩
  have hm := those_any (n := 2) (c := 2) 2 rfl hL (Nat.le_refl _) (by simp [left]; omega) (by omega)
  have hle : left [(⟨A, c, r1⟩ : E), ⟨A', c', r2⟩] = r1 ++ r2 := by simp [left]
  rw [hle] at hm
  have hf := often_facts (r1 ++ r2) 2 (by omega)
  have HF : Hid ((∀ x, x ∈ ((grp (srt (r1 ++ r2))).filter fun x => decide ((x.2 : Int) = 2)).map Prod.fst ↔ x ∈ a ∧ x ∈ b) ∧ Up (((grp (srt (r1 ++ r2))).filter fun x => decide ((x.2 : Int) = 2)).map Prod.fst) ∧ (((grp (srt (r1 ++ r2))).filter fun x => decide ((x.2 : Int) = 2)).map Prod.fst).length ≤ a.length + b.length) := Lib.hid ⟨fun x => by
    have := hf.2.1 x
    rw [show ((2 : Nat) : Int) = 2 from rfl] at this
    rw [this, List.count_append, count_up HR1.out.2.2.1, count_up HR2.out.2.2.1, ← HR1.out.2.2.2 x, ← HR2.out.2.2.2 x]
    by_cases e1 : x ∈ r1 <;> by_cases e2 : x ∈ r2 <;> simp [e1, e2], hf.1, Nat.le_trans hf.2.2 (by rw [List.length_append]; omega)⟩
  have HM := Lib.hid hm
  have HB := Lib.hid hb
  rw [hnl, hml]
  clear hm hL hb hle h1 h2 h3 k1 k2 k3 hnl hml hf hl1 hl2 ho2 hb2 hu2 hm2 HC2
  unfold ResP at HM
  generalize ((grp (srt (r1 ++ r2))).filter fun x => decide ((x.2 : Int) = 2)).map Prod.fst = s at *
  dsimp only
  go_wp2_with fail
  generalize w2.alloc (.cells #[.slice A n c, .slice A' m c'] 22) = w3 at *
  refine HM.out.mono ?_
  rintro e w4 ⟨v4, rfl, ho4, hb4⟩
  have HR := Lib.hid (And.intro ho4 hb4)
  clear ho4 hb4 HM
  dsimp only
  go_wp2_with fail
  go_ret
  have hbb : Below w.heap.size w w3 := HR1.out.2.1.trans ((HR2.out.2.1.mono HR1.out.2.1.size).trans (HB.out.mono (Nat.le_trans HR1.out.2.1.size HR2.out.2.1.size)))
  exact ⟨v4, s, rfl, HR.out.1.more hbb.size, hbb.trans (HR.out.2.mono hbb.size), HF.out.2.1, HF.out.1, HF.out.2.2⟩
set_option maxHeartbeats 1600000 in
theorem less_two {w : World} {v1 v2 : Value} {a b : List Int} (h : Ar w v1 a) (h' : Ar w v2 b) (hna : a.length ≤ 20000) (hnb : b.length ≤ 20000) : Calls Try.prog 17 #[v1, v2] w (ResQ w (fun x => x ∈ a ∧ ¬ x ∈ b) (a.length + (b.length + b.length))) := by
  have HC1 := Lib.hid (of_any h hna)
  have HA2 := Lib.hid h'
  unfold ResQ at HC1
  unfold ResQ
  clear h h'
  go_enter Try.func17, Try.ntmps17
  go_wp2_with fail
  refine HC1.out.mono ?_
  rintro e w2 ⟨u1, r1, rfl, ho1, hb1, hu1, hm1, hl1⟩
  obtain ⟨A, c, rfl, h1, h2, h3⟩ := ho1.ar
  obtain ⟨A', c', rfl, k1, k2, k3⟩ := HA2.out.below hb1
  have HR1 := Lib.hid (And.intro ho1 (And.intro hb1 (And.intro hu1 hm1)))
  obtain ⟨n, hnl⟩ : ∃ n, r1.length = n := ⟨_, rfl⟩
  obtain ⟨m, hml⟩ : ∃ n, b.length = n := ⟨_, rfl⟩
  have hb : Below w2.heap.size w2 (w2.alloc (.cells #[.slice A n c, .slice A' m c', .slice A' m c'] 22)) := (Below.refl _ w2).alloc (Nat.le_refl _) _
  have hL : Lists (w2.alloc (.cells #[.slice A n c, .slice A' m c', .slice A' m c'] 22)) (w2.alloc (.cells #[.slice A n c, .slice A' m c', .slice A' m c'] 22)).heap.size (some ⟨w2.heap.size, 0, none⟩) [⟨A, c, r1⟩, ⟨A', c', b⟩, ⟨A', c', b⟩] := ⟨by
    have := cs_blk (cs := [.slice A n c, .slice A' m c', .slice A' m c']) (BlkIs.new w2 22 #[.slice A n c, .slice A' m c', .slice A' m c'])
    unfold E.val
    simpa [hnl, hml] using this, fun e he => by
    rcases List.mem_cons.1 he with rfl | he
    · exact ⟨(h1.below hb).more hb.size, h2, h3⟩
    · have he2 : e = ⟨A', c', b⟩ := by
        rcases List.mem_cons.1 he with he | he
        · exact he
        · exact List.mem_singleton.1 he
      rw [he2]
      exact ⟨(k1.below hb).more hb.size, k2, k3⟩⟩
  have hm := those_any (n := 3) (c := 3) 1 rfl hL (Nat.le_refl _) (by simp [left]; omega) (by omega)
  have hle : left [(⟨A, c, r1⟩ : E), ⟨A', c', b⟩, ⟨A', c', b⟩] = r1 ++ (b ++ b) := by simp [left]
  rw [hle] at hm
  have hf := often_facts (r1 ++ (b ++ b)) 1 (by omega)
  have HF : Hid ((∀ x, x ∈ ((grp (srt (r1 ++ (b ++ b)))).filter fun x => decide ((x.2 : Int) = 1)).map Prod.fst ↔ x ∈ a ∧ ¬ x ∈ b) ∧ Up (((grp (srt (r1 ++ (b ++ b)))).filter fun x => decide ((x.2 : Int) = 1)).map Prod.fst) ∧ (((grp (srt (r1 ++ (b ++ b)))).filter fun x => decide ((x.2 : Int) = 1)).map Prod.fst).length ≤ a.length + (b.length + b.length)) := Lib.hid ⟨fun x => by
    have := hf.2.1 x
    rw [show ((1 : Nat) : Int) = 1 from rfl] at this
    rw [this, List.count_append, List.count_append, count_up HR1.out.2.2.1, ← HR1.out.2.2.2 x]
    have h9 : 0 < b.count x ↔ x ∈ b := List.count_pos_iff
    by_cases e1 : x ∈ r1
    · rw [if_pos e1, ← h9]
      constructor
      · intro h; exact ⟨e1, by omega⟩
      · rintro ⟨_, h⟩; omega
    · rw [if_neg e1]
      constructor
      · intro h; omega
      · rintro ⟨h, _⟩; exact absurd h e1, hf.1, Nat.le_trans hf.2.2 (by rw [List.length_append, List.length_append]; omega)⟩
  have HM := Lib.hid hm
  have HB := Lib.hid hb
  have HBL : Hid (a.length + (b.length + b.length) = a.length + (m + m)) := Lib.hid (by rw [hml])
  rw [hnl, hml]
  clear hm hL hb hle h1 h2 h3 k1 k2 k3 hnl hml hf hl1 ho1 hb1 hu1 hm1 HC1
  unfold ResP at HM
  generalize ((grp (srt (r1 ++ (b ++ b)))).filter fun x => decide ((x.2 : Int) = 1)).map Prod.fst = s at *
  dsimp only
  go_wp2_with fail
  generalize w2.alloc (.cells #[.slice A n c, .slice A' m c', .slice A' m c'] 22) = w3 at *
  refine HM.out.mono ?_
  rintro e w4 ⟨v4, rfl, ho4, hb4⟩
  have HR := Lib.hid (And.intro ho4 hb4)
  clear ho4 hb4 HM
  dsimp only
  go_wp2_with fail
  go_ret
  have hbb : Below w.heap.size w w3 := HR1.out.2.1.trans (HB.out.mono HR1.out.2.1.size)
  exact ⟨v4, s, rfl, HR.out.1.more hbb.size, hbb.trans (HR.out.2.mono hbb.size), HF.out.2.1, HF.out.1, HF.out.2.2⟩
end Ps
end Go.Proofs.Ytkpolakdamiiiaa
