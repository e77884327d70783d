/- What the document's Parse has read so far; a letter more in a row of letters. Conditions: as stated at each. -/
import Derived.Test.YtamekflgidfnfaaGreatDoorMbRFst
import Derived.Test.YtamekflgidfnfaaGreatDoorMbLoop
namespace Go.Proofs.YtamekflgidfnfaaGreatDoor
set_option maxRecDepth 100000
namespace Mb
open Go.RowKit Go Go.Proofs.YtamekflgidfnfaaGreatDoor.Pa
structure RpI (b : L) (k : Nat) (out : List Lt) : Prop where
  le : k ≤ (lns b).length
  raw : rawS (lns b) = (rawS ((lns b).drop k)).map (out ++ ·)
  cnt : out.length ≤ k
  tot : (fileS out).length + 2 * ((lns b).drop k).flatten.length ≤ 2 * b.length
  sm : ∀ x ∈ out, small x
theorem RpI.init (b : L) : RpI b 0 [] := ⟨Nat.zero_le _, by rw [List.drop_zero]; cases rawS (lns b) <;> rfl, Nat.le_refl _, by rw [List.drop_zero, lns_flat]; simp [fileS], fun x hx => by simp at hx⟩
structure RpB (b : L) (k1 j : Nat) (body : L) : Prop where
  lo : k1 ≤ j
  hi : j ≤ (lns b).length
  bd : body = (((lns b).drop k1).take (j - k1)).flatten
  no : ∀ i, k1 ≤ i → i < j → mark ((lns b).getD i []) = false
theorem RpB.init (b : L) {k1 : Nat} (h : k1 ≤ (lns b).length) : RpB b k1 k1 [] := ⟨Nat.le_refl _, h, by simp, fun i h1 h2 => by omega⟩
theorem RpB.next {b body : L} {k1 j : Nat} (h : RpB b k1 j body) (hj : j < (lns b).length) (hm : mark ((lns b).getD j []) = false) : RpB b k1 (j + 1) (body ++ (lns b).getD j []) := by
  have hlo := h.lo
  refine ⟨by omega, hj, ?_, fun i h1 h2 => ?_⟩
  · rw [show j + 1 - k1 = (j - k1) + 1 by omega, List.take_succ_eq_append_getElem (by rw [List.length_drop]; omega), List.flatten_append, ← h.bd]
    congr 1
    have hx : (lns b).getD j [] = (lns b)[j] := by simp [List.getD, hj]
    rw [hx, List.getElem_drop]
    simp [show k1 + (j - k1) = j by omega]
  · rcases Nat.lt_or_ge i j with h3 | h3
    · exact h.no i h1 h3
    · obtain rfl : i = j := by omega
      exact hm
theorem while_at (p : L → Bool) : ∀ (t : List L) (m : Nat), m ≤ t.length → (∀ i, i < m → p (t.getD i []) = true) → (m = t.length ∨ p (t.getD m []) = false) → t.takeWhile p = t.take m ∧ t.dropWhile p = t.drop m
  | [], m, hm, _, _ => by
    have : m = 0 := by simpa using hm
    subst this
    simp
  | x :: t, 0, _, _, he => by
    rcases he with he | he
    · simp at he
    · have hx : p x = false := by simpa using he
      simp [hx]
  | x :: t, m + 1, hm, ha, he => by
    have hx : p x = true := by simpa using ha 0 (by omega)
    have := while_at p t m (by simpa using hm) (fun i hi => by simpa using ha (i + 1) (by omega)) (by
      rcases he with he | he
      · left; simpa using he
      · right; simpa using he)
    rw [List.takeWhile_cons, List.dropWhile_cons, if_pos hx, if_pos hx, this.1, this.2]
    exact ⟨rfl, rfl⟩
theorem RpB.stop {b body : L} {k1 j : Nat} (h : RpB b k1 j body) (he : j = (lns b).length ∨ mark ((lns b).getD j []) = true) : tkL ((lns b).drop k1) = ((lns b).drop k1).take (j - k1) ∧ dpL ((lns b).drop k1) = (lns b).drop j := by
  have hlo := h.lo
  have hhi := h.hi
  have hg : ∀ i, ((lns b).drop k1).getD i [] = (lns b).getD (k1 + i) [] := fun i => by simp [List.getD]
  obtain ⟨h1, h2⟩ := while_at (fun x => !mark x) ((lns b).drop k1) (j - k1) (by rw [List.length_drop]; omega) (fun i hi => by
    rw [hg, h.no (k1 + i) (by omega) (by omega)]
    rfl) (by
    rcases he with he | he
    · left; rw [List.length_drop]; omega
    · right; rw [hg, show k1 + (j - k1) = j by omega, he]; rfl)
  refine ⟨h1, ?_⟩
  show ((lns b).drop k1).dropWhile (fun x => !mark x) = _
  rw [h2, List.drop_drop, show k1 + (j - k1) = j by omega]
theorem drop_get {b : L} {k : Nat} (hk : k < (lns b).length) : (lns b).drop k = (lns b).getD k [] :: (lns b).drop (k + 1) := by
  rw [List.drop_eq_getElem_cons hk]
  simp [List.getD, hk]
theorem drop_flat_len (b : L) (k : Nat) : ((lns b).drop k).flatten.length ≤ b.length := by
  have := congrArg (fun l : List L => l.flatten.length) (List.take_append_drop k (lns b))
  simp only [List.flatten_append, List.length_append] at this
  rw [lns_flat] at this
  omega
theorem suf_pos {body : L} (h : Go.Lib.hasSuffix body [10] = true) : 0 < body.length := by
  obtain ⟨s, rfl⟩ := (suf_iff body).1 h
  simp
theorem suf_yes {body : L} (h : 0 < body.length) (h10 : body.getD (body.length - 1) 0 = 10) : Go.Lib.hasSuffix body [10] = true := by
  refine (suf_iff body).2 ⟨body.dropLast, ?_⟩
  have hne : body ≠ [] := fun e => by rw [e] at h; simp at h
  have hl : body.getLast hne = 10 := by
    rw [List.getLast_eq_getElem, ← h10]
    simp [List.getD, show body.length - 1 < body.length by omega]
  rw [← hl, List.dropLast_concat_getLast]
theorem suf_not {body : L} (h : body.length = 0 ∨ body.getD (body.length - 1) 0 ≠ 10) : Go.Lib.hasSuffix body [10] = false := by
  rw [Bool.eq_false_iff]
  intro hs
  rcases h with h | h
  · have := suf_pos hs; omega
  · obtain ⟨s, rfl⟩ := (suf_iff body).1 hs
    refine h ?_
    simp [List.getD]
theorem RpI.step {b body : L} {k j : Nat} {out : List Lt} {wo : L} {n : Nat} (h : RpI b k out) (hk : k < (lns b).length) (hb : RpB b (k + 1) j body) (he : j = (lns b).length ∨ mark ((lns b).getD j []) = true) (hf : firstS ((lns b).getD k []) = some (wo, n)) (hs : Go.Lib.hasSuffix body [10] = true) (hl : b.length ≤ 2000) :
    RpI b j (out ++ [(wo, (n : Int), unquoteS body.dropLast)]) := by
  obtain ⟨s1, s2⟩ := hb.stop he
  have hlo := hb.lo
  have hd := drop_get hk
  have hbd : (tkL ((lns b).drop (k + 1))).flatten = body := by rw [s1]; exact hb.bd.symm
  have hfl : ((lns b).drop (k + 1)).flatten = body ++ ((lns b).drop j).flatten := by
    have := List.takeWhile_append_dropWhile (p := fun x => !mark x) (l := (lns b).drop (k + 1))
    rw [← s2, ← hbd, ← List.flatten_append]
    unfold tkL dpL
    rw [this]
  obtain ⟨e1, e2, e3⟩ := exp_first hf (unquoteS body.dropLast)
  have hq := quote_len (unquoteS body.dropLast)
  have hu := unquote_len body.dropLast
  rw [List.length_dropLast] at hu
  have hp := suf_pos hs
  have ht := h.tot
  have hdl := drop_flat_len b k
  rw [hd, List.flatten_cons, hfl, List.length_append, List.length_append] at ht hdl
  refine ⟨hb.hi, ?_, by have := h.cnt; simp; omega, ?_, fun x hx => ?_⟩
  · rw [h.raw, hd, raw_cons, hf]
    simp only
    rw [hbd, if_pos hs, s2, Option.map_map]
    congr 1
    funext t
    simp
  · have hfs : fileS (out ++ [(wo, (n : Int), unquoteS body.dropLast)]) = fileS out ++ expS (wo, (n : Int), unquoteS body.dropLast) := by simp [fileS]
    rw [hfs, List.length_append, e1]
    omega
  · rcases List.mem_append.1 hx with hx | hx
    · exact h.sm x hx
    · rw [List.mem_singleton.1 hx]
      refine ⟨?_, ?_, ?_, ?_⟩ <;> simp only <;> omega
theorem RpI.bad1 {b : L} {k : Nat} {out : List Lt} (h : RpI b k out) (hk : k < (lns b).length) (hf : firstS ((lns b).getD k []) = none) : rawS (lns b) = none := by
  rw [h.raw, drop_get hk, raw_cons, hf]
  rfl
theorem RpI.bad2 {b body : L} {k j : Nat} {out : List Lt} {wo : L} {n : Nat} (h : RpI b k out) (hk : k < (lns b).length) (hb : RpB b (k + 1) j body) (he : j = (lns b).length ∨ mark ((lns b).getD j []) = true) (hf : firstS ((lns b).getD k []) = some (wo, n)) (hs : Go.Lib.hasSuffix body [10] = false) : rawS (lns b) = none := by
  have hbd : (tkL ((lns b).drop (k + 1))).flatten = body := by rw [(hb.stop he).1]; exact hb.bd.symm
  rw [h.raw, drop_get hk, raw_cons, hf]
  simp only
  rw [hbd, if_neg (by rw [hs]; decide)]
  rfl
theorem RpI.fin {b : L} {k : Nat} {out : List Lt} (h : RpI b k out) (hk : (lns b).length ≤ k) : rawS (lns b) = some out := by
  rw [h.raw, List.drop_eq_nil_of_le hk, raw_nil]
  simp
theorem RpB.len {b body : L} {k1 j : Nat} (h : RpB b k1 j body) : body.length ≤ b.length := by
  have h1 := drop_flat_len b k1
  have h2 := congrArg (fun l : List L => l.flatten.length) (List.take_append_drop (j - k1) ((lns b).drop k1))
  simp only [List.flatten_append, List.length_append] at h2
  rw [← h.bd] at h2
  omega
theorem par_none {b : L} (h : rawS (lns b) = none) : parseS b = none := by
  rw [ref_is b (fun out ho => by rw [h] at ho; cases ho), h]
theorem par_some {b : L} {out : List Lt} (h : rawS (lns b) = some out) (hv : ∀ x ∈ out, small x) : parseS b = if exportS out = some b then some out else none := by
  rw [ref_is b (fun o ho x hx => by
    rw [h] at ho
    injection ho with ho
    subst ho
    exact (hv x hx).2.2.2), h]
theorem Row.less {X Y : World} {M N : Nat} {lv : Value} {ls : List Lt} (h : Row X N lv ls) (hb : Below M X Y) (hM : X.heap.size ≤ M) : Row Y N lv ls :=
  h.keep (fun k cs fr hk => (hb.block k (by have := (Array.getElem?_eq_some_iff.1 hk).1; omega)).trans hk) (fun k hk => by
    obtain ⟨_, cs, fr, h2⟩ := h.low k hk
    exact hb.block k (by have := (Array.getElem?_eq_some_iff.1 h2).1; omega))
theorem Row.lt {X : World} {N : Nat} {lv : Value} {ls : List Lt} (h : Row X N lv ls) : ∀ k, lv.ownBlock = some k → k < X.heap.size := fun k hk => by
  obtain ⟨_, cs, fr, h2⟩ := h.low k hk
  exact (Array.getElem?_eq_some_iff.1 h2).1
theorem Row.set {X : World} {N g : Nat} {lv : Value} {ls : List Lt} {cs : Array Value} (h : Row X N lv ls) (hg : BlkIs X g 43 cs) (hne : ∀ k, lv.ownBlock = some k → k ≠ g) (i : Nat) (u : Value) : Row (X.setCell ⟨g, i, none⟩ u) N lv ls :=
  h.keep (KU.tn (p := fun k => k = g) ((Tn.refl (fun k => k = g) X).setCell (x := ⟨g, i, none⟩) (.inl rfl) u) (fun j hj => by
    subst hj
    exact blk_not hg (by decide))) (fun k hk => Below.heap_setCell X _ _ k (hne k hk))
theorem Row.down {X : World} {M N : Nat} {lv : Value} {ls : List Lt} (h : Row X N lv ls) (hM : M ≤ N) : Row X M lv ls := by
  obtain ⟨xs, k1, k2, k3⟩ := h
  exact ⟨xs, own_low3 k1 hM, k2, k3⟩
/-- one letter more in a row of letters. -/
theorem lappR {ops : Array Oper} {o : Oper} {rest : List Oper} {a : Act} {w : World} {Q : Exit → Act → World → Prop} (s y : Operand)
    (ho : o.op = .call { callee := .builtin .append, args := #[s, y], argTypes := #[24, 24] }) (hgd : o.guard = none)
    {N : Nat} {v : Value} {ls : List Lt} (x : Lt) (hs : a.eval s = v) (hrow : Row w N v ls) {g c : Nat} (hx : a.eval y = .slice (some ⟨g, 0, none⟩) 1 c) {sx : ByteArray} {vx : Int} {A3 : Option Addr} {n3 c3 : Nat}
    (hc0 : w.cell? ⟨g, 0, none⟩ = some (.string sx)) (hc1 : w.cell? ⟨g, 1, none⟩ = some (.int .i64 vx)) (hc2 : w.cell? ⟨g, 2, none⟩ = some (.slice A3 n3 c3))
    (hxx : sx = str x.1 ∧ vx = x.2.1 ∧ n3 = x.2.2.length) (h3 : x.2.2.length ≤ c3) (hm3 : c3 ≤ maxLen) (hA3 : A3 = none → c3 = 0) (hb : Bu w A3 x.2.2) (hl : ls.length + 1 ≤ 1000000000) (hN : N ≤ w.heap.size)
    (h : ∀ v' w', Row w' N v' (ls ++ [x]) → Below N w w' → wpList Tryz.prog ops Q rest (a.put o.dst v') w') : wpList Tryz.prog ops Q (o :: rest) a w := by
  refine wpList_plain hgd fun K hK => ?_
  obtain ⟨rfl, rfl, rfl⟩ := hxx
  obtain ⟨xs, k1, k2, k3⟩ := hrow
  obtain ⟨v', w', hrun, r2, r3, _⟩ := run_appT (P := Tryz.prog) (w := w) (ty := o.type) Tryz.underlying24 info38 (by rfl) (by decide) k1 (p := (.string (str x.1), .int .i64 x.2.1, .slice A3 x.2.2.length c3)) rfl rfl rfl (c := c) hc0 hc1 hc2 (by rw [k2]; exact hl) hN
  have hku : KU w w' := KU.grown r3 (fun i hi cs fr e => by
    obtain ⟨_, cs', fr', h2⟩ := own_type k1 hi
    rw [h2] at e
    injection e with e
    injection e with _ e
    exact absurd e (by decide))
  have hrow' : Row w' N v' (ls ++ [x]) := by
    refine ⟨xs ++ [(.string (str x.1), .int .i64 x.2.1, .slice A3 x.2.2.length c3)], r2, by simp [k2], fun k y hy => ?_⟩
    rcases Nat.lt_or_ge k ls.length with hkl | hkl
    · rw [List.getElem?_append_left hkl] at hy
      obtain ⟨A1, c1, g1, g2, g3, g4, g5⟩ := k3 k y hy
      exact ⟨A1, c1, by rw [List.getElem?_append_left (by rw [k2]; exact hkl)]; exact g1, g2, g3, g4, g5.keep hku⟩
    · have hk0 : k = ls.length := by
        have := (List.getElem?_eq_some_iff.1 hy).1
        simp at this
        omega
      subst hk0
      have hyx : y = x := by simpa using hy.symm
      subst hyx
      refine ⟨A3, c3, ?_, h3, hm3, hA3, hb.keep hku⟩
      rw [← k2]
      simp
  unfold Oper.wp execOp
  simp only [ho, resolve, invoke, builtin, Sem.run_bind, Sem.run_pure, Result.andThen_ok, List.map_toArray, List.map_cons, List.map_nil, hs, hx, hrun]
  exact hK _ _ (h v' w' hrow' ((Below.refl N w).grown r3 hN (fun k hk => (own_type k1 hk).1)))
end Mb
end Go.Proofs.YtamekflgidfnfaaGreatDoor
