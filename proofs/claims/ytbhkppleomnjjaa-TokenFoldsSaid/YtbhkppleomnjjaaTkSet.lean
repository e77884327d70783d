/- token.Set: a map of words, sorted. Conditions: as stated at each. -/
import Derived.Test.YtbhkppleomnjjaaTkWords
import Derived.Test.YtbhkppleomnjjaaTkIter
import Derived.Test.YtbhkppleomnjjaaFlHeld
import Derived.Test.YtbhkppleomnjjaaDkMem
import Derived.Sort.KeysCollected
namespace Go.Proofs.Ytbhkppleomnjjaa
set_option maxRecDepth 100000
namespace Tk
open Go.RowKit Go.Shelf Go Go.Proofs.Ytbhkppleomnjjaa.Pa Go.Maps Go.Sort
attribute [local go_sem] Oper.semAt_some
/-- the map in block g has these texts as keys. -/
def MapT (w : World) (g n : Nat) (S : List L) : Prop := ∃ D, Held w Try.prog 9 g n D ∧ ∀ s : L, has D (.string s) = true ↔ s ∈ S
theorem kOf_str (s : L) : kOf (str s) = .string s := by simp [kOf, str]
section
variable {w w' : World} {g n : Nat} {S : List L}
theorem MapT.lt (h : MapT w g n S) : g < w.heap.size := by
  obtain ⟨D, h, _⟩ := h
  exact Held.lt h
theorem MapT.same (h : MapT w g n S) (hb : w'.heap[g]? = w.heap[g]?) : MapT w' g n S := by
  obtain ⟨D, h, h'⟩ := h
  exact ⟨D, h.same hb, h'⟩
theorem MapT.put (h : MapT w g n S) (s : L) (hs : s.length ≤ 1000000) (hn : n ≤ 1000000000) : ∃ w', (Instr.mapUpdate 38 (.map (some g)) (.string (str s)) (.agg #[])).run Try.prog w = .ok () w' ∧ MapT w' g (n + 1) (S ++ [s]) ∧ w.grownBy w' (some g) := by
  obtain ⟨D, h, h'⟩ := h
  obtain ⟨w', hrun, h1, h2⟩ := held_put h (t := 38) (e := 39) (s := str s) Try.underlying9 Try.underlying38 (by rw [str_size]; unfold maxLen; omega) (by unfold maxLen; omega) (.agg #[])
  refine ⟨w', hrun, ⟨_, h1, fun x => ?_⟩, h2⟩
  have hk : WideAt.IsKeyLit (kOf (str s)) := isKey_kOf (str s)
  by_cases e : x = s
  · subst e
    rw [kOf_str] at hk ⊢
    rw [has_put_same h.isMap hk]
    simp
  · rw [kOf_str]
    rw [has_put_other (fun h => e (by injection h)), h' x]
    simp [e]
theorem MapT.new (w : World) : MapT (w.alloc (.map #[] 0)) w.heap.size 0 [] :=
  ⟨_, World.ownsMap_made w Try.prog 9 rh, fun s => by simp [Maps.has]⟩
/-- its keys, sorted. -/
theorem MapT.sorted (h : MapT w g n S) : ∃ D, w.ownsMap Try.prog 9 rh g n D ∧ (Maps.size D ≤ S.length) ∧ ∀ ss : List L, ss.Perm (strKeys D) → ss.mergeSort (fun x y => decide (x ≤ y)) = sortS S := by
  obtain ⟨D, h, h'⟩ := h
  have hK := string_keyed Try.underlying9 (P := Try.prog)
  obtain ⟨es, hD, hpw, _⟩ := World.ownsMap.entries h hK
  obtain ⟨es', hD', hko⟩ := World.ownsMap.keysOf h
  obtain rfl : es = es' := by rw [hD] at hD'; simpa using hD'
  have hp : (sortS S).Perm (strKeys D) := by
    subst hD
    exact perm_strKeys hpw (fun p hp => by obtain ⟨v, hv⟩ := hko p hp; obtain ⟨x, _, hx, _⟩ := Maps.keyOf_str Try.underlying9 hv; exact ⟨x, hx⟩) (rise_nodup (sort_rise S)) (fun x => by rw [sort_mem, h' x])
  refine ⟨D, h, ?_, fun ss hs => ?_⟩
  · have h1 := hp.length_eq
    have h2 := sort_len S
    have h3 : (strKeys D).length = Maps.size D := by rw [hD]; simp [strKeys, Maps.size]
    omega
  · exact (mergeSort_of_perm (hs.trans hp.symm)).trans (rise_sorted (sort_rise S))
end
theorem tv_enc (ss : List L) : ss.map encStr = tv ss := rfl
/-- the box at b holds the map in block g, whose keys are these texts. -/
structure MpI (w w3 : World) (p : Nat → Prop) (b g M n : Nat) (t : List L) (X : World) : Prop where
  box : Boxed X b 38 (.map (some g))
  map : MapT X g n t
  bel : Below g w X
  sm : Sm p w3 X
  sz : M ≤ X.heap.size
section
variable {w w3 : World} {p : Nat → Prop} {b g M n : Nat} {t : List L} {X Y : World}
theorem MpI.below (h : MpI w w3 p b g M n t X) (hbM : b < M) (hgM : g < M) (hb : Below X.heap.size X Y) : MpI w w3 p b g M n t Y := by
  have hs := h.sz
  exact ⟨(hb.block _ (by omega)).trans h.box, h.map.same (hb.block _ (by omega)), h.bel.trans (hb.mono (by omega)), h.sm.trans (Sm.of_below hb), Nat.le_trans hs hb.size⟩
theorem MpI.drew (h : MpI w w3 p b g M n t X) : MpI w w3 p b g M n t X.drew := ⟨h.box, h.map.same rfl, h.bel.drew, h.sm, h.sz⟩
theorem MpI.put (h : MpI w w3 p b g M n t X) (hbg : b ≠ g) (hgw : g = w.heap.size) (hp : ∀ k, p k → k ≠ g) {t' : List L} {n' : Nat} (hm : MapT Y g n' t') (hg : X.grownBy Y (some g)) : MpI w w3 p b g M n' t' Y ∧ Sm p X Y := by
  have hs : Sm p X Y := ⟨hg.size, fun k hk hl => hg.block k hl fun e => hp k hk (Option.some.inj e)⟩
  exact ⟨⟨h.box.kept hg fun e => hbg (Option.some.inj e), hm, h.bel.grown hg (by have := h.map.lt; omega) (fun k e => by have := Option.some.inj e; omega), h.sm.trans hs, Nat.le_trans h.sz hg.size⟩, hs⟩
theorem MpI.row (h : MpI w w3 p b g M n t X) (hbM : b < M) (hgM : g < M) (hp : ∀ k, p k → k < M) {row : Option Nat} (hg : X.grownBy Y row) (hr : ∀ r, row = some r → M ≤ r) : MpI w w3 p b g M n t Y := by
  have hs := h.sz
  exact ⟨h.box.kept hg fun e => (by have := hr b e.symm; omega), h.map.same (hg.block g (by omega) fun e => by have := hr g e.symm; omega), h.bel.grown hg (by omega) (fun k e => by have := hr k e; omega), h.sm.trans ⟨hg.size, fun k hk hl => hg.block k hl fun e => by have := hr k e.symm; have := hp k hk; omega⟩, Nat.le_trans hs hg.size⟩
end
/-- between two rounds. -/
def MpJ (w w3 : World) (p : Nat → Prop) (b g M N : Nat) (pre : List (RunAt p w3 N)) (X : World) : Prop := MpI w w3 p b g M pre.length ((pre.map byR).map wordS) X
theorem mpJ_own {w w3 : World} {p : Nat → Prop} {b g M N : Nat} (hbM : b < M) (hgM : g < M) (hp : ∀ k, p k → k < M) : OwnFrom M (MpJ w w3 p b g M N) := fun _ _ _ _ h hg hr => MpI.row h hbM hgM hp hg (fun r e => (hr r e).1)
theorem bu39 : ∀ w, (Instr.build 39 #[]).run Try.prog w = .ok (.agg #[]) w := fun w => by kernel_rfl
set_option maxHeartbeats 1600000 in
theorem set_in {w : World} {A : Option Addr} {l : L} (h : Bts w w.heap.size A l) (c : Nat) (hc : l.length ≤ c) (hm : c ≤ maxLen) (hl : l.length ≤ 30000) :
    CallsIn Fence.wide 9 Try.prog 12 #[.slice A l.length c] w (OutT w (sortS (wordsS l))) := by
  refine callsIn_of_wp_marks Try.func12 rfl trivial ?_ rfl
  have hbu := bu39
  have hmm := @run_makeMap Try.prog
  have HLT : Hid (∀ ad, A = some ad → l ≠ [] → ad.block < w.heap.size) := Lib.hid fun ad e hne => by
    obtain ⟨ad', e', hlt, _⟩ := h.at_ (List.length_pos_iff.2 hne)
    rw [e] at e'
    injection e' with e'
    rw [e']
    exact hlt
  have HB := Lib.hid h
  have HMP := Lib.hid (MapT.new w)
  simp only [Try.ntmps12, List.size_toArray, List.length_cons, List.length_nil, Nat.reduceAdd, Nat.reduceSub, Array.replicate_succ, Array.replicate_zero, List.push_toArray, List.append_toArray, List.nil_append, List.cons_append]
  clear h
  gi_wp2_with fail
  generalize hw1 : (w.alloc (.map #[] 0)).alloc (.cells #[.map (some w.heap.size)] 38) = w1 at *
  have hz0 : (w.alloc (.map #[] 0)).heap.size = w.heap.size + 1 := by simp
  have hb0 : Below w.heap.size w (w.alloc (.map #[] 0)) := belowA _ _
  have hb01 : Below (w.heap.size + 1) (w.alloc (.map #[] 0)) w1 := by rw [← hw1]; exact (Below.refl _ _).alloc (by omega) _
  have hz1 : w1.heap.size = w.heap.size + 2 := by rw [← hw1]; simp
  have hmp1 : MapT w1 w.heap.size 0 [] := HMP.out.same (hb01.block _ (by omega))
  have hbx1 : Boxed w1 (w.heap.size + 1) 38 (.map (some w.heap.size)) := by
    have := Boxed.new (w.alloc (.map #[] 0)) 38 (.map (some w.heap.size))
    rw [hw1, hz0] at this
    exact this
  have hbw1 : Below w.heap.size w w1 := hb0.trans (hb01.mono (by omega))
  clear hw1 hb0 hb01 hz0 HMP
  refine ⟨trivial, ?_⟩
  refine (callsIn_wide.2 (runs_fn _ _ _ _)).mono ?_
  rintro e w3 ⟨rfl, hw3⟩
  have hV3 : w3.heap[w1.heap.size]? = some (.cells #[.slice A l.length c] 22 (0, 0)) := by rw [hw3]; exact World.alloc_heap_new w1 _
  have hz3 : w3.heap.size = w1.heap.size + 1 := by rw [hw3]; simp
  have hb3 : Below w1.heap.size w1 w3 := by rw [hw3]; exact (Below.refl _ w1).alloc (Nat.le_refl _) _
  have hBw : Below w.heap.size w w3 := hbw1.trans (hb3.mono (by omega))
  have hbt3 : Bts w3 w.heap.size A l := HB.out.below hBw
  obtain ⟨p, hp⟩ : ∃ p : Nat → Prop, p = fun k => k < w3.heap.size ∧ k ≠ w.heap.size := ⟨_, rfl⟩
  have hpp : ∀ k, p k → k < w3.heap.size ∧ k ≠ w.heap.size := fun k hk => by rw [hp] at hk; exact hk
  have h0 : MpI w w3 p (w.heap.size + 1) w.heap.size w3.heap.size 0 [] w3 := ⟨(hb3.block _ (by omega)).trans hbx1, hmp1.same (hb3.block _ (by omega)), hBw, Sm.refl _ _, Nat.le_refl _⟩
  have hstops := runs_stops p 8 (by omega) w3 (w.heap.size + 2) w.heap.size c A l (by rw [← hz1]; exact hV3) hbt3
    (by rw [hp]; exact ⟨by omega, by omega⟩)
    (fun ad e hne => by
      rw [hp]
      have := HLT.out ad e hne
      exact ⟨by omega, by omega⟩) hc hm hl
  have HPP := Lib.hid hpp
  have H0 := Lib.hid h0
  have HSTP := Lib.hid hstops
  clear h0 hstops hbt3 hV3 hb3 hBw hw3 hp hpp hmp1 hbx1 hbw1 HB
  gi_wp2_with fail
  refine wpIn_rangeFunc_ownG rfl (by omega) (gf := 23) (lb := #[.pointer (some ⟨w.heap.size + 2, 0, none⟩)]) rfl trivial (enters_of Try.func23 (by kernel_rfl) rfl)
    HSTP.out (fun h k => h.trans k) (fun W l o o' hl ho _ _ => ⟨by simp, fun k hk hl' => World.putObj_heap_other (by have := HPP.out k hk; omega)⟩) (Below.refl _ _) (fun _ => rfl)
    (MpJ w w3 p (w.heap.size + 1) w.heap.size w3.heap.size w.heap.size) (fun _ _ _ => False) (mpJ_own (by omega) (by omega) (fun k hk => (HPP.out k hk).1)) (fun _ _ _ _ _ h _ _ => h.elim) H0.out
    (fun x => { tmps := #[.slice A l.length c, undef, .slice none 0 0, .pointer (some ⟨w.heap.size + 1, 0, none⟩), .slice x.1.1 x.1.2.2.length x.1.2.1, .map (some w.heap.size), .slice A l.length c, .func (.func 23) #[] #[.pointer (some ⟨w.heap.size + 2, 0, none⟩)], .slice x.1.1 x.1.2.2.length x.1.2.1, undef, undef, undef, undef, undef, undef, undef], defers := [] }) ?assign ?body ?done ?stop
  case assign =>
    intro lp x X K' hK'
    dsimp only [encR]
    gi_wp2
    exact hK'
  case body =>
    rintro lp pre ⟨⟨Ax, cx, s⟩, hbx, hsc, hcm, hsl, hs0⟩ X hst hlen
    replace hst : MpI w w3 p (w.heap.size + 1) w.heap.size w3.heap.size pre.length ((pre.map byR).map wordS) X := hst
    dsimp only at hbx hsc hcm hsl hs0 ⊢
    obtain ⟨y, hy⟩ : ∃ y : RunAt p w3 w.heap.size, y = ⟨(Ax, cx, s), hbx, hsc, hcm, hsl, hs0⟩ := ⟨_, rfl⟩
    rw [← hy]
    have hyl : byR y = s := by rw [hy]; rfl
    clear hy
    have hbM : w.heap.size + 1 < w3.heap.size := by omega
    have HPR : Hid (((pre ++ [y]).map byR).map wordS = (pre.map byR).map wordS ++ [wordS s] ∧ (pre ++ [y]).length = pre.length + 1) := Lib.hid (by simp [hyl])
    have hpl : pre.length ≤ 40000 := by omega
    have hwl : (wordS s).length ≤ 1000000 := by unfold wordS; rw [List.length_map, List.length_take]; omega
    have HS := Lib.hid hst.drew
    have HWD := Lib.hid (word_any (hbx X.drew hst.drew.sm) cx hsc hs0 (by omega))
    have y1 := hst.drew.box.cell
    have HK0 := Lib.hid (KeepsOthers.drew X)
    have HM0 : Hid (Sm p X X.drew) := Lib.hid ⟨Nat.le_refl _, fun _ _ _ => rfl⟩
    clear hst hbx hyl hlen
    generalize (pre.map byR).map wordS = t at *
    generalize pre.length = pn at *
    generalize s.length = sn at *
    generalize hwd : wordS s = wd at *
    clear hwd
    gi_wp2_with fail
    refine regionIn_held_drew (S := (fun Y => Y.cell? ⟨w.heap.size + 1, 0, none⟩ = some (.map (some w.heap.size)))) (Wide.round _ _ _) (by kernel_rfl) (by kernel_rfl) (y1) (fun hHeld => ?_)
    generalize X.drew = X1 at *
    refine wpAnyH_take (i := 0) (v := .map (some w.heap.size)) rfl (by kernel_rfl) (by kernel_rfl) (by kernel_rfl) (fun _ _ _ h => h) (Or.inl ⟨by rfl, fun w hS => by first | (go_simp; done) | (go_simp; with_reducible rfl)⟩) hHeld ?_
    try simp only [Act.put, List.getElem_toArray, List.getElem_cons_zero, List.setIfInBounds_toArray, List.set_cons_zero, List.set_cons_succ]
    refine wpAnyH_take (i := 1) (v := .slice Ax sn cx) rfl (by kernel_rfl) (by kernel_rfl) (by kernel_rfl) (fun _ _ _ h => h) (Or.inl ⟨by rfl, fun w hS => by first | (go_simp; done) | (go_simp; with_reducible rfl)⟩) hHeld ?_
    try simp only [Act.put, List.getElem_toArray, List.getElem_cons_zero, List.getElem_cons_succ, List.setIfInBounds_toArray, List.set_cons_zero, List.set_cons_succ]
    refine wpAnyH_take (i := 3) (v := .agg #[]) rfl (by kernel_rfl) (by kernel_rfl) (by kernel_rfl) (fun _ _ _ h => h) (Or.inl ⟨by rfl, fun w hS => by first | (go_simp; done) | (go_simp; with_reducible rfl)⟩) hHeld ?_
    try simp only [Act.put, List.getElem_toArray, List.getElem_cons_zero, List.getElem_cons_succ, List.setIfInBounds_toArray, List.set_cons_zero, List.set_cons_succ]
    refine wpAnyH_ready (rs := [2]) (by kernel_rfl) (by simp) ?_
    refine AllReadyH.cons rfl (fun K hK => ?_) AllReadyH.nil
    go_simp
    go_wp2_with (first | (refine HWD.out.mono ?_; rintro e X2 ⟨rfl, hb2⟩) | fail)
    have hst2 := HS.out.below hbM (by omega) hb2
    have HS2 := Lib.hid hst2
    have HK2 := Lib.hid (HK0.out.trans (keeps_below hb2))
    have HM2 := Lib.hid (HM0.out.trans (Sm.of_below hb2))
    refine hK.out _ _ ?_ (fun hHeld => ?_)
    · exact HS2.out.box.cell
    clear hK K hst2 hb2 HWD HS HK0 HM0
    try simp only [Act.put, List.getElem_toArray, List.getElem_cons_zero, List.getElem_cons_succ, List.setIfInBounds_toArray, List.set_cons_zero, List.set_cons_succ]
    obtain ⟨X4, hrun, hm4, hg4⟩ := HS2.out.map.put wd hwl (by omega)
    obtain ⟨st4, sm4⟩ := HS2.out.put (by omega) rfl (fun k hk => (HPP.out k hk).2) hm4 hg4
    have ST4 := Lib.hid st4
    have SM4 := Lib.hid sm4
    have KO4 : Hid (KeepsFrom w3.heap.size X2 X4) := Lib.hid (KeepsFrom.of_grownBy hg4 (fun j e => by have := Option.some.inj e; omega))
    have x4 := st4.box.cell
    clear hm4 hg4 st4 sm4
    refine wpAnyH_ready (rs := [4]) (by kernel_rfl) (by simp) ?_
    refine AllReadyH.cons rfl (fun K hK => ?_) AllReadyH.nil
    go_simp
    refine hK.out _ _ ?_ (fun hHeld => ?_)
    · exact x4
    clear hK K
    try simp only [Act.put, List.getElem_toArray, List.getElem_cons_zero, List.getElem_cons_succ, List.setIfInBounds_toArray, List.set_cons_zero, List.set_cons_succ]
    refine wpAnyH_done (by kernel_rfl) (NormalAt.mk ?_) _
    refine ⟨(HK2.out.from _).trans KO4.out, HM2.out.trans SM4.out, ?_⟩
    unfold MpJ
    rw [HPR.out.1, HPR.out.2]
    exact ST4.out
  case done =>
    rintro D xs X hD hS hst hKd
    replace hst : MpI w w3 p (w.heap.size + 1) w.heap.size w3.heap.size xs.length ((xs.map byR).map wordS) X := hst
    rw [hS] at hst
    obtain ⟨D0, hown, hsz, hperm⟩ := hst.map.sorted
    have HPE : Hid (∀ ss : List L, ss.Perm (strKeys D0) → ss.mergeSort (fun x y => decide (x ≤ y)) = sortS (wordsS l)) := Lib.hid hperm
    have hwl : ((runsG [] l).map wordS).length ≤ 30000 := Nat.le_trans (words_len l) hl
    have bx := hst.box.cell
    have hDX : D < X.heap.size := (Array.getElem?_eq_some_iff.1 hKd).1
    have HS := Lib.hid (Try.slices_Sorted_keys_20_21 w.heap.size xs.length D0 rh X hown (by unfold maxLen; omega) (by omega))
    have HKK := Lib.hid (Try.maps_Keys_21 (some w.heap.size) X)
    have hHS : w3.heap.size ≤ D := hD
    have HBX := Lib.hid hst.bel
    have hX3 := hst.sz
    have HKD := Lib.hid hKd
    clear hst hperm hown hsz hwl hS hKd
    gi_wp2_with fail
    refine ⟨trivial, ?_⟩
    refine (callsIn_wide.2 (callsIn_wide.1 HKK.out)).mono ?_
    rintro e _ ⟨rfl, rfl⟩
    gi_wp2_with fail
    refine ⟨trivial, ?_⟩
    refine (callsIn_wide.2 (callsIn_wide.1 HS.out)).mono ?_
    rintro e X5 ⟨v, ss, rfl, hp5, hrow5, _, hb5⟩
    have e1 := HPE.out ss hp5
    have e2 : ss.length = (sortS (wordsS l)).length := by rw [← e1, List.length_mergeSort]
    rw [e1, e2] at hrow5
    have hz2 : (X.alloc (.cells #[.map (some w.heap.size)] 38)).heap.size = X.heap.size + 1 := by simp
    rw [hz2] at hrow5 hb5
    have hb6 : Below X.heap.size X X5 := (belowA X _).trans (hb5.mono (by omega))
    have hD5 : X5.heap[D]? = some (.deferred (some [])) := (hb6.block D hDX).trans HKD.out
    have hg := grownBy_putObj' X5 D (.deferred none)
    have HF : Hid (OwnT (X5.putObj D (.deferred none)) w.heap.size v (sortS (wordsS l)) ∧ Below w.heap.size w (X5.putObj D (.deferred none))) := Lib.hid ⟨own_more (ownsRow_putObj hrow5 (.deferred none) hD5 rfl) (by omega), (HBX.out.trans (hb6.mono (by omega))).grown hg (by have := hb6.size; omega) (fun k e => by injection e with e; omega)⟩
    clear e1 e2 hrow5 hb5 hp5 hb6 hg hz2 HS HKK HPE bx
    gi_wp2
    refine ⟨by simp, .inl ⟨_, _, rfl, run_takeDeferred hD5, ?_⟩⟩
    generalize X5.putObj D (.deferred none) = Z at *
    exact ⟨v, by simp [results, Try.results12, go_sem], v, rfl, HF.out.1, HF.out.2⟩
  case stop =>
    rintro _ _ _ _ _ _ h _
    exact h.elim
theorem set_any {w : World} {A : Option Addr} {l : L} (h : Bts w w.heap.size A l) (c : Nat) (hc : l.length ≤ c) (hm : c ≤ maxLen) (hl : l.length ≤ 30000) :
    Calls Try.prog 12 #[.slice A l.length c] w (OutT w (sortS (wordsS l))) := callsIn_wide.1 (set_in h c hc hm hl)
end Tk
end Go.Proofs.Ytbhkppleomnjjaa
