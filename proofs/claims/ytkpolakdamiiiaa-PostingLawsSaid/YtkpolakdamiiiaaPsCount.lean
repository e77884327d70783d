/- Each number of some lists, rising, and how often they have it: the iterator. Conditions: as stated at each. -/
import Derived.Test.YtkpolakdamiiiaaPsRuns
namespace Go.Proofs.Ytkpolakdamiiiaa
set_option maxRecDepth 100000
namespace Ps
open Go.RowKit Go
attribute [local go_sem] Oper.semAt_some
theorem range_named {F : Fence} {n : Nat} {P : Program} {g : Operand} {ps : Array Tmp} {assign body : Code} {Q : Exit → Act → World → Prop} {T : Array Value} {ds : List Deferred} {w : World} (h : ∀ a : Act, a = { tmps := T, defers := ds } → (Code.rangeFunc g ps assign body).wpIn F n P Q a w) : (Code.rangeFunc g ps assign body).wpIn F n P Q { tmps := T, defers := ds } w := h _ rfl
/-- marks of the loops over iterators that have run. -/
def mks (ks : List Nat) : List Deferred := ks.map fun k => { target := .collected k, args := #[] }
structure Mk (b : Nat) (ks : List Nat) (w : World) : Prop where
  nd : ks.Nodup
  at_ : ∀ k ∈ ks, b ≤ k ∧ w.heap[k]? = some (.deferred (some []))
theorem Mk.tk {b : Nat} {ks : List Nat} {A B : World} {q : Nat → Obj → Prop} (h : Mk b ks A) (t : Tk q A B) (hq : ∀ k ∈ ks, ¬ q k (.deferred (some []))) : Mk b ks B :=
  ⟨h.nd, fun k hk => ⟨(h.at_ k hk).1, t.block k _ (h.at_ k hk).2 (hq k hk)⟩⟩
theorem Mk.lt {b : Nat} {ks : List Nat} {A : World} (h : Mk b ks A) : ∀ k ∈ ks, k < A.heap.size := fun k hk => (Array.getElem?_eq_some_iff.1 (h.at_ k hk).2).1
theorem Mk.more {b : Nat} {ks : List Nat} {A : World} {d : Nat} (h : Mk b ks A) (hd : A.heap[d]? = some (.deferred (some []))) (hb : b ≤ d) (hn : ∀ k ∈ ks, k < d) : Mk b (d :: ks) A :=
  ⟨List.nodup_cons.2 ⟨fun e => absurd (hn d e) (Nat.lt_irrefl d), h.nd⟩, fun k hk => by
    rcases List.mem_cons.1 hk with rfl | hk
    · exact ⟨hb, hd⟩
    · exact h.at_ k hk⟩
theorem leaves_marks {n : Nat} {fn : Func} {T : Array Value} {R : Ending → World → Prop} {b : Nat} : ∀ {ks : List Nat} {w : World}, Mk b ks w → (∀ w', Tk (iq b) w w' → LeavesIn Fence.wide n Try.prog fn T R [] .returning w') → LeavesInM Fence.wide n Try.prog fn T R (mks ks) .returning w
  | [], w, _, h => h w (Tk.refl _ _)
  | k :: ks, w, hm, h => by
    have hk := hm.at_ k (by simp)
    have hnd := List.nodup_cons.1 hm.nd
    refine ⟨by simp, .inl ⟨k, _, rfl, run_takeDeferred hk.2, ?_⟩⟩
    have t : Tk (fun i o => i = k ∧ ¬ isI o) w (w.putObj k (.deferred none)) := ⟨rfl, rfl, rfl, by simp, fun i o hi hn => (World.putObj_heap_other (fun e => hn ⟨e, by
      subst e
      rw [hk.2] at hi
      injection hi with hi
      rw [← hi]
      exact notI rfl⟩)).trans hi⟩
    refine leaves_marks (b := b) ⟨hnd.2, fun j hj => ⟨(hm.at_ j (by simp [hj])).1, t.block j _ (hm.at_ j (by simp [hj])).2 (fun e => hnd.1 (e.1 ▸ hj))⟩⟩ (fun w' ht => h w' ((t.mono fun i o _ hq => ⟨by rw [hq.1]; exact hk.1, hq.2⟩).trans ht))
theorem cell_tn' {w W : World} {a : Addr} {v : Value} (h : w.cell? a = some v) (hb : Below w.heap.size w W) : W.cell? a = some v := (Tk.of_below (q := fun _ _ => False) hb).cell h (fun _ _ h => h)
theorem runs_any (A : Option Addr) (n c : Nat) (w : World) : Calls Try.prog 22 #[.slice A n c] w fun e w' => e = .returned (.func (.func 26) #[] #[.pointer (some ⟨w.heap.size, 0, none⟩)]) ∧ w' = w.alloc (.cells #[.slice A n c] 22) := by
  go_enter Try.func22, Try.ntmps22
  go_wp2_with fail
  go_ret
  exact ⟨rfl, rfl⟩
/-- what stands between two lists. -/
structure C1 (J0 : World → Prop) (W : World) (D P B3 : Nat) (p : Nat → Prop) (M : List Int) (nH : Nat) (X : World) : Prop where
  hp : ∃ H, HpO X D P p H ∧ (left H).Perm M ∧ H.length ≤ nH
  b3 : BlkIs X B3 43 #[.pointer (some ⟨P, 0, none⟩)]
  j : J0 X
  tk : Tk (iq W.heap.size) W X
section
variable {J0 : World → Prop} {W : World} {D P B3 : Nat} {p : Nat → Prop} {M : List Int} {nH : Nat} {X X' : World}
theorem C1.len (h : C1 J0 W D P B3 p M nH X) : C1 J0 W D P B3 p M M.length X := by
  obtain ⟨H, h1, h2, _⟩ := h.hp
  refine ⟨⟨H, h1, h2, ?_⟩, h.b3, h.j, h.tk⟩
  rw [← h2.length_eq]
  exact good_len h1.hp.good
/-- what turns records alone. -/
theorem C1.rec_ {q : Nat → Obj → Prop} (h : C1 J0 W D P B3 p M nH X) (hJ : ∀ A B, J0 A → Tk (iq W.heap.size) A B → J0 B) (t : Tk q X X') (hq : ∀ i o, q i o → W.heap.size ≤ i ∧ o.isCells = false) : C1 J0 W D P B3 p M nH X' := by
  obtain ⟨H, h1, h2, h3⟩ := h.hp
  have hc : ∀ i cs t z, ¬ q i (.cells cs t z) := fun i cs t z e => by have := (hq _ _ e).2; cases this
  have ti : Tk (iq W.heap.size) X X' := t.mono fun i o _ e => ⟨(hq i o e).1, notI (hq i o e).2⟩
  exact ⟨⟨H, ⟨h1.hp.tk t (fun v => hc _ _ _ _) (fun g cs _ => hc _ _ _ _) (fun i cs t z _ => hc _ _ _ _), h1.key⟩, h2, h3⟩, t.blk h.b3 (hc _ _ _ _), hJ _ _ h.j ti, h.tk.trans ti⟩
theorem hq_iq {p : Nat → Prop} (hP : W.heap.size ≤ P) (hp : ∀ i, p i → W.heap.size ≤ i) {i : Nat} {o : Obj} (h : hq p P i o) : iq W.heap.size i o := by
  obtain ⟨h1, cs, t, z, rfl, ht⟩ := h
  refine ⟨h1.elim (fun e => e ▸ hP) (hp i), ?_⟩
  rintro ⟨cs', z', e⟩
  injection e with _ e _
  exact ht e
/-- another heap. -/
theorem C1.to (h : C1 J0 W D P B3 p M nH X) (hJ : ∀ A B, J0 A → Tk (iq W.heap.size) A B → J0 B) {M' : List Int} {n' : Nat} (hP : W.heap.size ≤ P) (hp : ∀ i, p i → W.heap.size ≤ i ∧ i ≠ B3) (hB : P ≠ B3) (t : Tk (hq p P) X X') (h' : ∃ H, HpO X' D P p H ∧ (left H).Perm M' ∧ H.length ≤ n') : C1 J0 W D P B3 p M' n' X' := by
  have ti : Tk (iq W.heap.size) X X' := t.mono fun i o _ e => hq_iq hP (fun i h => (hp i h).1) e
  refine ⟨h', t.blk h.b3 (fun e => ?_), hJ _ _ h.j ti, h.tk.trans ti⟩
  rcases e.1 with e | e
  · exact hB e.symm
  · exact (hp _ e).2 rfl
theorem Hp.rp {p' : Nat → Prop} {H : List E} (h : Hp X D P p H) (hp : ∀ g, g < X.heap.size → p g → p' g) (hd : ∀ g, p' g → D ≤ g) : Hp X D P p' H := by
  obtain ⟨⟨v, h1, h2, h3⟩, h4, h5⟩ := h
  refine ⟨⟨v, h1, h2, fun g hg => hp g ?_ (h3 g hg)⟩, h4, hd⟩
  obtain ⟨_, cur, hc⟩ := own_low h2.own g hg
  exact (Array.getElem?_eq_some_iff.1 hc).1
theorem C1.rp {p' : Nat → Prop} (h : C1 J0 W D P B3 p M nH X) (hp : ∀ g, g < X.heap.size → p g → p' g) (hd : ∀ g, p' g → D ≤ g) : C1 J0 W D P B3 p' M nH X := by
  obtain ⟨H, h1, h2, h3⟩ := h.hp
  exact ⟨⟨H, ⟨h1.hp.rp hp hd, h1.key⟩, h2, h3⟩, h.b3, h.j, h.tk⟩
end
/-- within one list. -/
structure C2 (J0 : World → Prop) (W : World) (D P B3 Vk : Nat) (ks : List Nat) (el M : List Int) (X4 : World) (pre : List { x : Nat × Nat // IsRun el x }) (Y : World) : Prop where
  c1 : C1 J0 W D P B3 (fun i => W.heap.size ≤ i ∧ i ≠ B3 ∧ i ≠ Vk) (M ++ pre.flatMap fun x => cutL el x.1) (M.length + pre.length) Y
  ms : Mk W.heap.size ks Y
  tv : Tk (vq D Vk) X4 Y
def CX {α : Type} (_ : Code) (_ : List α) (_ : World) : Prop := False
def rA (T : Array Value) {el : List Int} (A : Option Addr) (c : Nat) (x : { x : Nat × Nat // IsRun el x }) (a' : Act) (_ : World) : Prop := a' = { tmps := (T.setIfInBounds 19 (runE A c el x.1).val).setIfInBounds 6 (runE A c el x.1).val, defers := [] }
theorem vq_t {D V : Nat} {A B C : World} (h : Tk (vq D V) A B) (k : Tk (vq D V) B C) : Tk (vq D V) A C := h.trans k
theorem vq_b {D V : Nat} {w : World} (W : World) (l : Nat) (o o' : Obj) (_ : w.heap.size ≤ l) (hl : W.heap[l]? = some o) (ho : o.isCells = false) (_ : o.isWalk = false) : Tk (vq D V) W (W.putObj l o') :=
  ⟨rfl, rfl, rfl, by simp, fun i u hi hn => by
    rcases Nat.decEq i l with h | h
    · exact (World.putObj_heap_other h).trans hi
    · subst h
      rw [hl] at hi
      injection hi with hi
      subst hi
      exact absurd (.inl ho) hn⟩
theorem c2_own {J0 : World → Prop} {W : World} {D P B3 Vk B : Nat} {ks : List Nat} {el M : List Int} {X4 : World} (hJ : ∀ A B, J0 A → Tk (iq W.heap.size) A B → J0 B) (hB : W.heap.size ≤ B) (hks : ∀ k ∈ ks, k < B) : OwnFrom B (C2 J0 W D P B3 Vk ks el M X4) := by
  rintro pre Y Y' row h hg hr
  have t : Tk (fun i o => B ≤ i ∧ o.isCells = false) Y Y' := Tk.grown hg (fun g o hgr ho => by
    obtain ⟨h1, o', h2, h3⟩ := hr g hgr
    rw [ho] at h2
    injection h2 with h2
    exact ⟨h1, h2 ▸ h3⟩)
  exact ⟨h.c1.rec_ hJ t (fun i o e => ⟨Nat.le_trans hB e.1, e.2⟩), h.ms.tk t (fun k hk e => by have := hks k hk; have := e.1; omega), h.tv.trans (t.mono fun i o _ e => .inl e.2)⟩
theorem left_take (L : List E) (j : Nat) : (left (L.take j)).length ≤ (left L).length := by
  have : (left L).length = (left (L.take j)).length + (left (L.drop j)).length := by rw [← List.length_append]; unfold left; rw [← List.flatMap_append, List.take_append_drop]
  omega
/-- the heap is new. -/
theorem hp_new {W : World} {D : Nat} {X : World} {P : Nat} {p : Nat → Prop} (hP : BlkIs X P 44 #[.slice (some ⟨W.heap.size, 0, none⟩) 0 0]) (hr : X.heap[W.heap.size]? = some (.cells #[] 22 (0, 0))) (hp : p W.heap.size) (hPD : D ≤ P) (hpD : ∀ g, p g → D ≤ g) : HpO X D P p [] :=
  ⟨⟨⟨_, hP, ⟨⟨rfl, .inr ⟨W.heap.size, 0, #[], rfl, Nat.zero_le _, hr, Nat.le_refl _, Nat.zero_le _, rfl, rfl⟩⟩, fun e he => by simp at he, fun e he => by simp at he⟩, fun g hg => by injection hg with hg; rw [← hg]; exact hp⟩, hPD, hpD⟩, fun i _ hi => by simp at hi⟩
theorem HpS.len {w : World} {D P : Nat} {p : Nat → Prop} {S : List Int} (h : HpS w D P p S) : ∃ v m, BlkIs w P 44 #[v] ∧ Calls Try.prog 29 #[v] w (fun e w' => e = .returned (.int .i64 (m : Nat)) ∧ w = w') ∧ (m = 0 ↔ S = []) := by
  obtain ⟨H, h1, h2, h3⟩ := h
  obtain ⟨v, hb, hc⟩ := h1.hp.len
  refine ⟨v, H.length, hb, hc, ?_⟩
  rw [nil_iff h1.hp.good h3, List.length_eq_zero_iff]
theorem HpS.least {w : World} {D P : Nat} {p : Nat → Prop} {x : Int} {S : List Int} (h : HpS w D P p (x :: S)) : ∃ v m, BlkIs w P 44 #[v] ∧ Calls Try.prog 29 #[v] w (fun e w' => e = .returned (.int .i64 (m : Nat)) ∧ w = w') ∧ 0 < m ∧ Calls Try.prog 30 #[v] w (fun e w' => e = .returned (.int .i64 x) ∧ w = w') := by
  obtain ⟨H, h1, h2, h3⟩ := h
  obtain ⟨hne, hk⟩ := root_head h1.hp.good h1.key h2 h3
  obtain ⟨v, hb, hr, _⟩ := h1.hp.ex
  obtain ⟨v', hb', hc⟩ := h1.hp.len
  have hl := least_any hr (List.length_pos_iff.2 hne)
  rw [hk] at hl
  unfold BlkIs at hb'
  rw [show w.heap[P]? = _ from hb] at hb'
  have hv : v = v' := by injection hb' with hb'; injection hb' with hb'; simpa using hb'
  exact ⟨v, H.length, hb, hv ▸ hc, List.length_pos_iff.2 hne, hl⟩
/-- a loop whose rounds are told by what no slot holds. -/
theorem loop_by {β : Type} {F : Fence} {n : Nat} {P : Program} {c : Code} {Q : Exit → Act → World → Prop} {a : Act} {w : World} (I : β → Act → World → Prop) (μ : β → Nat) (b : β) (h0 : I b a w)
    (round : ∀ b a w, I b a w → c.wpIn F n P (Exit.then (fun a' w' => ∃ b', I b' a' w' ∧ μ b' < μ b) Q) a w) : (Code.loop c).wpIn F n P Q a w := by
  have key : ∀ m b a w, μ b < m → I b a w → Code.roundsIn F n P c Q m a w := by
    intro m
    induction m with
    | zero => intro b a w h; omega
    | succ m ih =>
      intro b a w h hi
      rw [roundsIn_succ]
      refine wpIn_mono (round b a w hi) ?_
      intro e a' w' he
      cases e with
      | normal =>
        obtain ⟨b', h1, h2⟩ := he
        exact ih b' a' w' (by omega) h1
      | _ => exact he
  exact wpIn_loop_rounds (μ b + 1) (key _ b a w (Nat.lt_succ_self _) h0)
/-- what stands between two numbers. -/
structure C3 (W : World) (D P B3 : Nat) (J : List (Int × Nat) → World → Prop) (ks : List Nat) (pre : List (Int × Nat)) (S : List Int) (X : World) : Prop where
  hp : HpS X D P (fun i => W.heap.size ≤ i ∧ i ≠ B3) S
  b3 : BlkIs X B3 43 #[.pointer (some ⟨P, 0, none⟩)]
  j : J pre X
  ms : Mk W.heap.size ks X
theorem C3.skip {W : World} {D P B3 : Nat} {J : List (Int × Nat) → World → Prop} {ks : List Nat} {pre : List (Int × Nat)} {x : Int} {S : List Int} {X X' : World} (h : C3 W D P B3 J ks pre (x :: S) X) (hJ : ∀ s A B, J s A → Tk (iq W.heap.size) A B → J s B) (hP : W.heap.size ≤ P) (hB : P ≠ B3) (hs : HpS X' D P (fun i => W.heap.size ≤ i ∧ i ≠ B3) S) (t : Tk (hq (fun i => W.heap.size ≤ i ∧ i ≠ B3) P) X X') : C3 W D P B3 J ks pre S X' :=
  ⟨hs, t.blk h.b3 (fun e => by
    rcases e.1 with e | e
    · exact hB e.symm
    · exact e.2 rfl), hJ _ _ _ h.j (t.mono fun i o _ e => hq_iq hP (fun i h => h.1) e), h.ms.tk t (fun j _ e => by obtain ⟨_, cs, t, z, e, _⟩ := e; cases e)⟩
theorem C3.told {W : World} {D P B3 W0 : Nat} {J : List (Int × Nat) → World → Prop} {ks : List Nat} {pre : List (Int × Nat)} {x : Int × Nat} {S : List Int} {X X' : World} (h : C3 W D P B3 J ks pre S X) (hP : W.heap.size ≤ P) (hB : W.heap.size ≤ B3) (h0 : W0 ≤ W.heap.size) (hj : J (pre ++ [x]) X') (t : Tk (rq W0 D W.heap.size) X X') : C3 W D P B3 J ks (pre ++ [x]) S X' := by
  have hn : ∀ i cs t z, W.heap.size ≤ i → t ≠ 2 → ¬ rq W0 D W.heap.size i (.cells cs t z) := fun i cs t z hi ht e => by
    rcases e with e | e
    · cases e.1
    · rcases e.2.2 with e | ⟨cs', z', e⟩
      · omega
      · injection e with _ e _
        exact ht e
  obtain ⟨H, h1, h2, h3⟩ := h.hp
  refine ⟨⟨H, ⟨h1.hp.tk t (fun v => hn _ _ _ _ hP (by decide)) (fun g cs hg => hn _ _ _ _ hg.1 (by decide)) (fun i cs t z hi e => ?_), h1.key⟩, h2, h3⟩, t.blk h.b3 (hn _ _ _ _ hB (by decide)), hj, h.ms.tk t (fun j hj e => ?_)⟩
  · rcases e with e | e
    · cases e.1
    · have := e.1; omega
  · have := (h.ms.at_ j hj).1
    rcases e with e | e
    · have := e.2; omega
    · cases e.2.1
/-- numbers told, and how often. -/
def encN (x : Int × Nat) : Array Value := #[.int .i64 x.1, .int .i64 x.2]
set_option maxHeartbeats 6400000 in
theorem counted1_gives (n : Nat) (hn : 4 ≤ n) (w : World) {D V len c : Nat} {A : Option Addr} {L : List E} (hV : w.cell? ⟨V, 0, none⟩ = some (.slice A len c)) (hl : L.length = len) (hA : Cs w D A (L.map E.val)) (hL : ∀ e ∈ L, Ints w D e.a e.l ∧ e.l.length ≤ e.c ∧ e.c ≤ maxLen) (hD : D ≤ w.heap.size) (hN : (left L).length ≤ 90000) (hlen : len ≤ 90000) :
    GivesW n 27 #[.pointer (some ⟨V, 0, none⟩)] encN D (fun xs => xs = grp (srt (left L))) (grp (srt (left L))).length w := fun lp W0 J W hw0 hW0 hW hJ hY hJ0 => by
  have HV := Lib.hid (cell_tn' hV hW)
  have HA : Hid (∀ X, Tk (iq W.heap.size) W X → Cs X D A (L.map E.val)) := Lib.hid fun X hX => Cs.tk (Cs.below hA (hW.mono hD)) hX (fun i cs t z hi hq => by have := hq.1; have := hW.size; omega)
  have HL : Hid (∀ X, Tk (iq W.heap.size) W X → ∀ e ∈ L, Ints X D e.a e.l ∧ e.l.length ≤ e.c ∧ e.c ≤ maxLen) := Lib.hid fun X hX e he => ⟨((hL e he).1.below (hW.mono hD)).tk hX (fun i cs t z hi hq => by have := hq.1; have := hW.size; omega), (hL e he).2⟩
  have HJ := Lib.hid hJ
  have HY := Lib.hid hY
  have HW := Lib.hid (And.intro hl (And.intro hD (And.intro hW.size (And.intro hw0 hW0))))
  have v0 : ∀ o1 o2 o3, (((W.alloc o1).alloc o2).alloc o3).cell? ⟨V, 0, none⟩ = some (.slice A len c) := fun o1 o2 o3 =>
    cell_tn' HV.out ((((Below.refl _ W).alloc (Nat.le_refl _) o1).alloc (by simp) o2).alloc (by simp; omega) o3)
  have HX0 : Hid (∃ X, X = (((W.alloc (.cells #[] 22)).alloc (.cells #[.slice (some ⟨W.heap.size, 0, none⟩) 0 0] 44)).alloc (.cells #[.pointer (some ⟨W.heap.size + 1, 0, none⟩)] 43)) ∧ C1 (J []) W D (W.heap.size + 1) (W.heap.size + 1 + 1) (fun i => W.heap.size ≤ i ∧ i ≠ W.heap.size + 1 + 1) [] 0 X) := Lib.hid ⟨_, rfl, by
    have b1 := BlkIs.new W 22 #[]
    have b2 := BlkIs.new (W.alloc (.cells #[] 22)) 44 #[.slice (some ⟨W.heap.size, 0, none⟩) 0 0]
    have b3 := BlkIs.new ((W.alloc (.cells #[] 22)).alloc (.cells #[.slice (some ⟨W.heap.size, 0, none⟩) 0 0] 44)) 43 #[.pointer (some ⟨W.heap.size + 1, 0, none⟩)]
    rw [World.size_alloc] at b2
    rw [World.size_alloc, World.size_alloc] at b3
    have t : Tk (iq W.heap.size) W (((W.alloc (.cells #[] 22)).alloc (.cells #[.slice (some ⟨W.heap.size, 0, none⟩) 0 0] 44)).alloc (.cells #[.pointer (some ⟨W.heap.size + 1, 0, none⟩)] 43)) := (((Tk.refl _ W).alloc _).alloc _).alloc _
    have hz := hW.size
    exact ⟨⟨[], hp_new (W := W) (b2.alloc _) ((b1.alloc _).alloc _) ⟨Nat.le_refl _, by omega⟩ (by omega) (fun g hg => by omega), List.Perm.refl _, Nat.le_refl _⟩, b3, hJ _ _ _ hJ0 t, t⟩⟩
  clear hV hl hA hL hJ hY hW hD hw0 hW0
  refine callsIn_of_wp_marks Try.func27 rfl trivial ?_ rfl
  simp only [Try.ntmps27, List.size_toArray, List.length_cons, List.length_nil, Nat.reduceAdd, Nat.reduceSub, Array.replicate_succ, Array.replicate_zero, List.push_toArray, List.append_toArray, List.nil_append, List.cons_append]
  gi_wp2_with fail
  obtain ⟨X0, hX0, hc1⟩ := HX0.out
  have HC1 := Lib.hid hc1
  clear v0 hc1 HX0
  simp only [← hX0]
  clear hX0
  obtain ⟨P, hP⟩ : ∃ P, W.heap.size + 1 = P := ⟨_, rfl⟩
  obtain ⟨B3, hB3⟩ : ∃ B, P + 1 = B := ⟨_, rfl⟩
  rw [hP, hB3] at HC1 ⊢
  have HPB : Hid (W.heap.size < P ∧ P < B3) := Lib.hid ⟨by omega, by omega⟩
  clear hP hB3
  generalize hA9 : Value.slice (some ⟨W.heap.size, 0, none⟩) 0 0 = va9 at *
  clear hA9
  have hPB := HPB.out
  refine wpIn_loop (fun a' X => ∃ (k : Nat) (ks : List Nat) (u5 u14 u15 u16 u17 u18 u25 : Value), a' = { tmps := #[.func (.yield lp) #[] #[], .pointer (some ⟨V, 0, none⟩), undef, .pointer (some ⟨B3, 0, none⟩), undef, u5, undef, undef, undef, va9, .pointer (some ⟨P, 0, none⟩), .slice A len c, .int .i64 len, .int .i64 (k : Nat), u14, u15, u16, u17, u18, undef, undef, undef, undef, undef, undef, u25, undef, undef, undef, undef, undef, undef, undef, undef, undef, undef, undef, undef, undef, undef, undef, undef, undef, undef, undef, undef, undef, undef, undef, undef, undef, undef, undef, undef, undef, undef, undef], defers := mks ks } ∧ k ≤ len ∧ Hid (C1 (J []) W D P B3 (fun i => W.heap.size ≤ i ∧ i ≠ B3) (left (L.take k)) (left (L.take k)).length X ∧ Mk W.heap.size ks X)) (fun a' _ => len - (intOf (a'.tmps.getD 13 undef)).toNat) ⟨0, [], undef, undef, undef, undef, undef, undef, undef, rfl, Nat.zero_le _, Lib.hid ⟨HC1.out, List.nodup_nil, fun k hk => by simp at hk⟩⟩ ?_
  rintro a' X ⟨k, ks, u5, u14, u15, u16, u17, u18, u25, rfl, hk, HR⟩
  by_cases hlt : k < len
  · have hkL : k < L.length := by rw [HW.out.1]; exact hlt
    obtain ⟨ad, hA2, _, ck⟩ := HA.out X HR.out.1.tk k (L[k]).val (by rw [List.getElem?_map, List.getElem?_eq_getElem hkL]; rfl)
    have hE := HL.out X HR.out.1.tk (L[k]) (List.getElem_mem hkL)
    have hLk : left (L.take (k + 1)) = left (L.take k) ++ (L[k]).l := by
      rw [List.take_add_one, List.getElem?_eq_getElem hkL]
      exact left_app _ _
    obtain ⟨e, he⟩ : ∃ e, L[k] = e := ⟨_, rfl⟩
    rw [he] at ck hE hLk
    obtain ⟨ea, ec, el⟩ := e
    have HE := Lib.hid hE
    have HLK := Lib.hid hLk
    have HEQ := Lib.hid he
    clear he hE hLk
    unfold E.val at ck
    dsimp only at ck
    subst hA2
    gi_wp2_with fail
    refine ⟨trivial, fun _ => by omega, callsIn_wide.2 ((runs_any ea el.length ec X).mono ?_)⟩
    rintro e X4 ⟨rfl, hX4⟩
    have hb4 : Below X.heap.size X X4 := by rw [hX4]; exact (Below.refl _ X).alloc (Nat.le_refl _) _
    have hz4 : X4.heap.size = X.heap.size + 1 := by rw [hX4]; simp
    have hv4 : BlkIs X4 X.heap.size 22 #[.slice ea el.length ec] := by rw [hX4]; exact BlkIs.new X _ _
    have hzX := HR.out.1.tk.size
    have hWD := HW.out
    have t4 : Tk (fun _ _ => False) X X4 := Tk.of_below hb4
    have hc4 : C1 (J []) W D P B3 (fun i => W.heap.size ≤ i ∧ i ≠ B3 ∧ i ≠ X.heap.size) (left (L.take k)) (left (L.take k)).length X4 :=
      (HR.out.1.rp (p' := fun i => W.heap.size ≤ i ∧ i ≠ B3 ∧ i ≠ X.heap.size) (fun g hg hp => ⟨hp.1, hp.2, by omega⟩) (fun g hg => by omega)).rec_ (fun A B h t => HJ.out _ _ _ h t) t4 (fun i o e => e.elim)
    have hI4 := (HL.out X4 hc4.tk ⟨ea, ec, el⟩ (by rw [← HEQ.out]; exact List.getElem_mem hkL))
    have SQ := Lib.hid (runs1_stops (n - 1) (by omega) X4 (D := D) (BlkIs.cell hv4 0) rfl hI4.2.1 hI4.2.2 hI4.1 (by rw [show X4.heap[X.heap.size]? = _ from hv4]; rfl))
    have h0 : C2 (J []) W D P B3 X.heap.size ks el (left (L.take k)) X4 [] X4 := ⟨by simpa using hc4, HR.out.2.tk t4 (fun _ _ h => h), Tk.refl _ _⟩
    have HC4 := Lib.hid h0
    have HB4 := Lib.hid (And.intro hb4 hz4)
    clear hv4 t4 hc4 hI4 h0 hWD hb4 ck
    dsimp only
    gi_wp2_with fail
    refine range_named (fun a ha => ?_)
    have ha18 : a.eval (.tmp 18) = .func (.func 26) #[] #[.pointer (some ⟨X.heap.size, 0, none⟩)] := by rw [ha]; rfl
    refine wpIn_rangeFunc_ownH rfl (by omega) (gf := 26) (lb := #[.pointer (some ⟨X.heap.size, 0, none⟩)]) ha18 trivial (enters_of Try.func26 (by kernel_rfl) rfl)
      SQ.out vq_t vq_b (Below.refl _ _) (fun _ => rfl)
      (C2 (J []) W D P B3 X.heap.size ks el (left (L.take k)) X4) CX (c2_own (fun A B h t => HJ.out _ _ _ h t) (by omega) (fun j hj => HC4.out.ms.lt j hj)) (fun c pre A B row h _ _ => h.elim) HC4.out (rA a.tmps ea ec) (fun x a' _ _ _ _ h _ _ => h) ?assign ?body ?done ?stop
    case assign =>
      rintro lq pre x Y K' h1 hK'
      have HKK := Lib.hid hK'
      have H1 := Lib.hid h1
      clear hK' h1 ha18 SQ
      subst ha
      dsimp only
      obtain ⟨va, nn, cc, hv⟩ : ∃ a n c, (runE ea ec el x.1).val = .slice a n c := ⟨_, _, _, rfl⟩
      unfold rA at HKK
      rw [hv] at HKK ⊢
      gi_wp2_with fail
      refine HKK.out _ _ (KeepsFrom.refl _ _) (Tk.refl _ _) H1.out ?_
      simp only [List.setIfInBounds_toArray, List.set_cons_succ, List.set_cons_zero]
    case body =>
      rintro lq pre x a' Y hlq hlr h1 h2 hlen
      obtain ⟨H, hH1, hH2, hH3⟩ := h1.c1.hp
      have hEL := HL.out Y h1.c1.tk ⟨ea, ec, el⟩ (by rw [← HEQ.out]; exact List.getElem_mem hkL)
      have hx := x.2
      have hri : Ints Y D (runE ea ec el x.1).a (runE ea ec el x.1).l := by
        have := (Ints.drop hEL.1 (k := x.1.1) ec hEL.2.1).take (x.1.2 - x.1.1)
        have hne : ec ≠ x.1.1 := by have := hx.lt; have := hx.le; have := hEL.2.1; dsimp only at this; omega
        rw [if_neg hne, Nat.mul_one] at this
        exact this
      have hcut : (cutL el x.1).length = x.1.2 - x.1.1 := by
        unfold cutL
        rw [List.length_take, List.length_drop]
        have := hx.le
        omega
      have hHl : H.length + 1 ≤ 100000 := by
        have h5 := left_take L (k + 1)
        rw [HLK.out, List.length_append] at h5
        omega
      have hpu := hpush_any hH1 (e := runE ea ec el x.1) (fun i hi => ⟨by have := h1.c1.tk.size; omega, by have := h1.c1.b3.lt; omega, by have := hEL; have h9 := h1.tv.size; omega⟩) hri (by show (cutL el x.1).length ≤ ec - x.1.1; rw [hcut]; have := hx.le; have := hEL.2.1; dsimp only at this; omega) ⟨fun e => by
        have h6 : (cutL el x.1).length = 0 := congrArg List.length (show cutL el x.1 = [] from e)
        have := hx.lt
        omega, hx.up⟩ hHl
      have x3 := (BlkIs.cell h1.c1.b3 0).trans (rfl : _ = some (Value.pointer (some ⟨P, 0, none⟩)))
      have HPU := Lib.hid hpu
      have HH := Lib.hid (And.intro hH2 hH3)
      have H1 := Lib.hid h1
      obtain ⟨va, nn, cc, hv⟩ : ∃ a n c, (runE ea ec el x.1).val = .slice a n c := ⟨_, _, _, rfl⟩
      unfold rA at h2
      rw [hv] at h2 HPU
      clear hH1 hH2 hH3 hEL hx hri hcut hHl hpu h1 ha18 SQ hlen
      subst h2
      subst ha
      simp only [List.setIfInBounds_toArray, List.set_cons_succ, List.set_cons_zero]
      gi_wp2_with fail
      refine ⟨trivial, fun _ => by omega, CallsIn.inRound lq (callsIn_wide.2 (HPU.out.mono ?_))⟩
      rintro e Z ⟨rfl, ⟨H', hH', hp'⟩, htz⟩
      have hPX : P < X.heap.size := by have := HR.out.1.b3.lt; have := HPB.out; omega
      have hr2 : C2 (J []) W D P B3 X.heap.size ks el (left (L.take k)) X4 (pre ++ [x]) Z := ⟨H1.out.c1.to (fun A B h t => HJ.out _ _ _ h t) (by have := HPB.out; omega) (fun i hi => ⟨hi.1, hi.2.1⟩) (by have := HPB.out; omega) htz ⟨H', hH', by
            rw [List.flatMap_append, ← List.append_assoc]
            refine (left_perm hp').trans ?_
            rw [left_app]
            refine HH.out.1.append ?_
            simp [runE], by
            rw [hp'.length_eq, List.length_append, List.length_append]
            have := HH.out.2
            simp
            omega⟩,
          H1.out.ms.tk htz (fun j _ e => by obtain ⟨_, cs, t, z, e, _⟩ := e; cases e),
          H1.out.tv.trans (htz.mono fun i o _ e => .inr (by
            have := HW.out
            rcases e.1 with e | e
            · have := HPB.out; omega
            · omega))⟩
      have hk2 : KeepsFrom X4.heap.size Y Z := ⟨htz.size, fun j o _ hj ho => htz.block j o hj (fun e => by obtain ⟨_, cs, t, z, rfl, _⟩ := e; cases ho)⟩
      have hv2 : Tk (vq D X.heap.size) Y Z := htz.mono fun i o _ e => .inr (by
            have := HW.out
            rcases e.1 with e | e
            · have := HPB.out; omega
            · omega)
      have HR2 := Lib.hid (And.intro hk2 (And.intro hv2 hr2))
      clear hr2 hk2 hv2 hH' hp' htz HPU x3
      gi_wp2_with fail
      exact HR2.out
    case done =>
      rintro d xs Y hD hS h1 hKd
      have H1 := Lib.hid h1
      have HS := Lib.hid hS
      have HKD := Lib.hid hKd
      clear h1 hS hKd ha18 SQ
      subst ha
      gi_wp2_with fail
      refine ⟨⟨k + 1, d :: ks, _, _, _, _, _, _, _, rfl, by omega, Lib.hid ⟨?_, H1.out.ms.more HKD.out (by have := HB4.out.2; omega) (fun j hj => by have := HC4.out.ms.lt j hj; omega)⟩⟩, ?_⟩
      · have hx : xs.flatMap (fun x => cutL el x.1) = el := by
          have h6 := rns_all el el.length (Nat.le_refl _)
          rw [beg_end, List.take_length, ← HS.out, List.flatMap_map] at h6
          exact h6
        have h7 := H1.out.c1
        rw [hx, ← HLK.out] at h7
        exact (h7.rp (p' := fun i => W.heap.size ≤ i ∧ i ≠ B3) (fun g _ hg => ⟨hg.1, hg.2.1⟩) (fun g hg => by have := HW.out; omega)).len
      · simp [intOf]
        omega
    case stop =>
      rintro d cc pre Y hD hSp h1 hKd
      exact h1.elim
  · have hkl : k = len := by omega
    have hlk : L.take k = L := by rw [hkl, ← HW.out.1, List.take_length]
    have h3 : C3 W D P B3 J ks [] (srt (left L)) X := by
      obtain ⟨H, h1, h2, _⟩ := HR.out.1.hp
      rw [hlk] at h2
      exact ⟨⟨H, h1, srt_srt _, h2.trans (srt_perm _).symm⟩, HR.out.1.b3, HR.out.1.j, HR.out.2⟩
    have H3 := Lib.hid h3
    have HSL : Hid ((srt (left L)).length ≤ 90000) := Lib.hid (by rw [(srt_perm _).length_eq]; exact hN)
    clear h3 hlk
    gi_wp2_with fail
    refine loop_by (fun (b : List Int × List (Int × Nat)) a' Y => ∃ u1 u2 u4 u5 u6 u7 u8 u9 u10 u11 u12 u13 u14 u15 u16 u17 u18 u19 u20 u21 u22 u23 u24 u25 u26 u27 u28 u29 u30 u31 u32 u33 u34 u35 u36 u37 u38 u39 u40 u41 u42 u43 u44 u45 u46 u47 u48 u49 u50 u51 u52 u53 u54 u55 u56 : Value, a' = { tmps := #[.func (.yield lp) #[] #[], u1, u2, .pointer (some ⟨B3, 0, none⟩), u4, u5, u6, u7, u8, u9, u10, u11, u12, u13, u14, u15, u16, u17, u18, u19, u20, u21, u22, u23, u24, u25, u26, u27, u28, u29, u30, u31, u32, u33, u34, u35, u36, u37, u38, u39, u40, u41, u42, u43, u44, u45, u46, u47, u48, u49, u50, u51, u52, u53, u54, u55, u56], defers := mks ks } ∧ Hid (b.2 ++ grp b.1 = grp (srt (left L)) ∧ b.1.length ≤ 90000 ∧ C3 W D P B3 J ks b.2 b.1 Y)) (fun b => b.1.length) (srt (left L), []) ⟨_, _, _, _, _, _, _, _, _, _, _, _, _, _, _, _, _, _, _, _, _, _, _, _, _, _, _, _, _, _, _, _, _, _, _, _, _, _, _, _, _, _, _, _, _, _, _, _, _, _, _, _, _, _, _, rfl, Lib.hid ⟨rfl, HSL.out, H3.out⟩⟩ ?_
    rintro ⟨S, pre⟩ a' Y ⟨u1, u2, u4, u5, u6, u7, u8, u9, u10, u11, u12, u13, u14, u15, u16, u17, u18, u19, u20, u21, u22, u23, u24, u25, u26, u27, u28, u29, u30, u31, u32, u33, u34, u35, u36, u37, u38, u39, u40, u41, u42, u43, u44, u45, u46, u47, u48, u49, u50, u51, u52, u53, u54, u55, u56, rfl, HI⟩
    dsimp only at HI ⊢
    have b3 := (BlkIs.cell HI.out.2.2.b3 0).trans (rfl : _ = some (Value.pointer (some ⟨P, 0, none⟩)))
    rcases S with _ | ⟨x, S⟩
    · obtain ⟨v, m, hb, hc, hm⟩ := HI.out.2.2.hp.len
      have hm0 := hm.2 rfl
      subst hm0
      have c0 := (BlkIs.cell hb 0).trans (rfl : _ = some v)
      have HC := Lib.hid hc
      clear hb hc hm
      gi_wp2_with fail
      refine ⟨trivial, fun _ => by omega, callsIn_wide.2 (HC.out.mono ?_)⟩
      rintro e Y2 ⟨rfl, rfl⟩
      clear HC c0 b3
      dsimp only
      gi_wp2_with fail
      refine leaves_marks HI.out.2.2.ms (fun w' ht => ?_)
      exact ⟨.tuple #[], by simp [results, Try.results27, go_sem], ⟨_, rfl⟩, _, rfl, by
        have h9 := HI.out.1
        rw [grp_nil, List.append_nil] at h9
        rw [← h9]
        exact HJ.out _ _ _ HI.out.2.2.j ht⟩
    · obtain ⟨v, m, hb, hc, hm, hl⟩ := HI.out.2.2.hp.least
      have c0 := (BlkIs.cell hb 0).trans (rfl : _ = some v)
      have HC := Lib.hid hc
      have HCL := Lib.hid hl
      clear hb hc hl
      gi_wp2_with fail
      refine ⟨trivial, fun _ => by omega, callsIn_wide.2 (HC.out.mono ?_)⟩
      rintro e Y2 ⟨rfl, rfl⟩
      dsimp only
      gi_wp2_with fail
      refine ⟨trivial, fun _ => by omega, callsIn_wide.2 (HCL.out.mono ?_)⟩
      rintro e Y2 ⟨rfl, rfl⟩
      clear HC HCL c0 b3
      dsimp only
      gi_wp2_with fail
      have HS : Hid (Srt (x :: S)) := Lib.hid (by obtain ⟨_, _, h, _⟩ := HI.out.2.2.hp; exact h)
      refine loop_by (fun (b : Nat × List Int) a' Z => ∃ u1 u2 u4 u5 u6 u9 u10 u11 u12 u13 u14 u15 u16 u17 u18 u19 u20 u21 u22 u23 u24 u25 u26 u27 u28 u29 u30 u31 u32 u33 u34 u35 u36 u37 u38 u39 u40 u41 u42 u43 u44 u45 u46 u47 u48 u49 u50 u51 u52 u53 u54 u55 u56 : Value, a' = { tmps := #[.func (.yield lp) #[] #[], u1, u2, .pointer (some ⟨B3, 0, none⟩), u4, u5, u6, .int .i64 x, .int .i64 (b.1 : Nat), u9, u10, u11, u12, u13, u14, u15, u16, u17, u18, u19, u20, u21, u22, u23, u24, u25, u26, u27, u28, u29, u30, u31, u32, u33, u34, u35, u36, u37, u38, u39, u40, u41, u42, u43, u44, u45, u46, u47, u48, u49, u50, u51, u52, u53, u54, u55, u56], defers := mks ks } ∧ Hid (runN x b.2 + b.1 = runN x S + 1 ∧ runT x b.2 = runT x S ∧ (∀ y ∈ b.2, x ≤ y) ∧ b.2.length ≤ 90000 ∧ C3 W D P B3 J ks pre b.2 Z)) (fun b => b.2.length) (0, x :: S) ⟨_, _, _, _, _, _, _, _, _, _, _, _, _, _, _, _, _, _, _, _, _, _, _, _, _, _, _, _, _, _, _, _, _, _, _, _, _, _, _, _, _, _, _, _, _, _, _, _, _, _, _, _, _, rfl, Lib.hid ⟨by simp [runN], by simp [runT], fun y hy => ?_, HI.out.2.1, HI.out.2.2⟩⟩ ?_
      · rcases List.mem_cons.1 hy with rfl | hy
        · exact Int.le_refl _
        · exact (List.pairwise_cons.1 HS.out).1 y hy
      rintro ⟨f, S1⟩ a'' Z ⟨v1, v2, v4, v5, v6, v9, v10, v11, v12, v13, v14, v15, v16, v17, v18, v19, v20, v21, v22, v23, v24, v25, v26, v27, v28, v29, v30, v31, v32, v33, v34, v35, v36, v37, v38, v39, v40, v41, v42, v43, v44, v45, v46, v47, v48, v49, v50, v51, v52, v53, v54, v55, v56, rfl, HI3⟩
      dsimp only at HI3 ⊢
      have b3 := (BlkIs.cell HI3.out.2.2.2.2.b3 0).trans (rfl : _ = some (Value.pointer (some ⟨P, 0, none⟩)))
      rcases S1 with _ | ⟨y, S2⟩
      · obtain ⟨v, m, hb, hc, hm⟩ := HI3.out.2.2.2.2.hp.len
        have hm0 := hm.2 rfl
        subst hm0
        have c0 := (BlkIs.cell hb 0).trans (rfl : _ = some v)
        have HC := Lib.hid hc
        clear hb hc hm
        gi_wp2_with fail
        refine ⟨trivial, fun _ => by omega, callsIn_wide.2 (HC.out.mono ?_)⟩
        rintro e Y2 ⟨rfl, rfl⟩
        clear HC c0 b3
        dsimp only
        have HF : Hid (f = runN x S + 1 ∧ C3 W D P B3 J ks pre (runT x S) Z) := Lib.hid (⟨by have := HI3.out.1; simp only [runN] at this; omega, by have h1 := HI3.out.2.1; simp only [runT] at h1; rw [← h1]; exact HI3.out.2.2.2.2⟩)
        clear HI3
        gi_wp2_with fail
        refine ⟨trivial, ?_⟩
        have hy1 := HY.out pre (x, f) Z HF.out.2.j (by
          rw [← HI.out.1, grp_cons, List.length_append, List.length_cons]
          omega)
        obtain ⟨fn, tmps, assign, body, hy, hR⟩ := hy1
        unfold encN at hy
        dsimp only at hy
        gi_wp2_with fail
        refine ⟨fun _ => by omega, hR.mono ?_⟩
        rintro e Z2 ⟨rfl, hj2, ht2⟩
        have HC2 := Lib.hid (HF.out.2.told (W0 := W0) (by have := HPB.out; omega) (by have := HPB.out; omega) (by have := HW.out; omega) hj2 ht2)
        clear hj2 ht2 hR hy
        gi_wp2_with fail
        refine ⟨(runT x S, pre ++ [(x, f)]), ⟨_, _, _, _, _, _, _, _, _, _, _, _, _, _, _, _, _, _, _, _, _, _, _, _, _, _, _, _, _, _, _, _, _, _, _, _, _, _, _, _, _, _, _, _, _, _, _, _, _, _, _, _, _, _, _, rfl, Lib.hid ⟨?_, ?_, HC2.out⟩⟩, ?_⟩
        · dsimp only
          rw [← HI.out.1, grp_cons, HF.out.1, List.append_assoc]
          rfl
        · have := runT_len x S
          have := HI.out.2.1
          simp only [List.length_cons] at this
          dsimp only
          omega
        · have := runT_len x S
          simp only [List.length_cons]
          omega
      · obtain ⟨v, m, hb, hc, hm, hl⟩ := HI3.out.2.2.2.2.hp.least
        have c0 := (BlkIs.cell hb 0).trans (rfl : _ = some v)
        have HC := Lib.hid hc
        have HCL := Lib.hid hl
        clear hb hc hl
        gi_wp2_with fail
        refine ⟨trivial, fun _ => by omega, callsIn_wide.2 (HC.out.mono ?_)⟩
        rintro e Y2 ⟨rfl, rfl⟩
        dsimp only
        gi_wp2_with fail
        refine ⟨trivial, fun _ => by omega, callsIn_wide.2 (HCL.out.mono ?_)⟩
        rintro e Y2 ⟨rfl, rfl⟩
        clear HC HCL c0
        dsimp only
        by_cases hyx : y = x
        · subst hyx
          have HSK := Lib.hid (skip_any HI3.out.2.2.2.2.hp (by have := HI3.out.2.2.2.1; simp at this; omega))
          gi_wp2_with fail
          refine ⟨trivial, fun _ => by omega, callsIn_wide.2 (HSK.out.mono ?_)⟩
          rintro e Y2 ⟨rfl, hs2, ht2⟩
          have HC3 := Lib.hid (HI3.out.2.2.2.2.skip (fun s A B h t => HJ.out _ _ _ h t) (by have := HPB.out; omega) (by have := HPB.out; omega) hs2 ht2)
          clear hs2 ht2 HSK b3
          dsimp only
          have hf : f ≤ 200000 := by
            have h1 := HI3.out.1
            have h2 : runN y S ≤ S.length := runN_len y S
            have h3 := HI.out.2.1
            simp only [List.length_cons] at h3
            omega
          gi_wp2_with fail
          refine ⟨(f + 1, S2), ⟨_, _, _, _, _, _, _, _, _, _, _, _, _, _, _, _, _, _, _, _, _, _, _, _, _, _, _, _, _, _, _, _, _, _, _, _, _, _, _, _, _, _, _, _, _, _, _, _, _, _, _, _, _, rfl, Lib.hid ⟨?_, ?_, fun z hz => HI3.out.2.2.1 z (by simp [hz]), ?_, HC3.out⟩⟩, ?_⟩
          · have h1 := HI3.out.1
            simp only [runN, if_true] at h1
            dsimp only
            omega
          · have h1 := HI3.out.2.1
            simp only [runT, if_true] at h1
            exact h1
          · have := HI3.out.2.2.2.1
            simp only [List.length_cons] at this
            dsimp only
            omega
          · simp
        · have hyb : (y == x) = false := by simpa using hyx
          have HF : Hid (f = runN x S + 1 ∧ C3 W D P B3 J ks pre (runT x S) Z) := Lib.hid (⟨by have := HI3.out.1; simp only [runN, if_neg hyx] at this; omega, by have h1 := HI3.out.2.1; simp only [runT, if_neg hyx] at h1; rw [← h1]; exact HI3.out.2.2.2.2⟩)
          clear HI3
          have hy1 := HY.out pre (x, f) Z HF.out.2.j (by
            rw [← HI.out.1, grp_cons, List.length_append, List.length_cons]
            omega)
          obtain ⟨fn, tmps, assign, body, hy, hR⟩ := hy1
          unfold encN at hy
          dsimp only at hy
          gi_wp2_with fail
          refine ⟨fun _ => by omega, hR.mono ?_⟩
          rintro e Z2 ⟨rfl, hj2, ht2⟩
          have HC2 := Lib.hid (HF.out.2.told (W0 := W0) (by have := HPB.out; omega) (by have := HPB.out; omega) (by have := HW.out; omega) hj2 ht2)
          clear hj2 ht2 hR hy
          gi_wp2_with fail
          refine ⟨(runT x S, pre ++ [(x, f)]), ⟨_, _, _, _, _, _, _, _, _, _, _, _, _, _, _, _, _, _, _, _, _, _, _, _, _, _, _, _, _, _, _, _, _, _, _, _, _, _, _, _, _, _, _, _, _, _, _, _, _, _, _, _, _, _, _, rfl, Lib.hid ⟨?_, ?_, HC2.out⟩⟩, ?_⟩
          · dsimp only
            rw [← HI.out.1, grp_cons, HF.out.1, List.append_assoc]
            rfl
          · have := runT_len x S
            have := HI.out.2.1
            simp only [List.length_cons] at this
            dsimp only
            omega
          · have := runT_len x S
            simp only [List.length_cons]
            omega
end Ps
end Go.Proofs.Ytkpolakdamiiiaa
