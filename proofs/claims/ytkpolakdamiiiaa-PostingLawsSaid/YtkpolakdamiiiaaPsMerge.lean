/- What any lists have; what is found so often in them. Conditions: as stated at each. -/
import Derived.Test.YtkpolakdamiiiaaPsCount
namespace Go.Proofs.Ytkpolakdamiiiaa
set_option maxRecDepth 100000
namespace Ps
open Go.RowKit Go
attribute [local go_sem] Oper.semAt_some
/-- numbers in a row of the call's own. -/
def OwnI (w : World) (N : Nat) (v : Value) (l : List Int) : Prop := w.ownsRow N 2 1 v l.length (iv l)
theorem OwnI.nil (w : World) (N : Nat) : OwnI w N (.slice none 0 0) [] := World.ownsRow_nil _ _ _ _
theorem OwnI.below {w w' : World} {N : Nat} {v : Value} {l : List Int} (h : OwnI w N v l) (hb : Below w.heap.size w w') : OwnI w' N v l := own_kept h hb (Nat.le_refl _)
theorem OwnI.ints {w : World} {N : Nat} {v : Value} {l : List Int} (h : OwnI w N v l) : ∃ A c, v = .slice A l.length c ∧ l.length ≤ c ∧ c ≤ maxLen ∧ Ints w w.heap.size A l := by
  obtain ⟨A, c, rfl, h1, h2⟩ := own_slice h
  exact ⟨A, c, rfl, h1, h2, Cs.of_own h⟩
/-- lists in memory. -/
structure Lists (w : World) (D : Nat) (A : Option Addr) (L : List E) : Prop where
  row : Cs w D A (L.map E.val)
  dat : ∀ e ∈ L, Ints w D e.a e.l ∧ e.l.length ≤ e.c ∧ e.c ≤ maxLen
theorem Lists.below {w w' : World} {D : Nat} {A : Option Addr} {L : List E} (h : Lists w D A L) (hb : Below D w w') : Lists w' D A L := ⟨Cs.below h.row hb, fun e he => ⟨(h.dat e he).1.below hb, (h.dat e he).2⟩⟩
theorem Lists.more {w : World} {D D' : Nat} {A : Option Addr} {L : List E} (h : Lists w D A L) (hD : D ≤ D') : Lists w D' A L := ⟨Cs.more h.row hD, fun e he => ⟨(h.dat e he).1.more hD, (h.dat e he).2⟩⟩
theorem counted_any (A : Option Addr) (n c : Nat) (w : World) : Calls Try.prog 24 #[.slice A n c] w fun e w' => e = .returned (.func (.func 27) #[] #[.pointer (some ⟨w.heap.size, 0, none⟩)]) ∧ w' = w.alloc (.cells #[.slice A n c] 30) := by
  go_enter Try.func24, Try.ntmps24
  go_wp2_with fail
  go_ret
  exact ⟨rfl, rfl⟩
/-- what a list of numbers comes to. -/
def ResP (w : World) (r : List Int) (e : Ending) (w' : World) : Prop := ∃ v, e = .returned v ∧ OwnI w' w.heap.size v r ∧ Below w.heap.size w w'
/-- what has been told, in the row behind the box. -/
structure MI (w : World) (ba : Nat) (sel : Int × Nat → Bool) (pre : List (Int × Nat)) (Y : World) : Prop where
  ex : ∃ v, BlkIs Y ba 22 #[v] ∧ OwnI Y w.heap.size v ((pre.filter sel).map Prod.fst)
  bel : Below w.heap.size w Y
theorem MI.tk {w : World} {ba B : Nat} {sel : Int × Nat → Bool} {pre : List (Int × Nat)} {A A' : World} (h : MI w ba sel pre A) (hB : w.heap.size ≤ B) (hba : ba < B) (t : Tk (aq B) A A') : MI w ba sel pre A' := by
  obtain ⟨⟨v, h1, h2⟩, h3⟩ := h
  refine ⟨⟨v, t.blk h1 (fun e => by have := e.1; omega), own_tk h2 t (fun g cs _ e => e.2 ⟨_, _, rfl⟩)⟩, h3.trans ?_⟩
  exact t.below (N := w.heap.size) h3.size (fun i o hi e => by have := e.1; omega)
theorem blk_ne_own {w : World} {ba : Nat} {v : Value} (hb : BlkIs w ba 22 #[v]) {N n : Nat} {v' : Value} {xs : List Value} (h : w.ownsRow N 2 1 v' n xs) {g : Nat} (hg : v'.ownBlock = some g) : ba ≠ g := by
  rintro rfl
  obtain ⟨_, cur, hc⟩ := own_low h ba hg
  rw [show w.heap[ba]? = _ from hb] at hc
  injection hc with hc
  injection hc with _ ht
  exact absurd ht (by decide)
theorem blk_row_ne {w : World} {P : Nat} {t e : TypeId} {cs : Array Value} (ht : t ≠ e) (hb : BlkIs w P t cs) {N n : Nat} {v' : Value} {xs : List Value} (h : w.ownsRow N e 1 v' n xs) {g : Nat} (hg : v'.ownBlock = some g) : P ≠ g := by
  rintro rfl
  obtain ⟨_, cur, hc⟩ := own_low h P hg
  rw [show w.heap[P]? = _ from hb] at hc
  injection hc with hc
  injection hc with _ hc
  exact ht hc
/-- one more number told. -/
theorem MI.app {w : World} {ba W0 : Nat} {sel : Int × Nat → Bool} {pre : List (Int × Nat)} {x : Int × Nat} {Y Y1 Y2 Y3 : World} {v v' : Value} (h : MI w ba sel pre Y) (hW : w.heap.size ≤ ba) (hba : ba < W0) (hs : sel x = true) (hb : BlkIs Y ba 22 #[v]) (ho : OwnI Y w.heap.size v ((pre.filter sel).map Prod.fst)) (h1 : Below Y.heap.size Y Y1) (hg : Y1.grownBy Y2 v.ownBlock)
    (ho2 : Y2.ownsRow w.heap.size 2 1 v' (((pre.filter sel).map Prod.fst).length + 1) (iv ((pre.filter sel).map Prod.fst) ++ [.int .i64 x.1])) (h3 : Y3 = Y2.setCell ⟨ba, 0, none⟩ v') : Tk (bq W0 w.heap.size) Y Y3 ∧ MI w ba sel (pre ++ [x]) Y3 := by
  have hb1 : BlkIs Y1 ba 22 #[v] := (h1.block _ hb.lt).trans hb
  have ho1 := ho.below h1
  have hb2 := hb1.grown hg (fun e => blk_ne_own hb1 ho1 e rfl)
  have t2 : Tk (bq W0 w.heap.size) Y1 Y2 := Tk.grown hg (fun g o hgr hgo => by
    obtain ⟨h5, cur, h6⟩ := own_low ho1 g hgr
    rw [h6] at hgo
    injection hgo with hgo
    subst hgo
    exact ⟨h5, rfl, .inr ⟨_, _, rfl⟩⟩)
  have t3 : Tk (bq W0 w.heap.size) Y2 Y3 := by
    rw [h3]
    exact Tk.setCell _ (fun o ho => by
      rw [show Y2.heap[ba]? = _ from hb2] at ho
      injection ho with ho
      subst ho
      exact ⟨hW, rfl, .inl hba⟩)
  have t := ((Tk.of_below h1).trans t2).trans t3
  refine ⟨t, ⟨v', ?_, ?_⟩, h.bel.trans (t.below h.bel.size (fun i o hi e => by have := e.1; omega))⟩
  · rw [h3]
    exact BlkIs.put hb2 0 v'
  · have e1 : ((pre ++ [x]).filter sel).map Prod.fst = (pre.filter sel).map Prod.fst ++ [x.1] := by
      rw [List.filter_append, List.map_append]
      congr 1
      simp [hs]
    unfold OwnI
    rw [e1, List.length_append, iv_append]
    rw [h3]
    exact own_kept' ho2 (fun g hg => blk_ne_own hb2 ho2 hg)
theorem MI.skip {w : World} {ba W0 : Nat} {sel : Int × Nat → Bool} {pre : List (Int × Nat)} {x : Int × Nat} {Y : World} (h : MI w ba sel pre Y) (hs : sel x = false) : Tk (bq W0 w.heap.size) Y Y ∧ MI w ba sel (pre ++ [x]) Y := by
  refine ⟨Tk.refl _ _, ⟨?_, h.bel⟩⟩
  have e1 : (pre ++ [x]).filter sel = pre.filter sel := by rw [List.filter_append]; simp [hs]
  rw [e1]
  exact h.ex
theorem grp_len (l : List Int) : (grp (srt l)).length ≤ l.length := by
  have key : ∀ m (l : List Int), l.length ≤ m → (grp l).length ≤ l.length := by
    intro m
    induction m with
    | zero => intro l h; have e : l = [] := List.eq_nil_of_length_eq_zero (by omega); rw [e, grp_nil]; exact Nat.le_refl _
    | succ m ih =>
      intro l h
      rcases l with _ | ⟨x, l⟩
      · rw [grp_nil]; exact Nat.le_refl _
      · rw [grp_cons]
        have := runT_len x l
        simp only [List.length_cons] at h ⊢
        have := ih (runT x l) (by omega)
        omega
  rw [← (srt_perm l).length_eq]
  exact key _ _ (Nat.le_refl _)
/-- all numbers of some, each once, rising. -/
def setOf (l : List Int) : List Int := (grp (srt l)).map Prod.fst
set_option maxHeartbeats 6400000 in
theorem merge_any {w : World} {D n c : Nat} {A : Option Addr} {L : List E} (hl : L.length = n) (hA : Lists w D A L) (hD : D ≤ w.heap.size) (hN : (left L).length ≤ 90000) (hn : n ≤ 90000) :
    Calls Try.prog 19 #[.slice A n c] w (ResP w (setOf (left L))) := by
  refine (callsIn_wide (n := 9)).1 ?_
  refine callsIn_of_wp_marks Try.func19 rfl trivial ?_ rfl
  have H1 : Hid (Lists w w.heap.size A L ∧ Below w.heap.size w (w.alloc (.cells #[.slice none 0 0] 22)) ∧ BlkIs (w.alloc (.cells #[.slice none 0 0] 22)) w.heap.size 22 #[.slice none 0 0]) := Lib.hid ⟨hA.more hD, (Below.refl _ w).alloc (Nat.le_refl _) _, BlkIs.new w _ _⟩
  have hz1 : (w.alloc (.cells #[.slice none 0 0] 22)).heap.size = w.heap.size + 1 := by simp
  clear hA
  simp only [Try.ntmps19, List.size_toArray, List.length_cons, List.length_nil, Nat.reduceAdd, Nat.reduceSub, Array.replicate_succ, Array.replicate_zero, List.push_toArray, List.append_toArray, List.nil_append, List.cons_append]
  gi_wp2_with fail
  refine ⟨trivial, callsIn_wide.2 ((counted_any A n c _).mono ?_)⟩
  rintro e w2 ⟨rfl, hw2⟩
  have H2 : Hid (Lists w2 w.heap.size A L ∧ Below w.heap.size w w2 ∧ BlkIs w2 w.heap.size 22 #[.slice none 0 0] ∧ BlkIs w2 (w.heap.size + 1) 30 #[.slice A n c] ∧ w2.heap.size = w.heap.size + 2) := Lib.hid (by
    have hb : Below w.heap.size w w2 := by
      rw [hw2]
      exact H1.out.2.1.trans (((Below.refl _ _).alloc (Nat.le_refl _) _).mono (by omega))
    have hn := BlkIs.new (w.alloc (.cells #[.slice none 0 0] 22)) 30 #[.slice A n c]
    rw [hz1] at hn
    refine ⟨H1.out.1.below hb, hb, ?_⟩
    rw [hw2]
    exact ⟨H1.out.2.2.alloc _, hn, by rw [World.size_alloc, hz1]⟩)
  rw [hz1]
  clear H1 hw2 hz1
  try dsimp only
  have hz2 : w2.heap.size = w.heap.size + 2 := H2.out.2.2.2.2
  have SQ := Lib.hid (counted1_gives 8 (by omega) w2 (D := w.heap.size) (BlkIs.cell H2.out.2.2.2.1 0) hl H2.out.1.row (fun e he => H2.out.1.dat e he) (by omega) hN hn)
  gi_wp2_with fail
  refine range_named (fun a ha => ?_)
  have hag : a.eval (.tmp 6) = .func (.func 27) #[] #[.pointer (some ⟨w.heap.size + 1, 0, none⟩)] := by rw [ha]; rfl
  have hNG : (grp (srt (left L))).length ≤ 90000 := Nat.le_trans (grp_len _) hN
  refine range_w (by omega) (gf := 27) (lb := #[.pointer (some ⟨w.heap.size + 1, 0, none⟩)]) hag (enters_of Try.func27 (by kernel_rfl) rfl) SQ.out (Below.refl _ _) (fun _ => rfl)
    (fun pre Y => MI w w.heap.size (fun _ : Int × Nat => true) pre Y) (fun s A B h t => h.tk (by omega) (by omega) t) ⟨⟨_, H2.out.2.2.1, OwnI.nil _ _⟩, H2.out.2.1⟩ (fun x => { tmps := (((a.tmps.setIfInBounds 7 (.int .i64 x.1)).setIfInBounds 8 (.int .i64 x.2)).setIfInBounds 4 (.int .i64 x.1)), defers := [] }) ?assign ?body ?done
  case assign =>
    rintro l x W K hK
    have HK := Lib.hid hK
    clear hK hag SQ
    subst ha
    dsimp only [encN]
    gi_wp2_with fail
    have := HK.out
    simpa only [List.setIfInBounds_toArray, List.set_cons_succ, List.set_cons_zero] using this
  case body =>
    rintro l pre x Y hI hW hlen
    have hJ := hI
    obtain ⟨⟨v, hb, ho⟩, hbel⟩ := hI
    obtain ⟨A1, c1, rfl, h1, h2, _⟩ := ho.ints
    have hpl : ((pre.filter (fun _ : Int × Nat => true)).map Prod.fst).length ≤ 90000 := by
      rw [List.length_map]
      have := List.length_filter_le (fun _ : Int × Nat => true) pre
      omega
    have x0 := (BlkIs.cell hb 0).trans (rfl : _ = some (Value.slice A1 _ c1))
    have hb1 := hb.alloc (.cells #[.int .i64 x.1] 2)
    have HN1 := Lib.hid ((BlkIs.cell (BlkIs.new Y 2 #[.int .i64 x.1]) 0).trans (rfl : _ = some (Value.int .i64 x.1)))
    have HO1 := Lib.hid (ho.below ((Below.refl _ Y).alloc (Nat.le_refl _) (.cells #[.int .i64 x.1] 2)))
    have HI := Lib.hid hJ
    have HB := Lib.hid (And.intro hb ho)
    have HB1 := Lib.hid hb1
    skip
    skip
    have hW2 : w.heap.size ≤ (Y.alloc (.cells #[.int .i64 x.1] 2)).heap.size := by have := hbel.size; simp; omega
    clear hb hb1 ho hbel hJ h1 h2 hag SQ hlen
    subst ha
    simp only [List.setIfInBounds_toArray, List.set_cons_succ, List.set_cons_zero]
    generalize hpe : ((pre.filter (fun _ : Int × Nat => true)).map Prod.fst).length = pl at *
    gi_wp2_with (first
      | (refine lappS (Wide.round _ _ _) (.tmp 9) (.tmp 11) 22 2 Try.underlying22 info2 rfl (by decide) rfl rfl (v := .slice A1 pl c1) (N := w.heap.size) (n := pl) (xs := iv ((pre.filter (fun _ : Int × Nat => true)).map Prod.fst)) rfl (by have := HO1.out; unfold OwnI at this; rw [hpe] at this; exact this) (g := Y.heap.size) (c := 1) rfl HN1.out rfl (by omega) hW2 ?_; intro v2 Y2 ho2 hg2 hv2; obtain ⟨A2, c2, hve, _, _⟩ := own_slice ho2; subst hve; have hb2 := HB1.out.grown hg2 (fun e => blk_ne_own HB1.out HO1.out e rfl); have y2 := (BlkIs.cell hb2 0).trans (rfl : _ = some _); have f2 := BlkIs.froz hb2 0)
      | fail)
    have HR := HI.out.app (x := x) (W0 := w2.heap.size) (by omega) (by omega) rfl HB.out.1 HB.out.2 ((Below.refl _ Y).alloc (Nat.le_refl _) (.cells #[.int .i64 x.1] 2)) hg2 (by rw [hpe]; exact ho2) rfl
    exact HR
  case done =>
    rintro d xs Y hd hS hI hKd
    obtain ⟨⟨v, hb, ho⟩, hbel⟩ := hI
    have hS2 : xs = grp (srt (left L)) := hS
    subst hS2
    have x0 := (BlkIs.cell hb 0).trans (rfl : _ = some v)
    have HO := Lib.hid ho
    have HBL := Lib.hid hbel
    have hd2 : w.heap.size ≤ d := by omega
    clear hb ho hbel hag SQ hS
    subst ha
    gi_wp2_with fail
    refine ⟨by simp, .inl ⟨_, _, rfl, run_takeDeferred hKd, ?_⟩⟩
    have hpn : Below Y.heap.size Y Y := Below.refl _ _
    have tq : Tk (fun i o => i = d ∧ ¬ isI o) Y (Y.putObj d (.deferred none)) := ⟨rfl, rfl, rfl, by simp, fun i o hi hn => (World.putObj_heap_other (fun e => hn ⟨e, by
      subst e
      rw [hKd] at hi
      injection hi with hi
      rw [← hi]
      exact notI rfl⟩)).trans hi⟩
    have HR : Hid (OwnI (Y.putObj d (.deferred none)) w.heap.size v (((grp (srt (left L))).filter (fun _ : Int × Nat => true)).map Prod.fst) ∧ Below w.heap.size w (Y.putObj d (.deferred none))) := Lib.hid ⟨own_tk HO.out tq (fun g cs _ e => e.2 ⟨_, _, rfl⟩), HBL.out.trans (tq.below HBL.out.size (fun i o hi e => by omega))⟩
    clear tq hKd x0 hpn
    generalize Y.putObj d (.deferred none) = Z at *
    exact ⟨v, by simp [results, Try.results19, go_sem], v, rfl, by have := HR.out.1; rw [List.filter_eq_self.2 (fun _ _ => rfl)] at this; exact this, HR.out.2⟩
set_option maxHeartbeats 6400000 in
theorem those_any {w : World} {D n c : Nat} {A : Option Addr} {L : List E} (many : Int) (hl : L.length = n) (hA : Lists w D A L) (hD : D ≤ w.heap.size) (hN : (left L).length ≤ 90000) (hn : n ≤ 90000) :
    Calls Try.prog 23 #[.int .i64 many, .slice A n c] w (ResP w ((grp (srt (left L))).filter (fun x : Int × Nat => decide ((x.2 : Int) = many)) |>.map Prod.fst)) := by
  refine (callsIn_wide (n := 9)).1 ?_
  refine callsIn_of_wp_marks Try.func23 rfl trivial ?_ rfl
  have H1 : Hid (Lists w w.heap.size A L ∧ Below w.heap.size w ((w.alloc (.cells #[.int .i64 many] 3)).alloc (.cells #[.slice none 0 0] 22)) ∧ BlkIs ((w.alloc (.cells #[.int .i64 many] 3)).alloc (.cells #[.slice none 0 0] 22)) (w.heap.size + 1) 22 #[.slice none 0 0] ∧ BlkIs ((w.alloc (.cells #[.int .i64 many] 3)).alloc (.cells #[.slice none 0 0] 22)) w.heap.size 3 #[.int .i64 many]) := Lib.hid ⟨hA.more hD, ((Below.refl _ w).alloc (Nat.le_refl _) _).alloc (by simp) _, by have := BlkIs.new (w.alloc (.cells #[.int .i64 many] 3)) 22 #[.slice none 0 0]; rwa [World.size_alloc] at this, (BlkIs.new w _ _).alloc _⟩
  have hz1 : ((w.alloc (.cells #[.int .i64 many] 3)).alloc (.cells #[.slice none 0 0] 22)).heap.size = w.heap.size + 2 := by simp
  clear hA
  simp only [Try.ntmps23, List.size_toArray, List.length_cons, List.length_nil, Nat.reduceAdd, Nat.reduceSub, Array.replicate_succ, Array.replicate_zero, List.push_toArray, List.append_toArray, List.nil_append, List.cons_append]
  gi_wp2_with fail
  refine ⟨trivial, callsIn_wide.2 ((counted_any A n c _).mono ?_)⟩
  rintro e w2 ⟨rfl, hw2⟩
  have H2 : Hid (Lists w2 w.heap.size A L ∧ Below w.heap.size w w2 ∧ BlkIs w2 (w.heap.size + 1) 22 #[.slice none 0 0] ∧ BlkIs w2 (w.heap.size + 2) 30 #[.slice A n c] ∧ w2.heap.size = w.heap.size + 3 ∧ BlkIs w2 w.heap.size 3 #[.int .i64 many]) := Lib.hid (by
    have hb : Below w.heap.size w w2 := by
      rw [hw2]
      exact H1.out.2.1.trans (((Below.refl _ _).alloc (Nat.le_refl _) _).mono (by omega))
    have hn := BlkIs.new ((w.alloc (.cells #[.int .i64 many] 3)).alloc (.cells #[.slice none 0 0] 22)) 30 #[.slice A n c]
    rw [hz1] at hn
    refine ⟨H1.out.1.below hb, hb, ?_⟩
    rw [hw2]
    exact ⟨H1.out.2.2.1.alloc _, hn, by rw [World.size_alloc, hz1], H1.out.2.2.2.alloc _⟩)
  simp only [World.size_alloc]
  clear H1 hw2 hz1
  try dsimp only
  have hz2 : w2.heap.size = w.heap.size + 3 := H2.out.2.2.2.2.1
  have SQ := Lib.hid (counted1_gives 8 (by omega) w2 (D := w.heap.size) (BlkIs.cell H2.out.2.2.2.1 0) hl H2.out.1.row (fun e he => H2.out.1.dat e he) (by omega) hN hn)
  gi_wp2_with fail
  refine range_named (fun a ha => ?_)
  have hag : a.eval (.tmp 9) = .func (.func 27) #[] #[.pointer (some ⟨w.heap.size + 2, 0, none⟩)] := by rw [ha]; rfl
  have hNG : (grp (srt (left L))).length ≤ 90000 := Nat.le_trans (grp_len _) hN
  refine range_w (by omega) (gf := 27) (lb := #[.pointer (some ⟨w.heap.size + 2, 0, none⟩)]) hag (enters_of Try.func27 (by kernel_rfl) rfl) SQ.out (Below.refl _ _) (fun _ => rfl)
    (fun pre Y => MI w (w.heap.size + 1) (fun x : Int × Nat => decide ((x.2 : Int) = many)) pre Y ∧ BlkIs Y w.heap.size 3 #[.int .i64 many]) (fun s A B h t => ⟨h.1.tk (by omega) (by omega) t, t.blk h.2 (fun e => by have := e.1; omega)⟩) ⟨⟨⟨_, H2.out.2.2.1, OwnI.nil _ _⟩, H2.out.2.1⟩, H2.out.2.2.2.2.2⟩ (fun x => { tmps := ((((a.tmps.setIfInBounds 10 (.int .i64 x.1)).setIfInBounds 11 (.int .i64 x.2)).setIfInBounds 6 (.int .i64 x.1)).setIfInBounds 7 (.int .i64 x.2)), defers := [] }) ?assign ?body ?done
  case assign =>
    rintro l x W K hK
    have HK := Lib.hid hK
    clear hK hag SQ
    subst ha
    dsimp only [encN]
    gi_wp2_with fail
    have := HK.out
    simpa only [List.setIfInBounds_toArray, List.set_cons_succ, List.set_cons_zero] using this
  case body =>
    rintro l pre x Y hI hW hlen
    have hJ := hI
    obtain ⟨⟨v, hb, ho⟩, hbel⟩ := hI.1
    obtain ⟨A1, c1, rfl, h1, h2, _⟩ := ho.ints
    have hpl : ((pre.filter (fun x : Int × Nat => decide ((x.2 : Int) = many))).map Prod.fst).length ≤ 90000 := by
      rw [List.length_map]
      have := List.length_filter_le (fun x : Int × Nat => decide ((x.2 : Int) = many)) pre
      omega
    have x0 := (BlkIs.cell hb 0).trans (rfl : _ = some (Value.slice A1 _ c1))
    have hb1 := hb.alloc (.cells #[.int .i64 x.1] 2)
    have HN1 := Lib.hid ((BlkIs.cell (BlkIs.new Y 2 #[.int .i64 x.1]) 0).trans (rfl : _ = some (Value.int .i64 x.1)))
    have HO1 := Lib.hid (ho.below ((Below.refl _ Y).alloc (Nat.le_refl _) (.cells #[.int .i64 x.1] 2)))
    have HI := Lib.hid hJ.1
    have HB := Lib.hid (And.intro hb ho)
    have HB1 := Lib.hid hb1
    have HM := Lib.hid hJ.2
    have xm := (BlkIs.cell hJ.2 0).trans (rfl : _ = some (Value.int .i64 many))
    have hW2 : w.heap.size ≤ (Y.alloc (.cells #[.int .i64 x.1] 2)).heap.size := by have := hbel.size; simp; omega
    clear hb hb1 ho hbel hJ h1 h2 hag SQ hlen
    subst ha
    simp only [List.setIfInBounds_toArray, List.set_cons_succ, List.set_cons_zero]
    generalize hpe : ((pre.filter (fun x : Int × Nat => decide ((x.2 : Int) = many))).map Prod.fst).length = pl at *
    by_cases hq : (x.2 : Int) = many
    · have hqb : ((x.2 : Int) == many) = true := by simpa using hq
      gi_wp2_with (first
        | (refine lappS (Wide.round _ _ _) (.tmp 15) (.tmp 17) 22 2 Try.underlying22 info2 rfl (by decide) rfl rfl (v := .slice A1 pl c1) (N := w.heap.size) (n := pl) (xs := iv ((pre.filter (fun x : Int × Nat => decide ((x.2 : Int) = many))).map Prod.fst)) rfl (by have := HO1.out; unfold OwnI at this; rw [hpe] at this; exact this) (g := Y.heap.size) (c := 1) rfl HN1.out rfl (by omega) hW2 ?_; intro v2 Y2 ho2 hg2 hv2; obtain ⟨A2, c2, hve, _, _⟩ := own_slice ho2; subst hve; have hb2 := HB1.out.grown hg2 (fun e => blk_ne_own HB1.out HO1.out e rfl); have y2 := (BlkIs.cell hb2 0).trans (rfl : _ = some _); have f2 := BlkIs.froz hb2 0)
        | fail)
      have HR := HI.out.app (x := x) (W0 := w2.heap.size) (by omega) (by omega) (by simpa using hq) HB.out.1 HB.out.2 ((Below.refl _ Y).alloc (Nat.le_refl _) (.cells #[.int .i64 x.1] 2)) hg2 (by rw [hpe]; exact ho2) rfl
      exact ⟨HR.1, HR.2, ((HM.out.alloc _).grown hg2 (fun e => blk_row_ne (by decide) (HM.out.alloc _) HO1.out e rfl)).far (by show ¬ (w.heap.size = w.heap.size + 1); omega) _⟩
    · have hqb : ((x.2 : Int) == many) = false := by simpa using hq
      gi_wp2_with fail
      have HR := HI.out.skip (x := x) (W0 := w2.heap.size) (by simpa using hq)
      exact ⟨HR.1, HR.2, HM.out⟩
  case done =>
    rintro d xs Y hd hS hI hKd
    obtain ⟨⟨v, hb, ho⟩, hbel⟩ := hI.1
    have hS2 : xs = grp (srt (left L)) := hS
    subst hS2
    have x0 := (BlkIs.cell hb 0).trans (rfl : _ = some v)
    have HO := Lib.hid ho
    have HBL := Lib.hid hbel
    have hd2 : w.heap.size ≤ d := by omega
    clear hb ho hbel hag SQ hS
    subst ha
    gi_wp2_with fail
    refine ⟨by simp, .inl ⟨_, _, rfl, run_takeDeferred hKd, ?_⟩⟩
    have hpn : Below Y.heap.size Y Y := Below.refl _ _
    have tq : Tk (fun i o => i = d ∧ ¬ isI o) Y (Y.putObj d (.deferred none)) := ⟨rfl, rfl, rfl, by simp, fun i o hi hn => (World.putObj_heap_other (fun e => hn ⟨e, by
      subst e
      rw [hKd] at hi
      injection hi with hi
      rw [← hi]
      exact notI rfl⟩)).trans hi⟩
    have HR : Hid (OwnI (Y.putObj d (.deferred none)) w.heap.size v (((grp (srt (left L))).filter (fun x : Int × Nat => decide ((x.2 : Int) = many))).map Prod.fst) ∧ Below w.heap.size w (Y.putObj d (.deferred none))) := Lib.hid ⟨own_tk HO.out tq (fun g cs _ e => e.2 ⟨_, _, rfl⟩), HBL.out.trans (tq.below HBL.out.size (fun i o hi e => by omega))⟩
    clear tq hKd x0 hpn
    generalize Y.putObj d (.deferred none) = Z at *
    exact ⟨v, by simp [results, Try.results23, go_sem], v, rfl, HR.out.1, HR.out.2⟩
end Ps
end Go.Proofs.Ytkpolakdamiiiaa
