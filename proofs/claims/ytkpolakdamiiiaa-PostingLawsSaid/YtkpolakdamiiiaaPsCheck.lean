/- posting.Check; the document's Both. Conditions: as stated at each. -/
import Derived.Test.YtkpolakdamiiiaaPsApi
namespace Go.Proofs.Ytkpolakdamiiiaa
set_option maxRecDepth 100000
namespace Ps
open Go.RowKit Go
attribute [local go_sem] Oper.semAt_some
theorem rns_one (l : List Int) : ∀ (k : Nat) (x : Nat × Nat), rns l k = [x] → x.1 = 0
  | 0, x, h => by simp [rns] at h
  | k + 1, x, h => by
    rw [rns_succ] at h
    split at h
    · have h1 : rns l k = [] := by
        rcases hr : rns l k with _ | ⟨a, b⟩
        · rfl
        · rw [hr] at h; simp at h
      rw [h1] at h
      have h2 : (beg l k, k + 1) = x := by simpa using h
      rw [← h2]
      exact beg_zero l k h1
    · exact rns_one l k x h
/-- the first piece is all just if it rises. -/
theorem first_is {l : List Int} {x : Nat × Nat} (h : IsRun l x) (h0 : x.1 = 0) : (x.2 = l.length) ↔ Up l := by
  constructor
  · intro h1
    have := h.up
    unfold cutL at this
    rw [h0, h1, List.drop_zero, Nat.sub_zero, List.take_length] at this
    exact this
  · intro hu
    rcases h.stop with e | e
    · exact e
    · refine Classical.byContradiction fun hne => ?_
      have h1 := h.le
      have h2 := h.lt
      have := not_up (l := l) (k := x.2 - 1) (by omega) (by rw [show x.2 - 1 + 1 = x.2 by omega]; exact e)
      exact this hu
/-- between Check's rounds: none has been; and behind one. -/
def ChI (w : World) (n c : Nat) (A : Option Addr) (l : List Int) (pre : List { x : Nat × Nat // IsRun l x }) (X : World) : Prop := pre = [] ∧ BlkIs X (w.heap.size + 1) 4 #[.bool false] ∧ BlkIs X w.heap.size 22 #[.slice A n c] ∧ Below w.heap.size w X
def ChX (w : World) (n : Nat) (l : List Int) (c : Code) (pre : List { x : Nat × Nat // IsRun l x }) (X : World) : Prop := c = .ret ∧ ∃ x, pre = [x] ∧ BlkIs X (w.heap.size + 1) 4 #[.bool (((x.1.2 - x.1.1 : Nat) : Int) == (n : Int))] ∧ Below w.heap.size w X
theorem chI_own {w : World} {N n c : Nat} {A : Option Addr} {l : List Int} (hN : w.heap.size + 1 < N) : OwnFrom N (ChI w n c A l) := by
  rintro xs X X' row ⟨h1, h2, h3, h4⟩ hg hr
  exact ⟨h1, h2.grown hg (fun e => by have := (hr _ e).1; omega), h3.grown hg (fun e => by have := (hr _ e).1; omega), h4.grown hg (by have := h2.lt; omega) (fun k e => by have := (hr k e).1; omega)⟩
theorem chX_own {w : World} {N n : Nat} {l : List Int} (hN : w.heap.size + 1 < N) (c : Code) : OwnFrom N (ChX w n l c) := by
  rintro xs X X' row ⟨h1, x, h0, h2, h3⟩ hg hr
  exact ⟨h1, x, h0, h2.grown hg (fun e => by have := (hr _ e).1; omega), h3.grown hg (by have := h2.lt; omega) (fun k e => by have := (hr k e).1; omega)⟩
def ChA (T : Array Value) {l : List Int} (A : Option Addr) (c : Nat) (x : { x : Nat × Nat // IsRun l x }) (a' : Act) (_ : World) : Prop := a' = { tmps := (T.setIfInBounds 6 (runE A c l x.1).val).setIfInBounds 3 (runE A c l x.1).val, defers := [] }
set_option maxHeartbeats 6400000 in
theorem check_any {w : World} {v : Value} {l : List Int} (h : Ar w v l) (hn : l.length ≤ 1000000) :
    Calls Try.prog 10 #[v] w fun e w' => (∃ b : Bool, e = .returned (.bool b) ∧ (b = true ↔ Up l)) ∧ Below w.heap.size w w' := by
  obtain ⟨A, c, rfl, h1, h2, h3⟩ := h
  obtain ⟨n, hnl⟩ : ∃ n, l.length = n := ⟨_, rfl⟩
  rw [hnl] at h2 hn ⊢
  refine (callsIn_wide (n := 9)).1 ?_
  refine callsIn_of_wp_marks Try.func10 rfl trivial ?_ rfl
  have H1 : Hid (Below w.heap.size w ((w.alloc (.cells #[.slice A n c] 22)).alloc (.cells #[.bool false] 4)) ∧ BlkIs ((w.alloc (.cells #[.slice A n c] 22)).alloc (.cells #[.bool false] 4)) (w.heap.size + 1) 4 #[.bool false] ∧ BlkIs ((w.alloc (.cells #[.slice A n c] 22)).alloc (.cells #[.bool false] 4)) w.heap.size 22 #[.slice A n c]) := Lib.hid
    ⟨((Below.refl _ w).alloc (Nat.le_refl _) _).alloc (by simp) _, by have := BlkIs.new (w.alloc (.cells #[.slice A n c] 22)) 4 #[.bool false]; rwa [World.size_alloc] at this, (BlkIs.new w _ _).alloc _⟩
  have hz1 : ((w.alloc (.cells #[.slice A n c] 22)).alloc (.cells #[.bool false] 4)).heap.size = w.heap.size + 2 := by simp
  simp only [Try.ntmps10, List.size_toArray, List.length_cons, List.length_nil, Nat.reduceAdd, Nat.reduceSub, Array.replicate_succ, Array.replicate_zero, List.push_toArray, List.append_toArray, List.nil_append, List.cons_append]
  have c0 := (BlkIs.cell H1.out.2.2 0).trans (rfl : _ = some (Value.slice A n c))
  gi_wp2_with fail
  refine ⟨trivial, callsIn_wide.2 ((runs_any A n c _).mono ?_)⟩
  rintro e w2 ⟨rfl, hw2⟩
  have H2 : Hid (Below w.heap.size w w2 ∧ BlkIs w2 (w.heap.size + 1) 4 #[.bool false] ∧ BlkIs w2 w.heap.size 22 #[.slice A n c] ∧ BlkIs w2 (w.heap.size + 2) 22 #[.slice A n c]) := Lib.hid (by
    have hb : Below w.heap.size w w2 := by
      rw [hw2]
      exact H1.out.1.trans (((Below.refl _ _).alloc (Nat.le_refl _) _).mono (by omega))
    have hn := BlkIs.new ((w.alloc (.cells #[.slice A n c] 22)).alloc (.cells #[.bool false] 4)) 22 #[.slice A n c]
    rw [hz1] at hn
    refine ⟨hb, ?_⟩
    rw [hw2]
    exact ⟨H1.out.2.1.alloc _, H1.out.2.2.alloc _, hn⟩)
  have hz2 : w2.heap.size = w.heap.size + 3 := by rw [hw2, World.size_alloc, hz1]
  simp only [World.size_alloc]
  have SQ := Lib.hid (runs1_stops 8 (by omega) w2 (D := w.heap.size) (V := w.heap.size + 2) (BlkIs.cell H2.out.2.2.2 0) hnl h2 h3 (h1.below H2.out.1) (by rw [show w2.heap[w.heap.size + 2]? = _ from H2.out.2.2.2]; rfl))
  have HL := Lib.hid hnl
  clear H1 hw2 hz1 c0 h1
  try dsimp only
  gi_wp2_with fail
  refine range_named (fun a ha => ?_)
  have hag : a.eval (.tmp 5) = .func (.func 26) #[] #[.pointer (some ⟨w.heap.size + 2, 0, none⟩)] := by rw [ha]; rfl
  refine wpIn_rangeFunc_ownH rfl (by omega) (gf := 26) (lb := #[.pointer (some ⟨w.heap.size + 2, 0, none⟩)]) hag trivial (enters_of Try.func26 (by kernel_rfl) rfl)
    SQ.out vq_t vq_b (Below.refl _ _) (fun _ => rfl) (ChI w n c A l) (ChX w n l) (chI_own (by omega)) (chX_own (by omega)) ⟨rfl, H2.out.2.1, H2.out.2.2.1, H2.out.1⟩ (ChA a.tmps A c) (fun x a' _ _ _ _ h _ _ => h) ?assign ?body ?done ?stop
  case assign =>
    rintro lq pre x Y K' h1 hK'
    have HKK := Lib.hid hK'
    have H1 := Lib.hid h1
    clear hK' h1 hag SQ
    subst ha
    dsimp only
    obtain ⟨va, nn, cc, hv⟩ : ∃ a' n' c', (runE A c l x.1).val = .slice a' n' c' := ⟨_, _, _, rfl⟩
    unfold ChA at HKK
    rw [hv] at HKK ⊢
    gi_wp2_with fail
    refine HKK.out _ _ (KeepsFrom.refl _ _) (Tk.refl _ _) H1.out ?_
    simp only [List.setIfInBounds_toArray, List.set_cons_succ, List.set_cons_zero]
  case body =>
    rintro lq pre x a' Y hlq hlr ⟨h1, hy1, hy2, hy3⟩ h2 hlen
    have hcut : (runE A c l x.1).val = .slice (A.map (·.add x.1.1)) (x.1.2 - x.1.1) (c - x.1.1) := by
      unfold runE E.val cutL
      rw [List.length_take, List.length_drop]
      have := x.2.le
      have := x.2.lt
      congr 1
      omega
    have x0 := (BlkIs.cell hy2 0).trans (rfl : _ = some (Value.slice A n c))
    have y0 := (BlkIs.cell hy1 0).trans (rfl : _ = some (Value.bool false))
    have f0 := BlkIs.froz hy1 0
    unfold ChA at h2
    rw [hcut] at h2
    have HB := Lib.hid (And.intro hy1 (And.intro hy2 hy3))
    obtain ⟨va, hva⟩ : ∃ q, A.map (·.add x.1.1) = q := ⟨_, rfl⟩
    obtain ⟨nn, hnn⟩ : ∃ q, x.1.2 - x.1.1 = q := ⟨_, rfl⟩
    obtain ⟨cc, hcc⟩ : ∃ q, c - x.1.1 = q := ⟨_, rfl⟩
    rw [hva, hnn, hcc] at h2
    have HNN := Lib.hid hnn
    clear hy1 hy2 hy3 hag SQ hlen hcut hva hnn hcc
    subst h2
    subst ha
    simp only [List.setIfInBounds_toArray, List.set_cons_succ, List.set_cons_zero]
    gi_wp2_with fail
    refine ⟨(KeepsOthers.setCell _ _ _).from _, rfl, x, by rw [h1]; rfl, ?_, ?_⟩
    · rw [HNN.out]
      exact HB.out.1.put 0 _
    · exact HB.out.2.2.setCell (by show w.heap.size ≤ w.heap.size + 1; omega) _
  case done =>
    rintro D xs X hD hS ⟨h1, hy1, hy2, hy3⟩ hKd
    have HU : Hid (Up l) := Lib.hid (by
      have h5 : rns l n = [] := by rw [← hS, h1]; rfl
      have h6 := beg_zero l n h5
      rw [← HL.out, beg_end] at h6
      rw [List.eq_nil_of_length_eq_zero h6]
      exact List.Pairwise.nil)
    have y0 := (BlkIs.cell hy1 0).trans (rfl : _ = some (Value.bool false))
    have f0 := BlkIs.froz hy1 0
    have hK2 : (X.setCell ⟨w.heap.size + 1, 0, none⟩ (.bool true)).heap[D]? = some (.deferred (some [])) := (KeepsOthers.setCell _ _ _).same D _ hKd rfl
    have hb2 : Below w.heap.size w (X.setCell ⟨w.heap.size + 1, 0, none⟩ (.bool true)) := hy3.setCell (by show w.heap.size ≤ w.heap.size + 1; omega) _
    have B2 := (hy1.put 0 (.bool true)).grown (grownBy_putObj' _ D (.deferred none)) (by intro e; injection e with e; omega)
    have hb3 : Below w.heap.size w ((X.setCell ⟨w.heap.size + 1, 0, none⟩ (.bool true)).putObj D (.deferred none)) := hb2.grown (grownBy_putObj' _ D (.deferred none)) (by have := hb2.size; omega) (fun k e => by injection e with e; omega)
    have c3 : ((X.setCell ⟨w.heap.size + 1, 0, none⟩ (.bool true)).putObj D (.deferred none)).cell? ⟨w.heap.size + 1, 0, none⟩ = some (.bool true) := BlkIs.cell B2 0
    clear hS h1 hy1 hy2 hy3 hag SQ B2 hb2
    subst ha
    gi_wp2_with fail
    refine ⟨by simp, .inl ⟨_, _, rfl, run_takeDeferred hK2, ?_⟩⟩
    generalize (X.setCell ⟨w.heap.size + 1, 0, none⟩ (.bool true)).putObj D (.deferred none) = Z at *
    exact ⟨.bool true, by simp [results, Try.results10, go_sem, c3], ⟨true, rfl, fun _ => HU.out, fun _ => rfl⟩, hb3⟩
  case stop =>
    rintro D cc pre X hD hSp ⟨rfl, x, rfl, hy1, hy3⟩ hKd
    have HA : Hid ((((x.1.2 - x.1.1 : Nat) : Int) == (n : Int)) = true ↔ Up l) := Lib.hid (by
      obtain ⟨k, _, hk⟩ := hSp
      have h0 := rns_one l k x.1 hk.symm
      rw [← first_is x.2 h0, HL.out, h0, beq_iff_eq]
      omega)
    obtain ⟨b, hb⟩ : ∃ b, (((x.1.2 - x.1.1 : Nat) : Int) == (n : Int)) = b := ⟨_, rfl⟩
    rw [hb] at HA hy1
    have B2 := hy1.grown (grownBy_putObj' _ D (.deferred none)) (by intro e; injection e with e; omega)
    have hb3 : Below w.heap.size w (X.putObj D (.deferred none)) := hy3.grown (grownBy_putObj' _ D (.deferred none)) (by have := hy3.size; omega) (fun k e => by injection e with e; omega)
    have c3 : (X.putObj D (.deferred none)).cell? ⟨w.heap.size + 1, 0, none⟩ = some (.bool b) := BlkIs.cell B2 0
    clear hSp hy1 hy3 hag SQ B2 hb
    subst ha
    gi_wp2_with fail
    refine ⟨by simp, .inl ⟨_, _, rfl, run_takeDeferred hKd, ?_⟩⟩
    generalize X.putObj D (.deferred none) = Z at *
    exact ⟨.bool b, by simp [results, Try.results10, go_sem, c3], ⟨b, rfl, HA.out⟩, hb3⟩
theorem lapp1 {w : World} {ops : Array Oper} {rest : List Oper} {o : Oper} {a : Act} {Q : Exit → Act → World → Prop} (s x : Operand) (t e : TypeId) {z : Value} {bytes : Nat} (ht : Try.prog.underlying t = some (.slice e)) (hI : (Try.prog.info? e).map (fun i => (i.zero, i.size, i.bytes)) = some (some z, 1, bytes)) (hz : z.cells.size = 1) (hby : bytes ≤ 24)
    (ho : o.op = .call { callee := .builtin .append, args := #[s, x], argTypes := #[t, t] }) (hgd : o.guard = none)
    {N n : Nat} {v : Value} {xs : List Value} (hs : a.eval s = v) (hown : w.ownsRow N e 1 v n xs) {g c : Nat} {u : Value} (hx : a.eval x = .slice (some ⟨g, 0, none⟩) 1 c) (hu : w.cell? ⟨g, 0, none⟩ = some u) (h1 : u.oneCell' = true) (h63 : n ≤ 1000000) (hN : N ≤ w.heap.size)
    (h : ∀ v' w', w'.ownsRow N e 1 v' (n + 1) (xs ++ [u]) → w.grownBy w' v.ownBlock → wpList Try.prog ops Q rest (a.put o.dst v') w') : wpList Try.prog ops Q (o :: rest) a w := by
  refine wpList_plain hgd fun _ hK => ?_
  obtain ⟨v', w', hrun, h2, h3, _⟩ := run_one w o.type t e ht hI hz hby hown hu h1 h63 hN (c := c)
  unfold Oper.wp execOp
  simp only [ho, resolve, invoke, builtin, Sem.run_bind, Sem.run_pure, Result.andThen_ok, List.map_toArray, List.map_cons, List.map_nil, hs, hx, hrun]
  exact hK _ _ (h v' w' h2 h3)
/-- what both have, or just one. -/
def bothS (a b : List Int) (q : Bool) : List Int := (ofS a).filter fun x => decide (x ∈ b) == q
theorem both_facts (a b : List Int) (q : Bool) : Up (bothS a b q) ∧ (∀ x, x ∈ bothS a b q ↔ x ∈ a ∧ (decide (x ∈ b) == q) = true) ∧ (bothS a b q).length ≤ a.length := by
  obtain ⟨h1, h2, h3⟩ := ofS_facts a
  exact ⟨h1.sublist List.filter_sublist, fun x => by unfold bothS; rw [List.mem_filter, h2], Nat.le_trans (List.length_filter_le _ _) h3⟩
set_option maxHeartbeats 3200000 in
theorem both_any {w : World} {v1 v2 : Value} {a b : List Int} (q : Bool) (h : Ar w v1 a) (h' : Ar w v2 b) (hna : a.length ≤ 90000) (hnb : b.length ≤ 90000) :
    Calls Try.prog 16 #[v1, v2, .bool q] w (ResQ w (fun x => x ∈ a ∧ (decide (x ∈ b) == q) = true) a.length) := by
  obtain ⟨A, c, rfl, h1, h2, h3⟩ := h
  obtain ⟨A', c', rfl, k1, k2, k3⟩ := h'
  obtain ⟨m, hml⟩ : ∃ n, b.length = n := ⟨_, rfl⟩
  have HC := Lib.hid (rof_any (c := c) h1 (Nat.le_refl _) a.length rfl (by omega))
  have HIB := Lib.hid (fun X (hX : Below w.heap.size w X) => (k1.below hX : Ints X w.heap.size A' b))
  have HML := Lib.hid hml
  have HF := Lib.hid (both_facts a b q)
  obtain ⟨f1, f2, f3⟩ := ofS_facts a
  have HFA := Lib.hid (And.intro f1 (And.intro f2 f3))
  rw [hml]
  rw [hml] at hnb
  unfold ResP at HC
  unfold ResQ
  clear h1 h2 h3 k1 k2 k3 hml f1 f2 f3
  unfold bothS at HF
  generalize ofS a = r at *
  generalize a.length = n at *
  go_enter Try.func16, Try.ntmps16
  go_wp2_with fail
  refine HC.out.mono ?_
  rintro e w1 ⟨u1, rfl, ho1, hb1⟩
  obtain ⟨A1, c1, rfl, g1, g2, g3⟩ := ho1.ints
  have HI1 := Lib.hid (fun X (hX : Below w1.heap.size w1 X) => (g3.below hX : Ints X w1.heap.size A1 r))
  have HB1 := Lib.hid hb1
  obtain ⟨k0, hk0⟩ : ∃ q, r.length = q := ⟨_, rfl⟩
  have HK0 := Lib.hid hk0
  have hk0n : k0 ≤ n := by rw [← hk0]; exact HFA.out.2.2
  rw [hk0] at g1 ⊢
  unfold maxLen at g2
  clear HC ho1 hb1 g3 hk0
  dsimp only
  go_wp2_with fail
  go_loopw [7, 9, 13] (fun x _ z wr => ∃ k : Nat, z = .int .i64 k ∧ k ≤ k0 ∧ Hid (OwnI wr w1.heap.size x ((r.take k).filter fun x => decide (x ∈ b) == q)) ∧ Hid (Below w1.heap.size w1 wr)) (fun _ _ z _ => k0 - (intOf z).toNat)
  case atStart => exact ⟨0, rfl, Nat.zero_le _, Lib.hid (OwnI.nil _ _), Lib.hid (Below.refl _ _)⟩
  case round =>
    obtain ⟨k, rfl, hk, HO, HBE⟩ := hrel
    by_cases hlt : k < k0
    · obtain ⟨ad, rfl, _, ck⟩ := (HI1.out wr HBE.out).at_ (k := k) (by rw [HK0.out]; exact hlt)
      have hbw : Below w.heap.size w wr := HB1.out.trans (HBE.out.mono HB1.out.size)
      have HHAS := Lib.hid (rhas_any (c := c') HML.out (HIB.out wr hbw) (r.getD k 0) (by omega))
      have hsn : ∀ Q : Int → Bool, (r.take (k + 1)).filter Q = (r.take k).filter Q ++ (if Q (r.getD k 0) = true then [r.getD k 0] else []) := fun Q => by
        have hkr : k < r.length := by rw [HK0.out]; exact hlt
        rw [List.take_succ_eq_append_getElem hkr, List.filter_append]
        congr 1
        rw [show r.getD k 0 = r[k] by simp [List.getD, hkr]]
        by_cases hq : Q r[k] = true <;> simp [hq]
      have HSN := Lib.hid (hsn (fun x => decide (x ∈ b) == q))
      have hpl : ((r.take k).filter fun x => decide (x ∈ b) == q).length ≤ 90000 := by
        have h5 := List.length_filter_le (fun x => decide (x ∈ b) == q) (r.take k)
        have h6 : (r.take k).length ≤ k := by rw [List.length_take]; omega
        omega
      generalize hy : r.getD k 0 = y at *
      obtain ⟨A5, c5, rfl, h15, h25, _⟩ := HO.out.ints
      have hWz : w1.heap.size ≤ (wr.alloc (.cells #[.int .i64 y] 2)).heap.size := by have := HBE.out.size; simp; omega
      have HN1 := Lib.hid ((BlkIs.cell (BlkIs.new wr 2 #[.int .i64 y]) 0).trans (rfl : _ = some (Value.int .i64 y)))
      have HO1 := Lib.hid (HO.out.below ((Below.refl _ wr).alloc (Nat.le_refl _) (.cells #[.int .i64 y] 2)))
      have HBA : Hid (Below wr.heap.size wr (wr.alloc (.cells #[.int .i64 y] 2))) := Lib.hid ((Below.refl _ wr).alloc (Nat.le_refl _) _)
      generalize hfl : (r.take k).filter (fun x => decide (x ∈ b) == q) = fl at *
      generalize hpn : fl.length = pl at *
      have HPN := Lib.hid hpn
      clear hsn hfl hy hpn h15 h25
      by_cases hq : decide (y ∈ b) = q
      · rw [if_pos (by simpa using hq)] at HSN
        rw [hq] at HHAS
        go_wp2_with (first
          | (refine HHAS.out.mono ?_; rintro e wq ⟨rfl, rfl⟩)
          | (refine lapp1 (.tmp 22) (.tmp 24) 22 2 Try.underlying22 info2 rfl (by decide) rfl rfl (v := .slice A5 pl c5) (N := w1.heap.size) (n := pl) (xs := iv fl) rfl (by have := HO1.out; unfold OwnI at this; rw [HPN.out] at this; exact this) (g := wr.heap.size) (c := 1) rfl HN1.out rfl (by omega) hWz ?_; intro v2 w2 ho2 hg2)
          | fail)
        have HR2 : Hid (OwnI w2 w1.heap.size v2 (fl ++ [y]) ∧ Below w1.heap.size w1 w2) := Lib.hid ⟨by unfold OwnI; rw [List.length_append, HPN.out, iv_append]; exact ho2, (HBE.out.trans (HBA.out.mono HBE.out.size)).grown hg2 hWz (fun g hg => (own_low HO1.out g hg).1)⟩
        clear ho2 hg2
        go_wp2_with fail
        go_roundw
        case rel => exact ⟨k + 1, by go_num, by omega, Lib.hid (by rw [HSN.out]; exact HR2.out.1), Lib.hid HR2.out.2⟩
        case measure => first | (simp [intOf]; done) | (simp [intOf]; omega)
      · have hqb : (decide (y ∈ b) == q) = false := by simpa using hq
        rw [if_neg (by simpa using hq), List.append_nil] at HSN
        generalize decide (y ∈ b) = bb at *
        go_wp2_with (first | (refine HHAS.out.mono ?_; rintro e wq ⟨rfl, rfl⟩) | fail)
        try dsimp only
        go_wp2_with fail
        go_roundw
        case rel => exact ⟨k + 1, by go_num, by omega, Lib.hid (by rw [HSN.out]; exact HO.out), HBE⟩
        case measure => first | (simp [intOf]; done) | (simp [intOf]; omega)
    · obtain rfl : k = k0 := by omega
      have HE : Hid (r.take k = r) := Lib.hid (by rw [← HK0.out, List.take_length])
      obtain ⟨Ax, cx, rfl, _, _, _⟩ := HO.out.ints
      go_wp2_with fail
      go_ret
      exact ⟨_, _, rfl, HO.out.more HB1.out.size, HB1.out.trans (HBE.out.mono HB1.out.size), by rw [HE.out]; exact HF.out.1, by rw [HE.out]; exact HF.out.2.1, by rw [HE.out]; exact HF.out.2.2⟩
end Ps
end Go.Proofs.Ytkpolakdamiiiaa
