/- retain.Choose. Conditions: as stated at each. -/
import Derived.Test.YtokaifnpmhkkpaaRtCheck
import Derived.Test.YtokaifnpmhkkpaaRtThoseP
import Derived.Test.YtokaifnpmhkkpaaRtTx
import Derived.Test.YtokaifnpmhkkpaaRgKey
namespace Go.Proofs.Ytokaifnpmhkkpaa
set_option maxRecDepth 100000
namespace Rt
open Go.RowKit Go.Shelf Go Go.Proofs.Ytokaifnpmhkkpaa.Pa
attribute [local go_sem] Oper.semAt_some
/-- the domains that an envelope has. -/
def doms (fr : L) (to : List L) : List L := domOf fr :: to.map domOf
def fitB (S : List L) (r : R) : Bool := decide (r.1 ∈ S)
theorem fit_is (fr : L) (to : List L) (d : L) : fitS fr to d = decide (d ∈ doms fr to) := by
  unfold fitS doms
  rw [Bool.eq_iff_iff]
  simp only [Bool.or_eq_true, beq_iff_eq, List.any_eq_true, decide_eq_true_eq, List.mem_cons, List.mem_map]
  constructor
  · rintro (h | ⟨x, hx, h⟩)
    · exact .inl h.symm
    · exact .inr ⟨x, hx, h⟩
  · rintro (h | ⟨x, hx, h⟩)
    · exact .inl h.symm
    · exact .inr ⟨x, hx, h⟩
theorem choose_is (l : List C) (rs : List R) (fr : L) (to : List L) : chooseS l rs fr to = match (rs.filter (fitB (doms fr to))).head? with
    | some r => r.2
    | none => (l.getD 0 c0).1 := by
  unfold chooseS
  have e : (fun r : R => fitS fr to r.1) = fitB (doms fr to) := by
    funext r
    exact fit_is fr to r.1
  rw [e, List.head?_filter]
  cases rs.find? (fitB (doms fr to)) with
  | some r => rfl
  | none => cases l <;> rfl
theorem doms_take {fr : L} {to : List L} {j : Nat} (h : j < to.length) : doms fr (to.take (j + 1)) = doms fr (to.take j) ++ [domOf (to.getD j [])] := by
  unfold doms
  rw [List.take_succ_eq_append_getElem h, List.map_append, List.getD, List.getElem?_eq_getElem h]
  rfl
set_option maxHeartbeats 800000 in
theorem fits_any {w : World} {K g n m : Nat} {S : List L} (hK : BlkIs w K 47 #[.map (some g)]) (hm : MapN w g n m S) (r : R) (h1 : r.1.length ≤ 140737488355328) :
    Calls Try.prog 33 #[.agg #[.string (str r.1), .string (str r.2)], .pointer (some ⟨K, 0, none⟩)] w fun e w' => e = .returned (.bool (fitB S r)) ∧ Below w.heap.size w w' := by
  have hb := below_a w (.cells #[.string (str r.1), .string (str r.2)] 50)
  have HM := Lib.hid (has_any (hm.same (hb.block _ hm.lt)) r.1 h1)
  have hk := (BlkIs.cell ((hb.block _ hK.lt).trans hK) 0).trans (rfl : _ = some (Value.map (some g)))
  have hN := BlkIs.new w 50 #[.string (str r.1), .string (str r.2)]
  have hKl := hK.lt
  unfold fitB
  clear hm hK h1
  generalize str r.1 = s0 at *
  generalize str r.2 = s1 at *
  generalize decide (r.1 ∈ S) = q at *
  go_enter Try.func33, Try.ntmps33
  go_wp2_with fail
  refine HM.out.mono ?_
  rintro e w2 ⟨rfl, hb2⟩
  go_wp2_with fail
  go_ret
  exact ⟨rfl, hb.trans (hb2.mono hb.size)⟩
/-- while the domains are gathered. -/
structure CoI (w : World) (E : Array Value) (S : List L) (k m : Nat) (X : World) : Prop where
  env : BlkIs X w.heap.size 28 E
  res : BlkIs X (w.heap.size + 1) 9 #[.string ⟨#[]⟩]
  box : BlkIs X (w.heap.size + 1 + 1 + 1) 47 #[.map (some (w.heap.size + 1 + 1))]
  map : MapN X (w.heap.size + 1 + 1) k m S
  bel : Below w.heap.size w X
section
variable {w : World} {E : Array Value} {S : List L} {k m : Nat} {X Y : World}
theorem CoI.below (h : CoI w E S k m X) (hb : Below X.heap.size X Y) : CoI w E S k m Y :=
  ⟨(hb.block _ h.env.lt).trans h.env, (hb.block _ h.res.lt).trans h.res, (hb.block _ h.box.lt).trans h.box, h.map.same (hb.block _ h.map.lt), h.bel.trans (hb.mono h.bel.size)⟩
theorem CoI.next (h : CoI w E S k m X) {S' : List L} {k' m' : Nat} (hm : MapN Y (w.heap.size + 1 + 1) k' m' S') (hg : X.grownBy Y (some (w.heap.size + 1 + 1))) : CoI w E S' k' m' Y := by
  have hne : ∀ j, j ≠ w.heap.size + 1 + 1 → some j ≠ some (w.heap.size + 1 + 1) := fun j hj e => hj (Option.some.inj e)
  exact ⟨(hg.block _ h.env.lt (hne _ (by omega))).trans h.env, (hg.block _ h.res.lt (hne _ (by omega))).trans h.res, (hg.block _ h.box.lt (hne _ (by omega))).trans h.box, hm, h.bel.grown hg (by have := h.map.lt; omega) (fun j e => by have := Option.some.inj e; omega)⟩
end
theorem coi_start (w : World) (E : Array Value) : CoI w E [] 0 0 ((((w.alloc (.cells E 28)).alloc (.cells #[.string ⟨#[]⟩] 9)).alloc (.map #[] 0)).alloc (.cells #[.map (some (w.heap.size + 1 + 1))] 47)) := by
  have h1 := BlkIs.new w 28 E
  have h2 := BlkIs.new (w.alloc (.cells E 28)) 9 #[.string ⟨#[]⟩]
  have h3 := MapN.new ((w.alloc (.cells E 28)).alloc (.cells #[.string ⟨#[]⟩] 9))
  have h4 := BlkIs.new (((w.alloc (.cells E 28)).alloc (.cells #[.string ⟨#[]⟩] 9)).alloc (.map #[] 0)) 47 #[.map (some (w.heap.size + 1 + 1))]
  simp only [World.size_alloc] at h2 h3 h4
  refine ⟨((h1.alloc _).alloc _).alloc _, (h2.alloc _).alloc _, h4, h3.same (Below.heap_alloc _ _ _ (by simp)), (((below_a w _).alloc (by simp) _).alloc (by simp; omega) _).alloc (by simp; omega) _⟩
def ChooseP (w : World) (l : List C) (rs : List R) (fr : L) (to : List L) (e : Ending) (w' : World) : Prop := e = .returned (.string (str (chooseS l rs fr to))) ∧ Below w.heap.size w w'
theorem ret_t {a b : ByteArray} (h : a = b) : Ending.returned (.string a) = .returned (.string b) := by rw [h]
/-- between two rounds of Choose's second loop: none has been; and behind one. -/
def CjI (w : World) (N : Nat) {P : R → Prop} (pre : List { r : R // P r }) (X : World) : Prop := pre = [] ∧ N ≤ X.heap.size ∧ BlkIs X (w.heap.size + 1) 9 #[.string ⟨#[]⟩] ∧ Below w.heap.size w X
def CjX (w : World) {P : R → Prop} (c : Code) (pre : List { r : R // P r }) (X : World) : Prop := c = .ret ∧ ∃ r, pre = [r] ∧ BlkIs X (w.heap.size + 1) 9 #[.string (str r.1.2)] ∧ Below w.heap.size w X
/-- a round's variable. -/
def CjA (w : World) (T : Array Value) {P : R → Prop} (x : { r : R // P r }) (a' : Act) (X : World) : Prop := ∃ b, a' = { tmps := (T.setIfInBounds 34 (.agg #[.string (str x.1.1), .string (str x.1.2)])).setIfInBounds 11 (.pointer (some ⟨b, 0, none⟩)), defers := [] } ∧ BlkIs X b 50 #[.string (str x.1.1), .string (str x.1.2)] ∧ w.heap.size + 1 < b
theorem cjI_own {w : World} {P : R → Prop} {N M : Nat} (hN : w.heap.size + 1 < N) : OwnFrom N (CjI w M (P := P)) := by
  rintro xs X X' row ⟨h1, h0, h2, h3⟩ hg hr
  exact ⟨h1, Nat.le_trans h0 hg.size, h2.grown hg (fun e => by have := (hr _ e).1; omega), h3.grown hg (by have := h2.lt; omega) (fun k e => by have := (hr k e).1; omega)⟩
theorem cjX_own {w : World} {P : R → Prop} {N : Nat} (hN : w.heap.size + 1 < N) (c : Code) : OwnFrom N (CjX w (P := P) c) := by
  rintro xs X X' row ⟨h1, r, h0, h2, h3⟩ hg hr
  exact ⟨h1, r, h0, h2.grown hg (fun e => by have := (hr _ e).1; omega), h3.grown hg (by have := h2.lt; omega) (fun k e => by have := (hr k e).1; omega)⟩
theorem cjA_own {w : World} {T : Array Value} {P : R → Prop} {N : Nat} (x : { r : R // P r }) (a' : Act) : OwnFrom N (fun (_ : Unit) X => CjA w T x a' X) := by
  rintro _ X X' row ⟨b, h1, h2, h3⟩ hg hr
  refine ⟨b, h1, h2.grown hg (fun e => ?_), h3⟩
  obtain ⟨_, o, ho, hc⟩ := hr b e
  unfold BlkIs at h2
  rw [h2] at ho
  injection ho with ho
  rw [← ho] at hc
  cases hc
theorem keeps_b {B : Nat} {X X' : World} (h : Below X.heap.size X X') : KeepsFrom B X X' :=
  ⟨h.size, fun k _ _ hk _ => (h.block k (Array.getElem?_eq_some_iff.1 hk).1).trans hk⟩
set_option maxHeartbeats 1600000 in
theorem choose_in {w0 : World} {B : Nat} {A A2 T : Option Addr} {l : List C} {rs : List R} {fr : L} {to : List L} (h : Prs w0 B A (cvC l)) (hr : Prs w0 B A2 (cvR rs)) (ht : Tx w0 B T to) (hB : B ≤ w0.heap.size) (n c n2 c2 tn tc : Nat) (at' : Int) (hn : l.length = n) (hn2 : rs.length = n2) (htn : to.length = tn) (hb1 : n ≤ 1000) (hb2 : n2 ≤ 1000) (hb3 : tn ≤ 1000) (hok : OkC l) (hor : OkR rs) (hfr : fr.length ≤ 140737488355328) (hto : ∀ k, (to.getD k []).length ≤ 140737488355328) :
    CallsIn Fence.wide 9 Try.prog 15 #[.slice A n c, .slice A2 n2 c2, .agg #[.string (str fr), .slice T tn tc, .int .i64 at']] w0 (ChooseP w0 l rs fr to) := by
  refine callsIn_of_wp_marks Try.func15 rfl trivial ?_ rfl
  have HN := Lib.hid (And.intro hn (And.intro hn2 htn))
  have H1 := Lib.hid h
  have H2 := Lib.hid hr
  have HT := Lib.hid ht
  have HO := Lib.hid (And.intro hok (And.intro hor (And.intro hfr hto)))
  have HCS := Lib.hid (choose_is l rs fr to)
  have HST := Lib.hid (coi_start w0 #[.string (str fr), .slice T tn tc, .int .i64 at'])
  have hmm := @run_makeMap Try.prog
  clear h hr ht hn hn2 htn hok hor hfr hto
  simp only [Try.ntmps15, List.size_toArray, List.length_cons, List.length_nil, Nat.reduceAdd, Nat.reduceSub, Array.replicate_succ, Array.replicate_zero, List.push_toArray, List.append_toArray, List.nil_append, List.cons_append]
  generalize hsf : str fr = sf at *
  have HSF := Lib.hid hsf
  clear hsf
  gi_wp2_with fail
  generalize (((w0.alloc (.cells #[.string sf, .slice T tn tc, .int .i64 at'] 28)).alloc (.cells #[.string ⟨#[]⟩] 9)).alloc (.map #[] 0)).alloc (.cells #[.map (some (w0.heap.size + 1 + 1))] 47) = w1 at *
  have HST1 : Hid (CoI w0 #[.string sf, .slice T tn tc, .int .i64 at'] [] 0 0 w1.drew) := Lib.hid (HST.out.below (Below.refl _ w1).drew)
  clear HST hmm
  have hq := HST1.out
  refine regionIn_held_drew (S := (fun Y => BlkIs Y w0.heap.size 28 #[.string sf, .slice T tn tc, .int .i64 at'] ∧ BlkIs Y (w0.heap.size + 1 + 1 + 1) 47 #[.map (some (w0.heap.size + 1 + 1))])) (Wide.wide _ _) (by kernel_rfl) (by kernel_rfl) (⟨hq.env, hq.box⟩) (fun hHeld => ?_)
  generalize w1.drew = w2 at *
  refine wpAnyH_take (i := 0) (v := .map (some (w0.heap.size + 1 + 1))) rfl (by kernel_rfl) (by kernel_rfl) (by kernel_rfl) (fun _ _ _ h => h) (Or.inl ⟨by rfl, fun w hS => by (have x0 := (BlkIs.cell hS.2 0).trans (rfl : _ = some (Value.map (some (w0.heap.size + 1 + 1)))); first | (go_simp; done) | (go_simp; with_reducible rfl))⟩) hHeld ?_
  try simp only [Act.put, List.getElem_toArray, List.getElem_cons_zero, List.setIfInBounds_toArray, List.set_cons_zero, List.set_cons_succ]
  refine wpAnyH_take (i := 1) (v := .pointer (some ⟨w0.heap.size, 0, none⟩)) rfl (by kernel_rfl) (by kernel_rfl) (by kernel_rfl) (fun _ _ _ h => h) (Or.inl ⟨by rfl, fun w hS => by first | (go_simp; done) | (go_simp; with_reducible rfl)⟩) hHeld ?_
  try simp only [Act.put, List.getElem_toArray, List.getElem_cons_zero, List.getElem_cons_succ, List.setIfInBounds_toArray, List.set_cons_zero, List.set_cons_succ]
  refine wpAnyH_take (i := 2) (v := .string sf) rfl (by kernel_rfl) (by kernel_rfl) (by kernel_rfl) (fun _ _ _ h => h) (Or.inl ⟨by rfl, fun w hS => by (have x0 := (BlkIs.cell hS.1 0).trans (rfl : _ = some (Value.string sf)); first | (go_simp; done) | (go_simp; with_reducible rfl))⟩) hHeld ?_
  try simp only [Act.put, List.getElem_toArray, List.getElem_cons_zero, List.getElem_cons_succ, List.setIfInBounds_toArray, List.set_cons_zero, List.set_cons_succ]
  rw [← HSF.out] at *
  refine wpAnyH_ready (rs := [3]) (by kernel_rfl) (by simp) ?_
  refine AllReadyH.cons rfl (fun K hK => ?_) AllReadyH.nil
  go_simp
  go_wp2_with ((first | (refine (dmn_any fr _ HO.out.2.2.1).mono ?_; rintro e w3 ⟨rfl, hb4⟩) | fail))
  refine hK.out _ _ ?_ (fun hHeld => ?_)
  · exact ⟨(hb4.block _ hq.env.lt).trans hq.env, (hb4.block _ hq.box.lt).trans hq.box⟩
  clear hK K
  try simp only [Act.put, List.getElem_toArray, List.getElem_cons_zero, List.getElem_cons_succ, List.setIfInBounds_toArray, List.set_cons_zero, List.set_cons_succ]
  have hq3 := hq.below hb4
  clear hq hb4 hHeld
  have hHeld : BlkIs w3 w0.heap.size 28 #[.string (str fr), .slice T tn tc, .int .i64 at'] ∧ BlkIs w3 (w0.heap.size + 1 + 1 + 1) 47 #[.map (some (w0.heap.size + 1 + 1))] := ⟨hq3.env, hq3.box⟩
  have hdl : (domOf fr).length ≤ 140737488355328 := Nat.le_trans (domOf_len fr) HO.out.2.2.1
  refine wpAnyH_ready (rs := [4]) (by kernel_rfl) (by simp) ?_
  refine AllReadyH.cons rfl (fun K hK => ?_) AllReadyH.nil
  go_simp
  go_wp2_with ((first | (refine (add_any hq3.map (domOf fr) hdl (by omega)).mono ?_; rintro e w4 ⟨rfl, hm4, hg4⟩; have hq4 := hq3.next hm4 hg4) | fail))
  refine hK.out _ _ ?_ (fun hHeld => ?_)
  · exact ⟨hq4.env, hq4.box⟩
  clear hK K
  try simp only [Act.put, List.getElem_toArray, List.getElem_cons_zero, List.getElem_cons_succ, List.setIfInBounds_toArray, List.set_cons_zero, List.set_cons_succ]
  refine wpAnyH_done (by kernel_rfl) (NormalAt.mk ?_) _
  have HI1 : Hid (∃ m, CoI w0 #[.string (str fr), .slice T tn tc, .int .i64 at'] (doms fr (to.take 0)) 1 m w4) := Lib.hid ⟨_, hq4⟩
  have x1 := (BlkIs.cell hq4.env 1).trans (rfl : _ = some (Value.slice T tn tc))
  clear hq3 hm4 hg4 hq4 hHeld hdl
  gi_wp2_with fail
  gi_loopw [9, 21] (fun _ i wr => ∃ j : Nat, j ≤ tn ∧ i = .int .i64 j ∧ Hid (∃ m, CoI w0 #[.string (str fr), .slice T tn tc, .int .i64 at'] (doms fr (to.take j)) (j + 1) m wr)) (fun _ i _ => tn - (intOf i).toNat)
  case atStart => exact ⟨0, Nat.zero_le _, rfl, HI1⟩
  case round =>
    obtain ⟨j, hj, rfl, HI⟩ := hrel
    by_cases hlt : j < tn
    · obtain ⟨ga, oa, rfl, hga, hall⟩ := HT.out.els j (by rw [HN.out.2.2]; exact hlt)
      obtain ⟨m, hq⟩ := HI.out
      have y0 := hall wr (hq.bel.mono hB)
      have HTL := Lib.hid (HO.out.2.2.2 j)
      have HDT := Lib.hid (doms_take (fr := fr) (to := to) (j := j) (by rw [HN.out.2.2]; exact hlt))
      have HQ := Lib.hid hq
      clear hall hq HI x1
      generalize to.getD j [] = tj at *
      gi_wp2_with fail
      have HQ1 : Hid (CoI w0 #[.string (str fr), .slice (some ⟨ga, oa, none⟩) tn tc, .int .i64 at'] (doms fr (to.take j)) (j + 1) m wr.drew) := Lib.hid (HQ.out.below (Below.refl _ wr).drew)
      have hq := HQ1.out
      refine regionIn_held_drew (S := (fun Y => BlkIs Y (w0.heap.size + 1 + 1 + 1) 47 #[.map (some (w0.heap.size + 1 + 1))])) (Wide.wide _ _) (by kernel_rfl) (by kernel_rfl) (hq.box) (fun hHeld => ?_)
      generalize wr.drew = w5 at *
      refine wpAnyH_take (i := 0) (v := .map (some (w0.heap.size + 1 + 1))) rfl (by kernel_rfl) (by kernel_rfl) (by kernel_rfl) (fun _ _ _ h => h) (Or.inl ⟨by rfl, fun w hS => by (have x0 := (BlkIs.cell hS 0).trans (rfl : _ = some (Value.map (some (w0.heap.size + 1 + 1)))); first | (go_simp; done) | (go_simp; with_reducible rfl))⟩) hHeld ?_
      try simp only [Act.put, List.getElem_toArray, List.getElem_cons_zero, List.setIfInBounds_toArray, List.set_cons_zero, List.set_cons_succ]
      refine wpAnyH_take (i := 1) (v := .string (str tj)) rfl (by kernel_rfl) (by kernel_rfl) (by kernel_rfl) (fun _ _ _ h => h) (Or.inl ⟨by rfl, fun w hS => by first | (go_simp; done) | (go_simp; with_reducible rfl)⟩) hHeld ?_
      try simp only [Act.put, List.getElem_toArray, List.getElem_cons_zero, List.getElem_cons_succ, List.setIfInBounds_toArray, List.set_cons_zero, List.set_cons_succ]
      refine wpAnyH_ready (rs := [2]) (by kernel_rfl) (by simp) ?_
      refine AllReadyH.cons rfl (fun K hK => ?_) AllReadyH.nil
      go_simp
      go_wp2_with ((first | (refine (dmn_any tj _ HTL.out).mono ?_; rintro e w6 ⟨rfl, hb6⟩) | fail))
      refine hK.out _ _ ?_ (fun hHeld => ?_)
      · exact (hb6.block _ hq.box.lt).trans hq.box
      clear hK K
      try simp only [Act.put, List.getElem_toArray, List.getElem_cons_zero, List.getElem_cons_succ, List.setIfInBounds_toArray, List.set_cons_zero, List.set_cons_succ]
      have hq6 := hq.below hb6
      clear hq hb6 hHeld
      have hHeld : BlkIs w6 (w0.heap.size + 1 + 1 + 1) 47 #[.map (some (w0.heap.size + 1 + 1))] := hq6.box
      have hdl : (domOf tj).length ≤ 140737488355328 := Nat.le_trans (domOf_len tj) HTL.out
      refine wpAnyH_ready (rs := [3]) (by kernel_rfl) (by simp) ?_
      refine AllReadyH.cons rfl (fun K hK => ?_) AllReadyH.nil
      go_simp
      go_wp2_with ((first | (refine (add_any hq6.map (domOf tj) hdl (by omega)).mono ?_; rintro e w7 ⟨rfl, hm7, hg7⟩; have hq7 := hq6.next hm7 hg7) | fail))
      refine hK.out _ _ ?_ (fun hHeld => ?_)
      · exact hq7.box
      clear hK K
      try simp only [Act.put, List.getElem_toArray, List.getElem_cons_zero, List.getElem_cons_succ, List.setIfInBounds_toArray, List.set_cons_zero, List.set_cons_succ]
      refine wpAnyH_done (by kernel_rfl) (NormalAt.mk ?_) _
      have HI7 : Hid (∃ m, CoI w0 #[.string (str fr), .slice (some ⟨ga, oa, none⟩) tn tc, .int .i64 at'] (doms fr (to.take (j + 1))) (j + 1 + 1) m w7) := Lib.hid ⟨_, by rw [HDT.out]; exact hq7⟩
      clear hq6 hm7 hg7 hq7 hHeld hdl HQ HQ1
      gi_wp2_with fail
      go_roundw
      case rel => exact ⟨j + 1, by omega, by go_num, HI7⟩
      case measure => first | (simp [intOf]; done) | (simp [intOf]; omega)
    · have hjn : j = tn := by omega
      subst hjn
      obtain ⟨m, hq⟩ := HI.out
      rw [show to.take j = to by rw [← HN.out.2.2, List.take_length]] at hq
      have HQ := Lib.hid hq
      clear hq HI x1 HI1
      gi_wp2_with fail
      refine ⟨trivial, ?_⟩
      refine (callsIn_wide.2 (those_any A2 n2 c2 33 (w0.heap.size + 1 + 1 + 1) wr)).mono ?_
      rintro e w4 ⟨rfl, hw4⟩
      have hbw4 : Below wr.heap.size wr w4 := by rw [hw4]; exact ((Below.refl _ wr).alloc (Nat.le_refl _) _).alloc (by simp) _
      have hz4 : w4.heap.size = wr.heap.size + 2 := by rw [hw4]; simp
      have hV4 : w4.heap[wr.heap.size]? = some (.cells #[.slice A2 n2 c2] 23 (0, 0)) := by
        rw [hw4]
        exact (Below.heap_alloc _ _ _ (by simp)).trans (heap_alloc_new wr _)
      have hU4 : w4.heap[wr.heap.size + 1]? = some (.cells #[.func (.func 33) #[] #[.pointer (some ⟨w0.heap.size + 1 + 1 + 1, 0, none⟩)]] 52 (0, 0)) := by
        rw [hw4]
        have := heap_alloc_new (wr.alloc (.cells #[.slice A2 n2 c2] 23)) (.cells #[.func (.func 33) #[] #[.pointer (some ⟨w0.heap.size + 1 + 1 + 1, 0, none⟩)]] 52)
        rwa [World.size_alloc] at this
      clear hw4
      have HI4 := Lib.hid (HQ.out.below hbw4)
      gi_wp2_with fail
      have hsq := those_stopsP (fun r => r.1.length ≤ 140737488355328 ∧ r.2.length ≤ 140737488355328) 8 (by omega) w4 wr.heap.size (wr.heap.size + 1) (w0.heap.size + 1 + 1 + 1) w4.heap.size c2 A2 rs 33 (fitB (doms fr to)) (by rw [HN.out.2.1]; exact hV4) hU4 (Nat.le_refl _) (by omega) (by omega)
        ((H2.out.below (HI4.out.bel.mono hB)).more (by have := HI4.out.bel.size; omega)) (by rw [HN.out.2.1]; omega) (fun k => HO.out.2.1.at_ k) (enters_of Try.func33 (by kernel_rfl) rfl)
        (fun j _ X hX => fits_any ((hX.block _ HI4.out.box.lt).trans HI4.out.box) (HI4.out.map.same (hX.block _ HI4.out.map.lt)) (rs.getD j r0) (HO.out.2.1.at_ j).1)
      have HSQ := Lib.hid hsq
      have HZ4 := Lib.hid hz4
      have hlw : w0.heap.size + 1 + 1 + 1 < wr.heap.size := HQ.out.box.lt
      clear hsq hz4 hV4 hU4 hbw4 HQ
      refine range_named (fun a ha => ?_)
      have ha33 : a.eval (.tmp 33) = .func (.func 37) #[] #[.pointer (some ⟨wr.heap.size, 0, none⟩), .pointer (some ⟨wr.heap.size + 1, 0, none⟩)] := by rw [ha]; rfl
      refine wpIn_rangeFunc_ownH rfl (by omega) (gf := 37) (lb := #[.pointer (some ⟨wr.heap.size, 0, none⟩), .pointer (some ⟨wr.heap.size + 1, 0, none⟩)]) ha33 trivial (enters_of Try.func37 (by kernel_rfl) rfl)
        HSQ.out belowK_t (belowK_b (by omega)) (Below.refl _ _) (fun _ => rfl)
        (CjI w0 w4.heap.size) (CjX w0) (cjI_own (by have := HZ4.out; omega)) (fun c => cjX_own (by have := HZ4.out; omega) c) ⟨rfl, Nat.le_refl _, HI4.out.res, HI4.out.bel⟩
        (CjA w0 a.tmps) (fun x a' => cjA_own x a') ?assign ?body ?done ?stop
      case assign =>
        rintro lp pre ⟨x, hx⟩ X K' ⟨h1, hN', h2, h3⟩ hK'
        dsimp only [encRs, encRu]
        have HK := Lib.hid hK'
        have HA := Lib.hid (And.intro (keeps_b (B := w4.heap.size) (below_a X (.cells #[.string (str x.1), .string (str x.2)] 50))) (And.intro ((below_a X (.cells #[.string (str x.1), .string (str x.2)] 50)).mono hN') (And.intro (show CjI w0 w4.heap.size pre (X.alloc (.cells #[.string (str x.1), .string (str x.2)] 50)) from ⟨h1, by simp; omega, h2.alloc _, h3.alloc (by have := h2.lt; omega) _⟩) (BlkIs.new X 50 #[.string (str x.1), .string (str x.2)]))))
        have hbl : w0.heap.size + 1 < X.heap.size := by have := h2.lt; omega
        clear hK' h1 h2 h3 ha33 HSQ
        subst ha
        gi_wp2_with fail
        refine HK.out _ _ HA.out.1 HA.out.2.1 HA.out.2.2.1 ⟨X.heap.size, ?_, HA.out.2.2.2, hbl⟩
        simp only [List.setIfInBounds_toArray, List.set_cons_succ, List.set_cons_zero]
      case body =>
        rintro lp pre ⟨x, hx⟩ a' X hlp hlr ⟨h1, hN', h2, h3⟩ ⟨b, rfl, hbk, hbl⟩ hlen
        have z0 := (BlkIs.cell hbk 0).trans (rfl : _ = some (Value.string (str x.1)))
        have z1 := (BlkIs.cell hbk 1).trans (rfl : _ = some (Value.string (str x.2)))
        have hbX := hbk.lt
        have HQ := Lib.hid h2
        have HBB := Lib.hid h3
        have HP := Lib.hid h1
        have HCL := Lib.hid (fun X => clone_s x.2 X hx.2)
        clear h1 h2 h3 hbk hlen ha33 HSQ
        subst ha
        simp only [List.setIfInBounds_toArray, List.set_cons_succ, List.set_cons_zero]
        gi_wp2_with fail
        refine ⟨trivial, CallsIn.inRound lp (callsIn_wide.2 ((HCL.out _).mono ?_))⟩
        rintro e X2 ⟨rfl, hb2⟩
        have hq2 : BlkIs X2 (w0.heap.size + 1) 9 #[.string ⟨#[]⟩] := (hb2.block _ HQ.out.lt).trans HQ.out
        have x0 := (BlkIs.cell hq2 0).trans (rfl : _ = some (Value.string ⟨#[]⟩))
        have f0 := BlkIs.froz hq2 0
        have HQ2 := Lib.hid (hq2.put 0 (.string (str x.2)))
        have HB2 := Lib.hid ((HBB.out.trans (hb2.mono HBB.out.size)).setCell (p := ⟨w0.heap.size + 1, 0, none⟩) (by show w0.heap.size ≤ w0.heap.size + 1; omega) (.string (str x.2)))
        have HK2 := Lib.hid (keeps_b (B := w4.heap.size) hb2)
        clear hb2 hq2 z0 z1
        gi_wp2_with fail
        exact ⟨HK2.out.trans ((KeepsOthers.setCell _ _ _).from _), rfl, ⟨x, hx⟩, by rw [HP.out]; rfl, HQ2.out, HB2.out⟩
      case done =>
        rintro D xs X hD hS ⟨h1, hN', h2, h3⟩ hKd
        have HF : Hid (chooseS l rs fr to = (l.getD 0 c0).1) := Lib.hid (by rw [HCS.out, ← hS, h1]; rfl)
        have hDX : D < X.heap.size := (Array.getElem?_eq_some_iff.1 hKd).1
        have hDl : w0.heap.size + 1 < D := by have := HZ4.out; omega
        have HQ := Lib.hid h2
        have HBB := Lib.hid h3
        have HKD := Lib.hid hKd
        clear hS h1 h2 h3 hKd ha33 HSQ
        subst ha
        by_cases hn0 : n = 0
        · have HE : Hid ((l.getD 0 c0).1 = []) := Lib.hid (by rw [List.eq_nil_of_length_eq_zero (HN.out.1.trans hn0)]; rfl)
          have x0 := (BlkIs.cell HQ.out 0).trans (rfl : _ = some (Value.string ⟨#[]⟩))
          have f0 := BlkIs.froz HQ.out 0
          have hK2 : (X.setCell ⟨w0.heap.size + 1, 0, none⟩ (.string ⟨#[]⟩)).heap[D]? = some (.deferred (some [])) := (KeepsOthers.setCell _ _ _).same D _ HKD.out rfl
          have hb2 : Below w0.heap.size w0 (X.setCell ⟨w0.heap.size + 1, 0, none⟩ (.string ⟨#[]⟩)) := HBB.out.setCell (p := ⟨w0.heap.size + 1, 0, none⟩) (by show w0.heap.size ≤ w0.heap.size + 1; omega) _
          have B2 := (HQ.out.put 0 (.string ⟨#[]⟩)).grown (grownBy_putObj' _ D (.deferred none)) (by intro e; injection e with e; omega)
          have hb3' : Below w0.heap.size w0 ((X.setCell ⟨w0.heap.size + 1, 0, none⟩ (.string ⟨#[]⟩)).putObj D (.deferred none)) := hb2.grown (grownBy_putObj' _ D (.deferred none)) (by have := hb2.size; omega) (fun k e => by injection e with e; omega)
          have c3 : ((X.setCell ⟨w0.heap.size + 1, 0, none⟩ (.string ⟨#[]⟩)).putObj D (.deferred none)).cell? ⟨w0.heap.size + 1, 0, none⟩ = some (.string ⟨#[]⟩) := BlkIs.cell B2 0
          clear B2 hb2
          subst hn0
          gi_wp2_with fail
          refine ⟨by simp, .inl ⟨_, _, rfl, run_takeDeferred hK2, ?_⟩⟩
          generalize (X.setCell ⟨w0.heap.size + 1, 0, none⟩ (.string ⟨#[]⟩)).putObj D (.deferred none) = Z at *
          exact ⟨.string ⟨#[]⟩, by simp [results, Try.results15, go_sem, c3], ret_t (by rw [HF.out, HE.out]; rfl), hb3'⟩
        · have hn0' : ((n : Int) == 0) = false := by rw [beq_eq_false_iff_ne]; omega
          obtain ⟨ga, oa, rfl, hga, hall⟩ := cls_of H1.out 0 (by rw [HN.out.1]; omega)
          obtain ⟨y0, y1⟩ := hall X (HBB.out.mono hB)
          rw [Nat.zero_mul, Nat.add_zero] at y0
          have HCL := Lib.hid (fun X => clone_s (l.getD 0 c0).1 X (HO.out.1.at_ 0).1)
          have hnpos : 0 < n := by omega
          clear hall y1
          generalize hnm : (l.getD 0 c0).1 = nm at *
          gi_wp2_with fail
          refine ⟨trivial, ?_⟩
          refine (callsIn_wide.2 (HCL.out _)).mono ?_
          rintro e X2 ⟨rfl, hbc⟩
          have hq2 : BlkIs X2 (w0.heap.size + 1) 9 #[.string ⟨#[]⟩] := (hbc.block _ HQ.out.lt).trans HQ.out
          have hbw := HBB.out.trans (hbc.mono HBB.out.size)
          have hKd2 : X2.heap[D]? = some (.deferred (some [])) := (hbc.block D hDX).trans HKD.out
          have x0 := (BlkIs.cell hq2 0).trans (rfl : _ = some (Value.string ⟨#[]⟩))
          have f0 := BlkIs.froz hq2 0
          have hK2 : (X2.setCell ⟨w0.heap.size + 1, 0, none⟩ (.string (str nm))).heap[D]? = some (.deferred (some [])) := (KeepsOthers.setCell _ _ _).same D _ hKd2 rfl
          have hb2 : Below w0.heap.size w0 (X2.setCell ⟨w0.heap.size + 1, 0, none⟩ (.string (str nm))) := hbw.setCell (p := ⟨w0.heap.size + 1, 0, none⟩) (by show w0.heap.size ≤ w0.heap.size + 1; omega) _
          have B2 := (hq2.put 0 (.string (str nm))).grown (grownBy_putObj' _ D (.deferred none)) (by intro e; injection e with e; omega)
          have hb3' : Below w0.heap.size w0 ((X2.setCell ⟨w0.heap.size + 1, 0, none⟩ (.string (str nm))).putObj D (.deferred none)) := hb2.grown (grownBy_putObj' _ D (.deferred none)) (by have := hb2.size; omega) (fun k e => by injection e with e; omega)
          have c3 : ((X2.setCell ⟨w0.heap.size + 1, 0, none⟩ (.string (str nm))).putObj D (.deferred none)).cell? ⟨w0.heap.size + 1, 0, none⟩ = some (.string (str nm)) := BlkIs.cell B2 0
          clear B2 hb2 hq2 hbw hbc hKd2 y0
          gi_wp2_with fail
          refine ⟨by simp, .inl ⟨_, _, rfl, run_takeDeferred hK2, ?_⟩⟩
          generalize (X2.setCell ⟨w0.heap.size + 1, 0, none⟩ (.string (str nm))).putObj D (.deferred none) = Z at *
          exact ⟨.string (str nm), by simp [results, Try.results15, go_sem, c3], by rw [HF.out], hb3'⟩
      case stop =>
        rintro D c pre X hD hSp ⟨rfl, r, h0, h2, h3⟩ hKd
        have HA : Hid (chooseS l rs fr to = r.1.2) := Lib.hid (by
          obtain ⟨t, ht⟩ := hSp
          rw [HCS.out, ← ht, h0]; rfl)
        have hDX : D < X.heap.size := (Array.getElem?_eq_some_iff.1 hKd).1
        have hDl : w0.heap.size + 1 < D := by have := HZ4.out; omega
        have B2 := h2.grown (grownBy_putObj' _ D (.deferred none)) (by intro e; injection e with e; omega)
        have hb3' : Below w0.heap.size w0 (X.putObj D (.deferred none)) := h3.grown (grownBy_putObj' _ D (.deferred none)) (by have := h3.size; omega) (fun k e => by injection e with e; omega)
        have c3 : (X.putObj D (.deferred none)).cell? ⟨w0.heap.size + 1, 0, none⟩ = some (.string (str r.1.2)) := BlkIs.cell B2 0
        clear hSp h0 h2 h3 ha33 HSQ B2
        subst ha
        gi_wp2
        refine ⟨by simp, .inl ⟨_, _, rfl, run_takeDeferred hKd, ?_⟩⟩
        generalize X.putObj D (.deferred none) = Z at *
        exact ⟨.string (str r.1.2), by simp [results, Try.results15, go_sem, c3], by rw [HA.out], hb3'⟩
end Rt
end Go.Proofs.Ytokaifnpmhkkpaa
