/- retain.Check. Conditions: as stated at each. -/
import Derived.Test.YtokaifnpmhkkpaaRtUnfit
namespace Go.Proofs.Ytokaifnpmhkkpaa
set_option maxRecDepth 100000
namespace Rt
open Go.RowKit Go.Shelf Go Go.Proofs.Ytokaifnpmhkkpaa.Pa
attribute [local go_sem] Oper.semAt_some
theorem range_named {F : Fence} {n : Nat} {P : Program} {g : Operand} {ps : Array Tmp} {assign body : Code} {Q : Exit → Act → World → Prop} {T : Array Value} {w : World} (h : ∀ a : Act, a = { tmps := T, defers := [] } → (Code.rangeFunc g ps assign body).wpIn F n P Q a w) : (Code.rangeFunc g ps assign body).wpIn F n P Q { tmps := T, defers := [] } w := h _ rfl
/-- between two rounds of Check's second loop: none has been; and behind one. -/
def CkI (w : World) (pre : List R) (X : World) : Prop := pre = [] ∧ BlkIs X w.heap.size 29 #[.int .i64 0] ∧ Below w.heap.size w X
def CkX (w : World) (c : Code) (pre : List R) (X : World) : Prop := c = .ret ∧ pre ≠ [] ∧ BlkIs X w.heap.size 29 #[.int .i64 130] ∧ Below w.heap.size w X
theorem ckI_own {w : World} {N : Nat} (hN : w.heap.size < N) : OwnFrom N (CkI w) := by
  rintro xs X X' row ⟨h1, h2, h3⟩ hg hr
  exact ⟨h1, h2.grown hg (fun e => by have := (hr _ e).1; omega), h3.grown hg (by have := h2.lt; omega) (fun k e => by have := (hr k e).1; omega)⟩
theorem ckX_own {w : World} {N : Nat} (hN : w.heap.size < N) (c : Code) : OwnFrom N (CkX w c) := by
  rintro xs X X' row ⟨h1, h0, h2, h3⟩ hg hr
  exact ⟨h1, h0, h2.grown hg (fun e => by have := (hr _ e).1; omega), h3.grown hg (by have := h2.lt; omega) (fun k e => by have := (hr k e).1; omega)⟩
def OkR (l : List R) : Prop := ∀ r ∈ l, r.1.length ≤ 140737488355328 ∧ r.2.length ≤ 140737488355328
theorem OkR.at_ {l : List R} (h : OkR l) (k : Nat) : (l.getD k r0).1.length ≤ 140737488355328 ∧ (l.getD k r0).2.length ≤ 140737488355328 := by
  rcases Nat.lt_or_ge k l.length with hk | hk
  · exact h _ (by simp [List.getD, hk])
  · rw [show l.getD k r0 = r0 by simp [List.getD, List.getElem?_eq_none hk]]
    exact ⟨by simp [r0], by simp [r0]⟩
def errC (b : Bool) : Int := if b then 0 else 130
/-- Check's answer, as the program reckons it. -/
theorem check_is (l : List C) (rs : List R) : checkS l rs = (decide (1 ≤ l.length ∧ l.length ≤ 100 ∧ rs.length ≤ 100) && (!(l.any unfitS) && decide (nms l).Nodup && ((rs.filter (wrongS (nms l))).isEmpty))) := by
  unfold checkS
  rw [cls_is, Bool.and_assoc]
  congr 2
  rw [Bool.eq_iff_iff, List.isEmpty_iff, List.filter_eq_nil_iff, List.all_eq_true]
  have he : ∀ r, wrongS (nms l) r = !(ruleS l r) := fun r => by
    rw [rule_is]
    unfold wrongS foldedS
    cases decide (r.2 ∈ nms l) <;> cases domS r.1 <;> cases (domOf (64 :: r.1) == r.1) <;> rfl
  constructor
  · intro h r hr hw
    rw [he, h r hr] at hw
    cases hw
  · intro h r hr
    have := h r hr
    rw [he] at this
    simpa using this
/-- between two classes: the map of names in block g, its box behind it, the result's cell. -/
structure ChI (w : World) (g : Nat) (l : List C) (k m : Nat) (X : World) : Prop where
  res : BlkIs X w.heap.size 29 #[.int .i64 0]
  box : BlkIs X (g + 1) 47 #[.map (some g)]
  map : MapN X g k m (nms (l.take k))
  le : m ≤ k
  iff : m = k ↔ (nms (l.take k)).Nodup
  bel : Below w.heap.size w X
  lt : w.heap.size < g
section
variable {w : World} {g k m : Nat} {l : List C} {X Y : World}
theorem ChI.below (h : ChI w g l k m X) (hb : Below X.heap.size X Y) : ChI w g l k m Y :=
  ⟨(hb.block _ h.res.lt).trans h.res, (hb.block _ h.box.lt).trans h.box, h.map.same (hb.block _ h.map.lt), h.le, h.iff, h.bel.trans (hb.mono h.bel.size), h.lt⟩
theorem ChI.next (h : ChI w g l k m X) (hk : k < l.length) (hm : MapN Y g (k + 1) (nxt (nms (l.take k)) (l.getD k c0).1 m) (nms (l.take k) ++ [(l.getD k c0).1])) (hg : X.grownBy Y (some g)) : ChI w g l (k + 1) (nxt (nms (l.take k)) (l.getD k c0).1 m) Y := by
  have hne : ∀ j, j ≠ g → some j ≠ some g := fun j hj e => hj (Option.some.inj e)
  have hl : (nms (l.take k)).length = k := by simp [nms]; omega
  have hc := count_step (S := nms (l.take k)) (s := (l.getD k c0).1) (m := m) (by rw [hl]; exact h.le) (by rw [hl]; exact h.iff)
  have hl2 : (nms (l.take k) ++ [(l.getD k c0).1]).length = k + 1 := by rw [List.length_append, hl]; rfl
  rw [hl2] at hc
  rw [← nms_take_succ hk] at hm hc
  refine ⟨(hg.block _ h.res.lt (hne _ (by have := h.lt; omega))).trans h.res, (hg.block _ h.box.lt (hne _ (by omega))).trans h.box, hm, hc.1, hc.2, h.bel.grown hg (by have := h.lt; have := h.map.lt; omega) (fun j e => by have := Option.some.inj e; have := h.lt; omega), h.lt⟩
end
theorem chi_start {w w2 : World} {l : List C} (hq : BlkIs w2 w.heap.size 29 #[.int .i64 0]) (hb : Below w.heap.size w w2) : ChI w w2.heap.size l 0 0 ((w2.alloc (.map #[] 0)).alloc (.cells #[.map (some w2.heap.size)] 47)) := by
  have hz : (w2.alloc (.map #[] 0)).heap.size = w2.heap.size + 1 := by simp
  have hn := BlkIs.new (w2.alloc (.map #[] 0)) 47 #[.map (some w2.heap.size)]
  rw [hz] at hn
  refine ⟨(hq.alloc _).alloc _, hn, (MapN.new w2).same (Below.heap_alloc _ _ _ (by omega)), Nat.le_refl _, by simp [nms], (hb.alloc hb.size _).alloc (by have := hb.size; omega) _, hq.lt⟩
def CheckP (w : World) (l : List C) (rs : List R) (e : Ending) (w' : World) : Prop := e = .returned (.int .i64 (errC (checkS l rs))) ∧ Below w.heap.size w w'
set_option maxHeartbeats 1600000 in
theorem check_in {w : World} {B : Nat} {A A2 : Option Addr} {l : List C} {rs : List R} (h : Prs w B A (cvC l)) (hr : Prs w B A2 (cvR rs)) (hB : B ≤ w.heap.size) (n c n2 c2 : Nat) (hn : l.length = n) (hn2 : rs.length = n2) (hok : OkC l) (hor : OkR rs) :
    CallsIn Fence.wide 9 Try.prog 11 #[.slice A n c, .slice A2 n2 c2] w (CheckP w l rs) := by
  refine callsIn_of_wp_marks Try.func11 rfl trivial ?_ rfl
  have HCI := Lib.hid (check_is l rs)
  have HN := Lib.hid (And.intro hn hn2)
  have hb1 := below_a w (.cells #[.int .i64 0] 29)
  have hq1 := BlkIs.new w 29 #[.int .i64 0]
  have hz1 : (w.alloc (.cells #[.int .i64 0] 29)).heap.size = w.heap.size + 1 := by simp
  simp only [Try.ntmps11, List.size_toArray, List.length_cons, List.length_nil, Nat.reduceAdd, Nat.reduceSub, Array.replicate_succ, Array.replicate_zero, List.push_toArray, List.append_toArray, List.nil_append, List.cons_append]
  have H1 := Lib.hid h
  have H2 := Lib.hid hr
  have HO := Lib.hid (And.intro hok hor)
  clear h hr hn hn2 hok hor
  by_cases g1 : n = 0
  · have HR : Hid (130 = errC (checkS l rs)) := Lib.hid (by rw [HCI.out, decide_eq_false (by rw [HN.out.1]; omega)]; rfl)
    subst g1
    gi_wp2_with fail
    refine ⟨trivial, ?_⟩
    gi_wp2_with fail
    have hq := BlkIs.new w 29 #[.int .i64 130]
    have hb := below_a w (.cells #[.int .i64 130] 29)
    generalize w.alloc (.cells #[.int .i64 130] 29) = w2 at *
    have c3 := hq.cell 0
    exact ⟨.int .i64 130, by simp [results, Try.results11, go_sem, c3], by rw [HR.out], hb⟩
  · have g1' : ((n : Int) == 0) = false := by rw [beq_eq_false_iff_ne]; omega
    by_cases g2 : 100 < n
    · have HR : Hid (130 = errC (checkS l rs)) := Lib.hid (by rw [HCI.out, decide_eq_false (by rw [HN.out.1]; omega)]; rfl)
      gi_wp2_with fail
      refine ⟨trivial, ?_⟩
      gi_wp2_with fail
      have hq := BlkIs.new w 29 #[.int .i64 130]
      have hb := below_a w (.cells #[.int .i64 130] 29)
      generalize w.alloc (.cells #[.int .i64 130] 29) = w2 at *
      have c3 := hq.cell 0
      exact ⟨.int .i64 130, by simp [results, Try.results11, go_sem, c3], by rw [HR.out], hb⟩
    · by_cases g3 : 100 < n2
      · have HR : Hid (130 = errC (checkS l rs)) := Lib.hid (by rw [HCI.out, decide_eq_false (by rw [HN.out.1, HN.out.2]; omega)]; rfl)
        gi_wp2_with fail
        refine ⟨trivial, ?_⟩
        gi_wp2_with fail
        have hq := BlkIs.new w 29 #[.int .i64 130]
        have hb := below_a w (.cells #[.int .i64 130] 29)
        generalize w.alloc (.cells #[.int .i64 130] 29) = w2 at *
        have c3 := hq.cell 0
        exact ⟨.int .i64 130, by simp [results, Try.results11, go_sem, c3], by rw [HR.out], hb⟩
      · have HCS : Hid (checkS l rs = (!(l.any unfitS) && decide (nms l).Nodup && (rs.filter (wrongS (nms l))).isEmpty)) := Lib.hid (by rw [HCI.out, decide_eq_true (by rw [HN.out.1, HN.out.2]; omega), Bool.true_and])
        have HCO := Lib.hid (contains_any (w := w.alloc (.cells #[.int .i64 0] 29)) (H1.out.below (hb1.mono hB)) (by omega) n c HN.out.1 (by omega) HO.out.1)
        have HB1 := Lib.hid hb1
        have HQ1 := Lib.hid hq1
        have HZ1 := Lib.hid hz1
        clear hb1 hq1 hz1 HCI
        generalize hu : l.any unfitS = ub at *
        have HUB := Lib.hid hu
        clear hu
        cases ub with
        | true =>
          gi_wp2_with fail
          refine ⟨trivial, ?_⟩
          refine (callsIn_wide.2 HCO.out).mono ?_
          rintro e w2 ⟨rfl, hb2⟩
          have HB2 := Lib.hid (HB1.out.trans (hb2.mono (by have := HZ1.out; omega)))
          have HQ2 : Hid (BlkIs w2 w.heap.size 29 #[.int .i64 0]) := Lib.hid ((hb2.block _ HQ1.out.lt).trans HQ1.out)
          have x0 : w2.cell? ⟨w.heap.size, 0, none⟩ = some (.int .i64 0) := BlkIs.cell HQ2.out 0
          have f0 : w2.frozen? ⟨w.heap.size, 0, none⟩ = false := BlkIs.froz HQ2.out 0
          clear hb2 HCO HB1 HQ1
          gi_wp2_with fail
          have HQ3 := HQ2.out.put 0 (.int .i64 130)
          have HB3 := HB2.out.setCell (p := ⟨w.heap.size, 0, none⟩) (Nat.le_refl _) (.int .i64 130)
          generalize w2.setCell ⟨w.heap.size, 0, none⟩ (.int .i64 130) = w3 at *
          have c3 : w3.cell? ⟨w.heap.size, 0, none⟩ = some (.int .i64 130) := HQ3.cell 0
          exact ⟨.int .i64 130, by simp [results, Try.results11, go_sem, c3], by rw [HCS.out]; rfl, HB3⟩
        | false =>
          have d1 : decide (100 < (n : Int)) = false := decide_eq_false (by omega)
          have d2 : decide (100 < (n2 : Int)) = false := decide_eq_false (by omega)
          have hmm := @run_makeMap Try.prog
          gi_wp2_with fail
          refine ⟨trivial, ?_⟩
          refine (callsIn_wide.2 HCO.out).mono ?_
          rintro e w2 ⟨rfl, hb2⟩
          have HB2 := Lib.hid (HB1.out.trans (hb2.mono (by have := HZ1.out; omega)))
          have HQ2 : Hid (BlkIs w2 w.heap.size 29 #[.int .i64 0]) := Lib.hid ((hb2.block _ HQ1.out.lt).trans HQ1.out)
          clear hb2 HCO HB1 HQ1
          have HST := Lib.hid (chi_start (l := l) HQ2.out HB2.out)
          clear HQ2 HB2
          gi_wp2_with fail
          generalize (w2.alloc (.map #[] 0)).alloc (.cells #[.map (some w2.heap.size)] 47) = w3 at *
          generalize w2.heap.size = g at *
          gi_loopw [7, 29] (fun _ i wr => ∃ k m : Nat, k ≤ n ∧ i = .int .i64 k ∧ Hid (ChI w g l k m wr)) (fun _ i _ => n - (intOf i).toNat)
          case atStart => exact ⟨0, 0, Nat.zero_le _, rfl, HST⟩
          case round =>
            obtain ⟨k, m, hk, rfl, HI⟩ := hrel
            by_cases hlt : k < n
            · obtain ⟨ga, oa, rfl, hga, hall⟩ := cls_of H1.out k (by rw [HN.out.1]; exact hlt)
              obtain ⟨y0, y1⟩ := hall wr (HI.out.bel.mono hB)
              have HA := Lib.hid (HI.out.below (below_a wr (.cells #[.string (str (l.getD k c0).1), .int .i64 (l.getD k c0).2] 34)))
              have HNX := Lib.hid (fun Y hm hg => HA.out.next (Y := Y) (by rw [HN.out.1]; exact hlt) hm hg)
              have HC := Lib.hid (add_any HA.out.map (l.getD k c0).1 (HO.out.1.at_ k).1 (by omega))
              have x0 := (BlkIs.cell HA.out.box 0).trans (rfl : _ = some (Value.map (some g)))
              have xl := HI.out.box.lt
              clear hall
              generalize nxt (nms (l.take k)) (l.getD k c0).1 m = m' at *
              generalize str (l.getD k c0).1 = s0 at *
              generalize (l.getD k c0).2 = v0 at *
              gi_wp2_with fail
              refine ⟨trivial, ?_⟩
              refine (callsIn_wide.2 HC.out).mono ?_
              rintro e w4 ⟨rfl, hm4, hg4⟩
              have HI4 := Lib.hid (HNX.out w4 hm4 hg4)
              clear hm4 hg4 HC HNX HA HI x0 y0 y1
              gi_wp2_with fail
              go_roundw
              case rel => exact ⟨k + 1, m', by omega, by go_num, HI4⟩
              case measure => first | (simp [intOf]; done) | (simp [intOf]; omega)
            · have hkn : k = n := by omega
              subst hkn
              have x0 := (BlkIs.cell HI.out.box 0).trans (rfl : _ = some (Value.map (some g)))
              have hlen := HI.out.map.len
              have hmle := HI.out.le
              have HTK : Hid (l.take k = l) := Lib.hid (by rw [← HN.out.1, List.take_length])
              have q0 := (BlkIs.cell HI.out.res 0).trans (rfl : _ = some (Value.int .i64 0))
              have qf := BlkIs.froz HI.out.res 0
              by_cases hmk : m = k
              · have HND : Hid ((nms l).Nodup) := Lib.hid (by have := HI.out.iff.1 hmk; rwa [HTK.out] at this)
                have hlt2 : ¬ (m : Int) < (k : Int) := by omega
                gi_wp2_with fail
                refine ⟨trivial, ?_⟩
                refine (callsIn_wide.2 (those_any A2 n2 c2 24 (g + 1) wr)).mono ?_
                rintro e w4 ⟨rfl, hw4⟩
                have hbw4 : Below wr.heap.size wr w4 := by rw [hw4]; exact ((Below.refl _ wr).alloc (Nat.le_refl _) _).alloc (by simp) _
                have hz4 : w4.heap.size = wr.heap.size + 2 := by rw [hw4]; simp
                have hV4 : w4.heap[wr.heap.size]? = some (.cells #[.slice A2 n2 c2] 23 (0, 0)) := by
                  rw [hw4]
                  exact (Below.heap_alloc _ _ _ (by simp)).trans (heap_alloc_new wr _)
                have hU4 : w4.heap[wr.heap.size + 1]? = some (.cells #[.func (.func 24) #[] #[.pointer (some ⟨g + 1, 0, none⟩)]] 52 (0, 0)) := by
                  rw [hw4]
                  have := heap_alloc_new (wr.alloc (.cells #[.slice A2 n2 c2] 23)) (.cells #[.func (.func 24) #[] #[.pointer (some ⟨g + 1, 0, none⟩)]] 52)
                  rwa [World.size_alloc] at this
                clear hw4
                have HI4 := Lib.hid (HI.out.below hbw4)
                clear hlen x0 q0 qf
                have hsq := those_stops 8 (by omega) w4 wr.heap.size (wr.heap.size + 1) (g + 1) w4.heap.size c2 A2 rs 24 (wrongS (nms l)) (by rw [HN.out.2]; exact hV4) hU4 (Nat.le_refl _) (by omega) (by omega)
                  ((H2.out.below (HI4.out.bel.mono hB)).more (by have := HI4.out.bel.size; omega)) (by rw [HN.out.2]; omega) (enters_of Try.func24 (by kernel_rfl) rfl)
                  (fun j _ X hX => by
                    have hm := HI4.out.map.same (hX.block _ HI4.out.map.lt)
                    rw [HTK.out] at hm
                    exact wrong_any ((hX.block _ HI4.out.box.lt).trans HI4.out.box) hm (rs.getD j r0) (HO.out.2.at_ j).1 (HO.out.2.at_ j).2)
                have HSQ := Lib.hid hsq
                have HZ4 := Lib.hid hz4
                have hlw : w.heap.size < wr.heap.size := HI.out.res.lt
                clear hsq hz4 hV4 hU4 hbw4 HI
                gi_wp2_with fail
                refine range_named (fun a ha => ?_)
                have ha46 : a.eval (.tmp 46) = .func (.func 37) #[] #[.pointer (some ⟨wr.heap.size, 0, none⟩), .pointer (some ⟨wr.heap.size + 1, 0, none⟩)] := by rw [ha]; rfl
                refine wpIn_rangeFunc_ownG rfl (by omega) (gf := 37) (lb := #[.pointer (some ⟨wr.heap.size, 0, none⟩), .pointer (some ⟨wr.heap.size + 1, 0, none⟩)]) ha46 trivial (enters_of Try.func37 (by kernel_rfl) rfl)
                  HSQ.out belowK_t (belowK_b (by omega)) (Below.refl _ _) (fun _ => rfl)
                  (CkI w) (CkX w) (ckI_own (by have := HZ4.out; omega)) (fun c => ckX_own (by have := HZ4.out; omega) c) ⟨rfl, HI4.out.res, HI4.out.bel⟩
                  (fun x => { tmps := a.tmps.setIfInBounds 47 (.agg #[.string (str x.1), .string (str x.2)]), defers := [] }) ?assign ?body ?done ?stop
                case assign =>
                  intro lp x X K' hK'
                  dsimp only [encRu]
                  gi_wp2
                  simpa using hK'
                case body =>
                  rintro lp pre x X ⟨h1, h2, h3⟩ hlen
                  have x0 := (BlkIs.cell h2 0).trans (rfl : _ = some (Value.int .i64 0))
                  have f0 := BlkIs.froz h2 0
                  have HQ := Lib.hid (h2.put 0 (.int .i64 130))
                  have HBB := Lib.hid (h3.setCell (p := ⟨w.heap.size, 0, none⟩) (Nat.le_refl _) (.int .i64 130))
                  clear h1 h2 h3 hlen ha46 HSQ
                  subst ha
                  simp only [List.setIfInBounds_toArray, List.set_cons_succ, List.set_cons_zero]
                  gi_wp2_with fail
                  exact ⟨(KeepsOthers.setCell _ _ _).from _, rfl, by simp, HQ.out, HBB.out⟩
                case done =>
                  rintro D xs X hD hS ⟨h1, h2, h3⟩ hKd
                  have HF : Hid ((rs.filter (wrongS (nms l))).isEmpty = true) := Lib.hid (by rw [← hS, h1]; rfl)
                  have HA : Hid (errC (checkS l rs) = 0) := Lib.hid (by rw [HCS.out, decide_eq_true HND.out, HF.out]; rfl)
                  have x0 := (BlkIs.cell h2 0).trans (rfl : _ = some (Value.int .i64 0))
                  have f0 := BlkIs.froz h2 0
                  have hDX : D < X.heap.size := (Array.getElem?_eq_some_iff.1 hKd).1
                  have hDl : w.heap.size < D := by have := HZ4.out; omega
                  have hK2 : (X.setCell ⟨w.heap.size, 0, none⟩ (.int .i64 0)).heap[D]? = some (.deferred (some [])) := (KeepsOthers.setCell _ _ _).same D _ hKd rfl
                  have hb2 : Below w.heap.size w (X.setCell ⟨w.heap.size, 0, none⟩ (.int .i64 0)) := h3.setCell (Nat.le_refl _) _
                  have B2 := (h2.put 0 (.int .i64 0)).grown (grownBy_putObj' _ D (.deferred none)) (by intro e; injection e with e; omega)
                  have hb3 : Below w.heap.size w ((X.setCell ⟨w.heap.size, 0, none⟩ (.int .i64 0)).putObj D (.deferred none)) := hb2.grown (grownBy_putObj' _ D (.deferred none)) (by have := hb2.size; omega) (fun k e => by injection e with e; omega)
                  have c3 : ((X.setCell ⟨w.heap.size, 0, none⟩ (.int .i64 0)).putObj D (.deferred none)).cell? ⟨w.heap.size, 0, none⟩ = some (.int .i64 0) := BlkIs.cell B2 0
                  clear hS h1 h2 h3 ha46 HSQ B2 hb2
                  subst ha
                  gi_wp2
                  refine ⟨by simp, .inl ⟨_, _, rfl, run_takeDeferred hK2, ?_⟩⟩
                  generalize (X.setCell ⟨w.heap.size, 0, none⟩ (.int .i64 0)).putObj D (.deferred none) = Z at *
                  exact ⟨.int .i64 0, by simp [results, Try.results11, go_sem, c3], by rw [HA.out], hb3⟩
                case stop =>
                  rintro D c pre X hD hSp ⟨rfl, h0, h2, h3⟩ hKd
                  have HA : Hid (errC (checkS l rs) = 130) := Lib.hid (by
                    have hf : (rs.filter (wrongS (nms l))).isEmpty = false := by
                      obtain ⟨t, ht⟩ := hSp
                      rw [← ht]
                      cases pre with
                      | nil => exact absurd rfl h0
                      | cons a b => rfl
                    rw [HCS.out, hf, Bool.and_false]; rfl)
                  have hDX : D < X.heap.size := (Array.getElem?_eq_some_iff.1 hKd).1
                  have hDl : w.heap.size < D := by have := HZ4.out; omega
                  have B2 := h2.grown (grownBy_putObj' _ D (.deferred none)) (by intro e; injection e with e; omega)
                  have hb3 : Below w.heap.size w (X.putObj D (.deferred none)) := h3.grown (grownBy_putObj' _ D (.deferred none)) (by omega) (fun k e => by injection e with e; omega)
                  have c3 : (X.putObj D (.deferred none)).cell? ⟨w.heap.size, 0, none⟩ = some (.int .i64 130) := BlkIs.cell B2 0
                  clear hSp h0 h2 h3 ha46 HSQ B2
                  subst ha
                  gi_wp2
                  refine ⟨by simp, .inl ⟨_, _, rfl, run_takeDeferred hKd, ?_⟩⟩
                  generalize X.putObj D (.deferred none) = Z at *
                  exact ⟨.int .i64 130, by simp [results, Try.results11, go_sem, c3], by rw [HA.out], hb3⟩
              · have HND : Hid (¬ (nms l).Nodup) := Lib.hid (fun hd => hmk (HI.out.iff.2 (by rw [HTK.out]; exact hd)))
                have hlt2 : (m : Int) < (k : Int) := by omega
                have HQ3 : Hid (BlkIs (wr.setCell ⟨w.heap.size, 0, none⟩ (.int .i64 130)) w.heap.size 29 #[.int .i64 130]) := Lib.hid (HI.out.res.put 0 (.int .i64 130))
                have HB3 := Lib.hid (HI.out.bel.setCell (p := ⟨w.heap.size, 0, none⟩) (Nat.le_refl _) (.int .i64 130))
                gi_wp2_with fail
                have c3 := BlkIs.cell HQ3.out 0
                generalize wr.setCell ⟨w.heap.size, 0, none⟩ (.int .i64 130) = w5 at *
                exact ⟨.int .i64 130, by simp [results, Try.results11, go_sem, c3], by rw [HCS.out, decide_eq_false HND.out]; rfl, HB3.out⟩
theorem check_any {w : World} {B : Nat} {A A2 : Option Addr} {l : List C} {rs : List R} (h : Prs w B A (cvC l)) (hr : Prs w B A2 (cvR rs)) (hB : B ≤ w.heap.size) (n c n2 c2 : Nat) (hn : l.length = n) (hn2 : rs.length = n2) (hok : OkC l) (hor : OkR rs) :
    Calls Try.prog 11 #[.slice A n c, .slice A2 n2 c2] w (CheckP w l rs) := callsIn_wide.1 (check_in h hr hB n c n2 c2 hn hn2 hok hor)
end Rt
end Go.Proofs.Ytokaifnpmhkkpaa
