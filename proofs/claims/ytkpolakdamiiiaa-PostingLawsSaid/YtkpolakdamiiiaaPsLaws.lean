/- The statements of layer 18 as walks. Conditions: as stated at each. -/
import Derived.Test.YtkpolakdamiiiaaPsFew
namespace Go.Proofs.Ytkpolakdamiiiaa
set_option maxRecDepth 100000
namespace Ps
open Go.RowKit Go
attribute [local go_sem] Oper.semAt_some
/-- a law's end. -/
def TruP (w : World) (e : Ending) (w' : World) : Prop := e = .returned (.bool true) ∧ Below w.heap.size w w'
theorem ar_row {w : World} {vs : List Value} {L : List E} (h : vs = L.map E.val) : Cs (w.alloc (.cells vs.toArray 22)) (w.heap.size + 1) (some ⟨w.heap.size, 0, none⟩) (L.map E.val) := by
  have := cs_blk (cs := vs) (BlkIs.new w 22 vs.toArray)
  rw [World.size_alloc] at this
  rw [← h]
  exact this
theorem below_a (w : World) (o : Obj) : Below w.heap.size w (w.alloc o) := (Below.refl _ w).alloc (Nat.le_refl _) _
/-- numbers behind a row of the call's own. -/
theorem lappMany {w : World} {ops : Array Oper} {rest : List Oper} {o : Oper} {a : Act} {Q : Exit → Act → World → Prop} (s x : Operand)
    (ho : o.op = .call { callee := .builtin .append, args := #[s, x], argTypes := #[22, 22] }) (hgd : o.guard = none)
    {N : Nat} {v : Value} {ps qs : List Int} (hs : a.eval s = v) (hown : OwnI w N v ps) {B : Nat} {A : Option Addr} {m c : Nat} (hx : a.eval x = .slice A m c) (hr : Ints w B A qs) (hl : qs.length = m) (h63 : ps.length + m ≤ 1000000) (hN : N ≤ w.heap.size)
    (h : ∀ v' w', OwnI w' N v' (ps ++ qs) → w.grownBy w' v.ownBlock → wpList Try.prog ops Q rest (a.put o.dst v') w') : wpList Try.prog ops Q (o :: rest) a w := by
  refine wpList_plain hgd fun _ hK => ?_
  obtain ⟨i, hi, hz, h0, h1⟩ := info_parts info2
  refine wp_app s x ho Try.underlying22 hi hz h0 h1 rfl hs hown hx hr (by rw [iv_length]; exact hl) iv_one (by omega) (by decide) hN (fun v' w' h2 h3 => hK _ _ (h v' w' ?_ h3))
  unfold OwnI
  rw [List.length_append, hl, iv_append]
  exact h2
set_option maxHeartbeats 6400000 in
theorem lhas_any {w : World} {va : Value} {la : List Int} (n : Int) (ha : Ar w va la) : Calls Try.prog 6 #[va, .int .i64 n] w (TruP w) := by
  unfold TruP
  obtain ⟨Aa, ca, rfl, hia, hca, hxa⟩ := ha
  have HAa0 : Hid (Ar w (.slice Aa la.length ca) la) := Lib.hid ⟨_, _, rfl, hia, hca, hxa⟩
  clear hia hca hxa
  go_enter Try.func6, Try.ntmps6
  go_wp2_with fail
  refine (awake_any w).mono ?_
  rintro e w1 ⟨rfl, hb⟩
  have HB1 := Lib.hid hb
  have HAa1 := Lib.hid (HAa0.out.below hb)
  clear HAa0
  clear hb
  have HFW : Hid (Calls Try.prog 9 #[.slice (some ⟨w1.heap.size, 0, none⟩) 1 1] (w1.alloc (.cells #[.slice Aa la.length ca] 22)) fun e w' => e = .returned (.bool (fewB [⟨Aa, ca, la⟩])) ∧ w1.alloc (.cells #[.slice Aa la.length ca] 22) = w') := Lib.hid (few_any (L := [⟨Aa, ca, la⟩]) rfl (ar_row (vs := [.slice Aa la.length ca]) rfl))
  have hbA := below_a w1 (.cells #[.slice Aa la.length ca] 22)
  have HB2 := Lib.hid (HB1.out.trans (hbA.mono HB1.out.size))
  have HAa2 := Lib.hid (HAa1.out.below hbA)
  clear HAa1
  clear hbA
  try dsimp only
  go_wp2_with fail
  generalize w1.alloc (.cells #[.slice Aa la.length ca] 22) = w2 at *
  obtain ⟨fw, hfw⟩ : ∃ b, fewB [(⟨Aa, ca, la⟩ : E)] = b := ⟨_, rfl⟩
  rw [hfw] at HFW
  refine HFW.out.mono ?_
  rintro e wz ⟨rfl, rfl⟩
  cases fw
  · clear hfw HFW
    try dsimp only
    go_wp2_with fail
    go_ret
    exact ⟨rfl, HB2.out⟩
  have hfy := (few_yes hfw).2
  have hna : la.length ≤ 100 := hfy ⟨Aa, ca, la⟩ (by simp)
  clear hfy hfw HFW
  try dsimp only
  go_wp2_with fail
  obtain ⟨Ax, cx, hve, hix, _⟩ := HAa2.out
  injection hve with e1 e2 e3
  subst e1
  subst e3
  have HC := Lib.hid (has_any (c := ca) rfl hix n (by omega))
  have HC2 := Lib.hid (rhas_any (c := ca) rfl hix n (by omega))
  clear hix
  generalize decide (n ∈ la) = q at *
  refine HC.out.mono ?_
  rintro e wy ⟨rfl, rfl⟩
  try dsimp only
  go_wp2_with fail
  refine HC2.out.mono ?_
  rintro e wy ⟨rfl, rfl⟩
  clear HC HC2
  try dsimp only
  go_wp2_with fail
  go_ret
  exact ⟨rfl, HB2.out⟩
set_option maxHeartbeats 6400000 in
theorem lof_any {w : World} {va : Value} {la : List Int} (ha : Ar w va la) : Calls Try.prog 3 #[va] w (TruP w) := by
  unfold TruP
  obtain ⟨Aa, ca, rfl, hia, hca, hxa⟩ := ha
  have HAa0 : Hid (Ar w (.slice Aa la.length ca) la) := Lib.hid ⟨_, _, rfl, hia, hca, hxa⟩
  clear hia hca hxa
  go_enter Try.func3, Try.ntmps3
  go_wp2_with fail
  refine (awake_any w).mono ?_
  rintro e w1 ⟨rfl, hb⟩
  have HB1 := Lib.hid hb
  have HAa1 := Lib.hid (HAa0.out.below hb)
  clear HAa0
  clear hb
  have HFW : Hid (Calls Try.prog 9 #[.slice (some ⟨w1.heap.size, 0, none⟩) 1 1] (w1.alloc (.cells #[.slice Aa la.length ca] 22)) fun e w' => e = .returned (.bool (fewB [⟨Aa, ca, la⟩])) ∧ w1.alloc (.cells #[.slice Aa la.length ca] 22) = w') := Lib.hid (few_any (L := [⟨Aa, ca, la⟩]) rfl (ar_row (vs := [.slice Aa la.length ca]) rfl))
  have hbA := below_a w1 (.cells #[.slice Aa la.length ca] 22)
  have HB2 := Lib.hid (HB1.out.trans (hbA.mono HB1.out.size))
  have HAa2 := Lib.hid (HAa1.out.below hbA)
  clear HAa1
  clear hbA
  try dsimp only
  go_wp2_with fail
  generalize w1.alloc (.cells #[.slice Aa la.length ca] 22) = w2 at *
  obtain ⟨fw, hfw⟩ : ∃ b, fewB [(⟨Aa, ca, la⟩ : E)] = b := ⟨_, rfl⟩
  rw [hfw] at HFW
  refine HFW.out.mono ?_
  rintro e wz ⟨rfl, rfl⟩
  cases fw
  · clear hfw HFW
    try dsimp only
    go_wp2_with fail
    go_ret
    exact ⟨rfl, HB2.out⟩
  have hfy := (few_yes hfw).2
  have hna : la.length ≤ 100 := hfy ⟨Aa, ca, la⟩ (by simp)
  clear hfy hfw HFW
  try dsimp only
  go_wp2_with fail
  refine (check_any HAa2.out (by omega)).mono ?_
  rintro e w3 ⟨⟨b1, rfl, hq1⟩, hb3⟩
  have HB3 := Lib.hid (HB2.out.trans (hb3.mono HB2.out.size))
  have HAa3 := Lib.hid (HAa2.out.below hb3)
  clear HAa2
  clear hb3
  try dsimp only
  go_wp2_with fail
  obtain ⟨Ax, cx, hve, hix, hix2⟩ := HAa3.out
  injection hve with e1 e2 e3
  subst e1
  subst e3
  refine (rcheck_any (c := ca) rfl hix (by omega)).mono ?_
  rintro e w4 ⟨⟨b2, rfl, hq2⟩, hk4⟩
  have hb4 := Alk.bel hk4
  have HB4 := Lib.hid (HB3.out.trans (hb4.mono HB3.out.size))
  have HAa4 := Lib.hid (HAa3.out.below hb4)
  clear HAa3
  clear hb4 hk4 hix hix2
  obtain rfl : b1 = b2 := Bool.eq_iff_iff.2 (hq1.trans hq2.symm)
  clear hq1 hq2
  try dsimp only
  go_wp2_with fail
  refine (of_any HAa4.out (by omega)).mono ?_
  rintro e w5 ⟨vx, rx, rfl, hox, hbx, hux, hmx, hlx⟩
  have HB5 := Lib.hid (HB4.out.trans (hbx.mono HB4.out.size))
  have HAa5 := Lib.hid (HAa4.out.below hbx)
  clear HAa4
  have HAx5 := Lib.hid hox.ar
  have HFx := Lib.hid (And.intro hux hmx)
  clear hox hbx hux hmx
  try dsimp only
  go_wp2_with fail
  refine (rof_ar HAa5.out (by omega)).mono ?_
  rintro e w6 ⟨vy, ry, rfl, hoy, hby, huy, hmy, hly⟩
  have HB6 := Lib.hid (HB5.out.trans (hby.mono HB5.out.size))
  have HAa6 := Lib.hid (HAa5.out.below hby)
  clear HAa5
  have HAx6 := Lib.hid (HAx5.out.below hby)
  clear HAx5
  have HAy6 := Lib.hid hoy.ar
  have HFy := Lib.hid (And.intro huy hmy)
  clear hoy hby huy hmy
  try dsimp only
  go_wp2_with fail
  refine (same_yes HAx6.out HAy6.out (up_eq HFx.out.1 HFy.out.1 (fun z => by rw [HFx.out.2, HFy.out.2])) (by omega)).mono ?_
  rintro e w7 ⟨rfl, hbs⟩
  have HB7 := Lib.hid (HB6.out.trans (hbs.mono HB6.out.size))
  have HAa7 := Lib.hid (HAa6.out.below hbs)
  clear HAa6
  have HAx7 := Lib.hid (HAx6.out.below hbs)
  clear HAx6
  have HAy7 := Lib.hid (HAy6.out.below hbs)
  clear HAy6
  clear hbs
  try dsimp only
  go_wp2_with fail
  go_ret
  exact ⟨rfl, HB7.out⟩
set_option maxHeartbeats 6400000 in
theorem lsets_any {w : World} {va vb : Value} {la lb : List Int} (ha : Ar w va la) (hb : Ar w vb lb) : Calls Try.prog 4 #[va, vb] w (TruP w) := by
  unfold TruP
  obtain ⟨Aa, ca, rfl, hia, hca, hxa⟩ := ha
  obtain ⟨Ab, cb, rfl, hib, hcb, hxb⟩ := hb
  have HAa0 : Hid (Ar w (.slice Aa la.length ca) la) := Lib.hid ⟨_, _, rfl, hia, hca, hxa⟩
  have HAb0 : Hid (Ar w (.slice Ab lb.length cb) lb) := Lib.hid ⟨_, _, rfl, hib, hcb, hxb⟩
  clear hia hca hxa
  clear hib hcb hxb
  go_enter Try.func4, Try.ntmps4
  go_wp2_with fail
  refine (awake_any w).mono ?_
  rintro e w1 ⟨rfl, hb⟩
  have HB1 := Lib.hid hb
  have HAa1 := Lib.hid (HAa0.out.below hb)
  clear HAa0
  have HAb1 := Lib.hid (HAb0.out.below hb)
  clear HAb0
  clear hb
  have HFW : Hid (Calls Try.prog 9 #[.slice (some ⟨w1.heap.size, 0, none⟩) 2 2] (w1.alloc (.cells #[.slice Aa la.length ca, .slice Ab lb.length cb] 22)) fun e w' => e = .returned (.bool (fewB [⟨Aa, ca, la⟩, ⟨Ab, cb, lb⟩])) ∧ w1.alloc (.cells #[.slice Aa la.length ca, .slice Ab lb.length cb] 22) = w') := Lib.hid (few_any (L := [⟨Aa, ca, la⟩, ⟨Ab, cb, lb⟩]) rfl (ar_row (vs := [.slice Aa la.length ca, .slice Ab lb.length cb]) rfl))
  have hbA := below_a w1 (.cells #[.slice Aa la.length ca, .slice Ab lb.length cb] 22)
  have HB2 := Lib.hid (HB1.out.trans (hbA.mono HB1.out.size))
  have HAa2 := Lib.hid (HAa1.out.below hbA)
  clear HAa1
  have HAb2 := Lib.hid (HAb1.out.below hbA)
  clear HAb1
  clear hbA
  try dsimp only
  go_wp2_with fail
  generalize w1.alloc (.cells #[.slice Aa la.length ca, .slice Ab lb.length cb] 22) = w2 at *
  obtain ⟨fw, hfw⟩ : ∃ b, fewB [(⟨Aa, ca, la⟩ : E), (⟨Ab, cb, lb⟩ : E)] = b := ⟨_, rfl⟩
  rw [hfw] at HFW
  refine HFW.out.mono ?_
  rintro e wz ⟨rfl, rfl⟩
  cases fw
  · clear hfw HFW
    try dsimp only
    go_wp2_with fail
    go_ret
    exact ⟨rfl, HB2.out⟩
  have hfy := (few_yes hfw).2
  have hna : la.length ≤ 100 := hfy ⟨Aa, ca, la⟩ (by simp)
  have hnb : lb.length ≤ 100 := hfy ⟨Ab, cb, lb⟩ (by simp)
  clear hfy hfw HFW
  try dsimp only
  have HIA : Hid (Ints w2 w2.heap.size Aa la) := Lib.hid (by
    obtain ⟨Aq, cq, hve, hia, _⟩ := HAa2.out
    injection hve with e1 e2 e3
    subst e1
    exact hia)
  have HIB : Hid (Ints w2 w2.heap.size Ab lb) := Lib.hid (by
    obtain ⟨Aq, cq, hve, hib, _⟩ := HAb2.out
    injection hve with e1 e2 e3
    subst e1
    exact hib)
  go_wp2_with (first
    | (refine lappMany (.const (.slice none 0 0)) (.tmp 13) rfl rfl (ps := []) (qs := la) (v := .slice none 0 0) (N := w2.heap.size) rfl (OwnI.nil _ _) (A := Aa) (m := la.length) (c := ca) rfl HIA.out rfl (by simp; omega) (Nat.le_refl _) ?_; intro v5 w5 o5 g5; have HB5 : Hid (Below w2.heap.size w2 w5) := Lib.hid ((Below.refl _ w2).grown g5 (Nat.le_refl _) (fun g hg => by cases hg)); have HO5 := Lib.hid o5; clear o5 g5)
    | (refine lappMany (.tmp 14) (.tmp 15) rfl rfl (ps := [] ++ la) (qs := lb) (v := v5) (N := w2.heap.size) rfl HO5.out (A := Ab) (m := lb.length) (c := cb) rfl (HIB.out.below HB5.out) rfl (by simp; omega) HB5.out.size ?_; intro v6 w6 o6 g6; have HB6 : Hid (Below w2.heap.size w2 w6) := Lib.hid (HB5.out.grown g6 HB5.out.size (fun g hg => (own_low HO5.out g hg).1)); have HO6 := Lib.hid o6; clear o6 g6)
    | fail)
  have hb6 := HB6.out
  have HB7 := Lib.hid (HB2.out.trans (hb6.mono HB2.out.size))
  have HAa7 := Lib.hid (HAa2.out.below hb6)
  clear HAa2
  have HAb7 := Lib.hid (HAb2.out.below hb6)
  clear HAb2
  have HAq7 := Lib.hid HO6.out.ar
  clear hb6 HO6 HO5 HIA HIB
  refine (and_any HAa7.out HAb7.out (by omega) (by omega)).mono ?_
  rintro e w8 ⟨vx1, rx1, rfl, hox1, hbx1, hux1, hmx1, hlx1⟩
  have HB8 := Lib.hid (HB7.out.trans (hbx1.mono HB7.out.size))
  have HAa8 := Lib.hid (HAa7.out.below hbx1)
  clear HAa7
  have HAb8 := Lib.hid (HAb7.out.below hbx1)
  clear HAb7
  have HAq8 := Lib.hid (HAq7.out.below hbx1)
  clear HAq7
  have HAx18 := Lib.hid hox1.ar
  have HFx1 := Lib.hid (And.intro hux1 hmx1)
  clear hox1 hbx1 hux1 hmx1
  try dsimp only
  go_wp2_with fail
  refine (both_any true HAa8.out HAb8.out (by omega) (by omega)).mono ?_
  rintro e w9 ⟨vx2, rx2, rfl, hox2, hbx2, hux2, hmx2, hlx2⟩
  have HB9 := Lib.hid (HB8.out.trans (hbx2.mono HB8.out.size))
  have HAa9 := Lib.hid (HAa8.out.below hbx2)
  clear HAa8
  have HAb9 := Lib.hid (HAb8.out.below hbx2)
  clear HAb8
  have HAq9 := Lib.hid (HAq8.out.below hbx2)
  clear HAq8
  have HAx19 := Lib.hid (HAx18.out.below hbx2)
  clear HAx18
  have HAx29 := Lib.hid hox2.ar
  have HFx2 := Lib.hid (And.intro hux2 hmx2)
  clear hox2 hbx2 hux2 hmx2
  try dsimp only
  go_wp2_with fail
  refine (same_yes HAx19.out HAx29.out (up_eq HFx1.out.1 HFx2.out.1 (fun z => by rw [HFx1.out.2, HFx2.out.2]; by_cases h1 : z ∈ la <;> by_cases h2 : z ∈ lb <;> simp [h1, h2])) (by omega)).mono ?_
  rintro e w10 ⟨rfl, hbs⟩
  have HB10 := Lib.hid (HB9.out.trans (hbs.mono HB9.out.size))
  have HAa10 := Lib.hid (HAa9.out.below hbs)
  clear HAa9
  have HAb10 := Lib.hid (HAb9.out.below hbs)
  clear HAb9
  have HAq10 := Lib.hid (HAq9.out.below hbs)
  clear HAq9
  have HAx110 := Lib.hid (HAx19.out.below hbs)
  clear HAx19
  have HAx210 := Lib.hid (HAx29.out.below hbs)
  clear HAx29
  clear hbs
  try dsimp only
  go_wp2_with fail
  refine (less_two HAa10.out HAb10.out (by omega) (by omega)).mono ?_
  rintro e w11 ⟨vx3, rx3, rfl, hox3, hbx3, hux3, hmx3, hlx3⟩
  have HB11 := Lib.hid (HB10.out.trans (hbx3.mono HB10.out.size))
  have HAa11 := Lib.hid (HAa10.out.below hbx3)
  clear HAa10
  have HAb11 := Lib.hid (HAb10.out.below hbx3)
  clear HAb10
  have HAq11 := Lib.hid (HAq10.out.below hbx3)
  clear HAq10
  have HAx311 := Lib.hid hox3.ar
  have HFx3 := Lib.hid (And.intro hux3 hmx3)
  clear hox3 hbx3 hux3 hmx3
  try dsimp only
  go_wp2_with fail
  refine (both_any false HAa11.out HAb11.out (by omega) (by omega)).mono ?_
  rintro e w12 ⟨vx4, rx4, rfl, hox4, hbx4, hux4, hmx4, hlx4⟩
  have HB12 := Lib.hid (HB11.out.trans (hbx4.mono HB11.out.size))
  have HAa12 := Lib.hid (HAa11.out.below hbx4)
  clear HAa11
  have HAb12 := Lib.hid (HAb11.out.below hbx4)
  clear HAb11
  have HAq12 := Lib.hid (HAq11.out.below hbx4)
  clear HAq11
  have HAx312 := Lib.hid (HAx311.out.below hbx4)
  clear HAx311
  have HAx412 := Lib.hid hox4.ar
  have HFx4 := Lib.hid (And.intro hux4 hmx4)
  clear hox4 hbx4 hux4 hmx4
  try dsimp only
  go_wp2_with fail
  refine (same_yes HAx312.out HAx412.out (up_eq HFx3.out.1 HFx4.out.1 (fun z => by rw [HFx3.out.2, HFx4.out.2]; by_cases h1 : z ∈ la <;> by_cases h2 : z ∈ lb <;> simp [h1, h2])) (by omega)).mono ?_
  rintro e w13 ⟨rfl, hbs⟩
  have HB13 := Lib.hid (HB12.out.trans (hbs.mono HB12.out.size))
  have HAa13 := Lib.hid (HAa12.out.below hbs)
  clear HAa12
  have HAb13 := Lib.hid (HAb12.out.below hbs)
  clear HAb12
  have HAq13 := Lib.hid (HAq12.out.below hbs)
  clear HAq12
  have HAx313 := Lib.hid (HAx312.out.below hbs)
  clear HAx312
  have HAx413 := Lib.hid (HAx412.out.below hbs)
  clear HAx412
  clear hbs
  try dsimp only
  go_wp2_with fail
  refine (or_any HAa13.out HAb13.out (by omega)).mono ?_
  rintro e w14 ⟨vx5, rx5, rfl, hox5, hbx5, hux5, hmx5, hlx5⟩
  have HB14 := Lib.hid (HB13.out.trans (hbx5.mono HB13.out.size))
  have HAa14 := Lib.hid (HAa13.out.below hbx5)
  clear HAa13
  have HAb14 := Lib.hid (HAb13.out.below hbx5)
  clear HAb13
  have HAq14 := Lib.hid (HAq13.out.below hbx5)
  clear HAq13
  have HAx514 := Lib.hid hox5.ar
  have HFx5 := Lib.hid (And.intro hux5 hmx5)
  clear hox5 hbx5 hux5 hmx5
  try dsimp only
  go_wp2_with fail
  refine (rof_ar HAq14.out (by simp; omega)).mono ?_
  rintro e w15 ⟨vx6, rx6, rfl, hox6, hbx6, hux6, hmx6, hlx6⟩
  have HB15 := Lib.hid (HB14.out.trans (hbx6.mono HB14.out.size))
  have HAa15 := Lib.hid (HAa14.out.below hbx6)
  clear HAa14
  have HAb15 := Lib.hid (HAb14.out.below hbx6)
  clear HAb14
  have HAq15 := Lib.hid (HAq14.out.below hbx6)
  clear HAq14
  have HAx515 := Lib.hid (HAx514.out.below hbx6)
  clear HAx514
  have HAx615 := Lib.hid hox6.ar
  have HFx6 := Lib.hid (And.intro hux6 hmx6)
  clear hox6 hbx6 hux6 hmx6
  try dsimp only
  go_wp2_with fail
  refine (same_yes HAx515.out HAx615.out (up_eq HFx5.out.1 HFx6.out.1 (fun z => by rw [HFx5.out.2, HFx6.out.2]; simp)) (by omega)).mono ?_
  rintro e w16 ⟨rfl, hbs⟩
  have HB16 := Lib.hid (HB15.out.trans (hbs.mono HB15.out.size))
  have HAa16 := Lib.hid (HAa15.out.below hbs)
  clear HAa15
  have HAb16 := Lib.hid (HAb15.out.below hbs)
  clear HAb15
  have HAq16 := Lib.hid (HAq15.out.below hbs)
  clear HAq15
  have HAx516 := Lib.hid (HAx515.out.below hbs)
  clear HAx515
  have HAx616 := Lib.hid (HAx615.out.below hbs)
  clear HAx615
  clear hbs
  try dsimp only
  go_wp2_with fail
  go_ret
  exact ⟨rfl, HB16.out⟩
theorem left_few {L : List E} (h : ∀ e ∈ L, e.l.length ≤ 100) : ∀ k, (left (L.take k)).length ≤ k * 100
  | 0 => by simp [left]
  | k + 1 => by
    have ih := left_few h k
    by_cases hk : k < L.length
    · rw [List.take_add_one, List.getElem?_eq_getElem hk]
      have h1 := h (L[k]) (List.getElem_mem hk)
      simp only [Option.toList_some]
      rw [left_app, List.length_append]
      omega
    · rw [List.take_of_length_le (by omega)] at ih ⊢
      omega
set_option maxHeartbeats 6400000 in
theorem lmerges_any {w : World} {A : Option Addr} {c : Nat} {L : List E} (hL : Lists w w.heap.size A L) (hc : L.length ≤ c) : Calls Try.prog 5 #[.slice A L.length c] w (TruP w) := by
  unfold TruP
  obtain ⟨n, hnl⟩ : ∃ n, L.length = n := ⟨_, rfl⟩
  rw [hnl] at hc ⊢
  have HL0 := Lib.hid hL
  have HN := Lib.hid hnl
  clear hL hnl
  go_enter Try.func5, Try.ntmps5
  go_wp2_with fail
  refine (awake_any w).mono ?_
  rintro e w1 ⟨rfl, hb⟩
  have HB1 := Lib.hid hb
  have HL1 := Lib.hid (HL0.out.below hb)
  clear hb
  have HFW := Lib.hid (few_any (c := c) HN.out HL1.out.row)
  obtain ⟨fw, hfw⟩ : ∃ b, fewB L = b := ⟨_, rfl⟩
  rw [hfw] at HFW
  try dsimp only
  go_wp2_with fail
  refine HFW.out.mono ?_
  rintro e wz ⟨rfl, rfl⟩
  cases fw
  · clear hfw HFW
    try dsimp only
    go_wp2_with fail
    go_ret
    exact ⟨rfl, HB1.out⟩
  obtain ⟨hf1, hf2⟩ := few_yes hfw
  have hn20 : n ≤ 20 := by rw [← HN.out]; exact hf1
  have HF2 := Lib.hid hf2
  have HTK : Hid (∀ k, (left (L.take k)).length ≤ k * 100) := Lib.hid (left_few HF2.out)
  have HTE : Hid (left (L.take n) = left L) := Lib.hid (by rw [← HN.out, List.take_length])
  clear hfw HFW hf1 hf2
  try dsimp only
  go_wp2_with fail
  go_loopw [3, 5, 13] (fun x _ z wr => ∃ k : Nat, z = .int .i64 k ∧ k ≤ n ∧ Hid (OwnI wr w1.heap.size x (left (L.take k))) ∧ Hid (Below w1.heap.size w1 wr)) (fun _ _ z _ => n - (intOf z).toNat)
  case atStart => exact ⟨0, rfl, Nat.zero_le _, Lib.hid (OwnI.nil _ _), Lib.hid (Below.refl _ _)⟩
  case round =>
    obtain ⟨k, rfl, hk, HO, HBE⟩ := hrel
    by_cases hlt : k < n
    · have hkL : k < L.length := by rw [HN.out]; exact hlt
      have hll := HL1.out.below (HBE.out.mono HB1.out.size)
      obtain ⟨ad, rfl, _, ck⟩ := hll.row k (L[k]).val (by rw [List.getElem?_map, List.getElem?_eq_getElem hkL]; rfl)
      have hE := hll.dat (L[k]) (List.getElem_mem hkL)
      have hE1 := HF2.out (L[k]) (List.getElem_mem hkL)
      have hLk : left (L.take (k + 1)) = left (L.take k) ++ (L[k]).l := by
        rw [List.take_add_one, List.getElem?_eq_getElem hkL]
        exact left_app _ _
      obtain ⟨e, he⟩ : ∃ e, L[k] = e := ⟨_, rfl⟩
      rw [he] at ck hE hLk hE1
      obtain ⟨ea, ec, el⟩ := e
      unfold E.val at ck
      dsimp only at ck hE hLk hE1
      have HE := Lib.hid hE
      have HLK := Lib.hid hLk
      have hpl := HTK.out k
      have hk20 : k * 100 ≤ 2000 := by omega
      obtain ⟨A5, c5, rfl, _, _, _⟩ := HO.out.ints
      obtain ⟨pl, hpl2⟩ : ∃ q, (left (L.take k)).length = q := ⟨_, rfl⟩
      have HPL := Lib.hid hpl2
      rw [hpl2] at hpl ⊢
      clear he hE hLk hll hkL hpl2
      go_wp2_with (first
        | (refine lappMany (.tmp 17) (.tmp 18) rfl rfl (ps := left (L.take k)) (qs := el) (v := .slice A5 pl c5) (N := w1.heap.size) rfl (by have := HO.out; rw [HPL.out] at this; exact this) (A := ea) (m := el.length) (c := ec) rfl HE.out.1 rfl (by have := HPL.out; omega) HBE.out.size ?_; intro v2 w2 o2 g2; have HO2 := Lib.hid o2; have HB2 := Lib.hid (HBE.out.grown g2 HBE.out.size (fun g hg => (own_low (N := w1.heap.size) (by have := HO.out; rw [HPL.out] at this; exact this) g hg).1)); clear o2 g2)
        | fail)
      go_roundw
      case rel => exact ⟨k + 1, by go_num, by omega, Lib.hid (by rw [HLK.out]; exact HO2.out), Lib.hid HB2.out⟩
      case measure => first | (simp [intOf]; done) | (simp [intOf]; omega)
    · obtain rfl : k = n := by omega
      have hb2 := HBE.out
      have HB2 := Lib.hid (HB1.out.trans (hb2.mono HB1.out.size))
      have HL2 := Lib.hid (HL1.out.below (hb2.mono HB1.out.size))
      have hlt2 := HTK.out k
      rw [HTE.out] at hlt2 HO
      have HAq2 := Lib.hid HO.out.ar
      obtain ⟨Aq, cq, rfl, _, _, _⟩ := HO.out.ints
      clear hb2 HO
      go_wp2_with fail
      refine (merge_any (c := c) HN.out HL2.out HB2.out.size (by omega) (by omega)).mono ?_
      rintro e w3 ⟨v3, rfl, o3, hb3⟩
      have HB3 := Lib.hid (HB2.out.trans (hb3.mono HB2.out.size))
      have HAq3 := Lib.hid (HAq2.out.below hb3)
      have HAx3 := Lib.hid o3.ar
      have HFx := Lib.hid (setOf_facts (left L))
      clear o3 hb3 HAq2
      try dsimp only
      go_wp2_with fail
      refine (rof_ar HAq3.out (by omega)).mono ?_
      rintro e w4 ⟨v4, r4, rfl, o4, hb4, hu4, hm4, hl4⟩
      have HB4 := Lib.hid (HB3.out.trans (hb4.mono HB3.out.size))
      have HAx4 := Lib.hid (HAx3.out.below hb4)
      have HAy4 := Lib.hid o4.ar
      have HFy := Lib.hid (And.intro hu4 hm4)
      clear o4 hb4 hu4 hm4 HAx3 HAq3
      try dsimp only
      go_wp2_with fail
      refine (same_yes HAx4.out HAy4.out (up_eq HFx.out.1 HFy.out.1 (fun z => by rw [HFx.out.2.1, HFy.out.2])) (by have := HFx.out.2.2; omega)).mono ?_
      rintro e w5 ⟨rfl, hb5⟩
      have HB5 := Lib.hid (HB4.out.trans (hb5.mono HB4.out.size))
      clear hb5
      try dsimp only
      go_wp2_with fail
      go_ret
      exact ⟨rfl, HB5.out⟩
set_option maxHeartbeats 6400000 in
theorem llaws_any {w : World} {va vb vc : Value} {la lb lc : List Int} (ha : Ar w va la) (hb : Ar w vb lb) (hc : Ar w vc lc) : Calls Try.prog 7 #[va, vb, vc] w (TruP w) := by
  unfold TruP
  obtain ⟨Aa, ca, rfl, hia, hca, hxa⟩ := ha
  obtain ⟨Ab, cb, rfl, hib, hcb, hxb⟩ := hb
  obtain ⟨Ac, cc, rfl, hic, hcc, hxc⟩ := hc
  have HAa0 : Hid (Ar w (.slice Aa la.length ca) la) := Lib.hid ⟨_, _, rfl, hia, hca, hxa⟩
  have HAb0 : Hid (Ar w (.slice Ab lb.length cb) lb) := Lib.hid ⟨_, _, rfl, hib, hcb, hxb⟩
  have HAc0 : Hid (Ar w (.slice Ac lc.length cc) lc) := Lib.hid ⟨_, _, rfl, hic, hcc, hxc⟩
  clear hia hca hxa
  clear hib hcb hxb
  clear hic hcc hxc
  go_enter Try.func7, Try.ntmps7
  go_wp2_with fail
  refine (awake_any w).mono ?_
  rintro e w1 ⟨rfl, hb⟩
  have HB1 := Lib.hid hb
  have HAa1 := Lib.hid (HAa0.out.below hb)
  clear HAa0
  have HAb1 := Lib.hid (HAb0.out.below hb)
  clear HAb0
  have HAc1 := Lib.hid (HAc0.out.below hb)
  clear HAc0
  clear hb
  have HFW : Hid (Calls Try.prog 9 #[.slice (some ⟨w1.heap.size, 0, none⟩) 3 3] (w1.alloc (.cells #[.slice Aa la.length ca, .slice Ab lb.length cb, .slice Ac lc.length cc] 22)) fun e w' => e = .returned (.bool (fewB [⟨Aa, ca, la⟩, ⟨Ab, cb, lb⟩, ⟨Ac, cc, lc⟩])) ∧ w1.alloc (.cells #[.slice Aa la.length ca, .slice Ab lb.length cb, .slice Ac lc.length cc] 22) = w') := Lib.hid (few_any (L := [⟨Aa, ca, la⟩, ⟨Ab, cb, lb⟩, ⟨Ac, cc, lc⟩]) rfl (ar_row (vs := [.slice Aa la.length ca, .slice Ab lb.length cb, .slice Ac lc.length cc]) rfl))
  have hbA := below_a w1 (.cells #[.slice Aa la.length ca, .slice Ab lb.length cb, .slice Ac lc.length cc] 22)
  have HB2 := Lib.hid (HB1.out.trans (hbA.mono HB1.out.size))
  have HAa2 := Lib.hid (HAa1.out.below hbA)
  clear HAa1
  have HAb2 := Lib.hid (HAb1.out.below hbA)
  clear HAb1
  have HAc2 := Lib.hid (HAc1.out.below hbA)
  clear HAc1
  clear hbA
  try dsimp only
  go_wp2_with fail
  generalize w1.alloc (.cells #[.slice Aa la.length ca, .slice Ab lb.length cb, .slice Ac lc.length cc] 22) = w2 at *
  obtain ⟨fw, hfw⟩ : ∃ b, fewB [(⟨Aa, ca, la⟩ : E), (⟨Ab, cb, lb⟩ : E), (⟨Ac, cc, lc⟩ : E)] = b := ⟨_, rfl⟩
  rw [hfw] at HFW
  refine HFW.out.mono ?_
  rintro e wz ⟨rfl, rfl⟩
  cases fw
  · clear hfw HFW
    try dsimp only
    go_wp2_with fail
    go_ret
    exact ⟨rfl, HB2.out⟩
  have hfy := (few_yes hfw).2
  have hna : la.length ≤ 100 := hfy ⟨Aa, ca, la⟩ (by simp)
  have hnb : lb.length ≤ 100 := hfy ⟨Ab, cb, lb⟩ (by simp)
  have hnc : lc.length ≤ 100 := hfy ⟨Ac, cc, lc⟩ (by simp)
  clear hfy hfw HFW
  try dsimp only
  go_wp2_with fail
  refine (and_any HAa2.out HAb2.out (by omega) (by omega)).mono ?_
  rintro e w3 ⟨vx1, rx1, rfl, hox1, hbx1, hux1, hmx1, hlx1⟩
  have HB3 := Lib.hid (HB2.out.trans (hbx1.mono HB2.out.size))
  have HAa3 := Lib.hid (HAa2.out.below hbx1)
  clear HAa2
  have HAb3 := Lib.hid (HAb2.out.below hbx1)
  clear HAb2
  have HAc3 := Lib.hid (HAc2.out.below hbx1)
  clear HAc2
  have HAx13 := Lib.hid hox1.ar
  have HFx1 := Lib.hid (And.intro hux1 hmx1)
  clear hox1 hbx1 hux1 hmx1
  try dsimp only
  go_wp2_with fail
  refine (and_any HAb3.out HAa3.out (by omega) (by omega)).mono ?_
  rintro e w4 ⟨vx2, rx2, rfl, hox2, hbx2, hux2, hmx2, hlx2⟩
  have HB4 := Lib.hid (HB3.out.trans (hbx2.mono HB3.out.size))
  have HAa4 := Lib.hid (HAa3.out.below hbx2)
  clear HAa3
  have HAb4 := Lib.hid (HAb3.out.below hbx2)
  clear HAb3
  have HAc4 := Lib.hid (HAc3.out.below hbx2)
  clear HAc3
  have HAx14 := Lib.hid (HAx13.out.below hbx2)
  clear HAx13
  have HAx24 := Lib.hid hox2.ar
  have HFx2 := Lib.hid (And.intro hux2 hmx2)
  clear hox2 hbx2 hux2 hmx2
  try dsimp only
  go_wp2_with fail
  refine (same_yes HAx14.out HAx24.out (up_eq HFx1.out.1 HFx2.out.1 (fun z => by rw [HFx1.out.2, HFx2.out.2]; exact And.comm)) (by omega)).mono ?_
  rintro e w5 ⟨rfl, hbs⟩
  have HB5 := Lib.hid (HB4.out.trans (hbs.mono HB4.out.size))
  have HAa5 := Lib.hid (HAa4.out.below hbs)
  clear HAa4
  have HAb5 := Lib.hid (HAb4.out.below hbs)
  clear HAb4
  have HAc5 := Lib.hid (HAc4.out.below hbs)
  clear HAc4
  have HAx15 := Lib.hid (HAx14.out.below hbs)
  clear HAx14
  have HAx25 := Lib.hid (HAx24.out.below hbs)
  clear HAx24
  clear hbs
  try dsimp only
  go_wp2_with fail
  refine (or_any HAa5.out HAb5.out (by omega)).mono ?_
  rintro e w6 ⟨vx3, rx3, rfl, hox3, hbx3, hux3, hmx3, hlx3⟩
  have HB6 := Lib.hid (HB5.out.trans (hbx3.mono HB5.out.size))
  have HAa6 := Lib.hid (HAa5.out.below hbx3)
  clear HAa5
  have HAb6 := Lib.hid (HAb5.out.below hbx3)
  clear HAb5
  have HAc6 := Lib.hid (HAc5.out.below hbx3)
  clear HAc5
  have HAx36 := Lib.hid hox3.ar
  have HFx3 := Lib.hid (And.intro hux3 hmx3)
  clear hox3 hbx3 hux3 hmx3
  try dsimp only
  go_wp2_with fail
  refine (or_any HAb6.out HAa6.out (by omega)).mono ?_
  rintro e w7 ⟨vx4, rx4, rfl, hox4, hbx4, hux4, hmx4, hlx4⟩
  have HB7 := Lib.hid (HB6.out.trans (hbx4.mono HB6.out.size))
  have HAa7 := Lib.hid (HAa6.out.below hbx4)
  clear HAa6
  have HAb7 := Lib.hid (HAb6.out.below hbx4)
  clear HAb6
  have HAc7 := Lib.hid (HAc6.out.below hbx4)
  clear HAc6
  have HAx37 := Lib.hid (HAx36.out.below hbx4)
  clear HAx36
  have HAx47 := Lib.hid hox4.ar
  have HFx4 := Lib.hid (And.intro hux4 hmx4)
  clear hox4 hbx4 hux4 hmx4
  try dsimp only
  go_wp2_with fail
  refine (same_yes HAx37.out HAx47.out (up_eq HFx3.out.1 HFx4.out.1 (fun z => by rw [HFx3.out.2, HFx4.out.2]; exact Or.comm)) (by omega)).mono ?_
  rintro e w8 ⟨rfl, hbs⟩
  have HB8 := Lib.hid (HB7.out.trans (hbs.mono HB7.out.size))
  have HAa8 := Lib.hid (HAa7.out.below hbs)
  clear HAa7
  have HAb8 := Lib.hid (HAb7.out.below hbs)
  clear HAb7
  have HAc8 := Lib.hid (HAc7.out.below hbs)
  clear HAc7
  have HAx38 := Lib.hid (HAx37.out.below hbs)
  clear HAx37
  have HAx48 := Lib.hid (HAx47.out.below hbs)
  clear HAx47
  clear hbs
  try dsimp only
  go_wp2_with fail
  refine (or_any HAb8.out HAc8.out (by omega)).mono ?_
  rintro e w9 ⟨vx5, rx5, rfl, hox5, hbx5, hux5, hmx5, hlx5⟩
  have HB9 := Lib.hid (HB8.out.trans (hbx5.mono HB8.out.size))
  have HAa9 := Lib.hid (HAa8.out.below hbx5)
  clear HAa8
  have HAb9 := Lib.hid (HAb8.out.below hbx5)
  clear HAb8
  have HAc9 := Lib.hid (HAc8.out.below hbx5)
  clear HAc8
  have HAx59 := Lib.hid hox5.ar
  have HFx5 := Lib.hid (And.intro hux5 hmx5)
  clear hox5 hbx5 hux5 hmx5
  try dsimp only
  go_wp2_with fail
  refine (and_any HAa9.out HAx59.out (by omega) (by omega)).mono ?_
  rintro e w10 ⟨vx6, rx6, rfl, hox6, hbx6, hux6, hmx6, hlx6⟩
  have HB10 := Lib.hid (HB9.out.trans (hbx6.mono HB9.out.size))
  have HAa10 := Lib.hid (HAa9.out.below hbx6)
  clear HAa9
  have HAb10 := Lib.hid (HAb9.out.below hbx6)
  clear HAb9
  have HAc10 := Lib.hid (HAc9.out.below hbx6)
  clear HAc9
  have HAx510 := Lib.hid (HAx59.out.below hbx6)
  clear HAx59
  have HAx610 := Lib.hid hox6.ar
  have HFx6 := Lib.hid (And.intro hux6 hmx6)
  clear hox6 hbx6 hux6 hmx6
  try dsimp only
  go_wp2_with fail
  refine (and_any HAa10.out HAb10.out (by omega) (by omega)).mono ?_
  rintro e w11 ⟨vx7, rx7, rfl, hox7, hbx7, hux7, hmx7, hlx7⟩
  have HB11 := Lib.hid (HB10.out.trans (hbx7.mono HB10.out.size))
  have HAa11 := Lib.hid (HAa10.out.below hbx7)
  clear HAa10
  have HAb11 := Lib.hid (HAb10.out.below hbx7)
  clear HAb10
  have HAc11 := Lib.hid (HAc10.out.below hbx7)
  clear HAc10
  have HAx511 := Lib.hid (HAx510.out.below hbx7)
  clear HAx510
  have HAx611 := Lib.hid (HAx610.out.below hbx7)
  clear HAx610
  have HAx711 := Lib.hid hox7.ar
  have HFx7 := Lib.hid (And.intro hux7 hmx7)
  clear hox7 hbx7 hux7 hmx7
  try dsimp only
  go_wp2_with fail
  refine (and_any HAa11.out HAc11.out (by omega) (by omega)).mono ?_
  rintro e w12 ⟨vx8, rx8, rfl, hox8, hbx8, hux8, hmx8, hlx8⟩
  have HB12 := Lib.hid (HB11.out.trans (hbx8.mono HB11.out.size))
  have HAa12 := Lib.hid (HAa11.out.below hbx8)
  clear HAa11
  have HAb12 := Lib.hid (HAb11.out.below hbx8)
  clear HAb11
  have HAc12 := Lib.hid (HAc11.out.below hbx8)
  clear HAc11
  have HAx512 := Lib.hid (HAx511.out.below hbx8)
  clear HAx511
  have HAx612 := Lib.hid (HAx611.out.below hbx8)
  clear HAx611
  have HAx712 := Lib.hid (HAx711.out.below hbx8)
  clear HAx711
  have HAx812 := Lib.hid hox8.ar
  have HFx8 := Lib.hid (And.intro hux8 hmx8)
  clear hox8 hbx8 hux8 hmx8
  try dsimp only
  go_wp2_with fail
  refine (or_any HAx712.out HAx812.out (by omega)).mono ?_
  rintro e w13 ⟨vx9, rx9, rfl, hox9, hbx9, hux9, hmx9, hlx9⟩
  have HB13 := Lib.hid (HB12.out.trans (hbx9.mono HB12.out.size))
  have HAa13 := Lib.hid (HAa12.out.below hbx9)
  clear HAa12
  have HAb13 := Lib.hid (HAb12.out.below hbx9)
  clear HAb12
  have HAc13 := Lib.hid (HAc12.out.below hbx9)
  clear HAc12
  have HAx513 := Lib.hid (HAx512.out.below hbx9)
  clear HAx512
  have HAx613 := Lib.hid (HAx612.out.below hbx9)
  clear HAx612
  have HAx713 := Lib.hid (HAx712.out.below hbx9)
  clear HAx712
  have HAx813 := Lib.hid (HAx812.out.below hbx9)
  clear HAx812
  have HAx913 := Lib.hid hox9.ar
  have HFx9 := Lib.hid (And.intro hux9 hmx9)
  clear hox9 hbx9 hux9 hmx9
  try dsimp only
  go_wp2_with fail
  refine (same_yes HAx613.out HAx913.out (up_eq HFx6.out.1 HFx9.out.1 (fun z => by rw [HFx6.out.2, HFx5.out.2, HFx9.out.2, HFx7.out.2, HFx8.out.2]; by_cases h1 : z ∈ la <;> by_cases h2 : z ∈ lb <;> by_cases h3 : z ∈ lc <;> simp [h1, h2, h3])) (by omega)).mono ?_
  rintro e w14 ⟨rfl, hbs⟩
  have HB14 := Lib.hid (HB13.out.trans (hbs.mono HB13.out.size))
  have HAa14 := Lib.hid (HAa13.out.below hbs)
  clear HAa13
  have HAb14 := Lib.hid (HAb13.out.below hbs)
  clear HAb13
  have HAc14 := Lib.hid (HAc13.out.below hbs)
  clear HAc13
  have HAx514 := Lib.hid (HAx513.out.below hbs)
  clear HAx513
  have HAx614 := Lib.hid (HAx613.out.below hbs)
  clear HAx613
  have HAx714 := Lib.hid (HAx713.out.below hbs)
  clear HAx713
  have HAx814 := Lib.hid (HAx813.out.below hbs)
  clear HAx813
  have HAx914 := Lib.hid (HAx913.out.below hbs)
  clear HAx913
  clear hbs
  try dsimp only
  go_wp2_with fail
  refine (less_two HAa14.out HAb14.out (by omega) (by omega)).mono ?_
  rintro e w15 ⟨vy1, ry1, rfl, hoy1, hby1, huy1, hmy1, hly1⟩
  have HB15 := Lib.hid (HB14.out.trans (hby1.mono HB14.out.size))
  have HAa15 := Lib.hid (HAa14.out.below hby1)
  clear HAa14
  have HAb15 := Lib.hid (HAb14.out.below hby1)
  clear HAb14
  have HAc15 := Lib.hid (HAc14.out.below hby1)
  clear HAc14
  have HAx515 := Lib.hid (HAx514.out.below hby1)
  clear HAx514
  have HAx715 := Lib.hid (HAx714.out.below hby1)
  clear HAx714
  have HAx815 := Lib.hid (HAx814.out.below hby1)
  clear HAx814
  have HAy115 := Lib.hid hoy1.ar
  have HFy1 := Lib.hid (And.intro huy1 hmy1)
  clear hoy1 hby1 huy1 hmy1
  try dsimp only
  go_wp2_with fail
  refine (and_any HAa15.out HAb15.out (by omega) (by omega)).mono ?_
  rintro e w16 ⟨vy2, ry2, rfl, hoy2, hby2, huy2, hmy2, hly2⟩
  have HB16 := Lib.hid (HB15.out.trans (hby2.mono HB15.out.size))
  have HAa16 := Lib.hid (HAa15.out.below hby2)
  clear HAa15
  have HAb16 := Lib.hid (HAb15.out.below hby2)
  clear HAb15
  have HAc16 := Lib.hid (HAc15.out.below hby2)
  clear HAc15
  have HAx516 := Lib.hid (HAx515.out.below hby2)
  clear HAx515
  have HAx716 := Lib.hid (HAx715.out.below hby2)
  clear HAx715
  have HAx816 := Lib.hid (HAx815.out.below hby2)
  clear HAx815
  have HAy116 := Lib.hid (HAy115.out.below hby2)
  clear HAy115
  have HAy216 := Lib.hid hoy2.ar
  have HFy2 := Lib.hid (And.intro huy2 hmy2)
  clear hoy2 hby2 huy2 hmy2
  try dsimp only
  go_wp2_with fail
  refine (or_any HAy116.out HAy216.out (by omega)).mono ?_
  rintro e w17 ⟨vy3, ry3, rfl, hoy3, hby3, huy3, hmy3, hly3⟩
  have HB17 := Lib.hid (HB16.out.trans (hby3.mono HB16.out.size))
  have HAa17 := Lib.hid (HAa16.out.below hby3)
  clear HAa16
  have HAb17 := Lib.hid (HAb16.out.below hby3)
  clear HAb16
  have HAc17 := Lib.hid (HAc16.out.below hby3)
  clear HAc16
  have HAx517 := Lib.hid (HAx516.out.below hby3)
  clear HAx516
  have HAx717 := Lib.hid (HAx716.out.below hby3)
  clear HAx716
  have HAx817 := Lib.hid (HAx816.out.below hby3)
  clear HAx816
  have HAy117 := Lib.hid (HAy116.out.below hby3)
  clear HAy116
  have HAy217 := Lib.hid (HAy216.out.below hby3)
  clear HAy216
  have HAy317 := Lib.hid hoy3.ar
  have HFy3 := Lib.hid (And.intro huy3 hmy3)
  clear hoy3 hby3 huy3 hmy3
  try dsimp only
  go_wp2_with fail
  refine (of_any HAa17.out (by omega)).mono ?_
  rintro e w18 ⟨vy4, ry4, rfl, hoy4, hby4, huy4, hmy4, hly4⟩
  have HB18 := Lib.hid (HB17.out.trans (hby4.mono HB17.out.size))
  have HAa18 := Lib.hid (HAa17.out.below hby4)
  clear HAa17
  have HAb18 := Lib.hid (HAb17.out.below hby4)
  clear HAb17
  have HAc18 := Lib.hid (HAc17.out.below hby4)
  clear HAc17
  have HAx518 := Lib.hid (HAx517.out.below hby4)
  clear HAx517
  have HAx718 := Lib.hid (HAx717.out.below hby4)
  clear HAx717
  have HAx818 := Lib.hid (HAx817.out.below hby4)
  clear HAx817
  have HAy118 := Lib.hid (HAy117.out.below hby4)
  clear HAy117
  have HAy218 := Lib.hid (HAy217.out.below hby4)
  clear HAy217
  have HAy318 := Lib.hid (HAy317.out.below hby4)
  clear HAy317
  have HAy418 := Lib.hid hoy4.ar
  have HFy4 := Lib.hid (And.intro huy4 hmy4)
  clear hoy4 hby4 huy4 hmy4
  try dsimp only
  go_wp2_with fail
  refine (same_yes HAy318.out HAy418.out (up_eq HFy3.out.1 HFy4.out.1 (fun z => by rw [HFy3.out.2, HFy1.out.2, HFy2.out.2, HFy4.out.2]; by_cases h1 : z ∈ la <;> by_cases h2 : z ∈ lb <;> simp [h1, h2])) (by omega)).mono ?_
  rintro e w19 ⟨rfl, hbs⟩
  have HB19 := Lib.hid (HB18.out.trans (hbs.mono HB18.out.size))
  have HAa19 := Lib.hid (HAa18.out.below hbs)
  clear HAa18
  have HAb19 := Lib.hid (HAb18.out.below hbs)
  clear HAb18
  have HAc19 := Lib.hid (HAc18.out.below hbs)
  clear HAc18
  have HAx519 := Lib.hid (HAx518.out.below hbs)
  clear HAx518
  have HAx719 := Lib.hid (HAx718.out.below hbs)
  clear HAx718
  have HAx819 := Lib.hid (HAx818.out.below hbs)
  clear HAx818
  have HAy119 := Lib.hid (HAy118.out.below hbs)
  clear HAy118
  have HAy219 := Lib.hid (HAy218.out.below hbs)
  clear HAy218
  have HAy319 := Lib.hid (HAy318.out.below hbs)
  clear HAy318
  have HAy419 := Lib.hid (HAy418.out.below hbs)
  clear HAy418
  clear hbs
  try dsimp only
  go_wp2_with fail
  refine (or_any HAb19.out HAc19.out (by omega)).mono ?_
  rintro e w20 ⟨vz1, rz1, rfl, hoz1, hbz1, huz1, hmz1, hlz1⟩
  have HB20 := Lib.hid (HB19.out.trans (hbz1.mono HB19.out.size))
  have HAa20 := Lib.hid (HAa19.out.below hbz1)
  clear HAa19
  have HAb20 := Lib.hid (HAb19.out.below hbz1)
  clear HAb19
  have HAc20 := Lib.hid (HAc19.out.below hbz1)
  clear HAc19
  have HAx520 := Lib.hid (HAx519.out.below hbz1)
  clear HAx519
  have HAx720 := Lib.hid (HAx719.out.below hbz1)
  clear HAx719
  have HAx820 := Lib.hid (HAx819.out.below hbz1)
  clear HAx819
  have HAy120 := Lib.hid (HAy119.out.below hbz1)
  clear HAy119
  have HAy220 := Lib.hid (HAy219.out.below hbz1)
  clear HAy219
  have HAz120 := Lib.hid hoz1.ar
  have HFz1 := Lib.hid (And.intro huz1 hmz1)
  clear hoz1 hbz1 huz1 hmz1
  try dsimp only
  go_wp2_with fail
  refine (less_two HAa20.out HAz120.out (by omega) (by omega)).mono ?_
  rintro e w21 ⟨vz2, rz2, rfl, hoz2, hbz2, huz2, hmz2, hlz2⟩
  have HB21 := Lib.hid (HB20.out.trans (hbz2.mono HB20.out.size))
  have HAa21 := Lib.hid (HAa20.out.below hbz2)
  clear HAa20
  have HAb21 := Lib.hid (HAb20.out.below hbz2)
  clear HAb20
  have HAc21 := Lib.hid (HAc20.out.below hbz2)
  clear HAc20
  have HAx521 := Lib.hid (HAx520.out.below hbz2)
  clear HAx520
  have HAx721 := Lib.hid (HAx720.out.below hbz2)
  clear HAx720
  have HAx821 := Lib.hid (HAx820.out.below hbz2)
  clear HAx820
  have HAy121 := Lib.hid (HAy120.out.below hbz2)
  clear HAy120
  have HAy221 := Lib.hid (HAy220.out.below hbz2)
  clear HAy220
  have HAz121 := Lib.hid (HAz120.out.below hbz2)
  clear HAz120
  have HAz221 := Lib.hid hoz2.ar
  have HFz2 := Lib.hid (And.intro huz2 hmz2)
  clear hoz2 hbz2 huz2 hmz2
  try dsimp only
  go_wp2_with fail
  refine (less_two HAa21.out HAb21.out (by omega) (by omega)).mono ?_
  rintro e w22 ⟨vz3, rz3, rfl, hoz3, hbz3, huz3, hmz3, hlz3⟩
  have HB22 := Lib.hid (HB21.out.trans (hbz3.mono HB21.out.size))
  have HAa22 := Lib.hid (HAa21.out.below hbz3)
  clear HAa21
  have HAb22 := Lib.hid (HAb21.out.below hbz3)
  clear HAb21
  have HAc22 := Lib.hid (HAc21.out.below hbz3)
  clear HAc21
  have HAx522 := Lib.hid (HAx521.out.below hbz3)
  clear HAx521
  have HAx722 := Lib.hid (HAx721.out.below hbz3)
  clear HAx721
  have HAx822 := Lib.hid (HAx821.out.below hbz3)
  clear HAx821
  have HAy122 := Lib.hid (HAy121.out.below hbz3)
  clear HAy121
  have HAy222 := Lib.hid (HAy221.out.below hbz3)
  clear HAy221
  have HAz122 := Lib.hid (HAz121.out.below hbz3)
  clear HAz121
  have HAz222 := Lib.hid (HAz221.out.below hbz3)
  clear HAz221
  have HAz322 := Lib.hid hoz3.ar
  have HFz3 := Lib.hid (And.intro huz3 hmz3)
  clear hoz3 hbz3 huz3 hmz3
  try dsimp only
  go_wp2_with fail
  refine (less_two HAa22.out HAc22.out (by omega) (by omega)).mono ?_
  rintro e w23 ⟨vz4, rz4, rfl, hoz4, hbz4, huz4, hmz4, hlz4⟩
  have HB23 := Lib.hid (HB22.out.trans (hbz4.mono HB22.out.size))
  have HAa23 := Lib.hid (HAa22.out.below hbz4)
  clear HAa22
  have HAb23 := Lib.hid (HAb22.out.below hbz4)
  clear HAb22
  have HAc23 := Lib.hid (HAc22.out.below hbz4)
  clear HAc22
  have HAx523 := Lib.hid (HAx522.out.below hbz4)
  clear HAx522
  have HAx723 := Lib.hid (HAx722.out.below hbz4)
  clear HAx722
  have HAx823 := Lib.hid (HAx822.out.below hbz4)
  clear HAx822
  have HAy123 := Lib.hid (HAy122.out.below hbz4)
  clear HAy122
  have HAy223 := Lib.hid (HAy222.out.below hbz4)
  clear HAy222
  have HAz123 := Lib.hid (HAz122.out.below hbz4)
  clear HAz122
  have HAz223 := Lib.hid (HAz222.out.below hbz4)
  clear HAz222
  have HAz323 := Lib.hid (HAz322.out.below hbz4)
  clear HAz322
  have HAz423 := Lib.hid hoz4.ar
  have HFz4 := Lib.hid (And.intro huz4 hmz4)
  clear hoz4 hbz4 huz4 hmz4
  try dsimp only
  go_wp2_with fail
  refine (and_any HAz323.out HAz423.out (by omega) (by omega)).mono ?_
  rintro e w24 ⟨vz5, rz5, rfl, hoz5, hbz5, huz5, hmz5, hlz5⟩
  have HB24 := Lib.hid (HB23.out.trans (hbz5.mono HB23.out.size))
  have HAa24 := Lib.hid (HAa23.out.below hbz5)
  clear HAa23
  have HAb24 := Lib.hid (HAb23.out.below hbz5)
  clear HAb23
  have HAc24 := Lib.hid (HAc23.out.below hbz5)
  clear HAc23
  have HAx524 := Lib.hid (HAx523.out.below hbz5)
  clear HAx523
  have HAx724 := Lib.hid (HAx723.out.below hbz5)
  clear HAx723
  have HAx824 := Lib.hid (HAx823.out.below hbz5)
  clear HAx823
  have HAy124 := Lib.hid (HAy123.out.below hbz5)
  clear HAy123
  have HAy224 := Lib.hid (HAy223.out.below hbz5)
  clear HAy223
  have HAz124 := Lib.hid (HAz123.out.below hbz5)
  clear HAz123
  have HAz224 := Lib.hid (HAz223.out.below hbz5)
  clear HAz223
  have HAz324 := Lib.hid (HAz323.out.below hbz5)
  clear HAz323
  have HAz424 := Lib.hid (HAz423.out.below hbz5)
  clear HAz423
  have HAz524 := Lib.hid hoz5.ar
  have HFz5 := Lib.hid (And.intro huz5 hmz5)
  clear hoz5 hbz5 huz5 hmz5
  try dsimp only
  go_wp2_with fail
  refine (same_yes HAz224.out HAz524.out (up_eq HFz2.out.1 HFz5.out.1 (fun z => by rw [HFz2.out.2, HFz1.out.2, HFz5.out.2, HFz3.out.2, HFz4.out.2]; by_cases h1 : z ∈ la <;> by_cases h2 : z ∈ lb <;> by_cases h3 : z ∈ lc <;> simp [h1, h2, h3])) (by omega)).mono ?_
  rintro e w25 ⟨rfl, hbs⟩
  have HB25 := Lib.hid (HB24.out.trans (hbs.mono HB24.out.size))
  have HAa25 := Lib.hid (HAa24.out.below hbs)
  clear HAa24
  have HAb25 := Lib.hid (HAb24.out.below hbs)
  clear HAb24
  have HAc25 := Lib.hid (HAc24.out.below hbs)
  clear HAc24
  have HAx525 := Lib.hid (HAx524.out.below hbs)
  clear HAx524
  have HAx725 := Lib.hid (HAx724.out.below hbs)
  clear HAx724
  have HAx825 := Lib.hid (HAx824.out.below hbs)
  clear HAx824
  have HAy125 := Lib.hid (HAy124.out.below hbs)
  clear HAy124
  have HAy225 := Lib.hid (HAy224.out.below hbs)
  clear HAy224
  have HAz125 := Lib.hid (HAz124.out.below hbs)
  clear HAz124
  have HAz225 := Lib.hid (HAz224.out.below hbs)
  clear HAz224
  have HAz325 := Lib.hid (HAz324.out.below hbs)
  clear HAz324
  have HAz425 := Lib.hid (HAz424.out.below hbs)
  clear HAz424
  have HAz525 := Lib.hid (HAz524.out.below hbs)
  clear HAz524
  clear hbs
  try dsimp only
  go_wp2_with fail
  go_ret
  exact ⟨rfl, HB25.out⟩
end Ps
end Go.Proofs.Ytkpolakdamiiiaa
