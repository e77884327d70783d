/- One list more on the heap; the last one less. Conditions: as stated at each. -/
import Derived.Test.YtkpolakdamiiiaaPsDown
namespace Go.Proofs.Ytkpolakdamiiiaa
set_option maxRecDepth 100000
namespace Ps
open Go.RowKit Go
attribute [local go_sem] Oper.semAt_some
/-- one more behind a row of the call's own. -/
theorem run_one (w : World) (ty t e : TypeId) {z : Value} {bytes : Nat} (ht : Try.prog.underlying t = some (.slice e)) (hI : (Try.prog.info? e).map (fun i => (i.zero, i.size, i.bytes)) = some (some z, 1, bytes)) (hz : z.cells.size = 1) (hby : bytes ≤ 24)
    {N n : Nat} {v : Value} {xs : List Value} (hown : w.ownsRow N e 1 v n xs) {g c : Nat} {u : Value} (hu : w.cell? ⟨g, 0, none⟩ = some u) (h1 : u.oneCell' = true) (h63 : n ≤ 1000000) (hN : N ≤ w.heap.size) :
    ∃ v' w', (Builtin.append_ #[t, t] ty #[v, .slice (some ⟨g, 0, none⟩) 1 c]).run Try.prog w = .ok v' w' ∧ w'.ownsRow N e 1 v' (n + 1) (xs ++ [u]) ∧ w.grownBy w' v.ownBlock ∧ (v'.ownBlock = v.ownBlock ∨ v'.ownBlock = some w.heap.size) := by
  obtain ⟨i, hi, hz', h0, h2⟩ := info_parts hI
  obtain ⟨v', w', hrun, q2, q3, _, q5⟩ := run_append_own_at (P := Try.prog) w N t ty e i z 1 bytes ht hi hz' h0 h2 hz (by omega) v n xs hown ⟨g, 0, none⟩ 1 c [u] (by simp) (fun j x hj => by
    rcases j with _ | j
    · simp only [List.getElem?_cons_zero, Option.some.injEq] at hj
      subst hj
      exact hu
    · simp at hj) (fun x hx => by rw [List.mem_singleton.1 hx]; exact h1) (by unfold maxLen; omega)
    (Nat.le_trans (Nat.mul_le_mul (Nat.add_le_add_right h63 1) hby) (by decide)) hN
  exact ⟨v', w', hrun, q2, q3, q5⟩
theorem stepS {w : World} {ops : Array Oper} {o : Oper} {a : Act} {K : Act → World → Prop} {Q : Exit → Act → World → Prop} {F : Prop} (s x : Operand) (t e : TypeId) {z : Value} {bytes : Nat} (ht : Try.prog.underlying t = some (.slice e)) (hI : (Try.prog.info? e).map (fun i => (i.zero, i.size, i.bytes)) = some (some z, 1, bytes)) (hz : z.cells.size = 1) (hby : bytes ≤ 24)
    (ho : o.op = .call { callee := .builtin .append, args := #[s, x], argTypes := #[t, t] }) (hgd : o.guard = none)
    {N n : Nat} {v : Value} {xs : List Value} (hs : a.eval s = v) (hown : w.ownsRow N e 1 v n xs) {g c : Nat} {u : Value} (hx : a.eval x = .slice (some ⟨g, 0, none⟩) 1 c) (hu : w.cell? ⟨g, 0, none⟩ = some u) (h1 : u.oneCell' = true) (h63 : n ≤ 1000000) (hN : N ≤ w.heap.size)
    (h : ∀ v' w', w'.ownsRow N e 1 v' (n + 1) (xs ++ [u]) → w.grownBy w' v.ownBlock → (v'.ownBlock = v.ownBlock ∨ v'.ownBlock = some w.heap.size) → K (a.put o.dst v') w') : if Region.wanted o (yielded ops a.tmps) = true then Oper.wp Try.prog o a w K Q else F := by
  have hw : Region.wanted o (yielded ops a.tmps) = true := by simp [Region.wanted, hgd]
  rw [if_pos hw]
  obtain ⟨v', w', hrun, h2, h3, h4⟩ := run_one w o.type t e ht hI hz hby hown hu h1 h63 hN (c := c)
  unfold Oper.wp execOp
  simp only [ho, resolve, invoke, builtin, Sem.run_bind, Sem.run_pure, Result.andThen_ok, List.map_toArray, List.map_cons, List.map_nil, hs, hx, hrun]
  exact h v' w' h2 h3 h4
theorem lappS {F : Fence} {n' : Nat} {w : World} {ops : Array Oper} {rest : List Oper} {o : Oper} {a : Act} {Q : Exit → Act → World → Prop} (hF : Wide F (n' - 1) Try.prog) (s x : Operand) (t e : TypeId) {z : Value} {bytes : Nat} (ht : Try.prog.underlying t = some (.slice e)) (hI : (Try.prog.info? e).map (fun i => (i.zero, i.size, i.bytes)) = some (some z, 1, bytes)) (hz : z.cells.size = 1) (hby : bytes ≤ 24)
    (ho : o.op = .call { callee := .builtin .append, args := #[s, x], argTypes := #[t, t] }) (hgd : o.guard = none)
    {N n : Nat} {v : Value} {xs : List Value} (hs : a.eval s = v) (hown : w.ownsRow N e 1 v n xs) {g c : Nat} {u : Value} (hx : a.eval x = .slice (some ⟨g, 0, none⟩) 1 c) (hu : w.cell? ⟨g, 0, none⟩ = some u) (h1 : u.oneCell' = true) (h63 : n ≤ 1000000) (hN : N ≤ w.heap.size)
    (h : ∀ v' w', w'.ownsRow N e 1 v' (n + 1) (xs ++ [u]) → w.grownBy w' v.ownBlock → (v'.ownBlock = v.ownBlock ∨ v'.ownBlock = some w.heap.size) → wpListIn F n' Try.prog ops Q rest (a.put o.dst v') w') : wpListIn F n' Try.prog ops Q (o :: rest) a w := by
  refine lin_wp hF hgd (fun c hc => by (rw [ho] at hc; cases hc)) fun K hK => ?_
  obtain ⟨v', w', hrun, h2, h3, h4⟩ := run_one w o.type t e ht hI hz hby hown hu h1 h63 hN (c := c)
  unfold Oper.wp execOp
  simp only [ho, resolve, invoke, builtin, Sem.run_bind, Sem.run_pure, Result.andThen_ok, List.map_toArray, List.map_cons, List.map_nil, hs, hx, hrun]
  exact hK _ _ (h v' w' h2 h3 h4)
theorem own_low {w : World} {N n : Nat} {e : TypeId} {v : Value} {xs : List Value} (h : w.ownsRow N e 1 v n xs) : ∀ k, v.ownBlock = some k → N ≤ k ∧ ∃ cur, w.heap[k]? = some (.cells cur e (0, 0)) := fun k hk => by
  rcases h.2 with ⟨rfl, _⟩ | ⟨g, cap, cur, rfl, hn, hh, _⟩
  · cases hk
  · have : g = k := by simpa [Value.ownBlock] using hk
    subst this
    exact ⟨hn, cur, hh⟩
theorem row_blk_ne {w : World} {P : Nat} {v : Value} (hb : BlkIs w P 44 #[v]) {N n : Nat} {e : TypeId} {v' : Value} {xs : List Value} (h : w.ownsRow N e 1 v' n xs) (he : e ≠ 44) {g : Nat} (hg : v'.ownBlock = some g) : P ≠ g := by
  rintro rfl
  obtain ⟨_, cur, hc⟩ := own_low h P hg
  rw [show w.heap[P]? = _ from hb] at hc
  injection hc with hc
  injection hc with _ ht
  exact he ht.symm
theorem own_kept' {w : World} {P : Nat} {u : Value} {N n : Nat} {e : TypeId} {v : Value} {xs : List Value} (h : w.ownsRow N e 1 v n xs) (hne : ∀ g, v.ownBlock = some g → P ≠ g) : (w.setCell ⟨P, 0, none⟩ u).ownsRow N e 1 v n xs :=
  own_tk h (Tk.setCell (q := fun i _ => i = P) u (fun _ _ => rfl)) (fun g _ hg e => hne g hg e.symm)
variable {w : World} {D P : Nat} {p : Nat → Prop} {H : List E}
set_option maxHeartbeats 3200000 in
theorem push_any (h : Hp w D P p H) (hp : ∀ i, w.heap.size ≤ i → p i) {e : E} (he : Ints w D e.a e.l) (hc : e.l.length ≤ e.c) (hg : e.l ≠ [] ∧ Up e.l) (hn : H.length ≤ 100000) :
    Calls Try.prog 55 #[.pointer (some ⟨P, 0, none⟩), .iface 22 e.val] w fun r w' => r = .returned (.tuple #[]) ∧ Hp w' D P p (H ++ [e]) ∧ Tk (hq p P) w w' := by
  obtain ⟨v, hb, hr, hv⟩ := h.ex
  have HH := Lib.hid h
  have HR := Lib.hid hr
  have HV := Lib.hid hv
  have HP := Lib.hid hp
  have HE := Lib.hid he
  have HG := Lib.hid (And.intro hc hg)
  obtain ⟨ea, en, ec, hev⟩ : ∃ a n c, e.val = .slice a n c := ⟨_, _, _, rfl⟩
  have HEV := Lib.hid hev
  rw [hev]
  have hta : ∀ w : World, (Instr.typeAssert (.iface 22 (.slice ea en ec)) 20 22 false).run Try.prog w = .ok (.slice ea en ec) w := fun _ => by kernel_rfl
  clear h hr hv hp he hc hg hev
  go_enter Try.func55, Try.ntmps55
  go_wp2_with fail
  have hb1 : BlkIs w.drew P 44 #[v] := hb
  have HR1 : Hid (Rw w.drew D v H) := Lib.hid (HR.out.alk ⟨rfl, rfl, rfl, rfl⟩)
  refine wp_region_key ((fun Y => BlkIs Y P 44 #[v])) 9 (by kernel_rfl) (hb1) (fun hHeld => ?_)
  have hz0 : w.heap.size = w.drew.heap.size := rfl
  have HT0 : Hid (Tk (hq p P) w w.drew) := Lib.hid (Tk.refl _ w).drew
  clear hb HR
  generalize w.drew = w1 at *
  have HZ := Lib.hid hz0
  clear hz0
  refine wpAnyK_take (i := 0) (v := .pointer (some ⟨P, 0, none⟩)) rfl (by kernel_rfl) (by kernel_rfl) (by kernel_rfl) (by kernel_rfl) (fun _ _ _ h => h) (Or.inl ⟨by rfl, fun w hS => by first | (go_simp; done) | (go_simp; with_reducible rfl)⟩) hHeld ?_
  try simp only [Act.put, List.getElem_toArray, List.getElem_cons_zero, List.setIfInBounds_toArray, List.set_cons_zero, List.set_cons_succ]
  refine wpAnyK_take (i := 1) (v := .pointer (some ⟨P, 0, none⟩)) rfl (by kernel_rfl) (by kernel_rfl) (by kernel_rfl) (by kernel_rfl) (fun _ _ _ h => h) (Or.inl ⟨by rfl, fun w hS => by first | (go_simp; done) | (go_simp; with_reducible rfl)⟩) hHeld ?_
  try simp only [Act.put, List.getElem_toArray, List.getElem_cons_zero, List.getElem_cons_succ, List.setIfInBounds_toArray, List.set_cons_zero, List.set_cons_succ]
  refine wpAnyK_take (i := 2) (v := .pointer (some ⟨P, 0, none⟩)) rfl (by kernel_rfl) (by kernel_rfl) (by kernel_rfl) (by kernel_rfl) (fun _ _ _ h => h) (Or.inl ⟨by rfl, fun w hS => by (have c := BlkIs.cell hS 0; first | (go_simp; done) | (go_simp; with_reducible rfl))⟩) hHeld ?_
  try simp only [Act.put, List.getElem_toArray, List.getElem_cons_zero, List.getElem_cons_succ, List.setIfInBounds_toArray, List.set_cons_zero, List.set_cons_succ]
  refine wpAnyK_take (i := 3) (v := v) rfl (by kernel_rfl) (by kernel_rfl) (by kernel_rfl) (by kernel_rfl) (fun _ _ _ h => h) (Or.inl ⟨by rfl, fun w hS => by (have c := (BlkIs.cell hS 0).trans (rfl : _ = some v); first | (go_simp; done) | (go_simp; with_reducible rfl))⟩) hHeld ?_
  try simp only [Act.put, List.getElem_toArray, List.getElem_cons_zero, List.getElem_cons_succ, List.setIfInBounds_toArray, List.set_cons_zero, List.set_cons_succ]
  refine wpAnyK_take (i := 4) (v := .iface 22 (.slice ea en ec)) rfl (by kernel_rfl) (by kernel_rfl) (by kernel_rfl) (by kernel_rfl) (fun _ _ _ h => h) (Or.inl ⟨by rfl, fun w hS => by first | (go_simp; done) | (go_simp; with_reducible rfl)⟩) hHeld ?_
  try simp only [Act.put, List.getElem_toArray, List.getElem_cons_zero, List.getElem_cons_succ, List.setIfInBounds_toArray, List.set_cons_zero, List.set_cons_succ]
  refine wpAnyK_take (i := 5) (v := .slice ea en ec) rfl (by kernel_rfl) (by kernel_rfl) (by kernel_rfl) (by kernel_rfl) (fun _ _ _ h => h) (Or.inl ⟨by rfl, fun w hS => by first | (go_simp; done) | (go_simp; with_reducible rfl)⟩) hHeld ?_
  try simp only [Act.put, List.getElem_toArray, List.getElem_cons_zero, List.getElem_cons_succ, List.setIfInBounds_toArray, List.set_cons_zero, List.set_cons_succ]
  have hb2 := hb1.alloc (.cells #[.slice ea en ec] 22)
  have HR2 := Lib.hid (HR1.out.tk (q := fun _ _ => False) ((Tk.refl _ w1).alloc (.cells #[.slice ea en ec] 22)) (fun _ _ _ h => h) (fun _ _ _ _ _ h => h))
  have HT2 := Lib.hid (HT0.out.alloc (.cells #[.slice ea en ec] 22))
  have HCS := Lib.hid ((BlkIs.cell (BlkIs.new w1 22 #[.slice ea en ec]) 0).trans (rfl : _ = some (Value.slice ea en ec)))
  clear hb1 HR1 HT0 hHeld
  refine wpAnyK_ready (rs := [6]) (by kernel_rfl) (by simp) ?_
  refine AllReadyK.cons rfl (fun K hK => ?_) AllReadyK.nil
  go_simp
  refine hK.out _ _ ?_ (fun hHeld => ?_)
  · exact hb2
  clear hK K
  try simp only [Act.put, List.getElem_toArray, List.getElem_cons_zero, List.getElem_cons_succ, List.setIfInBounds_toArray, List.set_cons_zero, List.set_cons_succ]
  have hz2 : w1.heap.size + 1 = (w1.alloc (.cells #[.slice ea en ec] 22)).heap.size := by simp
  generalize w1.alloc (.cells #[.slice ea en ec] 22) = w2 at *
  have HK : Hid (∀ v' w3, w3.ownsRow 0 22 1 v' (H.length + 1) (H.map E.val ++ [.slice ea en ec]) → w2.grownBy w3 v.ownBlock → BlkIs w3 P 44 #[v]) := Lib.hid (fun v' w3 _ hg => (show BlkIs w2 P _ _ from hb2).grown hg (fun e => row_ne hb2 HR2.out e rfl))
  refine wpAnyK_ready (rs := [7]) (by kernel_rfl) (by simp) ?_
  refine AllReadyK.cons rfl (fun K hK => ?_) AllReadyK.nil
  refine stepS (.tmp 7) (.tmp 10) 44 22 Try.underlying44 infoS rfl (by decide) rfl rfl (v := v) (n := H.length) (xs := H.map E.val) rfl HR2.out.own (g := w1.heap.size) (c := 1) rfl HCS.out rfl (by omega) (Nat.zero_le _) ?_; intro v3 w3 ho3 hg3 hv3
  refine hK.out _ _ ?_ (fun hHeld => ?_)
  · exact HK.out v3 w3 ho3 hg3
  clear hK K
  try simp only [Act.put, List.getElem_toArray, List.getElem_cons_zero, List.getElem_cons_succ, List.setIfInBounds_toArray, List.set_cons_zero, List.set_cons_succ]
  have hb3 := HK.out v3 w3 ho3 hg3
  obtain ⟨A3, k3, rfl, _, _⟩ := own_slice ho3
  have HO3 := Lib.hid ho3
  have HG3 := Lib.hid hg3
  have HV3 := Lib.hid hv3
  have hz3 := hg3.size
  clear HK HCS ho3 hg3 hv3
  refine wpAnyK_take (i := 8) (v := .pointer (some ⟨P, 0, none⟩)) rfl (by kernel_rfl) (by kernel_rfl) (by kernel_rfl) (by kernel_rfl) (fun _ _ _ h => h) (Or.inl ⟨by rfl, fun w hS => by (have c := BlkIs.cell hS 0; first | (go_simp; done) | (go_simp; with_reducible rfl))⟩) hHeld ?_
  try simp only [Act.put, List.getElem_toArray, List.getElem_cons_zero, List.getElem_cons_succ, List.setIfInBounds_toArray, List.set_cons_zero, List.set_cons_succ]
  have c3 := (BlkIs.cell hb3 0).trans (rfl : _ = some v)
  have f3 := BlkIs.froz hb3 0
  refine wpAnyK_ready (rs := [9]) (by kernel_rfl) (by simp) ?_
  refine AllReadyK.late rfl (by kernel_rfl) (fun K hK => ?_) AllReadyK.nil
  go_simp
  refine hK.out _ _ ?_ (fun _ => ?_)
  · trivial
  clear hK K
  try simp only [Act.put, List.getElem_toArray, List.getElem_cons_zero, List.getElem_cons_succ, List.setIfInBounds_toArray, List.set_cons_zero, List.set_cons_succ]
  refine wpAnyK_done (by kernel_rfl) ?_ _
  have HB4 := Lib.hid (BlkIs.put hb3 0 (.slice A3 (H.length + 1) k3))
  have HT4 : Hid (Tk (hq p P) w3 (w3.setCell ⟨P, 0, none⟩ (.slice A3 (H.length + 1) k3))) := Lib.hid (Tk.setCell _ (fun o ho => by
    rw [show w3.heap[P]? = _ from hb3] at ho
    injection ho with ho
    exact ⟨.inl rfl, _, _, _, ho.symm, by decide⟩))
  have HNE := Lib.hid (fun g hg => row_blk_ne hb3 HO3.out (by decide) (g := g) hg)
  have HT3 : Hid (Tk (hq p P) w2 w3) := Lib.hid (Tk.grown HG3.out (fun g o hg ho => by
    obtain ⟨_, cur, hc⟩ := own_low HR2.out.own g hg
    rw [hc] at ho
    injection ho with ho
    exact ⟨.inr (HV.out g hg), _, _, _, ho.symm, by decide⟩))
  clear c3 f3 hb3 hb2 hta
  go_wp2_with fail
  go_end0
  have ht := (HT2.out.trans HT3.out).trans HT4.out
  have ht23 := HT3.out.trans HT4.out
  refine ⟨rfl, ⟨⟨_, HB4.out, ⟨?_, fun e' he' => ?_, fun e' he' => ?_⟩, fun g hg => ?_⟩, HH.out.dp, HH.out.pd⟩, ht⟩
  · rw [List.length_append, List.map_append]
    have := HO3.out
    rw [← HEV.out] at this
    exact own_kept' this HNE.out
  · rcases List.mem_append.1 he' with he' | he'
    · exact ⟨(HR2.out.dat e' he').1.tk ht23 (fun i _ _ _ hi => hq_low HH.out hi), (HR2.out.dat e' he').2⟩
    · rw [List.mem_singleton.1 he']
      exact ⟨HE.out.tk ht (fun i _ _ _ hi => hq_low HH.out hi), HG.out.1⟩
  · rcases List.mem_append.1 he' with he' | he'
    · exact HR2.out.good e' he'
    · rw [List.mem_singleton.1 he']
      exact HG.out.2
  · rcases HV3.out with h | h
    · exact HV.out g (by rw [← h]; exact hg)
    · rw [h] at hg
      injection hg with hg
      exact HP.out g (by have := HZ.out; omega)
end Ps
end Go.Proofs.Ytkpolakdamiiiaa
