/- One hold left out of a row of the call's own: slices.Delete. Conditions: as stated at each. -/
import Derived.Test.YtamjellnmlgbeaaHoOf
namespace Go.Proofs.Ytamjellnmlgbeaa
set_option maxRecDepth 100000
namespace Ho
open Go.RowKit Go Go.Proofs.Ytamjellnmlgbeaa.Pa Go.Proofs.Ytamjellnmlgbeaa.Rt
/-- clear of the last pair of a row. -/
theorem run_clearP {P : Program} {w : World} {t e ty : TypeId} {z0 z1 : Value} (ht : P.underlying t = some (.slice e)) (hv : ∀ w, (zeroValue e).run P w = .ok (.agg #[z0, z1]) w) (h0 : z0.oneCell' = true) (h1 : z1.oneCell' = true)
    {g o c : Nat} {cur : Array Value} (hg : w.heap[g]? = some (.cells cur e (0, 0))) (hfit : o + 2 ≤ cur.size) :
    (Builtin.clear_ #[t] ty #[.slice (some ⟨g, o, none⟩) 1 c]).run P w = .ok (.tuple #[]) (w.setRow g (cur.toList.take o ++ [z0, z1] ++ cur.toList.drop (o + 2)).toArray) := by
  have hl : (Builtin.zeroCells #[z0, z1] 1).toList = [z0, z1] := by
    simp [Builtin.zeroCells, Array.toList_map, List.range_succ]
  have hst := run_storeCells_at P g o e [z0, z1] 0 cur w hg (by simpa using hfit) (by
    intro v hv
    rcases List.mem_cons.1 hv with rfl | hv
    · exact h0
    · rw [List.mem_singleton.1 hv]; exact h1)
  simp only [Nat.add_zero] at hst
  simp [Builtin.clear_, run_underlying ht, hv, Value.cells, hl, hst]
theorem own_cut {w : World} {N n sz g c : Nat} {e : TypeId} {xs : List Value} (h : w.ownsRow N e sz (.slice (some ⟨g, 0, none⟩) n c) n xs) {k : Nat} (hk : k ≤ n) : w.ownsRow N e sz (.slice (some ⟨g, 0, none⟩) k c) k (xs.take (k * sz)) := by
  refine ⟨by rw [List.length_take, h.1]; exact Nat.min_eq_left (Nat.mul_le_mul_right _ hk), ?_⟩
  rcases h.2 with ⟨h0, _⟩ | ⟨g', cap, cur, hv, hn, hh, h1, h2, h3, h4⟩
  · cases h0
  · injection hv with hv1 _ hv2
    subst hv2
    refine .inr ⟨g', c, cur, by rw [hv1], hn, hh, by omega, h2, h3, ?_⟩
    rw [← h4, List.take_take, Nat.min_eq_left (Nat.mul_le_mul_right _ hk)]
theorem zeroH : ∀ w, (zeroValue 24).run Try.prog w = .ok (.agg #[.string ⟨#[]⟩, .string ⟨#[]⟩]) w := fun _ => by kernel_rfl
theorem stepSpare {w : World} {ops : Array Oper} {o : Oper} {a : Act} {K : Act → World → Prop} {Q : Exit → Act → World → Prop} {E : Prop} (s x : Operand)
    (ho : o.op = .call { callee := .builtin .append, args := #[s, x], argTypes := #[22, 22] }) (hgd : o.guard = none)
    {N g n c : Nat} {xs : List Value} (hs : a.eval s = .slice (some ⟨g, 0, none⟩) n c) (hown : w.ownsRow N 24 2 (.slice (some ⟨g, 0, none⟩) n c) n xs)
    {ad : Addr} {m cc t : Nat} {news : List Value} (hx : a.eval x = .slice (some ad) m cc) (hl : news.length = m * 2) (hnews : ∀ j u, news[j]? = some u → w.cell? (ad.add j) = some u) (h1 : ∀ u ∈ news, u.oneCell' = true) (ht : n + m = t) (hroom : t ≤ c)
    (h : ∀ w', w'.ownsRow N 24 2 (.slice (some ⟨g, 0, none⟩) t c) t (xs ++ news) → w.grownBy w' (some g) → K (a.put o.dst (.slice (some ⟨g, 0, none⟩) t c)) w') : if Region.wanted o (yielded ops a.tmps) = true then Oper.wp Try.prog o a w K Q else E := by
  have hw : Region.wanted o (yielded ops a.tmps) = true := by simp [Region.wanted, hgd]
  rw [if_pos hw]
  obtain ⟨i, hi, hz, h0, h1'⟩ := info_parts infoH
  subst ht
  exact wp_append_own_spare (P := Try.prog) w s x 22 ho N 24 i 2 Try.underlying22 hi h0 g n c xs hs hown ad m cc news hx hl hnews h1 hroom h
set_option maxHeartbeats 1600000 in
theorem delete_any {w0 : World} {N : Nat} {A : Option Addr} {l : List R} {k n c : Nat} (h : OwnH w0 N (.slice A n c) l) (hN : N ≤ w0.heap.size) (hk : k < n) (hn : l.length = n) (hn1 : n ≤ 1000) :
    Calls Try.prog 22 #[.slice A n c, .int .i64 k, .int .i64 (k + 1)] w0 fun e w' => ∃ v, e = .returned v ∧ OwnH w' N v (l.take k ++ l.drop (k + 1)) ∧ Below N w0 w' := by
  have h' : w0.ownsRow N 24 2 (.slice A n c) n (pc (cvR l)) := by
    have := h
    unfold OwnH at this
    rwa [hn] at this
  obtain ⟨A', c', e, hc1, hc2⟩ := own_slice2 h'
  injection e with e1 _ e3
  subst e1; subst e3
  obtain ⟨g, rfl, hgN, hgl, hrg, hfz⟩ := own_range h' (by
    intro e
    have := congrArg List.length e
    rw [pc_length, hv_length, List.length_nil] at this
    omega)
  obtain ⟨p, rfl⟩ : ∃ p, n = p + 1 := ⟨n - 1, by omega⟩
  have HOW := Lib.hid h'
  have HCUT := Lib.hid (own_cut h' (k := k) (by omega))
  have HRG : Hid (∀ j u, (pc (cvR (l.drop (k + 1))))[j]? = some u → w0.cell? ⟨g, (k + 1) * 2 + j, none⟩ = some u) := Lib.hid fun j u hj => by
    have e : pc (cvR l) = pc (cvR (l.take (k + 1))) ++ pc (cvR (l.drop (k + 1))) := by rw [← pc_append, ← hv_append, List.take_append_drop]
    have hlen : (pc (cvR (l.take (k + 1)))).length = (k + 1) * 2 := by rw [pc_length, hv_length, List.length_take, hn, Nat.min_eq_left (by omega)]
    have := hrg ((k + 1) * 2 + j) u (by rw [e, List.getElem?_append_right (by omega), hlen, show (k + 1) * 2 + j - (k + 1) * 2 = j by omega]; exact hj)
    rwa [Nat.zero_add] at this
  have HDL : Hid ((pc (cvR (l.drop (k + 1)))).length = (p - k) * 2) := Lib.hid (by rw [pc_length, hv_length, List.length_drop, hn]; omega)
  have HK := Lib.hid hN
  have hkk : ((k : Int) == (k : Int) + 1) = false := by rw [beq_eq_false_iff_ne]; omega
  have HLL : Hid ((l.take k ++ l.drop (k + 1)).length = p) := Lib.hid (by rw [List.length_append, List.length_take, List.length_drop, hn]; omega)
  have HPC : Hid ((pc (cvR l)).take (k * 2) ++ pc (cvR (l.drop (k + 1))) = pc (cvR (l.take k ++ l.drop (k + 1)))) := Lib.hid (by rw [hv_append, pc_append, ← pc_take, ← hv_take])
  clear h h' hrg hN hn hfz
  go_enter Try.func22, Try.ntmps22
  go_wp2_with fail
  refine wp_region_held_drew (S := (fun _ => True)) (by kernel_rfl) (trivial) (fun hHeld => ?_)
  have HOW1 : Hid (w0.drew.ownsRow N 24 2 (.slice (some ⟨g, 0, none⟩) k c) k ((pc (cvR l)).take (k * 2))) := HCUT
  have HRG1 : Hid (∀ j u, (pc (cvR (l.drop (k + 1))))[j]? = some u → w0.drew.cell? ⟨g, (k + 1) * 2 + j, none⟩ = some u) := HRG
  have HBD : Hid (Below N w0 w0.drew) := Lib.hid (Below.refl N w0).drew
  have hgl1 : g < w0.drew.heap.size := hgl
  generalize w0.drew = w1 at *
  clear HOW HCUT HRG
  refine wpAnyH_take (i := 0) (v := .slice (some ⟨g, 0, none⟩) (p + 1) c) rfl (by kernel_rfl) (by kernel_rfl) (by kernel_rfl) (fun _ _ _ h => h) (Or.inl ⟨by rfl, fun w hS => by first | (go_simp; done) | (go_simp; with_reducible rfl)⟩) hHeld ?_
  try simp only [Act.put, List.getElem_toArray, List.getElem_cons_zero, List.setIfInBounds_toArray, List.set_cons_zero, List.set_cons_succ]
  refine wpAnyH_take (i := 1) (v := .int .i64 k) rfl (by kernel_rfl) (by kernel_rfl) (by kernel_rfl) (fun _ _ _ h => h) (Or.inl ⟨by rfl, fun w hS => by first | (go_simp; done) | (go_simp; with_reducible rfl)⟩) hHeld ?_
  try simp only [Act.put, List.getElem_toArray, List.getElem_cons_zero, List.getElem_cons_succ, List.setIfInBounds_toArray, List.set_cons_zero, List.set_cons_succ]
  refine wpAnyH_take (i := 2) (v := .slice (some ⟨g, 0, none⟩) k c) rfl (by kernel_rfl) (by kernel_rfl) (by kernel_rfl) (fun _ _ _ h => h) (Or.inl ⟨by rfl, fun w hS => by (go_simp; intro hh; omega)⟩) hHeld ?_
  try simp only [Act.put, List.getElem_toArray, List.getElem_cons_zero, List.getElem_cons_succ, List.setIfInBounds_toArray, List.set_cons_zero, List.set_cons_succ]
  refine wpAnyH_take (i := 3) (v := .slice (some ⟨g, 0, none⟩) (p + 1) c) rfl (by kernel_rfl) (by kernel_rfl) (by kernel_rfl) (fun _ _ _ h => h) (Or.inl ⟨by rfl, fun w hS => by first | (go_simp; done) | (go_simp; with_reducible rfl)⟩) hHeld ?_
  try simp only [Act.put, List.getElem_toArray, List.getElem_cons_zero, List.getElem_cons_succ, List.setIfInBounds_toArray, List.set_cons_zero, List.set_cons_succ]
  refine wpAnyH_take (i := 4) (v := .int .i64 (k + 1)) rfl (by kernel_rfl) (by kernel_rfl) (by kernel_rfl) (fun _ _ _ h => h) (Or.inl ⟨by rfl, fun w hS => by first | (go_simp; done) | (go_simp; with_reducible rfl)⟩) hHeld ?_
  try simp only [Act.put, List.getElem_toArray, List.getElem_cons_zero, List.getElem_cons_succ, List.setIfInBounds_toArray, List.set_cons_zero, List.set_cons_succ]
  have hcase : ∃ ad cc, (∀ j u, (pc (cvR (l.drop (k + 1))))[j]? = some u → w1.cell? (Addr.add ad j) = some u) ∧ (ad = ⟨g, (k + 1) * 2, none⟩ ∧ cc = c - (k + 1) ∧ k + 1 < c ∨ ad = ⟨g, 0, none⟩ ∧ cc = 0 ∧ c = k + 1) := by
    by_cases hck : c = k + 1
    · refine ⟨⟨g, 0, none⟩, 0, fun j u hj => ?_, .inr ⟨rfl, rfl, hck⟩⟩
      have := (List.getElem?_eq_some_iff.1 hj).1
      rw [HDL.out] at this
      omega
    · exact ⟨⟨g, (k + 1) * 2, none⟩, c - (k + 1), fun j u hj => by rw [Addr.add_mid]; exact HRG1.out j u hj, .inl ⟨rfl, rfl, by omega⟩⟩
  obtain ⟨ad, cc, hnews, hcase⟩ := hcase
  have HNE := Lib.hid hnews
  clear hnews
  refine wpAnyH_take (i := 5) (v := .slice (some ad) (p - k) cc) rfl (by kernel_rfl) (by kernel_rfl) (by kernel_rfl) (fun _ _ _ h => h) (Or.inl ⟨by rfl, fun w hS => by (rcases hcase with ⟨rfl, rfl, hlt⟩ | ⟨rfl, rfl, rfl⟩ <;> go_simp <;> (rw [if_pos (by omega)]) <;> first | (rw [if_neg (by omega)]; done) | (rw [show p - k = 0 by omega]; done))⟩) hHeld ?_
  try simp only [Act.put, List.getElem_toArray, List.getElem_cons_zero, List.getElem_cons_succ, List.setIfInBounds_toArray, List.set_cons_zero, List.set_cons_succ]
  refine wpAnyH_ready (rs := [6]) (by kernel_rfl) (by simp) ?_
  refine AllReadyH.cons rfl (fun K hK => ?_) AllReadyH.nil
  refine stepSpare (.tmp 22) (.tmp 25) rfl rfl (N := N) (n := k) (c := c) (t := p) rfl HOW1.out rfl HDL.out HNE.out hv_one (by omega) (by omega) ?_; intro w2 ho2 hg2
  refine hK.out _ _ ?_ (fun hHeld => ?_)
  · trivial
  clear hK K
  try simp only [Act.put, List.getElem_toArray, List.getElem_cons_zero, List.getElem_cons_succ, List.setIfInBounds_toArray, List.set_cons_zero, List.set_cons_succ]
  clear hcase HNE HOW1 HRG1
  have HB2 := Lib.hid (HBD.out.grown hg2 (by omega) (fun k hk => by injection hk with hk; omega))
  rw [HPC.out] at ho2
  have HO2 := Lib.hid ho2
  obtain ⟨cur, hcur, hcs, htk⟩ : ∃ cur : Array Value, w2.heap[g]? = some (.cells cur 24 (0, 0)) ∧ cur.size = c * 2 ∧ cur.toList.take (p * 2) = pc (cvR (l.take k ++ l.drop (k + 1))) := by
    rcases ho2.2 with ⟨h0, _⟩ | ⟨g', cap, cur, hv, _, hh, _, _, h3, h4⟩
    · cases h0
    · injection hv with hv1 _ hv2
      injection hv1 with hv1
      injection hv1 with hv1
      subst hv1; subst hv2
      exact ⟨cur, hh, h3, h4⟩
  clear ho2 hg2 hHeld
  have hcl : ∀ ty, (Builtin.clear_ #[22] ty #[.slice (some ⟨g, p * 2, none⟩) 1 (c - p)]).run Try.prog w2 = .ok (.tuple #[]) (w2.setRow g (cur.toList.take (p * 2) ++ [Value.string ⟨#[]⟩, Value.string ⟨#[]⟩] ++ cur.toList.drop (p * 2 + 2)).toArray) := fun ty => run_clearP (cur := cur) Try.underlying22 zeroH rfl rfl hcur (by rw [hcs]; omega)
  have HFIN : Hid ((w2.setRow g (cur.toList.take (p * 2) ++ [Value.string ⟨#[]⟩, Value.string ⟨#[]⟩] ++ cur.toList.drop (p * 2 + 2)).toArray).ownsRow N 24 2 (.slice (some ⟨g, 0, none⟩) p c) p (pc (cvR (l.take k ++ l.drop (k + 1))))) := Lib.hid ⟨HO2.out.1, .inr ⟨g, c, _, rfl, hgN, setRow_heap w2 g cur _ _ _ hcur, by omega, hc2, by
    simp only [List.size_toArray, List.length_append, List.length_take, List.length_drop, Array.length_toList, List.length_cons, List.length_nil, hcs]
    omega, by
    have h1 : (cur.toList.take (p * 2)).length = p * 2 := by rw [List.length_take, Array.length_toList, hcs]; omega
    simp only [List.append_assoc]
    rw [List.take_append_of_le_length (by rw [h1]; exact Nat.le_refl _), List.take_take, Nat.min_self, htk]⟩⟩
  have HB3 : Hid (Below N w0 (w2.setRow g (cur.toList.take (p * 2) ++ [Value.string ⟨#[]⟩, Value.string ⟨#[]⟩] ++ cur.toList.drop (p * 2 + 2)).toArray)) := Lib.hid (HB2.out.trans ⟨rfl, rfl, rfl, by simp, fun i hi => setRow_other w2 g i _ (by omega)⟩)
  generalize w2.setRow g (cur.toList.take (p * 2) ++ [Value.string ⟨#[]⟩, Value.string ⟨#[]⟩] ++ cur.toList.drop (p * 2 + 2)).toArray = w3 at *
  refine wpAnyH_ready (rs := [7]) (by kernel_rfl) (by simp) ?_
  refine AllReadyH.cons rfl (fun K hK => ?_) AllReadyH.nil
  go_simp
  refine hK.out _ _ ?_ (fun hHeld => ?_)
  · trivial
  clear hK K
  try simp only [Act.put, List.getElem_toArray, List.getElem_cons_zero, List.getElem_cons_succ, List.setIfInBounds_toArray, List.set_cons_zero, List.set_cons_succ]
  refine wpAnyH_done (by kernel_rfl) ?_ _
  clear hcur hcs htk
  go_wp2_with fail
  go_ret
  exact ⟨_, rfl, by unfold OwnH; rw [HLL.out]; exact HFIN.out, HB3.out⟩
end Ho
end Go.Proofs.Ytamjellnmlgbeaa
