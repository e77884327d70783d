/- The heap of lists: its methods at what it holds. Conditions: as stated at each. -/
import Derived.Test.YtkpolakdamiiiaaPsMeth
namespace Go.Proofs.Ytkpolakdamiiiaa
set_option maxRecDepth 100000
namespace Ps
open Go.RowKit Go
attribute [local go_sem] Oper.semAt_some
section
variable {w : World} {D P : Nat} {p : Nat → Prop} {H : List E}
theorem row_ne {w : World} {P : Nat} {v : Value} {D : Nat} (hb : BlkIs w P 44 #[v]) {v' : Value} (h : Rw w D v' H) {g : Nat} (hg : v'.ownBlock = some g) : P ≠ g := by
  rintro rfl
  rcases h.own.2 with ⟨rfl, _⟩ | ⟨g', cap, cur, rfl, _, hh, _⟩
  · cases hg
  · have : g' = P := by simpa [Value.ownBlock] using hg
    subst this
    unfold BlkIs at hb
    rw [hb] at hh
    injection hh with hh
    injection hh with _ ht
    exact absurd ht (by decide)
theorem swap_vals (i j : Nat) : (swp H i j).map E.val = ((H.map E.val).set i (H.getD j E0).val).set j (H.getD i E0).val := by
  unfold swp
  rw [List.map_set, List.map_set]
theorem len_any {A : Option Addr} {n c : Nat} (w : World) : Calls Try.prog 29 #[.slice A n c] w fun e w' => e = .returned (.int .i64 n) ∧ w = w' := by
  go_enter Try.func29, Try.ntmps29
  go_wp2_with fail
  go_ret
  exact ⟨rfl, rfl⟩
/-- how many there are. -/
theorem Hp.len (h : Hp w D P p H) : ∃ v, BlkIs w P 44 #[v] ∧ Calls Try.prog 29 #[v] w fun e w' => e = .returned (.int .i64 H.length) ∧ w = w' := by
  obtain ⟨v, hb, hr, _⟩ := h.ex
  obtain ⟨A, c, rfl, _, _⟩ := own_slice hr.own
  exact ⟨_, hb, len_any w⟩
theorem Hp.less (h : Hp w D P p H) {i j : Nat} (hi : i < H.length) (hj : j < H.length) : ∃ v, BlkIs w P 44 #[v] ∧ Calls Try.prog 53 #[v, .int .i64 i, .int .i64 j] w fun e w' => e = .returned (.bool (decide (ky H i < ky H j))) ∧ Hp w' D P p H ∧ Tk (hq p P) w w' := by
  obtain ⟨v, hb, hr, _⟩ := h.ex
  refine ⟨v, hb, (less_any hr hi hj).mono ?_⟩
  rintro e w' ⟨rfl, hk⟩
  exact ⟨rfl, h.alk hk, (Tk.refl _ w).alk hk⟩
theorem Hp.swap (h : Hp w D P p H) {i j : Nat} (hi : i < H.length) (hj : j < H.length) : ∃ v, BlkIs w P 44 #[v] ∧ Calls Try.prog 56 #[v, .int .i64 i, .int .i64 j] w fun e w' => e = .returned (.tuple #[]) ∧ Hp w' D P p (swp H i j) ∧ Tk (hq p P) w w' := by
  obtain ⟨v, hb, hr, hv⟩ := h.ex
  obtain ⟨g, c, rfl, hc⟩ := swap_any hr hi hj
  refine ⟨_, hb, hc.mono ?_⟩
  rintro e w' ⟨rfl, w1, hk, rfl⟩
  have hb1 := hk.blk hb
  have hr1 := hr.alk hk
  have hne := row_ne hb hr (g := g) rfl
  have ho1 := own_put hr1.own i (H.getD j E0).val
  have ho2 := own_put ho1 j (H.getD i E0).val
  rw [← swap_vals i j] at ho2
  have hpg := hv g rfl
  have hcur : ∀ (w2 : World), w2.ownsRow 0 22 1 (.slice (some ⟨g, 0, none⟩) H.length c) H.length (H.map E.val) → ∃ cur, w2.heap[g]? = some (.cells cur 22 (0, 0)) := fun w2 ho => by
    obtain ⟨g', u, e, _, _, _, _, cur, hc⟩ := own_at ho hi
    injection e with e
    injection e with e
    subst e
    exact ⟨cur, hc⟩
  obtain ⟨cur, hcu⟩ := hcur w1 hr1.own
  have hq1 : ∀ o, w1.heap[g]? = some o → hq p P g o := fun o ho => by
    rw [hcu] at ho
    injection ho with ho
    exact ⟨.inr hpg, _, _, _, ho.symm, by decide⟩
  have t1 : Tk (hq p P) w1 (w1.setCell ⟨g, i, none⟩ (H.getD j E0).val) := Tk.setCell _ hq1
  have hcu2 := BlkIs.put (show BlkIs w1 g _ cur from hcu) i (H.getD j E0).val
  have t2 : Tk (hq p P) (w1.setCell ⟨g, i, none⟩ (H.getD j E0).val) ((w1.setCell ⟨g, i, none⟩ (H.getD j E0).val).setCell ⟨g, j, none⟩ (H.getD i E0).val) := Tk.setCell _ (fun o ho => by
    unfold BlkIs at hcu2
    rw [hcu2] at ho
    injection ho with ho
    exact ⟨.inr hpg, _, _, _, ho.symm, by decide⟩)
  have t := ((Tk.refl (hq p P) w).alk hk).trans (t1.trans t2)
  have hpm := swp_perm hi hj
  refine ⟨rfl, ⟨⟨_, ((hb1.far (by exact hne) _).far (by exact hne) _), ⟨by rw [swp_length]; exact ho2, fun e he => ?_, hr.good.perm hpm⟩, hv⟩, h.dp, h.pd⟩, t⟩
  have he' := hr.dat e (hpm.mem_iff.1 he)
  exact ⟨he'.1.tk t (fun i _ _ _ hi => hq_low h hi), he'.2⟩
end
end Ps
end Go.Proofs.Ytkpolakdamiiiaa
