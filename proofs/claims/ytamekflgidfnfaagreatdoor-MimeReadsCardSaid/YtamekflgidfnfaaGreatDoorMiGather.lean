/- mime.gather. Conditions: as stated at each. -/
import Derived.Test.YtamekflgidfnfaaGreatDoorMiSplit
import Derived.Test.YtamekflgidfnfaaGreatDoorMiMap
namespace Go.Proofs.YtamekflgidfnfaaGreatDoor
set_option maxRecDepth 100000
namespace Mi
open Go.RowKit Go Go.Proofs.YtamekflgidfnfaaGreatDoor.Pa
/-- behind gather. -/
def GaP (w : World) (g n : Nat) (S : Nat → Prop) (most : Nat) (d : L) (e : Ending) (w' : World) : Prop :=
  e = .returned (.tuple #[]) ∧ w.grownBy w' (some g) ∧ MapN w' g (n + d.length) (fun k => S k ∨ GN most d d.length k)
theorem gn_zero (most : Nat) (d : L) (k : Nat) : ¬ GN most d 0 k := fun ⟨i, h1, h2, _⟩ => by omega
/-- one digit more. -/
theorem gn_next {most : Nat} {d : L} {i : Nat} (hi : i < d.length) (h : ∀ j, j < i + 1 → Mb.digB (d.getD j 0) ∧ Mb.valL (d.take j) ≤ most ∧ (j = 0 ∨ Mb.valL (d.take j) ≠ 0)) (k : Nat) :
    GN most d (i + 1) k ↔ k = Mb.valL (d.take (i + 1)) ∨ GN most d i k := by
  constructor
  · rintro ⟨m, h1, h2, h3, h4, h5⟩
    rcases Nat.eq_or_lt_of_le h2 with h6 | h6
    · subst h6; exact .inl h4
    · exact .inr ⟨m, h1, by omega, h3, h4, h5⟩
  · rintro (h1 | ⟨m, h1, h2, h3, h4, h5⟩)
    · exact ⟨i + 1, by omega, Nat.le_refl _, hi, h1, h⟩
    · exact ⟨m, h1, by omega, h3, h4, h5⟩
/-- nothing more, where the next byte is none. -/
theorem gn_stop {most : Nat} {d : L} {i m : Nat} (him : i ≤ m) (h : ¬ (Mb.digB (d.getD i 0) ∧ Mb.valL (d.take i) ≤ most ∧ (i = 0 ∨ Mb.valL (d.take i) ≠ 0))) (k : Nat) :
    GN most d m k ↔ GN most d i k := by
  constructor
  · rintro ⟨j, h1, h2, h3, h4, h5⟩
    rcases Nat.lt_or_ge i j with h6 | h6
    · exact absurd (h5 i h6) h
    · exact ⟨j, h1, h6, h3, h4, h5⟩
  · rintro ⟨j, h1, h2, h3, h4, h5⟩
    exact ⟨j, h1, by omega, h3, h4, h5⟩
set_option maxHeartbeats 1600000 in
theorem gather_any {w : World} {B g n : Nat} {A : Option Addr} {d : L} {S : Nat → Prop} (h : Bts w B A d) (hM : MapN w g n S) (hgB : B ≤ g) (c most : Nat) (hl : d.length ≤ 1000000) (hmo : most ≤ 1000000) (hn : n ≤ 100000000) :
    Calls Tryz.prog 76 #[.slice A d.length c, .int .i64 (most : Int), .map (some g)] w (GaP w g n S most d) := by
  have HAT : Hid (∀ i, i < d.length → ∃ ad, A = some ad ∧ ∀ w', w.grownBy w' (some g) → w'.cell? (ad.add i) = some (.int .u8 ((d.getD i 0).toNat : Int))) := Lib.hid fun i hi => by
    obtain ⟨ad, e, hab, hc⟩ := h.at_ hi
    refine ⟨ad, e, fun w' hg => ?_⟩
    exact hg.cell hc (by rw [blk_add]; intro e'; injection e' with e'; omega)
  have HVN : Hid (∀ i, i < d.length → Mb.valL (d.take (i + 1)) = 10 * Mb.valL (d.take i) + ((d.getD i 0).toNat - 48)) := Lib.hid fun i hi => Mb.val_next hi
  have HGN : Hid (∀ i, i < d.length → (∀ j, j < i + 1 → Mb.digB (d.getD j 0) ∧ Mb.valL (d.take j) ≤ most ∧ (j = 0 ∨ Mb.valL (d.take j) ≠ 0)) → ∀ k, GN most d (i + 1) k ↔ k = Mb.valL (d.take (i + 1)) ∨ GN most d i k) := Lib.hid fun i hi h => gn_next hi h
  have HST : Hid (∀ i, i ≤ d.length → ¬ (Mb.digB (d.getD i 0) ∧ Mb.valL (d.take i) ≤ most ∧ (i = 0 ∨ Mb.valL (d.take i) ≠ 0)) → ∀ k, GN most d d.length k ↔ GN most d i k) := Lib.hid fun i hi h => gn_stop hi h
  have HZ := Lib.hid (gn_zero most d)
  have HM := Lib.hid hM
  have HV0 : Hid (Mb.valL (d.take 0) = 0) := Lib.hid (by simp [Mb.valL, Mb.valF])
  have hbu : ∀ w, (Instr.build 77 #[]).run Tryz.prog w = .ok (.agg #[]) w := fun w => by kernel_rfl
  unfold GaP
  clear h hM
  generalize d.length = m at *
  go_enter Tryz.func76, Tryz.ntmps76
  go_wp2_with fail
  go_loopw [6, 11] (fun x y wr => ∃ i : Nat, i ≤ m ∧ x = .int .i64 (Mb.valL (d.take i) : Nat) ∧ y = .int .i64 (i : Nat) ∧ Hid (∀ j, j < i → Mb.digB (d.getD j 0) ∧ Mb.valL (d.take j) ≤ most ∧ (j = 0 ∨ Mb.valL (d.take j) ≠ 0)) ∧
    Hid (w.grownBy wr (some g)) ∧ Hid (MapN wr g (n + i) (fun k => S k ∨ GN most d i k)) ∧ Hid (Mb.valL (d.take i) ≤ 10 * most + 9)) (fun _ y _ => m + 1 - (intOf y).toNat)
  case atStart => exact ⟨0, Nat.zero_le _, by rw [HV0.out]; rfl, rfl, Lib.hid fun j hj => absurd hj (Nat.not_lt_zero _), Lib.hid (World.grownBy.refl _ _), Lib.hid (HM.out.set fun k => by simp [HZ.out]), Lib.hid (by rw [HV0.out]; omega)⟩
  case round =>
    obtain ⟨i, hi, rfl, rfl, HJ, HG, HMR, HB⟩ := hrel
    by_cases hlt : i < m
    · obtain ⟨ad, rfl, hcell⟩ := HAT.out i hlt
      have hc := hcell wr HG.out
      have hv := HVN.out i hlt
      have HS := Lib.hid (HST.out i hi)
      have HN := Lib.hid (HGN.out i hlt)
      have hb := HB.out
      clear hcell
      have hct := (d.getD i 0).toNat_lt
      have hz : (i : Int) < (m : Int) := by omega
      generalize hcc : d.getD i 0 = cc at *
      generalize hnv : Mb.valL (d.take i) = nv at *
      have HCC := Lib.hid hcc
      have HNV := Lib.hid hnv
      clear hcc hnv
      rcases Nat.lt_or_ge cc.toNat 48 with h48 | h48
      · have z0 : (cc.toNat : Int) < 48 := by omega
        have HX := Lib.hid (HS.out (fun hc => by have := hc.1.1; omega))
        clear HS HN h48 hv
        go_wp2_with fail
        refine bodyPost_ret (results_none rfl _ _ _) rfl ?_
        exact ⟨rfl, HG.out, (HMR.out.more (by omega)).set fun k => by rw [HX.out]⟩
      · have z0 : ¬ (cc.toNat : Int) < 48 := by omega
        rcases Nat.lt_or_ge 57 cc.toNat with h57 | h57
        · have z1 : (57 : Int) < (cc.toNat : Int) := by omega
          have HX := Lib.hid (HS.out (fun hc => by have := hc.1.2; omega))
          clear HS HN h57 hv
          go_wp2_with fail
          refine bodyPost_ret (results_none rfl _ _ _) rfl ?_
          exact ⟨rfl, HG.out, (HMR.out.more (by omega)).set fun k => by rw [HX.out]⟩
        · have z1 : ¬ (57 : Int) < (cc.toNat : Int) := by omega
          have HD : Hid (Mb.digB cc) := Lib.hid ⟨h48, h57⟩
          rcases Nat.lt_or_ge most nv with hmn | hmn
          · have z2 : (most : Int) < (nv : Int) := by omega
            have HX := Lib.hid (HS.out (fun hc => by have := hc.2.1; omega))
            clear HS HN hv
            go_wp2_with fail
            refine bodyPost_ret (results_none rfl _ _ _) rfl ?_
            exact ⟨rfl, HG.out, (HMR.out.more (by omega)).set fun k => by rw [HX.out]⟩
          · have z2 : ¬ (most : Int) < (nv : Int) := by omega
            have HGO : Hid ((i = 0 ∨ nv ≠ 0) → ∃ q : Nat, q ≤ 10 * most + 9 ∧ 10 * (nv : Int) + ((cc.toNat : Int) - 48) = (q : Int) ∧ Mb.valL (d.take (i + 1)) = q ∧ ∃ w2, (Instr.mapUpdate 75 (.map (some g)) (.int .i64 (q : Int)) (.agg #[])).run Tryz.prog wr = .ok () w2 ∧
                (∀ j, j < i + 1 → Mb.digB (d.getD j 0) ∧ Mb.valL (d.take j) ≤ most ∧ (j = 0 ∨ Mb.valL (d.take j) ≠ 0)) ∧ w.grownBy w2 (some g) ∧ MapN w2 g (n + (i + 1)) (fun k => S k ∨ GN most d (i + 1) k)) := Lib.hid fun h0 => by
              refine ⟨10 * nv + (cc.toNat - 48), by omega, by omega, hv, ?_⟩
              obtain ⟨w2, h1, h2, h3⟩ := HMR.out.put (10 * nv + (cc.toNat - 48)) (by omega) (by omega)
              have hall : ∀ j, j < i + 1 → Mb.digB (d.getD j 0) ∧ Mb.valL (d.take j) ≤ most ∧ (j = 0 ∨ Mb.valL (d.take j) ≠ 0) := fun j hj => by
                rcases Nat.lt_or_ge j i with h | h
                · exact HJ.out j h
                · obtain rfl : j = i := by omega
                  rw [HCC.out, HNV.out]
                  exact ⟨HD.out, hmn, h0⟩
              refine ⟨w2, h1, hall, HG.out.trans h3, (h2.more (by omega)).set fun k => ?_⟩
              rw [HN.out hall, hv]
              constructor
              · rintro (a | b | c)
                · exact .inr (.inl a)
                · exact .inl b
                · exact .inr (.inr c)
              · rintro (a | b | c)
                · exact .inr (.inl a)
                · exact .inl b
                · exact .inr (.inr c)
            have hw0 : IntKind.u8.wrap ((cc.toNat : Int) - 48) = (cc.toNat : Int) - 48 := IntWalk.u8_in _ (by omega)
            rcases Nat.eq_zero_or_pos i with hi0 | hi0
            · obtain ⟨q, hq1, hq2, hq3, w2, hrun, hq4, hq5, hq6⟩ := HGO.out (.inl hi0)
              have HQ := Lib.hid (And.intro hq3 (And.intro hq4 (And.intro hq5 hq6)))
              clear hq3 hq4 hq5 hq6 HGO HS HN hv
              subst hi0
              rw [add_0] at hc
              go_wp2_with fail
              go_roundw
              case rel => exact ⟨0 + 1, by omega, by rw [HQ.out.1], by go_num, Lib.hid HQ.out.2.1, Lib.hid HQ.out.2.2.1, Lib.hid HQ.out.2.2.2, Lib.hid (by rw [HQ.out.1]; exact hq1)⟩
              case measure => simp [intOf]
            · have z3 : (0 : Int) < (i : Int) := by omega
              rcases Nat.eq_zero_or_pos nv with hn0 | hn0
              · have z4 : ((nv : Int) == 0) = true := by rw [hn0]; rfl
                have HX := Lib.hid (HS.out (fun hc => by rcases hc.2.2 with h | h <;> omega))
                clear HS HN hv HGO
                go_wp2_with fail
                refine bodyPost_ret (results_none rfl _ _ _) rfl ?_
                exact ⟨rfl, HG.out, (HMR.out.more (by omega)).set fun k => by rw [HX.out]⟩
              · have z4 : ((nv : Int) == 0) = false := by rw [beq_eq_false_iff_ne]; omega
                obtain ⟨q, hq1, hq2, hq3, w2, hrun, hq4, hq5, hq6⟩ := HGO.out (.inr (by omega))
                have HQ := Lib.hid (And.intro hq3 (And.intro hq4 (And.intro hq5 hq6)))
                clear hq3 hq4 hq5 hq6 HGO HS HN hv
                go_wp2_with fail
                go_roundw
                case rel => exact ⟨i + 1, by omega, by rw [HQ.out.1], by go_num, Lib.hid HQ.out.2.1, Lib.hid HQ.out.2.2.1, Lib.hid HQ.out.2.2.2, Lib.hid (by rw [HQ.out.1]; exact hq1)⟩
                case measure => simp [intOf]; omega
    · obtain rfl : i = m := by omega
      have hz : ¬ (i : Int) < (i : Int) := by omega
      go_wp2_with fail
      go_end0
      exact ⟨rfl, HG.out, HMR.out⟩
end Mi
end Go.Proofs.YtamekflgidfnfaaGreatDoor
