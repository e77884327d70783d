/- PaRDom. Conditions: as stated at each. -/
import Derived.Test.YteapnkedpmcokaaGreatDoorRm18
/- The document's Domain, Mailbox. Conditions: as stated at each. -/
namespace Go.Proofs.YteapnkedpmcokaaGreatDoor
set_option maxRecDepth 100000
namespace Pa
open Go.RowKit Go
/-- the slice at A reads as these texts. -/
def Txs (w : World) (A : Option Addr) (ps : List (List UInt8)) : Prop := ∀ k, k < ps.length → ∃ ad, A = some ad ∧ ad.block < w.heap.size ∧ w.cell? (ad.add k) = some (.string (str (ps.getD k [])))
theorem Txs.of_own {w : World} {N n c : Nat} {A : Option Addr} {ps : List (List UInt8)} (h : w.ownsRow N 9 1 (.slice A n c) n (tv ps)) : Txs w A ps := fun k hk => by
  have hv : (tv ps)[k]? = some (.string (str (ps.getD k []))) := by simp [tv, List.getD, hk]
  obtain ⟨ad, h1, h2, h3⟩ := Cs.of_own h k _ hv
  exact ⟨ad, h1, h2, h3⟩
theorem labS_is (p : List UInt8) : labS p = (p.all labB && (p != []) && decide (p.length ≤ 63) && (p.getD 0 0 != 45) && (p.getD (p.length - 1) 0 != 45)) := rfl
theorem b45 {c : UInt8} (h : c = 45) : ((c.toNat : Int) == 45) = true := by rw [h]; rfl
theorem n45 {c : UInt8} (h : c ≠ 45) : ((c.toNat : Int) == 45) = false := by
  rw [beq_eq_false_iff_ne]; intro e; exact h (UInt8.toNat_inj.1 (show c.toNat = 45 by omega))
theorem all_false {ps : List (List UInt8)} {f : List UInt8 → Bool} {k : Nat} (hk : k < ps.length) (h : f (ps.getD k []) = false) : ps.all f = false := by
  rw [Bool.eq_false_iff]
  intro ha
  rw [List.all_eq_true] at ha
  have := ha (ps.getD k []) (by simp [List.getD, hk])
  rw [h] at this
  cases this
theorem all_succ {ps : List (List UInt8)} {f : List UInt8 → Bool} {k : Nat} (hk : k < ps.length) : (ps.take (k + 1)).all f = ((ps.take k).all f && f (ps.getD k [])) := by
  rw [List.take_succ_eq_append_getElem hk, List.all_append]
  simp [List.getD, hk]
theorem getD_mem {ps : List (List UInt8)} {k : Nat} (hk : k < ps.length) : ps.getD k [] ∈ ps := by simp [List.getD, hk]
set_option maxHeartbeats 3200000 in
theorem rdomain_any (l : List UInt8) (W : World) (hl : l.length ≤ 140737488355328) :
    Calls Tryz.prog 56 #[.string (str l)] W fun e w' => e = .returned (.bool (domS l)) ∧ Below W.heap.size W w' := by
  have hsz := str_size l
  by_cases h1 : l.length < 1
  · have hd : domS l = false := by
      have : l = [] := List.eq_nil_of_length_eq_zero (by omega)
      rw [this]; exact domS_nil
    rw [hd]
    generalize str l = s at *
    go_enter Tryz.func56, Tryz.ntmps56
    go_wp2_with fail
    go_ret
    exact ⟨rfl, Below.refl _ _⟩
  · by_cases h2 : 255 < l.length
    · have hd : domS l = false := by unfold domS; rw [decide_eq_false (by omega)]; simp
      rw [hd]
      generalize str l = s at *
      go_enter Tryz.func56, Tryz.ntmps56
      go_wp2_with fail
      go_ret
      exact ⟨rfl, Below.refl _ _⟩
    · have HP := Lib.hid (rparts_any l W (by omega))
      have hl : l.length ≤ 1000000 := by omega
      have hd : domS l = (parts l).all labS := by unfold domS; rw [decide_eq_true (by omega)]; simp
      have HLE := Lib.hid (fun p => parts_le (l := l) (p := p))
      have hpl := parts_len l
      rw [hd]
      generalize parts l = ps at *
      generalize str l = s at *
      go_enter Tryz.func56, Tryz.ntmps56
      go_wp2_with (first
        | (refine HP.out.mono ?_; rintro e w1 ⟨v, rfl, ho1, hb1⟩; obtain ⟨A, c, rfl, hc1, hc2⟩ := own_slice ho1)
        | fail)
      have HT := Lib.hid (Txs.of_own ho1)
      have HB := Lib.hid hb1
      clear ho1 hb1
      go_loop [17] (fun x => ∃ k : Nat, k ≤ ps.length ∧ x = .int .i64 k ∧ (ps.take k).all labS = true) (fun x => ps.length - (intOf x).toNat)
      case atStart => exact ⟨0, Nat.zero_le _, rfl, rfl⟩
      case round =>
        obtain ⟨k, hk, rfl, ha⟩ := hrel
        have HA := Lib.hid ha
        clear ha
        by_cases hlt : k < ps.length
        · obtain ⟨ad, rfl, had, hcell⟩ := HT.out k hlt
          have HF := Lib.hid (fun h => all_false (f := labS) hlt h)
          have HS := Lib.hid (all_succ (f := labS) hlt)
          have hp1 : (ps.getD k []).length ≤ 1000000 := Nat.le_trans (HLE.out _ (getD_mem hlt)) hl
          generalize ps.getD k [] = p at *
          have hps := str_size p
          have HPA := Lib.hid (str_at p)
          have HLB := Lib.hid (labS_is p)
          generalize str p = sp at *
          have HPS := Lib.hid hps
          by_cases p0 : p.length < 1
          · have hpf : labS p = false := by rw [List.eq_nil_of_length_eq_zero (l := p) (by omega)]; rfl
            go_wp2_with fail
            go_ret
            exact ⟨ret_bool (HF.out hpf).symm, HB.out⟩
          · by_cases p63 : 63 < p.length
            · have hpf : labS p = false := by rw [HLB.out, decide_eq_false (show ¬ p.length ≤ 63 by omega)]; simp
              go_wp2_with fail
              go_ret
              exact ⟨ret_bool (HF.out hpf).symm, HB.out⟩
            · have g0 := HPA.out 0 (by omega)
              have g1 := HPA.out (p.length - 1) (by omega)
              have hi0 : 0 < sp.size := by omega
              have hi1 : p.length - 1 < sp.size := by omega
              have hw1 : IntKind.i64.wrap ((p.length : Int) - 1) = ((p.length - 1 : Nat) : Int) := by rw [IntWalk.i64_in _ (by omega)]; omega
              generalize p.getD 0 0 = c0 at *
              generalize p.getD (p.length - 1) 0 = c1 at *
              by_cases q0 : c0 = 45
              · have hpf : labS p = false := by rw [HLB.out, q0]; simp
                have t0 := b45 q0
                clear q0
                go_wp2_with fail
                go_ret
                exact ⟨ret_bool (HF.out hpf).symm, HB.out⟩
              · by_cases q1 : c1 = 45
                · have hpf : labS p = false := by rw [HLB.out, q1]; simp
                  have t0 := n45 q0
                  have t1 := b45 q1
                  clear q0 q1
                  go_wp2_with fail
                  go_ret
                  exact ⟨ret_bool (HF.out hpf).symm, HB.out⟩
                · have t0 := n45 q0
                  have t1 := n45 q1
                  have HLL : Hid (labS p = p.all labB) := Lib.hid (by
                    have hne : (p != []) = true := by rw [bne_iff_ne]; intro e; rw [e] at p0; simp at p0
                    rw [HLB.out, hne, decide_eq_true (show p.length ≤ 63 by omega), bne_iff_ne.2 q0, bne_iff_ne.2 q1]; simp)
                  clear q0 q1 HLB
                  go_wp2_with fail
                  go_loop [5] (fun x => ∃ j : Nat, j ≤ p.length ∧ x = .int .i64 j ∧ allK labB p j = true) (fun x => p.length - (intOf x).toNat)
                  case atStart => exact ⟨0, Nat.zero_le _, rfl, rfl⟩
                  case round =>
                    obtain ⟨j, hj, rfl, hall⟩ := hrel
                    have HALL := Lib.hid hall
                    clear hall
                    by_cases hjl : j < p.length
                    · have hjs : j < sp.size := by omega
                      have hc := HPA.out j hjs
                      have HJS := Lib.hid (allK_succ (f := labB) hjl)
                      have HJF := Lib.hid (fun h => allK_false (f := labB) hjl h)
                      generalize p.getD j 0 = cc at *
                      have HLT := Lib.hid (letter_any cc)
                      cases hlc : letB cc with
                      | true =>
                        have hlb : labB cc = true := by unfold labB; rw [hlc]; rfl
                        rw [hlc] at HLT
                        rw [hlb] at HJS
                        clear g0 g1
                        go_wp2_with (first | (rw [hc]; refine (HLT.out _).mono ?_; rintro e w' ⟨rfl, rfl⟩) | (refine (HLT.out _).mono ?_; rintro e w' ⟨rfl, rfl⟩) | fail)
                        exact ⟨⟨j + 1, by omega, rfl, by rw [HJS.out, HALL.out]; rfl⟩, by simp [intOf]; omega⟩
                      | false =>
                        rw [hlc] at HLT
                        by_cases q : cc = 45
                        · have hlb : labB cc = true := by rw [q]; rfl
                          rw [hlb] at HJS
                          have t2 := b45 q
                          clear g0 g1 q
                          go_wp2_with (first | (rw [hc]; refine (HLT.out _).mono ?_; rintro e w' ⟨rfl, rfl⟩) | (refine (HLT.out _).mono ?_; rintro e w' ⟨rfl, rfl⟩) | fail)
                          exact ⟨⟨j + 1, by omega, rfl, by rw [HJS.out, HALL.out]; rfl⟩, by simp [intOf]; omega⟩
                        · have hlb : labB cc = false := by unfold labB; rw [hlc]; simpa using q
                          have hpf : labS p = false := by rw [HLL.out]; exact HJF.out hlb
                          have t2 := n45 q
                          clear g0 g1 q
                          go_wp2_with (first | (rw [hc]; refine (HLT.out _).mono ?_; rintro e w' ⟨rfl, rfl⟩) | (refine (HLT.out _).mono ?_; rintro e w' ⟨rfl, rfl⟩) | fail)
                          go_ret
                          exact ⟨ret_bool (HF.out hpf).symm, HB.out⟩
                    · have hpt : labS p = true := by
                        rw [HLL.out]
                        have := HALL.out
                        rw [allK_full (by omega)] at this
                        exact this
                      clear g0 g1
                      go_wp2_with fail
                      exact ⟨⟨k + 1, by omega, rfl, by rw [HS.out, HA.out, hpt]; rfl⟩, by simp [intOf]; omega⟩
        · go_wp2_with fail
          go_ret
          refine ⟨ret_bool ?_, HB.out⟩
          have := HA.out
          rw [List.take_of_length_le (by omega)] at this
          exact this.symm
theorem atS_is (p : List UInt8) : atS p = (p.all atB && (p != [])) := rfl
theorem mailS_is (l : List UInt8) : mailS l = (decide ((loc l).length ≤ 64) && (parts (loc l)).all atS && domS (dom l)) := rfl
theorem mailS_low {l : List UInt8} (h : lastI l < 1) : mailS l = false := by
  rw [mailS_is]
  rcases last_cases l with ⟨hn, _⟩ | ⟨a, b, rfl, hb, hla⟩
  · rw [(loc_no hn).2, domS_nil]; simp
  · have : a = [] := List.eq_nil_of_length_eq_zero (by omega)
    subst this
    rw [(loc_at hb).1, show (parts []).all atS = false by decide]; simp
theorem mailS_high {l : List UInt8} (h : 64 < lastI l) : mailS l = false := by
  rw [mailS_is]
  rcases last_cases l with ⟨hn, h1⟩ | ⟨a, b, rfl, hb, hla⟩
  · omega
  · rw [(loc_at hb).1, decide_eq_false (by omega)]; simp
/-- where the last at sign stands in the middle. -/
theorem mid_cases {l : List UInt8} (h : ¬ lastI l < 1) : ∃ n : Nat, lastI l = n ∧ 1 ≤ n ∧ n < l.length ∧ (str l).extract 0 n = str (loc l) ∧ (str l).extract (n + 1) l.length = str (dom l) ∧ (loc l).length = n := by
  rcases last_cases l with ⟨hn, h1⟩ | ⟨a, b, rfl, hb, hla⟩
  · omega
  · refine ⟨a.length, hla, by omega, by simp, ?_, ?_, by rw [(loc_at hb).1]⟩
    · rw [str_extract, (loc_at hb).1, List.drop_zero, Nat.sub_zero, List.take_left]
    · rw [str_extract, (loc_at hb).2, List.take_of_length_le (by rw [List.length_drop]; omega), show a ++ 64 :: b = (a ++ [64]) ++ b by simp, show a.length + 1 = (a ++ [64]).length by simp, List.drop_left]
set_option maxHeartbeats 3200000 in
theorem rmailbox_any (l : List UInt8) (W : World) (hl : l.length ≤ 140737488355328) :
    Calls Tryz.prog 45 #[.string (str l)] W fun e w' => e = .returned (.bool (mailS l)) ∧ Below W.heap.size W w' := by
  have hsz := str_size l
  have HLA := Lib.hid (fun W => rlast_any l W hl)
  by_cases h1 : lastI l < 1
  · rw [mailS_low h1]
    generalize lastI l = at' at *
    generalize str l = s at *
    go_enter Tryz.func45, Tryz.ntmps45
    go_wp2_with (first
      | (refine (HLA.out _).mono ?_; rintro e w1 ⟨rfl, rfl⟩)
      | fail)
    go_ret
    exact ⟨rfl, Below.refl _ _⟩
  · by_cases h2 : 64 < lastI l
    · rw [mailS_high h2]
      generalize lastI l = at' at *
      generalize str l = s at *
      go_enter Tryz.func45, Tryz.ntmps45
      go_wp2_with (first
        | (refine (HLA.out _).mono ?_; rintro e w1 ⟨rfl, rfl⟩)
        | fail)
      go_ret
      exact ⟨rfl, Below.refl _ _⟩
    · obtain ⟨n, hn, n1, nl, e1, e2, e3⟩ := mid_cases h1
      rw [hn] at HLA h1 h2
      have hms : mailS l = ((parts (loc l)).all atS && domS (dom l)) := by rw [mailS_is, decide_eq_true (by omega), Bool.true_and]
      obtain ⟨q1, q2⟩ := loc_len l
      have HD := Lib.hid (fun W => rdomain_any (dom l) W (by omega))
      have HP := Lib.hid (fun W => rparts_any (loc l) W (by omega))
      have HLE := Lib.hid (fun p => parts_le (l := loc l) (p := p))
      have hpl := parts_len (loc l)
      have hq1 : (loc l).length ≤ 1000000 := by omega
      rw [hms]
      generalize parts (loc l) = ps at *
      generalize domS (dom l) = d at *
      generalize str (dom l) = sd at *
      generalize str (loc l) = sl at *
      clear hms hn q1 q2
      generalize str l = s at *
      cases d with
      | false =>
        rw [Bool.and_false]
        go_enter Tryz.func45, Tryz.ntmps45
        go_wp2_with (first
          | (go_at_call 55; refine (HLA.out _).mono ?_; rintro e w1 ⟨rfl, rfl⟩)
          | (go_at_call 56; refine (HD.out _).mono ?_; rintro e w2 ⟨rfl, hb2⟩)
          | fail)
        go_ret
        exact ⟨rfl, hb2⟩
      | true =>
        rw [Bool.and_true]
        go_enter Tryz.func45, Tryz.ntmps45
        go_wp2_with (first
          | (go_at_call 55; refine (HLA.out _).mono ?_; rintro e w1 ⟨rfl, rfl⟩)
          | (go_at_call 56; refine (HD.out _).mono ?_; rintro e w2 ⟨rfl, hb2⟩)
          | (go_at_call 57; refine (HP.out _).mono ?_; rintro e w3 ⟨v, rfl, ho3, hb3⟩; obtain ⟨A, c, rfl, hc1, hc2⟩ := own_slice ho3)
          | fail)
        have HT := Lib.hid (Txs.of_own ho3)
        have HB := Lib.hid (hb2.trans (hb3.mono hb2.size))
        clear ho3 hb3 hb2
        go_loop [28] (fun x => ∃ k : Nat, k ≤ ps.length ∧ x = .int .i64 k ∧ (ps.take k).all atS = true) (fun x => ps.length - (intOf x).toNat)
        case atStart => exact ⟨0, Nat.zero_le _, rfl, rfl⟩
        case round =>
          obtain ⟨k, hk, rfl, ha⟩ := hrel
          have HA := Lib.hid ha
          clear ha
          by_cases hlt : k < ps.length
          · obtain ⟨ad, rfl, had, hcell⟩ := HT.out k hlt
            have HF := Lib.hid (fun h => all_false (f := atS) hlt h)
            have HS := Lib.hid (all_succ (f := atS) hlt)
            have hp1 : (ps.getD k []).length ≤ 1000000 := Nat.le_trans (HLE.out _ (getD_mem hlt)) hq1
            generalize ps.getD k [] = p at *
            have hps := str_size p
            have HPA := Lib.hid (str_at p)
            have HPE := Lib.hid (str_empty p)
            have HAT := Lib.hid (atS_is p)
            generalize str p = sp at *
            have HPS := Lib.hid hps
            by_cases p0 : p = []
            · have hpf : atS p = false := by rw [p0]; rfl
              have he : sp.toList.isEmpty = true := by
                have := HPE.out
                rw [p0] at this
                simpa using this
              clear p0
              go_wp2_with fail
              go_ret
              exact ⟨ret_bool (HF.out hpf).symm, HB.out⟩
            · have he : sp.toList.isEmpty = false := by
                have := HPE.out
                rw [bne_iff_ne.2 p0] at this
                simpa using this
              have HLL : Hid (atS p = p.all atB) := Lib.hid (by rw [HAT.out, bne_iff_ne.2 p0, Bool.and_true])
              clear p0
              go_wp2_with fail
              go_loop [6] (fun x => ∃ j : Nat, j ≤ p.length ∧ x = .int .i64 j ∧ allK atB p j = true) (fun x => p.length - (intOf x).toNat)
              case atStart => exact ⟨0, Nat.zero_le _, rfl, rfl⟩
              case round =>
                obtain ⟨j, hj, rfl, hall⟩ := hrel
                have HALL := Lib.hid hall
                clear hall
                by_cases hjl : j < p.length
                · have hjs : j < sp.size := by omega
                  have hc := HPA.out j hjs
                  have HJS := Lib.hid (allK_succ (f := atB) hjl)
                  have HJF := Lib.hid (fun h => allK_false (f := atB) hjl h)
                  generalize p.getD j 0 = cc at *
                  have HLT := Lib.hid (ratom_any cc)
                  cases hlc : atB cc with
                  | true =>
                    rw [hlc] at HLT HJS
                    go_wp2_with (first | (rw [hc]; refine (HLT.out _).mono ?_; rintro e w' ⟨rfl, rfl⟩) | (refine (HLT.out _).mono ?_; rintro e w' ⟨rfl, rfl⟩) | fail)
                    exact ⟨⟨j + 1, by omega, rfl, by rw [HJS.out, HALL.out]; rfl⟩, by simp [intOf]; omega⟩
                  | false =>
                    rw [hlc] at HLT
                    have hpf : atS p = false := by rw [HLL.out]; exact HJF.out hlc
                    go_wp2_with (first | (rw [hc]; refine (HLT.out _).mono ?_; rintro e w' ⟨rfl, rfl⟩) | (refine (HLT.out _).mono ?_; rintro e w' ⟨rfl, rfl⟩) | fail)
                    go_ret
                    exact ⟨ret_bool (HF.out hpf).symm, HB.out⟩
                · have hpt : atS p = true := by
                    rw [HLL.out]
                    have := HALL.out
                    rw [allK_full (by omega)] at this
                    exact this
                  go_wp2_with fail
                  exact ⟨⟨k + 1, by omega, rfl, by rw [HS.out, HA.out, hpt]; rfl⟩, by simp [intOf]; omega⟩
          · go_wp2_with fail
            go_ret
            refine ⟨ret_bool ?_, HB.out⟩
            have := HA.out
            rw [List.take_of_length_le (by omega)] at this
            exact this.symm
end Pa
end Go.Proofs.YteapnkedpmcokaaGreatDoor
