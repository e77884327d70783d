/- The document's Choose. Conditions: as stated at each. -/
import Derived.Test.YtokaifnpmhkkpaaRtChoose
namespace Go.Proofs.Ytokaifnpmhkkpaa
set_option maxRecDepth 100000
namespace Rt
open Go.RowKit Go Go.Proofs.Ytokaifnpmhkkpaa.Pa
theorem choose_hit {l : List C} {rs : List R} {fr : L} {to : List L} {k : Nat} (h1 : ∀ j, j < k → fitS fr to (rs.getD j r0).1 = false) (hk : k < rs.length) (h2 : fitS fr to (rs.getD k r0).1 = true) : chooseS l rs fr to = (rs.getD k r0).2 := by
  unfold chooseS
  rw [rule_at (f := fun r => fitS fr to r.1) h1 hk h2]
theorem choose_miss {l : List C} {rs : List R} {fr : L} {to : List L} (h1 : ∀ j, j < rs.length → fitS fr to (rs.getD j r0).1 = false) : chooseS l rs fr to = (l.getD 0 c0).1 := by
  unfold chooseS
  rw [rule_miss (f := fun r => fitS fr to r.1) h1]
  cases l <;> rfl
theorem anyd_step {to : List L} {d : L} {j : Nat} (h : j < to.length) : (to.take (j + 1)).any (fun a => domOf a == d) = ((to.take j).any (fun a => domOf a == d) || (domOf (to.getD j []) == d)) := by
  rw [List.take_succ_eq_append_getElem h, List.any_append, List.getD, List.getElem?_eq_getElem h]
  simp
theorem anyd_hit {to : List L} {d : L} {j : Nat} (h : j < to.length) (he : (domOf (to.getD j []) == d) = true) : to.any (fun a => domOf a == d) = true := by
  rw [List.any_eq_true]
  exact ⟨to.getD j [], by simp [List.getD, h], he⟩
set_option maxHeartbeats 1600000 in
theorem rchoose_any {w : World} {B : Nat} {A A2 T : Option Addr} {l : List C} {rs : List R} {fr : L} {to : List L} (h : Prs w B A (cvC l)) (hr : Prs w B A2 (cvR rs)) (ht : Tx w B T to) (hB : B ≤ w.heap.size) (n c n2 c2 tn tc : Nat) (at' : Int) (hn : l.length = n) (hn2 : rs.length = n2) (htn : to.length = tn) (hb1 : n ≤ 1000) (hb2 : n2 ≤ 1000) (hb3 : tn ≤ 1000) (hfr : fr.length ≤ 140737488355328) (hto : ∀ k, (to.getD k []).length ≤ 140737488355328) :
    Calls Try.prog 16 #[.slice A n c, .slice A2 n2 c2, .agg #[.string (str fr), .slice T tn tc, .int .i64 at']] w (ChooseP w l rs fr to) := by
  have HN := Lib.hid (And.intro hn (And.intro hn2 htn))
  have H1 := Lib.hid h
  have H2 := Lib.hid hr
  have HT := Lib.hid ht
  have HO := Lib.hid (And.intro hfr hto)
  have hq1 := BlkIs.new w 28 #[.string (str fr), .slice T tn tc, .int .i64 at']
  have hb := below_a w (.cells #[.string (str fr), .slice T tn tc, .int .i64 at'] 28)
  have hz : (w.alloc (.cells #[.string (str fr), .slice T tn tc, .int .i64 at'] 28)).heap.size = w.heap.size + 1 := by simp
  clear h hr ht hn hn2 htn hfr hto
  go_enter Try.func16, Try.ntmps16
  go_wp2_with fail
  generalize w.alloc (.cells #[.string (str fr), .slice T tn tc, .int .i64 at'] 28) = w1 at *
  have HE : Hid (∀ X, Below w1.heap.size w1 X → X.cell? ⟨w.heap.size, 0, none⟩ = some (.string (str fr)) ∧ X.cell? ⟨w.heap.size, 1, none⟩ = some (.slice T tn tc) ∧ w.heap.size < X.heap.size ∧ Below w.heap.size w X) := Lib.hid fun X hX => by
    have hq := (hX.block _ hq1.lt).trans hq1
    exact ⟨(BlkIs.cell hq 0).trans rfl, (BlkIs.cell hq 1).trans rfl, BlkIs.lt hq, hb.trans (hX.mono (by omega))⟩
  clear hq1 hb hz
  go_loopw [8, 13] (fun _ i wr => ∃ k : Nat, k ≤ n2 ∧ i = .int .i64 k ∧ Hid ((∀ j, j < k → fitS fr to (rs.getD j r0).1 = false) ∧ Below w1.heap.size w1 wr)) (fun _ i _ => n2 - (intOf i).toNat)
  case atStart => exact ⟨0, Nat.zero_le _, rfl, Lib.hid ⟨fun j hj => absurd hj (Nat.not_lt_zero _), Below.refl _ _⟩⟩
  case round =>
    obtain ⟨k, hk, rfl, HR⟩ := hrel
    by_cases hlt : k < n2
    · obtain ⟨e0, e1, el, eb⟩ := HE.out wr HR.out.2
      obtain ⟨ga, oa, rfl, hga, hall⟩ := rls_of H2.out k (by rw [HN.out.2.1]; exact hlt)
      obtain ⟨y0, y1⟩ := hall wr (eb.mono hB)
      have HQ := Lib.hid (BlkIs.new wr 50 #[.string (str (rs.getD k r0).1), .string (str (rs.getD k r0).2)])
      have HB := Lib.hid (HR.out.2.trans ((below_a wr (.cells #[.string (str (rs.getD k r0).1), .string (str (rs.getD k r0).2)] 50)).mono HR.out.2.size))
      have HF := Lib.hid (fun X => rof13_any fr (rs.getD k r0).1 X HO.out.1)
      have HG := Lib.hid (fun j X => rof13_any (to.getD j []) (rs.getD k r0).1 X (HO.out.2 j))
      have HFS : Hid (fitS fr to (rs.getD k r0).1 = (domOf fr == (rs.getD k r0).1 || to.any (fun a => domOf a == (rs.getD k r0).1))) := Lib.hid rfl
      have HHT : Hid (fitS fr to (rs.getD k r0).1 = true → str (chooseS l rs fr to) = str (rs.getD k r0).2) := Lib.hid fun h => by rw [choose_hit HR.out.1 (by rw [HN.out.2.1]; exact hlt) h]
      have HNX : Hid (fitS fr to (rs.getD k r0).1 = false → ∀ j, j < k + 1 → fitS fr to (rs.getD j r0).1 = false) := Lib.hid fun h j hj => by
        rcases Nat.lt_or_ge j k with h2 | h2
        · exact HR.out.1 j h2
        · obtain rfl : j = k := by omega
          exact h
      have HST := Lib.hid (fun j (h : j < to.length) => anyd_step (d := (rs.getD k r0).1) h)
      have HHI := Lib.hid (fun j (h : j < to.length) => anyd_hit (d := (rs.getD k r0).1) h)
      clear hall HR
      generalize (rs.getD k r0).1 = d at *
      generalize str (rs.getD k r0).2 = s1 at *
      generalize fitS fr to d = fit at *
      have e0' := (HE.out _ HB.out).1
      have e1' := (HE.out _ HB.out).2.1
      cases hdf : (domOf fr == d) with
      | true =>
        rw [hdf] at HF HFS
        have hft : fit = true := HFS.out
        have HS := Lib.hid (HHT.out hft)
        clear HHT HNX HST HHI HG hft HFS
        go_wp2_with (first
          | (go_at_call 34; refine (HF.out _).mono ?_; rintro e w3 ⟨rfl, hb3⟩; have hq3 := (hb3.block _ HQ.out.lt).trans HQ.out; have z1 := (BlkIs.cell hq3 1).trans (rfl : _ = some (Value.string s1)))
          | fail)
        go_ret
        exact ⟨ret_t HS.out.symm, (HE.out _ (HB.out.trans (hb3.mono HB.out.size))).2.2.2⟩
      | false =>
        rw [hdf] at HF HFS
        have hlr := HQ.out.lt
        clear hdf
        go_wp2_with (first
          | (go_at_call 34; refine (HF.out _).mono ?_; rintro e w3 ⟨rfl, hb3⟩; have hB3 := HB.out.trans (hb3.mono HB.out.size); have hq3 := (hb3.block _ HQ.out.lt).trans HQ.out; have z1 := (HE.out _ hB3).2.1)
          | fail)
        have HQ3 : Hid (BlkIs w3 wr.heap.size 50 #[.string (str d), .string s1]) := Lib.hid hq3
        have HB3 := Lib.hid hB3
        clear hq3 hB3 hb3 z1 e0' e1' e0 e1 el eb y0 y1 HB HQ HF hlr
        generalize hb8 : wr.heap.size = b8 at *
        rename World => wb
        go_loopw [10, 27] (fun _ i wr => ∃ j : Nat, j ≤ tn ∧ i = .int .i64 j ∧ Hid ((to.take j).any (fun a => domOf a == d) = false ∧ Below w1.heap.size w1 wr ∧ BlkIs wr b8 50 #[.string (str d), .string s1])) (fun _ i _ => tn - (intOf i).toNat)
        case atStart => exact ⟨0, Nat.zero_le _, rfl, Lib.hid ⟨rfl, HB3.out, HQ3.out⟩⟩
        case round =>
          obtain ⟨j, hj, rfl, HI⟩ := hrel
          by_cases hjt : j < tn
          · obtain ⟨gt, ot, rfl, hgt, hall⟩ := HT.out.els j (by rw [HN.out.2.2]; exact hjt)
            obtain ⟨_, _, el, eb⟩ := HE.out wr HI.out.2.1
            have t0 := hall wr (eb.mono hB)
            have q0 := (BlkIs.cell HI.out.2.2 0).trans (rfl : _ = some (Value.string (str d)))
            have ql := BlkIs.lt HI.out.2.2
            have HGJ := Lib.hid (HG.out j)
            have HS1 := Lib.hid (HST.out j (by rw [HN.out.2.2]; exact hjt))
            have HH1 := Lib.hid (HHI.out j (by rw [HN.out.2.2]; exact hjt))
            clear hall
            generalize to.getD j [] = tj at *
            cases hdt : (domOf tj == d) with
            | true =>
              rw [hdt] at HGJ HH1
              have hft : fit = true := by rw [HFS.out, HH1.out rfl]; rfl
              have HS := Lib.hid (HHT.out hft)
              have HB5 := Lib.hid HI.out.2.1
              have HQ5 := Lib.hid HI.out.2.2
              clear HHT HNX HST HHI HG hft HFS hdt HI HS1 HH1
              go_wp2_with (first
                | (go_at_call 34; refine (HGJ.out _).mono ?_; rintro e w6 ⟨rfl, hb6⟩; have z1 := (BlkIs.cell ((hb6.block _ HQ5.out.lt).trans HQ5.out) 1).trans (rfl : _ = some (Value.string s1)))
                | fail)
              go_ret
              exact ⟨ret_t HS.out.symm, (HE.out _ (HB5.out.trans (hb6.mono HB5.out.size))).2.2.2⟩
            | false =>
              rw [hdt] at HGJ
              have HS2 : Hid ((to.take (j + 1)).any (fun a => domOf a == d) = false) := Lib.hid (by rw [HS1.out, HI.out.1, hdt]; rfl)
              have HB5 := Lib.hid HI.out.2.1
              have HQ5 := Lib.hid HI.out.2.2
              clear HI HS1 HH1 hdt
              go_wp2_with (first
                | (go_at_call 34; refine (HGJ.out _).mono ?_; rintro e w6 ⟨rfl, hb6⟩)
                | fail)
              go_roundw
              case rel => exact ⟨j + 1, by omega, by go_num, Lib.hid ⟨HS2.out, HB5.out.trans (hb6.mono HB5.out.size), (hb6.block _ HQ5.out.lt).trans HQ5.out⟩⟩
              case measure => first | (simp [intOf]; done) | (simp [intOf]; omega)
          · have HNE : Hid (∀ j, j < k + 1 → fitS fr to (rs.getD j r0).1 = false) := Lib.hid (HNX.out (by
              have h1 := HI.out.1
              rw [show to.take j = to by rw [show j = to.length by rw [HN.out.2.2]; omega, List.take_length]] at h1
              rw [HFS.out, h1]; rfl))
            have HB5 := Lib.hid HI.out.2.1
            clear HI HHT HNX HST HHI HG HFS
            go_wp2_with fail
            go_roundw
            case rel => exact ⟨k + 1, by omega, by go_num, Lib.hid ⟨HNE.out, HB5.out⟩⟩
            case measure => first | (simp [intOf]; done) | (simp [intOf]; omega)
    · have HM : Hid (chooseS l rs fr to = (l.getD 0 c0).1) := Lib.hid (choose_miss fun j hj => HR.out.1 j (by rw [HN.out.2.1] at hj; omega))
      have HB5 := Lib.hid HR.out.2
      clear HR
      by_cases hn0 : n = 0
      · have HE0 : Hid ((l.getD 0 c0).1 = []) := Lib.hid (by rw [List.eq_nil_of_length_eq_zero (HN.out.1.trans hn0)]; rfl)
        subst hn0
        go_wp2_with fail
        go_ret
        exact ⟨ret_t (by rw [HM.out, HE0.out]; rfl), (HE.out _ HB5.out).2.2.2⟩
      · have hn0' : ((n : Int) == 0) = false := by rw [beq_eq_false_iff_ne]; omega
        obtain ⟨ga, oa, rfl, hga, hall⟩ := cls_of H1.out 0 (by rw [HN.out.1]; omega)
        obtain ⟨y0, y1⟩ := hall wr ((HE.out _ HB5.out).2.2.2.mono hB)
        rw [Nat.zero_mul, Nat.add_zero] at y0
        have hnpos : 0 < n := by omega
        clear hall y1
        have HS : Hid (str (chooseS l rs fr to) = str (l.getD 0 c0).1) := Lib.hid (by rw [HM.out])
        generalize str (l.getD 0 c0).1 = nm at *
        go_wp2_with fail
        go_ret
        exact ⟨ret_t HS.out.symm, (HE.out _ HB5.out).2.2.2⟩
end Rt
end Go.Proofs.Ytokaifnpmhkkpaa
