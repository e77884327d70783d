/- Whether a class does not fit (slices.ContainsFunc); the closure of Check. Conditions: as stated at each. -/
import Derived.Test.YtokaifnpmhkkpaaRtNames
import Derived.Test.YtokaifnpmhkkpaaRtDom
import Derived.Test.YtokaifnpmhkkpaaRtThose
namespace Go.Proofs.Ytokaifnpmhkkpaa
set_option maxRecDepth 100000
namespace Rt
open Go.RowKit Go Go.Proofs.Ytokaifnpmhkkpaa.Pa
theorem any_step {l : List C} {k : Nat} (h : k < l.length) : (l.take (k + 1)).any unfitS = ((l.take k).any unfitS || unfitS (l.getD k c0)) := by
  rw [List.take_succ_eq_append_getElem h, List.any_append, List.getD, List.getElem?_eq_getElem h]
  simp
theorem any_hit {l : List C} {k : Nat} (h : k < l.length) (hu : unfitS (l.getD k c0) = true) : l.any unfitS = true := by
  rw [List.any_eq_true]
  exact ⟨l.getD k c0, by simp [List.getD, h], hu⟩
def UnfP (w : World) (l : List C) (e : Ending) (w' : World) : Prop := ∃ z : Int, e = .returned (.int .i64 z) ∧ decide (0 ≤ z) = l.any unfitS ∧ Below w.heap.size w w'
set_option maxHeartbeats 1600000 in
theorem index_any {w : World} {B : Nat} {A : Option Addr} {l : List C} (h : Prs w B A (cvC l)) (hB : B ≤ w.heap.size) (n c : Nat) (hn : l.length = n) (hn1 : n ≤ 1000) (hok : OkC l) :
    Calls Try.prog 35 #[.slice A n c, .func (.func 22) #[] #[]] w (UnfP w l) := by
  have HEL := Lib.hid (cls_of h)
  have HN := Lib.hid hn
  have HU := Lib.hid (fun k X => unfit_any (l.getD k c0).1 (l.getD k c0).2 (hok.at_ k).1 X)
  clear h hn hok
  go_enter Try.func35, Try.ntmps35
  go_wp2_with fail
  go_loopw [5, 8] (fun _ i wr => ∃ k : Nat, k ≤ n ∧ i = .int .i64 k ∧ (l.take k).any unfitS = false ∧ Below w.heap.size w wr) (fun _ i _ => n - (intOf i).toNat)
  case atStart => exact ⟨0, Nat.zero_le _, rfl, rfl, Below.refl _ _⟩
  case round =>
    obtain ⟨k, hk, rfl, hno, hbel⟩ := hrel
    by_cases hlt : k < n
    · obtain ⟨g, o, rfl, hg, hall⟩ := HEL.out k (by rw [HN.out]; exact hlt)
      obtain ⟨y0, y1⟩ := hall wr (hbel.mono hB)
      have HS := Lib.hid (any_step (l := l) (k := k) (by rw [HN.out]; exact hlt))
      have HH := Lib.hid (any_hit (l := l) (k := k) (by rw [HN.out]; exact hlt))
      have HC := Lib.hid (HU.out k wr)
      have HB := Lib.hid hbel
      have HNO := Lib.hid hno
      rw [show ((l.getD k c0).1, (l.getD k c0).2) = l.getD k c0 from rfl] at HC
      clear hall hbel hno
      generalize str (l.getD k c0).1 = s0 at *
      generalize (l.getD k c0).2 = v0 at *
      cases hu : unfitS (l.getD k c0) with
      | true =>
        rw [hu] at HC HH
        clear hu
        go_wp2_with (first
          | (go_at_call 22; refine HC.out.mono ?_; rintro e w1 ⟨rfl, hb1⟩)
          | fail)
        go_ret
        exact ⟨k, rfl, by rw [HH.out (by simp)]; exact decide_eq_true (by omega), HB.out.trans (hb1.mono HB.out.size)⟩
      | false =>
        rw [hu, HNO.out] at HS
        rw [hu] at HC
        clear hu
        go_wp2_with (first
          | (go_at_call 22; refine HC.out.mono ?_; rintro e w1 ⟨rfl, hb1⟩)
          | fail)
        go_roundw
        case rel => exact ⟨k + 1, by omega, by go_num, HS.out, HB.out.trans (hb1.mono HB.out.size)⟩
        case measure => simp [intOf]; omega
    · have hkn : k = n := by omega
      have HF : Hid (l.any unfitS = false) := Lib.hid (by rw [← hno, hkn, ← HN.out, List.take_length])
      have HB := Lib.hid hbel
      clear hno hbel
      go_wp2_with fail
      go_ret
      exact ⟨-1, rfl, by rw [HF.out]; decide, HB.out⟩
theorem contains_any {w : World} {B : Nat} {A : Option Addr} {l : List C} (h : Prs w B A (cvC l)) (hB : B ≤ w.heap.size) (n c : Nat) (hn : l.length = n) (hn1 : n ≤ 1000) (hok : OkC l) :
    Calls Try.prog 21 #[.slice A n c, .func (.func 22) #[] #[]] w fun e w' => e = .returned (.bool (l.any unfitS)) ∧ Below w.heap.size w w' := by
  have HI := Lib.hid (index_any h hB n c hn hn1 hok)
  clear h hB hn hn1 hok
  go_enter Try.func21, Try.ntmps21
  go_wp2_with (first
    | (refine HI.out.mono ?_; rintro e w1 ⟨z, rfl, hz, hb1⟩)
    | fail)
  go_ret
  exact ⟨rfl, hb1⟩
/-- a rule that may not be. -/
def wrongS (S : List L) (r : R) : Bool := !(foldedS r.1) || !(decide (r.2 ∈ S))
set_option maxHeartbeats 1600000 in
theorem wrong_any {w : World} {K g n m : Nat} {S : List L} (hK : BlkIs w K 47 #[.map (some g)]) (hm : MapN w g n m S) (r : R) (h1 : r.1.length ≤ 140737488355328) (h2 : r.2.length ≤ 140737488355328) :
    Calls Try.prog 24 #[.agg #[.string (str r.1), .string (str r.2)], .pointer (some ⟨K, 0, none⟩)] w fun e w' => e = .returned (.bool (wrongS S r)) ∧ Below w.heap.size w w' := by
  have HF := Lib.hid (fun X => folded_any r.1 X h1)
  have HM : Hid (∀ X, Below w.heap.size w X → Calls Try.prog 26 #[.map (some g), .string (str r.2)] X fun e w' => e = .returned (.bool (decide (r.2 ∈ S))) ∧ Below X.heap.size X w') := Lib.hid fun X hX => has_any (hm.same (hX.block _ hm.lt)) r.2 h2
  have HW : Hid (wrongS S r = (!(foldedS r.1) || !(decide (r.2 ∈ S)))) := Lib.hid rfl
  have HK : Hid (∀ X, Below w.heap.size w X → X.cell? ⟨K, 0, none⟩ = some (.map (some g))) := Lib.hid fun X hX => (BlkIs.cell ((hX.block _ hK.lt).trans hK) 0)
  have hKl := hK.lt
  have HB := Lib.hid (below_a w (.cells #[.string (str r.1), .string (str r.2)] 50))
  have hN := BlkIs.new w 50 #[.string (str r.1), .string (str r.2)]
  generalize wrongS S r = q at *
  generalize decide (r.2 ∈ S) = p at *
  generalize str r.1 = s0 at *
  generalize str r.2 = s1 at *
  clear hm hK h1 h2
  go_enter Try.func24, Try.ntmps24
  go_wp2_with fail
  have hB1 := HB.out
  generalize w.alloc (.cells #[.string s0, .string s1] 50) = w1 at *
  have y0 := (hN.cell 0).trans (rfl : _ = some (Value.string s0))
  have y1 := (hN.cell 1).trans (rfl : _ = some (Value.string s1))
  have hNl := hN.lt
  generalize foldedS r.1 = fb at *
  cases fb with
  | false =>
    go_wp2_with (first
      | (go_at_call 25; refine (HF.out _).mono ?_; rintro e w2 ⟨rfl, hb2⟩)
      | fail)
    go_ret
    exact ⟨ret_bool (by rw [HW.out]; rfl), hB1.trans (hb2.mono hB1.size)⟩
  | true =>
    rw [show (!true || !p) = !p from rfl] at HW
    have HQ : Hid (q = !p) := HW
    cases p with
    | false =>
      go_wp2_with (first
        | (go_at_call 25; refine (HF.out _).mono ?_; rintro e w2 ⟨rfl, hb2⟩; have z0 := HK.out w2 (hB1.trans (hb2.mono hB1.size)); have z1 := BlkIs.cell ((hb2.block _ hNl).trans hN) 1)
        | (go_at_call 26; refine (HM.out _ (hB1.trans (hb2.mono hB1.size))).mono ?_; rintro e w3 ⟨rfl, hb3⟩)
        | fail)
      go_ret
      exact ⟨ret_bool (by rw [HQ.out]; rfl), (hB1.trans (hb2.mono hB1.size)).trans (hb3.mono (hB1.trans (hb2.mono hB1.size)).size)⟩
    | true =>
      go_wp2_with (first
        | (go_at_call 25; refine (HF.out _).mono ?_; rintro e w2 ⟨rfl, hb2⟩; have z0 := HK.out w2 (hB1.trans (hb2.mono hB1.size)); have z1 := BlkIs.cell ((hb2.block _ hNl).trans hN) 1)
        | (go_at_call 26; refine (HM.out _ (hB1.trans (hb2.mono hB1.size))).mono ?_; rintro e w3 ⟨rfl, hb3⟩)
        | fail)
      go_ret
      exact ⟨ret_bool (by rw [HQ.out]; rfl), (hB1.trans (hb2.mono hB1.size)).trans (hb3.mono (hB1.trans (hb2.mono hB1.size)).size)⟩
end Rt
end Go.Proofs.Ytokaifnpmhkkpaa
