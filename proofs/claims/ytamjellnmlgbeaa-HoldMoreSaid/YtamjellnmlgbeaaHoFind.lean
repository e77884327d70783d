/- The first hold of a name: find, its closure, slices.IndexFunc over holds. Conditions: as stated at each. -/
import Derived.Test.YtamjellnmlgbeaaHoTx
namespace Go.Proofs.Ytamjellnmlgbeaa
set_option maxRecDepth 100000
namespace Ho
open Go.RowKit Go Go.Proofs.Ytamjellnmlgbeaa.Pa Go.Proofs.Ytamjellnmlgbeaa.Rt
theorem below_b (w : World) (o : Obj) : Below w.heap.size w (w.alloc o) := (Below.refl _ w).alloc (Nat.le_refl _) _
theorem beq_st {a b : L} : ((str a).toList == (str b).toList) = (a == b) := by
  rw [Go.Lib.toList_data, Go.Lib.toList_data]; simp [str]
/-- all texts of a list of holds have sizes that may be. -/
def OkH (l : List R) : Prop := ∀ r ∈ l, r.1.length ≤ 140737488355328 ∧ r.2.length ≤ 140737488355328
theorem OkH.at_ {l : List R} (h : OkH l) (k : Nat) : (l.getD k r0).1.length ≤ 140737488355328 ∧ (l.getD k r0).2.length ≤ 140737488355328 := by
  rcases Nat.lt_or_ge k l.length with hk | hk
  · exact h _ (by simp [List.getD, hk])
  · rw [show l.getD k r0 = r0 by simp [List.getD, List.getElem?_eq_none hk]]
    exact ⟨by simp [r0], by simp [r0]⟩
/-- where the first hold of that name stands. -/
def FirstP (l : List R) (nm : L) (z : Int) : Prop := (z = -1 ∧ hasN l nm = false) ∨ ∃ k : Nat, z = k ∧ k < l.length ∧ hasN l nm = true ∧ liftL l nm = l.take k ++ l.drop (k + 1)
theorem first_no {l : List R} {nm : L} (h : ∀ j, j < l.length → ((l.getD j r0).1 == nm) = false) : FirstP l nm (-1) := .inl ⟨rfl, has_miss h⟩
theorem first_yes {l : List R} {nm : L} {k : Nat} (h : ∀ j, j < k → ((l.getD j r0).1 == nm) = false) (hk : k < l.length) (hq : ((l.getD k r0).1 == nm) = true) : FirstP l nm k := by
  obtain ⟨h1, h2⟩ := lift_at h hk hq
  exact .inr ⟨k, rfl, hk, h1, h2⟩
set_option maxHeartbeats 800000 in
theorem named_any {w : World} {K : Nat} {nm : L} (hK : BlkIs w K 9 #[.string (str nm)]) (r : R) :
    Calls Try.prog 35 #[.agg #[.string (str r.1), .string (str r.2)], .pointer (some ⟨K, 0, none⟩)] w fun e w' => e = .returned (.bool (r.1 == nm)) ∧ Below w.heap.size w w' := by
  have hb := below_b w (.cells #[.string (str r.1), .string (str r.2)] 24)
  have hk := (BlkIs.cell ((hb.block _ hK.lt).trans hK) 0).trans (rfl : _ = some (Value.string (str nm)))
  have hKl := hK.lt
  have HQ := Lib.hid (beq_st (a := r.1) (b := nm))
  clear hK
  generalize str r.1 = s0 at *
  generalize str r.2 = s1 at *
  generalize str nm = t at *
  generalize (r.1 == nm) = q at *
  go_enter Try.func35, Try.ntmps35
  go_wp2_with fail
  go_ret
  exact ⟨ret_bool HQ.out, hb⟩
def FindP (w : World) (l : List R) (nm : L) (e : Ending) (w' : World) : Prop := ∃ z : Int, e = .returned (.int .i64 z) ∧ FirstP l nm z ∧ Below w.heap.size w w'
set_option maxHeartbeats 1600000 in
theorem indexH_any {w : World} {B K : Nat} {A : Option Addr} {l : List R} {nm : L} (h : Prs w B A (cvR l)) (hB : B ≤ w.heap.size) (n c : Nat) (hn : l.length = n) (hn1 : n ≤ 1000) (hK : BlkIs w K 9 #[.string (str nm)]) :
    Calls Try.prog 34 #[.slice A n c, .func (.func 35) #[] #[.pointer (some ⟨K, 0, none⟩)]] w (FindP w l nm) := by
  have HEL := Lib.hid (holds_of h)
  have HN := Lib.hid hn
  have HU := Lib.hid (fun k X (hX : Below w.heap.size w X) => named_any ((hX.block _ hK.lt).trans hK) (l.getD k r0))
  clear h hn hK
  go_enter Try.func34, Try.ntmps34
  go_wp2_with fail
  go_loopw [5, 8] (fun _ i wr => ∃ k : Nat, k ≤ n ∧ i = .int .i64 k ∧ (∀ j, j < k → ((l.getD j r0).1 == nm) = false) ∧ Below w.heap.size w wr) (fun _ i _ => n - (intOf i).toNat)
  case atStart => exact ⟨0, Nat.zero_le _, rfl, fun j hj => absurd hj (Nat.not_lt_zero _), Below.refl _ _⟩
  case round =>
    obtain ⟨k, hk, rfl, hno, hbel⟩ := hrel
    by_cases hlt : k < n
    · obtain ⟨g, o, rfl, hg, hall⟩ := HEL.out k (by rw [HN.out]; exact hlt)
      obtain ⟨y0, y1⟩ := hall wr (hbel.mono hB)
      have HC := Lib.hid (HU.out k wr hbel)
      have HB := Lib.hid hbel
      cases hq : ((l.getD k r0).1 == nm) with
      | true =>
        have HF := Lib.hid (first_yes hno (by rw [HN.out]; exact hlt) hq)
        rw [hq] at HC
        clear hall hbel hno hq HU HEL
        generalize str (l.getD k r0).1 = s0 at *
        generalize str (l.getD k r0).2 = v0 at *
        go_wp2_with (first
          | (go_at_call 35; refine HC.out.mono ?_; rintro e w1 ⟨rfl, hb1⟩)
          | fail)
        go_ret
        exact ⟨k, rfl, HF.out, HB.out.trans (hb1.mono HB.out.size)⟩
      | false =>
        have HNO : Hid (∀ j, j < k + 1 → ((l.getD j r0).1 == nm) = false) := Lib.hid fun j hj => by
          rcases Nat.lt_or_ge j k with h | h
          · exact hno j h
          · obtain rfl : j = k := by omega
            exact hq
        rw [hq] at HC
        clear hall hbel hno hq HU HEL
        generalize str (l.getD k r0).1 = s0 at *
        generalize str (l.getD k r0).2 = v0 at *
        go_wp2_with (first
          | (go_at_call 35; refine HC.out.mono ?_; rintro e w1 ⟨rfl, hb1⟩)
          | fail)
        go_roundw
        case rel => exact ⟨k + 1, by omega, by go_num, HNO.out, HB.out.trans (hb1.mono HB.out.size)⟩
        case measure => simp [intOf]; omega
    · have hkn : k = n := by omega
      have HF := Lib.hid (first_no (l := l) (nm := nm) (fun j hj => hno j (by rw [hkn, ← HN.out]; exact hj)))
      have HB := Lib.hid hbel
      clear hno hbel
      go_wp2_with fail
      go_ret
      exact ⟨-1, rfl, HF.out, HB.out⟩
set_option maxHeartbeats 800000 in
theorem find_any {w : World} {B : Nat} {A : Option Addr} {l : List R} (nm : L) (h : Prs w B A (cvR l)) (hB : B ≤ w.heap.size) (n c : Nat) (hn : l.length = n) (hn1 : n ≤ 1000) :
    Calls Try.prog 18 #[.slice A n c, .string (str nm)] w (FindP w l nm) := by
  have hb := below_b w (.cells #[.string (str nm)] 9)
  have HI := Lib.hid (indexH_any (h.below (hb.mono hB)) (Nat.le_trans hB hb.size) n c hn hn1 (BlkIs.new w 9 #[.string (str nm)]))
  have HB := Lib.hid hb
  clear h hn hn1 hb hB
  unfold FindP at HI
  generalize str nm = t at *
  go_enter Try.func18, Try.ntmps18
  go_wp2_with fail
  generalize w.alloc (.cells #[.string t] 9) = w1 at *
  refine HI.out.mono ?_
  rintro e w2 ⟨z, rfl, hz, hb2⟩
  have HZ := Lib.hid hz
  clear hz
  go_wp2_with fail
  go_ret
  exact ⟨z, rfl, HZ.out, HB.out.trans (hb2.mono HB.out.size)⟩
end Ho
end Go.Proofs.Ytamjellnmlgbeaa
