/- Contracts of the law's few, of the document's number and four, of frame.word and frame.lay. Conditions: as stated at each. -/
import Derived.Test.YtljefpagoggkdaaCrc
namespace Go.Proofs.Ytljefpagoggkdaa
open Go.RowKit Go
/-- a slice of slices reads as these lists of bytes. -/
def Rws (w : World) (B : Nat) (A : Option Addr) (ll : List (List UInt8)) : Prop :=
  ∀ k r, ll[k]? = some r → ∃ ad Ak ck, A = some ad ∧ ad.block < B ∧ w.cell? (ad.add k) = some (.slice Ak r.length ck) ∧ r.length ≤ ck ∧ ck ≤ maxLen ∧ Bts w B Ak r
section
variable {w w' : World} {B B' : Nat} {A : Option Addr} {ll : List (List UInt8)}
theorem Rws.at_ (h : Rws w B A ll) {k : Nat} (hk : k < ll.length) : ∃ ad Ak ck, A = some ad ∧ ad.block < B ∧ w.cell? (ad.add k) = some (.slice Ak (ll.getD k []).length ck) ∧ (ll.getD k []).length ≤ ck ∧ ck ≤ maxLen ∧ Bts w B Ak (ll.getD k []) :=
  h k _ (by simp [List.getD, hk])
theorem Rws.below (h : Rws w B A ll) (hb : Below B w w') : Rws w' B A ll := fun k r hk => by
  obtain ⟨ad, Ak, ck, e, h1, h2, h3, h4, h5⟩ := h k r hk
  exact ⟨ad, Ak, ck, e, h1, (hb.cell (by rw [blk_add]; exact h1)).trans h2, h3, h4, h5.below hb⟩
theorem Rws.more (h : Rws w B A ll) (hB : B ≤ B') : Rws w B' A ll := fun k r hk => by
  obtain ⟨ad, Ak, ck, e, h1, h2, h3, h4, h5⟩ := h k r hk
  exact ⟨ad, Ak, ck, e, by omega, h2, h3, h4, h5.more hB⟩
theorem Rws.take (h : Rws w B A ll) (n : Nat) : Rws w B A (ll.take n) := fun k r hk => by
  rw [List.getElem?_take] at hk
  split at hk
  · exact h k r hk
  · cases hk
end
def small (r : List UInt8) : Bool := decide (r.length ≤ 2000)
def fewB (ll : List (List UInt8)) : Bool := decide (ll.length ≤ 50) && ll.all small
theorem few_next (ll : List (List UInt8)) (k : Nat) (h : k < ll.length) : (ll.take (k + 1)).all small = ((ll.take k).all small && small (ll.getD k [])) := by
  rw [List.take_succ_eq_append_getElem h, List.getD, List.getElem?_eq_getElem h, List.all_append, List.all_cons, List.all_nil, Bool.and_true]; rfl
theorem few_bad (ll : List (List UInt8)) (k : Nat) (h : k < ll.length) (hs : small (ll.getD k []) = false) : fewB ll = false := by
  unfold fewB
  rw [Bool.and_eq_false_iff]
  right
  rw [List.all_eq_false]
  exact ⟨ll.getD k [], by rw [List.getD, List.getElem?_eq_getElem h]; exact List.getElem_mem h, by rw [hs]; simp⟩
theorem few_len {ll : List (List UInt8)} (h : fewB ll = true) : ll.length ≤ 50 ∧ ∀ r ∈ ll, r.length ≤ 2000 := by
  unfold fewB at h
  rw [Bool.and_eq_true, List.all_eq_true] at h
  exact ⟨of_decide_eq_true h.1, fun r hr => of_decide_eq_true (h.2 r hr)⟩
theorem few_took {ll : List (List UInt8)} (h : fewB ll = true) : took ll ≤ 100400 := by
  obtain ⟨h1, h2⟩ := few_len h
  have : ∀ l : List (List UInt8), (∀ r ∈ l, r.length ≤ 2000) → took l ≤ 2008 * l.length := by
    intro l
    induction l with
    | nil => intro _; simp [took]
    | cons r l ih =>
      intro hl
      have := ih (fun x hx => hl x (by simp [hx]))
      have := hl r (by simp)
      rw [took_cons, List.length_cons]
      omega
  have := this ll h2
  omega
theorem ret_b {a b : Bool} (h : a = b) : Ending.returned (.bool a) = .returned (.bool b) := by rw [h]
set_option maxHeartbeats 400000 in
theorem few_any (A : Option Addr) (B c : Nat) (ll : List (List UInt8)) (w : World) (h : Rws w B A ll) (hl : ll.length ≤ maxLen) :
    Calls Try.prog 11 #[.slice A ll.length c] w fun e w' => e = .returned (.bool (fewB ll)) ∧ w = w' := by
  unfold maxLen at hl
  by_cases h50 : 50 < ll.length
  · have hb : false = fewB ll := by unfold fewB; simp; omega
    have HB := Lib.hid hb
    clear hb
    go_enter Try.func11, Try.ntmps11
    go_wp2_with fail
    go_ret
    exact ⟨ret_b HB.out, rfl⟩
  · go_enter Try.func11, Try.ntmps11
    go_wp2_with fail
    go_loop [10] (fun i => ∃ k : Nat, k ≤ ll.length ∧ i = .int .i64 k ∧ (ll.take k).all small = true) (fun i => ll.length - (intOf i).toNat)
    case atStart => exact ⟨0, Nat.zero_le _, rfl, by simp⟩
    case round =>
      obtain ⟨k, hk, rfl, ha⟩ := hrel
      have HA := Lib.hid ha
      clear ha
      by_cases hlt : k < ll.length
      · obtain ⟨ad, Ak, ck, rfl, _, hcell, hck, hm, _⟩ := h.at_ hlt
        have HN := Lib.hid (few_next ll k hlt)
        have HF := Lib.hid (few_bad ll k hlt)
        generalize hr : ll.getD k [] = r at *
        have HR := Lib.hid hr
        clear hr
        unfold maxLen at hm
        by_cases hs : 2000 < r.length
        · go_wp2_with fail
          go_ret
          exact ⟨ret_b (HF.out (by unfold small; simp; omega)).symm, rfl⟩
        · go_wp2_with fail
          go_round
          case rel => exact ⟨k + 1, by omega, by go_num, by rw [HN.out, HA.out]; unfold small; simp; omega⟩
          case measure => simp [intOf]; omega
      · obtain rfl : k = ll.length := by omega
        go_wp2_with fail
        go_ret
        exact ⟨ret_b (by have := HA.out; rw [List.take_length] at this; unfold fewB; rw [this]; simp; omega), rfl⟩
end Go.Proofs.Ytljefpagoggkdaa
