/- The law's few at one act that has only records. Conditions: as stated. -/
import Derived.Test.YtidadjlhnlmfkaaGreatDoorSlAbs
namespace Go.Proofs.YtidadjlhnlmfkaaGreatDoor
open Go.RowKit Go
def small (r : List UInt8) : Bool := decide (r.length ≤ 300)
def fewB (ll : List (List UInt8)) : Bool := decide (ll.length ≤ 20) && ll.all small
theorem few_next (ll : List (List UInt8)) (k : Nat) (h : k < ll.length) : (ll.take (k + 1)).all small = ((ll.take k).all small && small (ll.getD k [])) := by
  rw [List.take_succ_eq_append_getElem h, List.getD, List.getElem?_eq_getElem h, List.all_append, List.all_cons, List.all_nil, Bool.and_true]; rfl
theorem few_bad (ll : List (List UInt8)) (k : Nat) (h : k < ll.length) (hs : small (ll.getD k []) = false) : fewB ll = false := by
  unfold fewB
  rw [Bool.and_eq_false_iff]
  right
  rw [List.all_eq_false]
  exact ⟨ll.getD k [], by rw [List.getD, List.getElem?_eq_getElem h]; exact List.getElem_mem h, by rw [hs]; simp⟩
theorem few_len {ll : List (List UInt8)} (h : fewB ll = true) : ll.length ≤ 20 ∧ ∀ r ∈ ll, r.length ≤ 300 := by
  unfold fewB at h
  rw [Bool.and_eq_true, List.all_eq_true] at h
  exact ⟨of_decide_eq_true h.1, fun r hr => of_decide_eq_true (h.2 r hr)⟩
theorem took_bound : ∀ l : List (List UInt8), (∀ r ∈ l, r.length ≤ 300) → took l ≤ 308 * l.length
  | [], _ => by simp [took]
  | r :: l, hl => by
    have := took_bound l (fun x hx => hl x (by simp [hx]))
    have := hl r (by simp)
    rw [took_cons, List.length_cons]
    omega
theorem few_took {ll : List (List UInt8)} (h : fewB ll = true) : took ll ≤ 6160 := by
  obtain ⟨h1, h2⟩ := few_len h
  have := took_bound ll h2
  omega
set_option maxHeartbeats 1600000 in
set_option maxRecDepth 20000 in
theorem few_one (W : World) (bA : Nat) (A : Option Addr) (c : Nat) (ll : List (List UInt8)) (hA : BlkIs W bA 28 #[.int .i64 0, .slice none 0 0, .slice A ll.length c, .int .i64 0, .slice none 0 0]) (h : Rws W W.heap.size A ll) (hl : ll.length ≤ maxLen) :
    Calls Tryz.prog 7 #[.slice (some ⟨bA, 0, none⟩) 1 1] W fun e w' => e = .returned (.bool (fewB ll)) ∧ Below W.heap.size W w' := by
  unfold maxLen at hl
  have a0 := hA.cell 0
  have a1 := hA.cell 1
  have a2 := hA.cell 2
  have a3 := hA.cell 3
  have a4 := hA.cell 4
  go_enter Tryz.func7, Tryz.ntmps7
  go_wp2_with fail
  go_loopw [12] (fun i wr => (i = .int .i64 0 ∧ wr = W) ∨ (i = .int .i64 1 ∧ Below W.heap.size W wr ∧ fewB ll = true)) (fun i _ => 1 - (intOf i).toNat)
  case atStart => exact .inl ⟨rfl, rfl⟩
  case round =>
    rcases hrel with ⟨rfl, rfl⟩ | ⟨rfl, hB, hf⟩
    · have hn := BlkIs.new wr 28 #[.int .i64 0, .slice none 0 0, .slice A ll.length c, .int .i64 0, .slice none 0 0]
      have hB1 : Below wr.heap.size wr (wr.alloc (.cells #[.int .i64 0, .slice none 0 0, .slice A ll.length c, .int .i64 0, .slice none 0 0] 28)) := (Below.refl _ wr).alloc (Nat.le_refl _) _
      by_cases h20 : 20 < ll.length
      · have hb : false = fewB ll := by unfold fewB; simp; omega
        have HB := Lib.hid hb
        clear hb
        go_wp2_with fail
        go_ret
        exact ⟨ret_b HB.out, hB1⟩
      · have hR := h.below hB1
        go_wp2_with fail
        generalize (wr.alloc (.cells #[.int .i64 0, .slice none 0 0, .slice A ll.length c, .int .i64 0, .slice none 0 0] 28)) = W1 at *
        go_loop [35] (fun i => ∃ k : Nat, k ≤ ll.length ∧ i = .int .i64 k ∧ (ll.take k).all small = true) (fun i => ll.length - (intOf i).toNat)
        case atStart => exact ⟨0, Nat.zero_le _, rfl, by simp⟩
        case round =>
          obtain ⟨k, hk, rfl, ha⟩ := hrel
          have HA := Lib.hid ha
          clear ha
          by_cases hlt : k < ll.length
          · obtain ⟨ad, Ak, ck, rfl, _, hcell, hck, hm, _⟩ := hR.at_ hlt
            have HN := Lib.hid (few_next ll k hlt)
            have HF := Lib.hid (few_bad ll k hlt)
            generalize hr : ll.getD k [] = r at *
            have HRr := Lib.hid hr
            clear hr
            unfold maxLen at hm
            by_cases hsm : 300 < r.length
            · have hb : false = fewB ll := (HF.out (by unfold small; simp; omega)).symm
              have HB := Lib.hid hb
              clear hb
              go_wp2_with fail
              go_ret
              exact ⟨ret_b HB.out, hB1⟩
            · have hs : small r = true := by unfold small; simp; omega
              have HS := Lib.hid hs
              clear hs
              go_wp2_with fail
              go_round
              case rel => exact ⟨k + 1, by omega, by go_num, by rw [HN.out, HA.out, HS.out]; rfl⟩
              case measure => simp [intOf]; omega
          · obtain rfl : k = ll.length := by omega
            have hf : fewB ll = true := by
              have := HA.out
              rw [List.take_length] at this
              unfold fewB
              rw [this, decide_eq_true (by omega)]
              rfl
            have HF := Lib.hid hf
            clear hf
            go_wp2_with fail
            exact ⟨.inr ⟨rfl, hB1, HF.out⟩, by simp [intOf]⟩
    · have HF := Lib.hid hf.symm
      clear hf
      go_wp2_with fail
      go_ret
      exact ⟨ret_b HF.out, hB⟩
end Go.Proofs.YtidadjlhnlmfkaaGreatDoor
