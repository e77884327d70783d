/- The document's Whole, Close, Lines. Conditions: as stated at each. -/
import Derived.Test.YtdbmcbnohldolaaDtMem
namespace Go.Proofs.Ytdbmcbnohldolaa
set_option maxRecDepth 100000
namespace Dt
open Go.RowKit Go Go.Proofs.Ytdbmcbnohldolaa.Hd
theorem whole_nil : whole [] = true := rfl
theorem whole_one {l : L} (h : l.length = 1) : whole l = false := by
  obtain ⟨x, rfl⟩ := List.length_eq_one_iff.1 h
  have := whole_iff [x]
  cases hw : whole [x] with
  | false => rfl
  | true =>
    rcases this.1 hw with h | ⟨s, h⟩
    · cases h
    · have := congrArg List.length h
      simp at this
theorem whole_two {l : L} {n : Nat} (h : l.length = n + 2) : whole l = (l.getD n 0 == 13 && l.getD (n + 1) 0 == 10) := by
  have e : l = l.take n ++ [l.getD n 0, l.getD (n + 1) 0] := by
    conv => lhs; rw [← List.take_append_drop n l]
    congr 1
    rw [List.drop_eq_getElem_cons (by omega), List.drop_eq_getElem_cons (by omega), List.drop_eq_nil_of_le (by omega)]
    simp [List.getD, h]
  rw [Bool.eq_iff_iff, whole_iff, Bool.and_eq_true, beq_iff_eq, beq_iff_eq]
  generalize l.getD n 0 = x at *
  generalize l.getD (n + 1) 0 = y at *
  constructor
  · rintro (h1 | ⟨s, hs⟩)
    · rw [h1] at h; simp at h
    · rw [hs] at e
      have := (List.append_inj' e (by simp)).2
      simp at this
      exact ⟨this.1.symm, this.2.symm⟩
  · rintro ⟨rfl, rfl⟩
    exact .inr ⟨_, e⟩
theorem eq_byte (x c : UInt8) : ((x.toNat : Int) == (c.toNat : Int)) = (x == c) := by
  rw [Bool.eq_iff_iff, beq_iff_eq, beq_iff_eq, ← UInt8.toNat_inj]
  omega
set_option maxHeartbeats 800000 in
theorem rwhole_any {w : World} {B : Nat} {A : Option Addr} {l : L} (h : Bts w B A l) (c : Nat) (hl : l.length ≤ 1000000) :
    Calls Try.prog 10 #[.slice A l.length c] w fun e w' => e = .returned (.bool (whole l)) ∧ w = w' := by
  rcases Nat.lt_trichotomy l.length 1 with h1 | h1 | h1
  · have h0 : l.length = 0 := by omega
    obtain rfl := List.eq_nil_of_length_eq_zero h0
    go_enter Try.func10, Try.ntmps10
    go_wp2_with fail
    go_ret
    exact ⟨rfl, rfl⟩
  · rw [whole_one h1, h1]
    go_enter Try.func10, Try.ntmps10
    go_wp2_with fail
    go_ret
    exact ⟨rfl, rfl⟩
  · obtain ⟨n, hn⟩ : ∃ n, l.length = n + 2 := ⟨l.length - 2, by omega⟩
    obtain ⟨g, o, rfl, _, hc⟩ := bts_at_ h (by omega)
    have c0 := hc n (by omega)
    have c1 := hc (n + 1) (by omega)
    rw [whole_two hn, hn]
    have e0 : (((l.getD n 0).toNat : Int) == 13) = (l.getD n 0 == 13) := eq_byte (l.getD n 0) 13
    have e1 : (((l.getD (n + 1) 0).toNat : Int) == 10) = (l.getD (n + 1) 0 == 10) := eq_byte (l.getD (n + 1) 0) 10
    generalize l.getD n 0 = x at *
    generalize l.getD (n + 1) 0 = y at *
    generalize (x == 13) = p at *
    generalize (y == 10) = q at *
    have hn' : n ≤ 1000000 := by omega
    clear h hc hn h1 hl
    have z0 : ¬ ((n : Int) + 2 = 0) := by omega
    have z1 : (((n : Int) + 2) == 0) = false := by simp; omega
    have z2 : (2 : Int) ≤ (n : Int) + 2 := by omega
    have z3 : (n : Int) + 2 - 2 = (n : Int) := by omega
    have z4 : (n : Int) + 2 - 1 = (n : Int) + 1 := by omega
    have E1 := Lib.hid e1
    clear e1
    cases p <;>
    · go_enter Try.func10, Try.ntmps10
      go_wp2_with fail
      go_ret
      exact ⟨ret_b (by first | rfl | (rw [Bool.true_and]; exact E1.out)), rfl⟩
/-- bytes behind bytes, where the new ones are a row just built. -/
theorem bts_new (w : World) (l : L) (C : Array Value) (fr : Nat × Nat) (h : C.toList = bv l) : Bts (w.alloc (.cells C 5 fr)) (w.heap.size + 1) (some ⟨w.heap.size, 0, none⟩) l := Bts.newm w l C fr h
set_option maxHeartbeats 800000 in
theorem rclose_any {w : World} {B : Nat} {A : Option Addr} {l : L} (h : Bts w B A l) (hB : B ≤ w.heap.size) (c : Nat) (hl : l.length ≤ 1000000) :
    Calls Try.prog 12 #[.slice A l.length c] w fun e w' => ∃ v, e = .returned v ∧ Own5 w' w.heap.size v (close l) ∧ Below w.heap.size w w' := by
  have HB := Lib.hid h
  have HW : Hid (∀ W, Below w.heap.size w W → Calls Try.prog 10 #[.slice A l.length c] W fun e w' => e = .returned (.bool (whole l)) ∧ W = w') := Lib.hid fun W hb => rwhole_any (h.below (hb.mono hB)) c hl
  have HL := Lib.hid hl
  have HC1 : Hid (whole l = true → close l = l) := Lib.hid fun h => by unfold close; rw [if_pos h]
  have HC2 : Hid (whole l = false → close l = l ++ [13, 10]) := Lib.hid fun h => by unfold close; rw [h]; rfl
  clear h hl
  generalize whole l = p at *
  generalize hn : l.length = n at *
  have HN := Lib.hid hn
  clear hn
  have HE : Hid (([] ++ l : L) = l) := Lib.hid rfl
  cases p with
  | true =>
    rw [HC1.out rfl]
    go_enter Try.func12, Try.ntmps12
    go_wp2_with (first
      | (refine app5 (.const (.slice none 0 0)) (.tmp 4) rfl rfl w.heap.size (.slice none 0 0) [] l rfl (Own5.nil _ _) B A c (by rw [HN.out]; rfl) HB.out (by simp; rw [HN.out]; have := HL.out; omega) (Nat.le_refl _) ?_; intro v1 w1 h1 h2; rw [HE.out] at h1; have b1 := (Below.refl w.heap.size w).grown h2 (Nat.le_refl _) (fun k hk => by cases hk); have H1 := Lib.hid (show Own5 w1 w.heap.size v1 l from h1); clear h1 h2)
      | (refine (HW.out _ b1).mono ?_; rintro e w' ⟨rfl, rfl⟩)
      | fail)
    go_ret
    exact ⟨_, rfl, H1.out, b1⟩
  | false =>
    rw [HC2.out rfl]
    go_enter Try.func12, Try.ntmps12
    go_wp2_with (first
      | (refine app5 (.const (.slice none 0 0)) (.tmp 4) rfl rfl w.heap.size (.slice none 0 0) [] l rfl (Own5.nil _ _) B A c (by rw [HN.out]; rfl) HB.out (by simp; rw [HN.out]; have := HL.out; omega) (Nat.le_refl _) ?_; intro v1 w1 h1 h2; rw [HE.out] at h1; have b1 := (Below.refl w.heap.size w).grown h2 (Nat.le_refl _) (fun k hk => by cases hk); have H1 := Lib.hid (show Own5 w1 w.heap.size v1 l from h1); clear h1 h2)
      | (refine (HW.out _ b1).mono ?_; rintro e w' ⟨rfl, rfl⟩)
      | (refine app5 (.tmp 9) (.tmp 10) rfl rfl w.heap.size v1 l [13, 10] rfl (own_kept H1.out ((Below.refl w1.heap.size w1).alloc (Nat.le_refl _) _) (Nat.le_refl _)) (w1.heap.size + 1) (some ⟨w1.heap.size, 0, none⟩) 2 rfl (bts_new w1 [13, 10] _ _ rfl) (by simp; rw [HN.out]; have := HL.out; omega) (by have := b1.size; simp; omega) ?_; intro v2 w2 h1 h2; have H2 := Lib.hid (show Own5 w2 w.heap.size v2 (l ++ [13, 10]) from h1); have b2 := (b1.alloc b1.size (.cells #[.int .u8 13, .int .u8 10] 5)).grown h2 (by have := b1.size; simp; omega) (fun k hk => (H1.out.lt k hk).1); clear h1 h2)
      | fail)
    go_ret
    exact ⟨_, rfl, H2.out, b2⟩
end Dt
end Go.Proofs.Ytdbmcbnohldolaa
