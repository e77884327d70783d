/- few, Count: walks over fields. Conditions: as stated at each. -/
import Derived.Test.YtliaciojlcajdaaDoorHdRParse
import Derived.Test.YtliaciojlcajdaaDoorHdGMath
namespace Go.Proofs.YtliaciojlcajdaaDoor
set_option maxRecDepth 100000
namespace Hd
open Go.RowKit Go Go.Proofs.YtliaciojlcajdaaDoor.Pa
/-- the k-th field's cells, in every world behind. -/
theorem els_of {w : World} {A : Option Addr} {fs : List F} {n : Nat} (h : Prs w w.heap.size A (fv fs)) (hn : fs.length = n) : ∀ k, k < n → ∃ (g o : Nat), A = some ⟨g, o, none⟩ ∧ ∀ X, Below w.heap.size w X → X.cell? ⟨g, o + k * 2, none⟩ = some (.string (str (fs.getD k ([], [])).1)) ∧ X.cell? ⟨g, o + k * 2 + 1, none⟩ = some (.string (str (fs.getD k ([], [])).2)) := fun k hk => by
  rw [← hn] at hk
  obtain ⟨g, o, e1, e2, e3, e4⟩ := h.at_ (fv_at hk)
  refine ⟨g, o, e1, fun X hb => ⟨(hb.cell (p := ⟨g, _, none⟩) e2).trans e3, ?_⟩⟩
  rw [Nat.add_assoc]
  exact (hb.cell (p := ⟨g, _, none⟩) e2).trans e4
def small (f : F) : Prop := f.1.length ≤ 200 ∧ f.2.length ≤ 300
def FewP (w : World) (fs : List F) (n : Nat) (e : Ending) (w' : World) : Prop := ∃ r, e = .returned (.bool r) ∧ Below w.heap.size w w' ∧ (r = true → (n ≤ 20 ∨ n = 1001) ∧ ∀ f ∈ fs, small f)
set_option maxHeartbeats 1600000 in
theorem few_any {w : World} {A : Option Addr} {fs : List F} (h : Prs w w.heap.size A (fv fs)) (n c : Nat) (hn : fs.length = n) :
    Calls Tryd.prog 12 #[.slice A n c] w (FewP w fs n) := by
  have HEL := Lib.hid (els_of h hn)
  have HSM : Hid ((∀ k, k < n → small (fs.getD k ([], []))) → ∀ f ∈ fs, small f) := Lib.hid fun hk f hf => by
    obtain ⟨i, hi, rfl⟩ := List.mem_iff_getElem.1 hf
    have := hk i (by omega)
    simpa [List.getD, hi] using this
  clear h hn
  go_enter Tryd.func12, Tryd.ntmps12
  by_cases hbig : 20 < n ∧ n ≠ 1001
  · have h1 : (20 : Int) < n := by omega
    have h2 : ((n : Int) == 1001) = false := by rw [beq_eq_false_iff_ne]; omega
    have h3 : ((n : Int) != 1001) = true := by simp; omega
    go_wp2_with fail
    go_ret
    exact ⟨false, rfl, Below.refl _ _, by simp⟩
  · have hn1 : n ≤ 1001 := by omega
    have hsp : (n : Int) ≤ 20 ∨ ((20 : Int) < n ∧ ((n : Int) != 1001) = false) := by
      rcases Nat.lt_or_ge 20 n with h | h
      · right
        have : n = 1001 := by omega
        subst this
        exact ⟨by decide, by decide⟩
      · left; omega
    rcases hsp with h1 | ⟨h1, h2⟩
    all_goals go_wp2_with fail
    all_goals
      go_loopw [4, 15] (fun _ i wr => ∃ k : Nat, k ≤ n ∧ i = .int .i64 k ∧ Below w.heap.size w wr ∧ ∀ j, j < k → small (fs.getD j ([], []))) (fun _ i _ => n - (intOf i).toNat)
      case atStart => exact ⟨0, Nat.zero_le _, rfl, Below.refl _ _, fun j hj => absurd hj (Nat.not_lt_zero _)⟩
      case round =>
        obtain ⟨k, hk, rfl, hbel, hsm⟩ := hrel
        by_cases hlt : k < n
        · obtain ⟨g, o, rfl, hall⟩ := HEL.out k hlt
          obtain ⟨y0, y1⟩ := hall wr hbel
          have hs0 := str_size (fs.getD k ([], [])).1
          have hs1 := str_size (fs.getD k ([], [])).2
          have HK : Hid (∀ X, Below wr.heap.size wr X → Below w.heap.size w X) := Lib.hid fun X hX => hbel.trans (hX.mono hbel.size)
          have HSJ : Hid ((str (fs.getD k ([], [])).1).size ≤ 200 → (str (fs.getD k ([], [])).2).size ≤ 300 → ∀ j, j < k + 1 → small (fs.getD j ([], []))) := Lib.hid fun q0 q1 j hj => by
            rcases Nat.lt_or_ge j k with hjk | hjk
            · exact hsm j hjk
            · obtain rfl : j = k := by omega
              exact ⟨by omega, by omega⟩
          clear hall hbel hsm hs0 hs1
          generalize str (fs.getD k ([], [])).1 = s0 at *
          generalize str (fs.getD k ([], [])).2 = s1 at *
          go_wp2_with fail
          case roundEnd =>
            go_roundw
            case rel => exact ⟨k + 1, by omega, by go_num, HK.out _ (belowA wr _), HSJ.out (by omega) (by omega)⟩
            case measure => simp [intOf]; omega
          all_goals
            go_ret
            exact ⟨false, rfl, HK.out _ (belowA wr _), fun e => by cases e⟩
        · have hkn : k = n := by omega
          subst hkn
          have HF := Lib.hid (And.intro hbel (HSM.out hsm))
          clear hbel hsm
          go_wp2_with fail
          go_ret
          exact ⟨true, rfl, HF.out.1, fun _ => ⟨by omega, HF.out.2⟩⟩
set_option maxHeartbeats 1600000 in
theorem count_any {w : World} {A : Option Addr} {fs : List F} (h : Prs w w.heap.size A (fv fs)) (n c : Nat) (hn : fs.length = n) (hl : n ≤ 1001) (hsm : ∀ f ∈ fs, small f) (s : List UInt8) :
    Calls Tryd.prog 17 #[.slice A n c, .string (str s)] w fun e w' => e = .returned (.int .i64 (hits fs s n).length) ∧ Below w.heap.size w w' := by
  have HEL := Lib.hid (els_of h hn)
  have HSA : Hid (∀ k, k < n → ∀ X, Calls Tryd.prog 32 #[.string (str (fs.getD k ([], [])).1), .string (str s)] X fun e w' => e = .returned (.bool (sameS (fs.getD k ([], [])).1 s)) ∧ ∃ n, w' = X.drewN n) := Lib.hid fun k hk X => by
    have hm : fs.getD k ([], []) ∈ fs := by
      have : k < fs.length := by omega
      simp [List.getD, this]
    have := (hsm _ hm).1
    exact same_any _ s X (by omega)
  have HIT : Hid (∀ k, k < n → hits fs s (k + 1) = if sameS (fs.getD k ([], [])).1 s then hits fs s k ++ [fs.getD k ([], [])] else hits fs s k) := Lib.hid fun k hk => hits_succ (by omega)
  have HLE := Lib.hid (hits_len fs s)
  have hz : (hits fs s 0).length = 0 := by rw [hits_zero]; rfl
  clear h hn hsm
  go_enter Tryd.func17, Tryd.ntmps17
  go_wp2_with fail
  go_loopw [5, 7, 10] (fun x5 _ i wr => ∃ k : Nat, k ≤ n ∧ i = .int .i64 k ∧ x5 = .int .i64 (hits fs s k).length ∧ Below w.heap.size w wr) (fun _ _ i _ => n - (intOf i).toNat)
  case atStart => exact ⟨0, Nat.zero_le _, rfl, by rw [hz]; rfl, Below.refl _ _⟩
  case round =>
    obtain ⟨k, hk, rfl, rfl, hbel⟩ := hrel
    by_cases hlt : k < n
    · obtain ⟨g, o, rfl, hall⟩ := HEL.out k hlt
      obtain ⟨y0, y1⟩ := hall wr hbel
      have HS := Lib.hid (HSA.out k hlt)
      have HH := Lib.hid (HIT.out k hlt)
      have hlk := HLE.out k
      have HK : Hid (∀ X, Below wr.heap.size wr X → Below w.heap.size w X) := Lib.hid fun X hX => hbel.trans (hX.mono hbel.size)
      clear hall hbel
      have hmm : ((hits fs s k).length : Int) ≤ 1001 := by omega
      have hmm0 : (0 : Int) ≤ ((hits fs s k).length : Int) := by omega
      generalize str (fs.getD k ([], [])).1 = s0 at *
      generalize str (fs.getD k ([], [])).2 = s1 at *
      cases hs : sameS (fs.getD k ([], [])).1 s with
      | true =>
        rw [hs] at HS
        rw [if_pos hs] at HH
        have hl1 : (hits fs s (k + 1)).length = (hits fs s k).length + 1 := by rw [HH.out]; simp
        clear HH hs
        go_wp2_with (first
          | (go_at_call 32; refine (HS.out _).mono ?_; rintro e w' ⟨rfl, q, rfl⟩)
          | fail)
        go_roundw
        case rel => exact ⟨k + 1, by omega, by go_num, by rw [hl1]; go_num, HK.out _ ((belowA wr _).trans (below_drewN' _ _ _))⟩
        case measure => simp [intOf]; omega
      | false =>
        rw [hs] at HS
        rw [if_neg (by rw [hs]; simp)] at HH
        have hl1 : (hits fs s (k + 1)).length = (hits fs s k).length := by rw [HH.out]
        clear HH hs
        go_wp2_with (first
          | (go_at_call 32; refine (HS.out _).mono ?_; rintro e w' ⟨rfl, q, rfl⟩)
          | fail)
        go_roundw
        case rel => exact ⟨k + 1, by omega, by go_num, by rw [hl1], HK.out _ ((belowA wr _).trans (below_drewN' _ _ _))⟩
        case measure => simp [intOf]; omega
    · have hkn : k = n := by omega
      subst hkn
      go_wp2_with fail
      go_ret
      exact ⟨rfl, hbel⟩
end Hd
end Go.Proofs.YtliaciojlcajdaaDoor
