/- The document's Get. Conditions: as stated at each. -/
import Derived.Test.YtliaciojlcajdaaDoorHdGetB
namespace Go.Proofs.YtliaciojlcajdaaDoor
set_option maxRecDepth 100000
namespace Hd
open Go.RowKit Go Go.Proofs.YtliaciojlcajdaaDoor.Pa
theorem eqstr (a b : List UInt8) : (str a = str b) ↔ a = b := by
  constructor
  · intro h
    have := congrArg (fun s => s.data.toList) h
    simpa [str] using this
  · intro h; rw [h]
set_option maxHeartbeats 1600000 in
theorem rget_any {w : World} {A : Option Addr} {fs : List F} (h : Prs w w.heap.size A (fv fs)) (n c : Nat) (hn : fs.length = n) (hl : n ≤ 1001) (hsm : ∀ f ∈ fs, small f) (s : List UInt8) (hs : s.length ≤ 1000000) :
    Calls Tryd.prog 16 #[.slice A n c, .string (str s)] w fun e w' => e = .returned (.tuple #[.string (str (first (hits fs s n))), .int .i64 (hits fs s n).length]) ∧ Below w.heap.size w w' := by
  have HEL := Lib.hid (els_of h hn)
  have HLO : Hid (∀ k, k < n → ∀ X, Calls Tryd.prog 20 #[.string (str (fs.getD k ([], [])).1)] X fun e w' => e = .returned (.string (str ((fs.getD k ([], [])).1.map lowB))) ∧ Below X.heap.size X w') := Lib.hid fun k hk X => by
    have := (hsm _ (getD_mem (fs := fs) (k := k) (by omega))).1
    exact rlower_any _ X (by omega)
  have HLS : Hid (∀ X, Calls Tryd.prog 20 #[.string (str s)] X fun e w' => e = .returned (.string (str (s.map lowB))) ∧ Below X.heap.size X w') := Lib.hid fun X => rlower_any _ X hs
  have HIT : Hid (∀ k, k < n → hits fs s (k + 1) = if sameS (fs.getD k ([], [])).1 s then hits fs s k ++ [fs.getD k ([], [])] else hits fs s k) := Lib.hid fun k hk => hits_succ (by omega)
  have HLE := Lib.hid (hits_len fs s)
  have hz := hits_zero fs s
  clear h hn hsm
  go_enter Tryd.func16, Tryd.ntmps16
  go_wp2_with fail
  go_loopw [6, 7, 9, 12] (fun x6 x7 _ i wr => ∃ k : Nat, k ≤ n ∧ i = .int .i64 k ∧ x6 = .string (str (first (hits fs s k))) ∧ x7 = .int .i64 (hits fs s k).length ∧ Below w.heap.size w wr) (fun _ _ _ i _ => n - (intOf i).toNat)
  case atStart => exact ⟨0, Nat.zero_le _, rfl, by rw [hz]; rfl, by rw [hz]; rfl, Below.refl _ _⟩
  case round =>
    obtain ⟨k, hk, rfl, rfl, rfl, hbel⟩ := hrel
    by_cases hlt : k < n
    · obtain ⟨g, o, rfl, hall⟩ := HEL.out k hlt
      obtain ⟨y0, y1⟩ := hall wr hbel
      have HA := Lib.hid (HLO.out k hlt)
      have HH := HIT.out k hlt
      have hlk := HLE.out k
      have hmm : ((hits fs s k).length : Int) ≤ 1001 := by omega
      have hmm0 : (0 : Int) ≤ ((hits fs s k).length : Int) := by omega
      have HK : Hid (∀ X, Below wr.heap.size wr X → Below w.heap.size w X) := Lib.hid fun X hX => hbel.trans (hX.mono hbel.size)
      clear hall hbel
      generalize hq0 : (fs.getD k ([], [])).1 = q0 at *
      generalize hq1 : (fs.getD k ([], [])).2 = q1 at *
      go_wp2_with fail
      have hq := BlkIs.new wr 47 #[.string (str q0), .string (str q1)]
      have ha : Below wr.heap.size wr (wr.alloc (.cells #[.string (str q0), .string (str q1)] 47)) := belowA wr _
      generalize wr.alloc (.cells #[.string (str q0), .string (str q1)] 47) = w1 at *
      refine (HA.out _).mono ?_
      rintro e w2 ⟨rfl, hb2⟩
      have hq2 : BlkIs w2 wr.heap.size 47 #[.string (str q0), .string (str q1)] := (hb2.block _ hq.lt).trans hq
      have hB2 := ha.trans (hb2.mono ha.size)
      clear hb2 ha hq
      have z1 := (BlkIs.cell hq2 1).trans (rfl : _ = some (Value.string (str q1)))
      have HLL := HLS
      go_wp2_with fail
      refine (HLL.out _).mono ?_
      rintro e w3 ⟨rfl, hb3⟩
      have z1 := (hb3.cell (p := ⟨wr.heap.size, 1, none⟩) hq2.lt).trans z1
      have HB3 := Lib.hid (HK.out _ (hB2.trans (hb3.mono hB2.size)))
      clear hb3 hB2 hq2
      have hd : fs.getD k ([], []) = (q0, q1) := by rw [← hq0, ← hq1]
      rw [hd] at HH
      cases hs' : sameS q0 s with
      | true =>
        have he : str (q0.map lowB) = str (s.map lowB) := by
          unfold sameS at hs'
          rw [beq_iff_eq] at hs'
          rw [hs']
        rw [if_pos hs'] at HH
        rw [he]
        rcases Decidable.em (hits fs s k = []) with h0 | h0
        · rw [h0] at HH
          have HHH : Hid (str (first (hits fs s (k + 1))) = str q1 ∧ (hits fs s (k + 1)).length = 1) := Lib.hid (by rw [HH]; exact ⟨rfl, rfl⟩)
          rw [h0, first_nil, show ([] : List F).length = 0 from rfl]
          clear HH hs' he h0 hd hq0 hq1 HIT HLE
          go_wp2_with fail
          go_roundw
          case rel => exact ⟨k + 1, by omega, by go_num, by rw [HHH.out.1], by rw [HHH.out.2]; go_num, HB3.out⟩
          case measure => simp [intOf]; omega
        · have hl0 : ((hits fs s k).length : Int) ≠ 0 := by
            have := List.length_pos_iff.2 h0
            omega
          have hl1 : (((hits fs s k).length : Int) == 0) = false := beq_eq_false_iff_ne.2 hl0
          have HHH : Hid (str (first (hits fs s (k + 1))) = str (first (hits fs s k)) ∧ (hits fs s (k + 1)).length = (hits fs s k).length + 1) := Lib.hid (by rw [HH, first_snoc h0]; exact ⟨rfl, by simp⟩)
          clear HH hs' he h0 hd hq0 hq1 HIT HLE hlk
          generalize str (first (hits fs s k)) = t at *
          generalize (hits fs s k).length = m at *
          go_wp2_with fail
          go_roundw
          case rel => exact ⟨k + 1, by omega, by go_num, by rw [HHH.out.1], by rw [HHH.out.2]; go_num, HB3.out⟩
          case measure => simp [intOf]; omega
      | false =>
        have hne : q0.map lowB ≠ s.map lowB := by
          unfold sameS at hs'
          exact beq_eq_false_iff_ne.1 hs'
        have hne2 : ¬ str (q0.map lowB) = str (s.map lowB) := fun e => hne ((eqstr _ _).1 e)
        have hne3 : ((str (q0.map lowB)).toList == (str (s.map lowB)).toList) = false := by
          rw [beq_eq_false_iff_ne, Go.Lib.toList_data, Go.Lib.toList_data, str_data, str_data]
          exact hne
        rw [if_neg (by rw [hs']; simp)] at HH
        have HHH := Lib.hid HH
        clear HH hs' hne hd hq0 hq1 HIT HLE hlk
        generalize str (q0.map lowB) = t0 at *
        generalize str (s.map lowB) = t1 at *
        go_wp2_with fail
        go_roundw
        case rel => exact ⟨k + 1, by omega, by go_num, by rw [HHH.out], by rw [HHH.out], HB3.out⟩
        case measure => simp [intOf]; omega
    · have hkn : k = n := by omega
      subst hkn
      go_wp2_with fail
      refine bodyPost_ret (results_tmp2 rfl _ _ _) rfl ?_
      exact ⟨rfl, hbel⟩
end Hd
end Go.Proofs.YtliaciojlcajdaaDoor
