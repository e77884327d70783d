/- The document's Parse. Conditions: as stated. -/
import Derived.Test.YtliaciojlcajdaaPaParse
namespace Go.Proofs.Ytliaciojlcajdaa
set_option maxRecDepth 100000
namespace Pa
open Go.RowKit Go
theorem parse_nil : parseS [] = ([], [], false) := by decide
theorem parse_no {l : List UInt8} (h : l.getD 0 0 ≠ 60) : parseS l = ([], l, false) := by
  unfold parseS
  cases l with
  | nil => rfl
  | cons c t =>
    have hc : c ≠ 60 := by simpa using h
    have : ([60] : List UInt8).isPrefixOf (ahead 62 (c :: t)) = false := by
      unfold ahead
      rw [List.takeWhile_cons]
      split
      · rw [List.isPrefixOf_cons_cons]; simp [Ne.symm hc]
      · rfl
    rw [this]; simp
theorem parse_end {l : List UInt8} (h : (62 : UInt8) ∉ l) : parseS l = ([], l, false) := by
  unfold parseS; rw [has_f h]; simp
/-- the first closing sign. -/
theorem parse_hit {l : List UInt8} {k : Nat} (h0 : l.getD 0 0 = 60) (h1 : 1 ≤ k) (hk : k < l.length) (hn : (62 : UInt8) ∉ l.take k) (hc : l.getD k 0 = 62) :
    parseS l = if (decide (k = 1)) || mailS ((l.take k).drop 1) then ((l.take k).drop 1, l.drop (k + 1), true) else ([], l, false) := by
  have e : l = l.take k ++ 62 :: l.drop (k + 1) := by
    have : l[k] = 62 := by rw [← hc]; simp [List.getD, hk]
    rw [← this, ← List.drop_eq_getElem_cons hk, List.take_append_drop]
  obtain ⟨e1, e2⟩ := ahead_at (b := l.drop (k + 1)) hn
  rw [← e] at e1 e2
  have hm : (62 : UInt8) ∈ l := by rw [e]; simp
  have hp : ([60] : List UInt8).isPrefixOf (l.take k) = true := by
    cases l with
    | nil => simp at hk
    | cons c t =>
      have : c = 60 := by simpa using h0
      subst this
      obtain ⟨k', rfl⟩ : ∃ k', k = k' + 1 := ⟨k - 1, by omega⟩
      simp [List.isPrefixOf]
  have hl : ((l.take k).drop 1 == []) = decide (k = 1) := by
    rw [Bool.eq_iff_iff, decide_eq_true_eq, beq_iff_eq, ← List.length_eq_zero_iff, List.length_drop, List.length_take]
    omega
  unfold parseS
  rw [e1, e2, has_t hm, hp, hl]
  simp
theorem b62 {c : UInt8} (h : c = 62) : ((c.toNat : Int) == 62) = true := by rw [h]; rfl
theorem n62 {c : UInt8} (h : c ≠ 62) : ((c.toNat : Int) == 62) = false := by
  rw [beq_eq_false_iff_ne]; intro e; exact h (UInt8.toNat_inj.1 (show c.toNat = 62 by omega))
theorem n60 {c : UInt8} (h : c ≠ 60) : ((c.toNat : Int) == 60) = false := by
  rw [beq_eq_false_iff_ne]; intro e; exact h (UInt8.toNat_inj.1 (show c.toNat = 60 by omega))
set_option maxHeartbeats 1600000 in
theorem rparse_any (l : List UInt8) (W : World) (hl : l.length ≤ 1000000) :
    Calls Try.prog 14 #[.string (str l)] W fun e w' => e = .returned (.tuple #[.string (str (parseS l).1), .string (str (parseS l).2.1), .bool (parseS l).2.2]) ∧ Below W.heap.size W w' := by
  have hsz := str_size l
  have HSZ := Lib.hid hsz
  have hemp := str_isEmpty l
  have HAT := Lib.hid (str_at l)
  have HEX := Lib.hid (str_extract l)
  by_cases h0 : l = []
  · subst h0
    rw [parse_nil]
    have he : (str []).toList.isEmpty = true := by rw [hemp]; rfl
    clear hemp
    obtain ⟨s, hs⟩ : ∃ s, s = str [] := ⟨_, rfl⟩
    show Calls _ _ _ _ fun e w' => e = .returned (.tuple #[.string (str []), .string (str []), .bool false]) ∧ _
    rw [← hs] at he ⊢
    have HS := Lib.hid hs
    clear hs
    go_enter Try.func14, Try.ntmps14
    go_wp2_with fail
    refine bodyPost_ret (results_tmp3 rfl _ _ _) rfl ?_
    exact ⟨by rw [HS.out]; rfl, Below.refl _ _⟩
  · have he : (str l).toList.isEmpty = false := by rw [hemp]; cases l with | nil => exact absurd rfl h0 | cons c t => rfl
    have hpos : 0 < (str l).size := by
      rw [hsz]; exact List.length_pos_iff.2 h0
    have g0 := HAT.out 0 hpos
    clear hemp
    by_cases h1 : l.getD 0 0 = 60
    · rw [h1] at g0
      have HH := Lib.hid (fun k h2 h3 h4 h5 => parse_hit (l := l) (k := k) h1 h2 h3 h4 h5)
      have HEND := Lib.hid (fun h => parse_end (l := l) h)
      have hlt0 : 1 ≤ l.length := by omega
      have HN1 : Hid ((62 : UInt8) ∉ l.take 1) := Lib.hid (by
        cases l with
        | nil => exact absurd rfl h0
        | cons c t =>
          have : c = 60 := by simpa using h1
          rw [this]; simp)
      generalize hpl : parseS l = pl at *
      have HPL := Lib.hid hpl
      clear h0 h1 hpl
      generalize hs : str l = s at *
      have HSL := Lib.hid hs
      clear hs
      go_enter Try.func14, Try.ntmps14
      go_wp2_with fail
      go_loopw [5] (fun x wr => ∃ k : Nat, 1 ≤ k ∧ k ≤ l.length ∧ x = .int .i64 k ∧ (62 : UInt8) ∉ l.take k ∧ Below W.heap.size W wr) (fun x _ => l.length - (intOf x).toNat)
      case atStart => exact ⟨1, by omega, hlt0, rfl, HN1.out, Below.refl _ _⟩
      case round =>
        obtain ⟨k, hk1, hk, rfl, hn, hbel⟩ := hrel
        have HNN := Lib.hid hn
        have HB := Lib.hid hbel
        clear hn hbel
        by_cases hlt : k < l.length
        · have hks : k < s.size := by omega
          have hc := HAT.out k hks
          by_cases q : l.getD k 0 = 62
          · have hpk := HH.out k hk1 hlt HNN.out q
            rw [q] at hc
            have x1 : s.extract 1 k = str ((l.take k).drop 1) := by rw [HEX.out, List.drop_take]
            have x2 : s.extract (k + 1) l.length = str (l.drop (k + 1)) := by rw [HEX.out, List.take_of_length_le (by rw [List.length_drop]; omega)]
            have HX1 := Lib.hid x1
            have HX2 := Lib.hid x2
            clear x1 x2 q
            by_cases k1 : k = 1
            · have hke : ((k : Int) == 1) = true := by rw [k1]; rfl
              rw [decide_eq_true k1, Bool.true_or, if_pos rfl] at hpk
              have HPK := Lib.hid hpk
              clear hpk g0 k1
              go_wp2_with fail
              go_quiet (fail)
              go_wp2_with fail
              refine bodyPost_ret (results_tmp3 rfl _ _ _) rfl ?_
              refine ⟨?_, HB.out.trans (drewN_below _ _ _)⟩
              rw [HPK.out]
              show _ = Ending.returned (.tuple #[.string (str ((l.take k).drop 1)), .string (str (l.drop (k + 1))), .bool true])
              rw [← HX1.out, ← HX2.out]
              rfl
            · have hke : ((k : Int) == 1) = false := by rw [beq_eq_false_iff_ne]; omega
              rw [decide_eq_false k1, Bool.false_or] at hpk
              have HM := Lib.hid (fun W => rmailbox_any ((l.take k).drop 1) W (by rw [List.length_drop, List.length_take]; omega))
              rw [← HX1.out] at HM
              cases hm : mailS ((l.take k).drop 1) with
              | true =>
                rw [hm] at HM hpk
                rw [if_pos rfl] at hpk
                have HPK := Lib.hid hpk
                clear hpk g0 k1
                go_wp2_with (first
                  | (refine (HM.out _).mono ?_; rintro e w2 ⟨rfl, hb2⟩)
                  | fail)
                have HB2 := Lib.hid (HB.out.trans (hb2.mono HB.out.size))
                go_quiet (fail)
                go_wp2_with fail
                refine bodyPost_ret (results_tmp3 rfl _ _ _) rfl ?_
                refine ⟨?_, HB2.out.trans (drewN_below _ _ _)⟩
                rw [HPK.out]
                show _ = Ending.returned (.tuple #[.string (str ((l.take k).drop 1)), .string (str (l.drop (k + 1))), .bool true])
                rw [← HX1.out, ← HX2.out]
                rfl
              | false =>
                rw [hm] at HM hpk
                rw [if_neg (by simp)] at hpk
                have HPK := Lib.hid hpk
                clear hpk g0 k1
                go_wp2_with (first
                  | (refine (HM.out _).mono ?_; rintro e w2 ⟨rfl, hb2⟩)
                  | fail)
                refine bodyPost_ret (results_tmp3 rfl _ _ _) rfl ?_
                refine ⟨?_, HB.out.trans (hb2.mono HB.out.size)⟩
                rw [HPK.out]
                show _ = Ending.returned (.tuple #[.string (str []), .string (str l), .bool false])
                rw [HSL.out]
                rfl
          · have t0 := n62 q
            have hnx : (62 : UInt8) ∉ l.take (k + 1) := by
              rw [List.take_succ_eq_append_getElem hlt, List.mem_append, not_or]
              refine ⟨HNN.out, ?_⟩
              have : l[k] = l.getD k 0 := by simp [List.getD, hlt]
              rw [this, List.mem_singleton]
              exact Ne.symm q
            have HNX := Lib.hid hnx
            generalize l.getD k 0 = cc at *
            clear q hnx g0
            go_wp2_with fail
            exact ⟨⟨k + 1, by omega, by omega, rfl, HNX.out, HB.out⟩, by simp [intOf]; omega⟩
        · have hpe := HEND.out (by have := HNN.out; rwa [List.take_of_length_le (by omega)] at this)
          have HPK := Lib.hid hpe
          clear hpe g0
          go_wp2_with fail
          refine bodyPost_ret (results_tmp3 rfl _ _ _) rfl ?_
          refine ⟨?_, HB.out⟩
          rw [HPK.out]
          show _ = Ending.returned (.tuple #[.string (str []), .string (str l), .bool false])
          rw [HSL.out]
          rfl
    · rw [parse_no h1]
      have t0 := n60 h1
      generalize l.getD 0 0 = c0 at *
      clear h0 h1
      show Calls _ _ _ _ fun e w' => e = .returned (.tuple #[.string (str []), .string (str l), .bool false]) ∧ _
      generalize str l = s at *
      go_enter Try.func14, Try.ntmps14
      go_wp2_with fail
      refine bodyPost_ret (results_tmp3 rfl _ _ _) rfl ?_
      exact ⟨rfl, Below.refl _ _⟩
end Pa
end Go.Proofs.Ytliaciojlcajdaa
