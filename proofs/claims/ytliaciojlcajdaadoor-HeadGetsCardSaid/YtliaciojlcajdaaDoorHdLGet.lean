/- HeadGets: the walk of the law. Conditions: as stated at each. -/
import Derived.Test.YtliaciojlcajdaaDoorHdGetC
import Derived.Test.YtliaciojlcajdaaDoorHdAwake
namespace Go.Proofs.YtliaciojlcajdaaDoor
set_option maxRecDepth 100000
namespace Hd
open Go.RowKit Go Go.Proofs.YtliaciojlcajdaaDoor.Pa
set_option maxHeartbeats 3200000 in
theorem gets_any {w : World} {A : Option Addr} {fs : List F} (hb : Prs w w.heap.size A (fv fs)) (c : Nat) (s : List UInt8) (hG : Gl w) :
    Calls Tryd.prog 5 #[.slice A fs.length c, .string (str s)] w fun e w' => e = .returned (.bool true) ∧ Below w.heap.size w w' := by
  have HAW := Lib.hid (awake8 w hG)
  have HB : Hid (∀ X, Below w.heap.size w X → Prs X X.heap.size A (fv fs)) := Lib.hid fun X hX => (hb.below hX).more hX.size
  have hsz := str_size s
  obtain ⟨t, ht⟩ : ∃ x, x = str s := ⟨_, rfl⟩
  rw [← ht] at hsz ⊢
  obtain ⟨n, hn⟩ : ∃ n, n = fs.length := ⟨_, rfl⟩
  rw [← hn]
  have HFE : Hid (∀ X, Below w.heap.size w X → Calls Tryd.prog 12 #[.slice A n c] X (FewP X fs n)) := Lib.hid fun X hX => few_any (HB.out X hX) n c hn.symm
  have HNT := Lib.hid (And.intro hn ht)
  clear hb hG hn ht
  go_enter Tryd.func5, Tryd.ntmps5
  go_wp2_with fail
  refine HAW.out.mono ?_
  rintro e w1 ⟨rfl, b1⟩
  go_wp2_with fail
  refine (HFE.out w1 b1).mono ?_
  rintro e w2 ⟨r, rfl, b2', hr⟩
  have b2 : Below w.heap.size w w2 := b1.trans (b2'.mono b1.size)
  clear b2'
  cases r with
  | false =>
    go_wp2_with fail
    go_ret
    exact ⟨rfl, b2⟩
  | true =>
    obtain ⟨hl0, hsm⟩ := hr rfl
    have hl : n ≤ 1001 := by omega
    clear hl0
    obtain ⟨hn, ht⟩ := HNT.out
    by_cases hs : s.length ≤ 200
    · obtain ⟨m, hm⟩ : ∃ m, m = (hits fs s n).length := ⟨_, rfl⟩
      obtain ⟨x, hx⟩ : ∃ x, x = str (first (hits fs s n)) := ⟨_, rfl⟩
      obtain ⟨nb, hnb⟩ : ∃ x, x = nameS s := ⟨_, rfl⟩
      obtain ⟨lo, hlo⟩ : ∃ x, x = str (s.map lowB) := ⟨_, rfl⟩
      have hdec : decide (0 < m) = decide (0 < (m : Int)) := by
        by_cases h : 0 < m
        · rw [decide_eq_true h, decide_eq_true (by omega)]
        · rw [decide_eq_false h, decide_eq_false (by omega)]
      have HGE : Hid (∀ X, Below w.heap.size w X → Calls Tryd.prog 15 #[.slice A n c, .string t] X fun e w' => e = .returned (.tuple #[.string x, .bool (decide (0 < (m : Int)))]) ∧ Below X.heap.size X w') := Lib.hid fun X hX => by
        rw [← hdec, ht, hx, hm]
        exact get_any (HB.out X hX) n c hn.symm hl hsm s
      have HRG : Hid (∀ X, Below w.heap.size w X → Calls Tryd.prog 16 #[.slice A n c, .string t] X fun e w' => e = .returned (.tuple #[.string x, .int .i64 m]) ∧ Below X.heap.size X w') := Lib.hid fun X hX => by
        rw [ht, hx, hm]
        exact rget_any (HB.out X hX) n c hn.symm hl hsm s (by omega)
      have HCO : Hid (∀ X, Below w.heap.size w X → Calls Tryd.prog 17 #[.slice A n c, .string t] X fun e w' => e = .returned (.int .i64 m) ∧ Below X.heap.size X w') := Lib.hid fun X hX => by
        rw [ht, hm]
        exact count_any (HB.out X hX) n c hn.symm hl hsm s
      have HCL : Hid (∀ X, Below w.heap.size w X → Calls Tryd.prog 17 #[.slice A n c, .string lo] X fun e w' => e = .returned (.int .i64 m) ∧ Below X.heap.size X w') := Lib.hid fun X hX => by
        have := count_any (HB.out X hX) n c hn.symm hl hsm (s.map lowB)
        rw [hits_low] at this
        rw [hlo, hm]
        exact this
      have HNA : Hid (∀ X, Calls Tryd.prog 18 #[.string t] X fun e w' => e = .returned (.bool nb) ∧ X = w') := Lib.hid fun X => by
        rw [ht, hnb]
        exact name_any s X (by omega)
      have HRN : Hid (∀ X, Calls Tryd.prog 19 #[.string t] X fun e w' => e = .returned (.bool nb) ∧ X = w') := Lib.hid fun X => by
        rw [ht, hnb]
        exact rname_any s X (by omega)
      have HLO : Hid (∀ X, Calls Tryd.prog 20 #[.string t] X fun e w' => e = .returned (.string lo) ∧ Below X.heap.size X w') := Lib.hid fun X => by
        rw [ht, hlo]
        exact rlower_any s X (by omega)
      have hs2 : (t.size : Int) ≤ 200 := by omega
      clear hdec hr hl hsm hs hsz hn hm hx hnb hlo ht HB
      go_wp2_with fail
      refine (HGE.out w2 b2).mono ?_
      rintro e w3 ⟨rfl, b3'⟩
      have b3 : Below w.heap.size w w3 := b2.trans (b3'.mono b2.size)
      clear b3'
      go_wp2_with fail
      refine (HRG.out w3 b3).mono ?_
      rintro e w4 ⟨rfl, b4'⟩
      have b4 : Below w.heap.size w w4 := b3.trans (b4'.mono b3.size)
      clear b4'
      go_wp2_with fail
      refine (HCO.out w4 b4).mono ?_
      rintro e w5 ⟨rfl, b5'⟩
      have b5 : Below w.heap.size w w5 := b4.trans (b5'.mono b4.size)
      clear b5'
      go_wp2_with fail
      refine (HNA.out w5).mono ?_
      rintro e w5' ⟨rfl, rfl⟩
      go_wp2_with fail
      refine (HRN.out w5).mono ?_
      rintro e w5' ⟨rfl, rfl⟩
      go_wp2_with fail
      refine (HLO.out w5).mono ?_
      rintro e w6 ⟨rfl, b6'⟩
      have b6 : Below w.heap.size w w6 := b5.trans (b6'.mono b5.size)
      clear b6'
      go_wp2_with fail
      refine (HCL.out w6 b6).mono ?_
      rintro e w7 ⟨rfl, b7'⟩
      have b7 : Below w.heap.size w w7 := b6.trans (b7'.mono b6.size)
      clear b7'
      go_wp2_with fail
      go_ret
      exact ⟨rfl, b7⟩
    · have hs2 : ¬ (t.size : Int) ≤ 200 := by omega
      have hs3 : (200 : Int) < t.size := by omega
      clear hr hl hsm hn ht
      go_wp2_with fail
      go_ret
      exact ⟨rfl, b2⟩
end Hd
end Go.Proofs.YtliaciojlcajdaaDoor
