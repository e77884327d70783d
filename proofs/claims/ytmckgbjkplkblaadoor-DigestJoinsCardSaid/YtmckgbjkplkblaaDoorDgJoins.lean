/- The walk of DigestJoins. Conditions: as stated. -/
import Derived.Test.YtmckgbjkplkblaaDoorDgBack
import Derived.Test.YtmckgbjkplkblaaDoorDgRSum
namespace Go.Proofs.YtmckgbjkplkblaaDoor
open Go.RowKit Go
theorem Rws.three {w : World} {B : Nat} {A1 A2 A3 : Option Addr} {l1 l2 l3 : List UInt8} {c1 c2 c3 n1 n2 n3 : Nat} (h1 : Bts w B A1 l1) (h2 : Bts w B A2 l2) (h3 : Bts w B A3 l3) (hB : B ≤ w.heap.size)
    (e1 : l1.length = n1) (e2 : l2.length = n2) (e3 : l3.length = n3) (hl1 : n1 ≤ c1) (hc1 : c1 ≤ maxLen) (hl2 : n2 ≤ c2) (hc2 : c2 ≤ maxLen) (hl3 : n3 ≤ c3) (hc3 : c3 ≤ maxLen) :
    Rws (w.alloc (.cells #[.slice A1 n1 c1, .slice A2 n2 c2, .slice A3 n3 c3] 22)) (w.heap.size + 1) (some ⟨w.heap.size, 0, none⟩) [l1, l2, l3] := fun k r hk => by
  subst e1
  subst e2
  subst e3
  have up : ∀ (A : Option Addr) (l : List UInt8), Bts w B A l → Bts (w.alloc (.cells #[.slice A1 l1.length c1, .slice A2 l2.length c2, .slice A3 l3.length c3] 22)) (w.heap.size + 1) A l := fun A l h =>
    (h.below (((Below.refl w.heap.size w).alloc (Nat.le_refl _) _).mono hB)).more (by omega)
  rcases k with _ | _ | _ | k
  · obtain rfl : l1 = r := by simpa using hk
    refine ⟨_, A1, c1, rfl, by simp, ?_, hl1, hc1, up _ _ h1⟩
    rw [add_0]
    exact (cell_of_row _ w.heap.size 0 _ 22 (0, 0) (heap_alloc_new w _)).trans rfl
  · obtain rfl : l2 = r := by simpa using hk
    refine ⟨_, A2, c2, rfl, by simp, ?_, hl2, hc2, up _ _ h2⟩
    exact (cell_of_row _ w.heap.size 1 _ 22 (0, 0) (heap_alloc_new w _)).trans rfl
  · obtain rfl : l3 = r := by simpa using hk
    refine ⟨_, A3, c3, rfl, by simp, ?_, hl3, hc3, up _ _ h3⟩
    exact (cell_of_row _ w.heap.size 2 _ 22 (0, 0) (heap_alloc_new w _)).trans rfl
  · simp at hk
set_option maxRecDepth 100000 in
set_option maxHeartbeats 800000 in
theorem joins_any (A1 A2 A3 : Option Addr) (B c1 c2 c3 : Nat) (l1 l2 l3 : List UInt8) (w : World) (h1 : Bts w B A1 l1) (h2 : Bts w B A2 l2) (h3 : Bts w B A3 l3) (hB : B ≤ w.heap.size) (hl1 : l1.length ≤ c1) (hc1 : c1 ≤ maxLen) (hl2 : l2.length ≤ c2) (hc2 : c2 ≤ maxLen) (hl3 : l3.length ≤ c3) (hc3 : c3 ≤ maxLen) (hg : Glob w) :
    Calls Tryd.prog 4 #[.slice A1 l1.length c1, .slice A2 l2.length c2, .slice A3 l3.length c3] w fun e w' => e = .returned (.bool true) ∧ Below w.heap.size w w' := by
  have HAW := Lib.hid (awake_any w hg)
  obtain ⟨n1, hn1⟩ : ∃ n, l1.length = n := ⟨_, rfl⟩
  obtain ⟨n2, hn2⟩ : ∃ n, l2.length = n := ⟨_, rfl⟩
  obtain ⟨n3, hn3⟩ : ∃ n, l3.length = n := ⟨_, rfl⟩
  have HN1 := Lib.hid hn1
  have HN2 := Lib.hid hn2
  have HN3 := Lib.hid hn3
  have HG := Lib.hid hg
  rw [hn1, hn2, hn3]
  rw [hn1] at hl1
  rw [hn2] at hl2
  rw [hn3] at hl3
  clear hn1 hn2 hn3 hg
  by_cases g1 : n1 ≤ 1000
  · by_cases g2 : n2 ≤ 1000
    · by_cases g3 : n3 ≤ 1000
      · have n1' : ¬ (1000 : Int) < n1 := by omega
        have n2' : ¬ (1000 : Int) < n2 := by omega
        have n3' : ¬ (1000 : Int) < n3 := by omega
        obtain ⟨m, hm⟩ : ∃ m, n1 + n2 + n3 = m := ⟨_, rfl⟩
        have HM := Lib.hid hm
        have m63 : m ≤ 900000000 := by omega
        have hlen : (l1 ++ l2 ++ l3).length = m := by rw [List.length_append, List.length_append, HN1.out, HN2.out, HN3.out, hm]
        have hJ : ∀ w', Below w.heap.size w w' → Calls Tryd.prog 10 #[.slice (some ⟨w'.heap.size, 0, none⟩) 3 3] (w'.alloc (.cells #[.slice A1 n1 c1, .slice A2 n2 c2, .slice A3 n3 c3] 22)) fun e w'' => e = .returned (.agg (bv (sha (l1 ++ l2 ++ l3))).toArray) ∧ Below w'.heap.size w' w'' := fun w' hb => by
          have hj := join_any (some ⟨w'.heap.size, 0, none⟩) _ 3 [l1, l2, l3] _ (Rws.three (h1.below (hb.mono hB)) (h2.below (hb.mono hB)) (h3.below (hb.mono hB)) (Nat.le_trans hB hb.size) HN1.out HN2.out HN3.out hl1 hc1 hl2 hc2 hl3 hc3) (by simp) (by simp) (by simp only [List.flatten_cons, List.flatten_nil, List.length_append, List.length_nil, HN1.out, HN2.out, HN3.out]; omega) ((HG.out.below hb HG.out.size).alloc _)
          rw [show [l1, l2, l3].flatten = l1 ++ l2 ++ l3 by simp] at hj
          refine Calls.mono hj fun e w'' h => ⟨h.1, ?_⟩
          exact ((Below.refl w'.heap.size w').alloc (Nat.le_refl _) _).trans (h.2.mono (by simp))
        have hR : ∀ (w' : World) (A : Option Addr) (c : Nat), Bts w' w'.heap.size A (l1 ++ l2 ++ l3) → Calls Tryd.prog 9 #[.slice A m c] w' fun e w'' => e = .returned (.agg (bv (sha (l1 ++ l2 ++ l3))).toArray) ∧ Below w'.heap.size w' w'' := fun w' A c h => by
          have hr := rsum_any A w'.heap.size c (l1 ++ l2 ++ l3) w' h (Nat.le_refl _) (by omega)
          rw [hlen] at hr
          exact hr
        have hJ0 : ∀ w', Below w.heap.size w w' → Calls Tryd.prog 10 #[.slice none 0 0] w' fun e w'' => e = .returned (.agg (bv (sha [])).toArray) ∧ Below w'.heap.size w' w'' := fun w' hb =>
          join_any none 0 0 [] w' (fun k r hk => by simp at hk) (by simp) (by simp) (by simp) (HG.out.below hb HG.out.size)
        have hR0 : ∀ w' : World, Calls Tryd.prog 9 #[.slice none 0 0] w' fun e w'' => e = .returned (.agg (bv (sha [])).toArray) ∧ Below w'.heap.size w' w'' := fun w' =>
          rsum_any none 0 0 [] w' (Cs.nil) (by simp) (by simp)
        have heq := fun w => run_eq24 (sha (l1 ++ l2 ++ l3)) (sha (l1 ++ l2 ++ l3)) (sha_length _) (sha_length _) w
        rw [show (sha (l1 ++ l2 ++ l3) == sha (l1 ++ l2 ++ l3)) = true by simp] at heq
        have heq0 := fun w => run_eq24 (sha []) (sha []) (sha_length _) (sha_length _) w
        rw [show (sha [] == sha []) = true by simp] at heq0
        generalize (bv (sha (l1 ++ l2 ++ l3))).toArray = X at *
        generalize (bv (sha [])).toArray = Y at *
        have HJ := Lib.hid hJ
        have HR := Lib.hid hR
        have HJ0 := Lib.hid hJ0
        have HR0 := Lib.hid hR0
        clear hJ hR hJ0 hR0 hlen hm
        go_enter Tryd.func4, Tryd.ntmps4
        go_wp2_with (first
          | (go_at_call 7; refine HAW.out.mono ?_; rintro e w2 ⟨rfl, hb2⟩; have HB2 := Lib.hid hb2; clear hb2)
          | (at_builtin; refine app5n (.const (.slice none 0 0)) (.tmp 23) rfl rfl w.heap.size (.slice none 0 0) 0 n1 [] l1 rfl HN1.out rfl (World.ownsRow_nil _ _ 5 1) B A1 c1 rfl (h1.below (HB2.out.mono hB)) (by omega) HB2.out.size ?_; intro v3 w3 ho3 hg3; have HO3 := Lib.hid ho3; have HB3 : Hid (Below w.heap.size w w3) := Lib.hid (grown_below HB2.out (Nat.le_refl _) (World.ownsRow_nil _ w.heap.size 5 1) hg3); clear ho3 hg3)
          | (at_builtin; refine app5n (.tmp 24) (.tmp 25) rfl rfl w.heap.size v3 (0 + n1) n2 ([] ++ l1) l2 (by rw [List.nil_append, HN1.out, Nat.zero_add]) HN2.out rfl HO3.out B A2 c2 rfl (h2.below (HB3.out.mono hB)) (by omega) HB3.out.size ?_; intro v4 w4 ho4 hg4; have HO4 := Lib.hid ho4; have HB4 : Hid (Below w.heap.size w w4) := Lib.hid (grown_below HB3.out (Nat.le_refl _) HO3.out hg4); clear ho4 hg4)
          | (at_builtin; refine app5n (.tmp 26) (.tmp 27) rfl rfl w.heap.size v4 (0 + n1 + n2) n3 ([] ++ l1 ++ l2) l3 (by rw [List.nil_append, List.length_append, HN1.out, HN2.out, Nat.zero_add]) HN3.out rfl HO4.out B A3 c3 rfl (h3.below (HB4.out.mono hB)) (by omega) HB4.out.size ?_; intro v5 w5 ho5 hg5; have HB5 : Hid (Below w.heap.size w w5) := Lib.hid (grown_below HB4.out (Nat.le_refl _) HO4.out hg5); rw [Nat.zero_add, HM.out, List.nil_append] at ho5; obtain ⟨A7, c7, rfl, _, _⟩ := own_slice ho5; have HO5 := Lib.hid (Bts.of_own ho5); clear ho5 hg5)
          | (go_at_call 10; with_reducible refine (HJ.out w5 HB5.out).mono ?_; rintro e w6 ⟨rfl, hb6⟩; have HB6 : Hid (Below w.heap.size w w6) := Lib.hid (HB5.out.trans (hb6.mono HB5.out.size)); have HO6 := Lib.hid ((HO5.out.below hb6).more hb6.size); clear hb6)
          | (go_at_call 9; with_reducible refine (HR.out w6 A7 c7 HO6.out).mono ?_; rintro e w7 ⟨rfl, hb7⟩; have HB7 : Hid (Below w.heap.size w w7) := Lib.hid (HB6.out.trans (hb7.mono HB6.out.size)); clear hb7)
          | (go_at_call 10; with_reducible refine (HJ0.out w7 HB7.out).mono ?_; rintro e w8 ⟨rfl, hb8⟩; have HB8 : Hid (Below w.heap.size w w8) := Lib.hid (HB7.out.trans (hb8.mono HB7.out.size)); clear hb8)
          | (go_at_call 9; with_reducible refine (HR0.out w8).mono ?_; rintro e w9 ⟨rfl, hb9⟩; have HB9 : Hid (Below w.heap.size w w9) := Lib.hid (HB8.out.trans (hb9.mono HB8.out.size)); clear hb9)
          | fail)
        go_ret
        exact ⟨rfl, HB9.out⟩
      · have n1' : ¬ (1000 : Int) < n1 := by omega
        have n2' : ¬ (1000 : Int) < n2 := by omega
        have n3' : (1000 : Int) < n3 := by omega
        go_enter Tryd.func4, Tryd.ntmps4
        go_wp2_with (first
          | (go_at_call 7; refine HAW.out.mono ?_; rintro e w2 ⟨rfl, hb2⟩; have HB2 := Lib.hid hb2; clear hb2)
          | fail)
        go_ret
        exact ⟨rfl, HB2.out⟩
    · have n1' : ¬ (1000 : Int) < n1 := by omega
      have n2' : (1000 : Int) < n2 := by omega
      go_enter Tryd.func4, Tryd.ntmps4
      go_wp2_with (first
        | (go_at_call 7; refine HAW.out.mono ?_; rintro e w2 ⟨rfl, hb2⟩; have HB2 := Lib.hid hb2; clear hb2)
        | fail)
      go_ret
      exact ⟨rfl, HB2.out⟩
  · have n1' : (1000 : Int) < n1 := by omega
    go_enter Tryd.func4, Tryd.ntmps4
    go_wp2_with (first
      | (go_at_call 7; refine HAW.out.mono ?_; rintro e w2 ⟨rfl, hb2⟩; have HB2 := Lib.hid hb2; clear hb2)
      | fail)
    go_ret
    exact ⟨rfl, HB2.out⟩
end Go.Proofs.YtmckgbjkplkblaaDoor
