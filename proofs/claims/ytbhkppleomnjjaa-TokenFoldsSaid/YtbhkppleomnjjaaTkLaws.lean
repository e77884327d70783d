/- Chapter 12's example; the walks of TokenWords, TokenSets. Conditions: as stated at each. -/
import Derived.Test.YtbhkppleomnjjaaTkSet
import Derived.Test.YtbhkppleomnjjaaTkSorted
import Derived.Lib.SlBytesConst
namespace Go.Proofs.Ytbhkppleomnjjaa
set_option maxRecDepth 100000
namespace Tk
open Go.RowKit Go.Shelf Go Go.Proofs.Ytbhkppleomnjjaa.Pa
theorem conv_const (w : World) (C : Array Value) (n c : Nat) : (convert 22 22 (.slice (some ⟨w.heap.size, 0, none⟩) n c)).run Try.prog (w.alloc (.cells C 5)) = .ok (.slice (some ⟨w.heap.size, 0, none⟩) n c) (w.alloc (.cells C 5 (C.size, C.size + 1))) :=
  Lib.run_convert_bytes_const (P := Try.prog) w 22 5 C n c Try.underlying22 Try.underlying5
theorem bts_lit (w : World) (l : L) (C : Array Value) (fr : Nat × Nat) (h : C.toList = bv l) : Bts (w.alloc (.cells C 5 fr)) (w.heap.size + 1) (some ⟨w.heap.size, 0, none⟩) l := Bts.newm w l C fr h
def exT : L := [84, 111, 32, 98, 101, 44, 32, 111, 114, 32, 110, 111, 116, 32, 116, 111, 32, 98, 101, 33]
theorem ex_set : sortS (wordsS exT) = [[98, 101], [110, 111, 116], [111, 114], [116, 111]] := by decide +kernel
theorem four {w : World} {N : Nat} {v : Value} (h : OwnT w N v [[98, 101], [110, 111, 116], [111, 114], [116, 111]]) : ∃ g c s0 s3, v = .slice (some ⟨g, 0, none⟩) 4 c ∧ g < w.heap.size ∧ w.cell? ⟨g, 0, none⟩ = some (.string s0) ∧ w.cell? ⟨g, 3, none⟩ = some (.string s3) ∧ (s0.toList == [98, 101]) = true ∧ (s3.toList == [116, 111]) = true := by
  obtain ⟨A, c, rfl, _, _⟩ := h.slice
  obtain ⟨g, cap, hv, _, hlt⟩ := World.ownsRow.form h (by decide)
  injection hv with hv
  subst hv
  have h0 := (h.tx).els
  obtain ⟨g0, o0, e0, _, c0⟩ := h0 0 (by decide)
  obtain ⟨g3, o3, e3, _, c3⟩ := h0 3 (by decide)
  injection e0 with e0
  injection e0 with e0 e0'
  subst e0; subst e0'
  injection e3 with e3
  injection e3 with e3 e3'
  subst e3; subst e3'
  exact ⟨_, _, str [98, 101], str [116, 111], rfl, hlt, c0 w (Below.refl _ _), c3 w (Below.refl _ _), by rw [str_list]; rfl, by rw [str_list]; rfl⟩
set_option maxHeartbeats 400000 in
theorem awake12 (w : World) :
    Calls Try.prog 8 #[] w fun e w' => e = .returned (.bool true) ∧ Below w.heap.size w w' := by
  have hcv := conv_const
  have HS : Hid (∀ (W : World) (C : Array Value) (fr : Nat × Nat), C.toList = bv exT → Calls Try.prog 12 #[.slice (some ⟨W.heap.size, 0, none⟩) 20 20] (W.alloc (.cells C 5 fr)) (OutT (W.alloc (.cells C 5 fr)) [[98, 101], [110, 111, 116], [111, 114], [116, 111]])) := Lib.hid fun W C fr h => by
    have := set_any (w := W.alloc (.cells C 5 fr)) (l := exT) (by have := bts_lit W exT C fr h; rwa [World.size_alloc]) 20 (by decide) (by decide) (by decide)
    rw [ex_set] at this
    exact this
  go_enter Try.func8, Try.ntmps8
  go_wp2_with (first
    | (go_at_call 12; refine (HS.out w _ _ rfl).mono ?_; rintro e w1 ⟨v1, rfl, ho1, hb1⟩; obtain ⟨g, c1, s0, s3, rfl, hg, h0, h3, e0, e3⟩ := four ho1; have B1 : Hid (Below w.heap.size w w1) := Lib.hid ((belowA w _).trans (hb1.mono (by simp))); clear ho1 hb1)
    | fail)
  go_ret
  exact ⟨rfl, B1.out⟩
theorem lens_same {X : World} {N n c : Nat} {A : Option Addr} {ls : List L} (h : OwnT X N (.slice A n c) ls) : n = ls.length := by
  obtain ⟨A', c', e, _, _⟩ := h.slice
  injection e
/-- two rows of the same texts are told alike. -/
theorem same_own {X : World} {N N' k k' c c' : Nat} {A A' : Option Addr} {ls : List L} (h : OwnT X N (.slice A k c) ls) (h' : OwnT X N' (.slice A' k' c') ls) (hl : ls.length ≤ 1000000) :
    Calls Try.prog 9 #[.slice A k c, .slice A' k' c'] X fun e w' => e = .returned (.bool true) ∧ Below X.heap.size X w' := by
  have h1 := lens_same h
  have h2 := lens_same h'
  subst h1
  subst h2
  exact same_any h.tx h'.tx ls.length c c' rfl hl
theorem ownT_letters {X : World} {N : Nat} {v : Value} {ls : List L} (h : OwnT X N v ls) : ∃ A k c, v = .slice A k c := by
  obtain ⟨A, c, e, _, _⟩ := h.slice
  exact ⟨A, _, c, e⟩
section
variable {w : World} {A : Option Addr} {l : L}
theorem args_keep (h : Bts w w.heap.size A l) : ∀ X, Below w.heap.size w X → Bts X X.heap.size A l := fun _ hX => (h.below hX).more hX.size
set_option maxHeartbeats 800000 in
theorem lwords_any (h : Bts w w.heap.size A l) (c : Nat) (hc : l.length ≤ c) (hm : c ≤ maxLen) :
    Calls Try.prog 3 #[.slice A l.length c] w fun e w' => e = .returned (.bool true) ∧ Below w.heap.size w w' := by
  have HAW := Lib.hid (awake12 w)
  have HB := args_keep h
  have H1 : Hid (∀ X, Below w.heap.size w X → l.length ≤ 2000 → Calls Try.prog 10 #[.slice A l.length c] X (OutT X (wordsS l))) := Lib.hid fun X hX hl => words_any (HB X hX) c hc hm (by omega)
  have H2 : Hid (∀ X, Below w.heap.size w X → l.length ≤ 2000 → Calls Try.prog 11 #[.slice A l.length c] X (OutT X (wordsS l))) := Lib.hid fun X hX hl => rwords_any (HB X hX) (Nat.le_refl _) c (by omega)
  have HL : Hid (l.length ≤ 2000 → (wordsS l).length ≤ 1000000) := Lib.hid fun hl => by have := words_len l; omega
  clear h hc hm HB
  generalize l.length = n at *
  go_enter Try.func3, Try.ntmps3
  go_wp2_with fail
  refine HAW.out.mono ?_
  rintro e w1 ⟨rfl, b1⟩
  have B1 := Lib.hid b1
  clear b1 HAW
  by_cases hl : n ≤ 2000
  · have hl2 : ¬ (2000 : Int) < (n : Int) := by omega
    go_wp2_with fail
    refine (H1.out w1 B1.out hl).mono ?_
    rintro e w2 ⟨v2, rfl, ho2, hb2⟩
    obtain ⟨A2, k2, c2, rfl⟩ := ownT_letters ho2
    have B2 := Lib.hid (B1.out.trans (hb2.mono B1.out.size))
    have HO2 := Lib.hid ho2
    clear ho2 hb2
    go_wp2_with fail
    refine (H2.out w2 B2.out hl).mono ?_
    rintro e w3 ⟨v3, rfl, ho3, hb3⟩
    obtain ⟨A3, k3, c3, rfl⟩ := ownT_letters ho3
    have B3 := Lib.hid (B2.out.trans (hb3.mono B2.out.size))
    have HSM := Lib.hid (same_own (HO2.out.below hb3) ho3 (HL.out hl))
    clear ho3 hb3
    go_wp2_with fail
    refine HSM.out.mono ?_
    rintro e w4 ⟨rfl, hb4⟩
    have B4 := Lib.hid (B3.out.trans (hb4.mono B3.out.size))
    go_wp2_with fail
    go_ret
    exact ⟨rfl, B4.out⟩
  · have hl2 : (2000 : Int) < (n : Int) := by omega
    go_wp2_with fail
    go_ret
    exact ⟨rfl, B1.out⟩
set_option maxHeartbeats 800000 in
theorem lsets_any (h : Bts w w.heap.size A l) (c : Nat) (hc : l.length ≤ c) (hm : c ≤ maxLen) :
    Calls Try.prog 4 #[.slice A l.length c] w fun e w' => e = .returned (.bool true) ∧ Below w.heap.size w w' := by
  have HAW := Lib.hid (awake12 w)
  have HB := args_keep h
  have H1 : Hid (∀ X, Below w.heap.size w X → l.length ≤ 2000 → Calls Try.prog 12 #[.slice A l.length c] X (OutT X (sortS (wordsS l)))) := Lib.hid fun X hX hl => set_any (HB X hX) c hc hm (by omega)
  have H2 : Hid (∀ X, Below w.heap.size w X → l.length ≤ 2000 → Calls Try.prog 11 #[.slice A l.length c] X (OutT X (wordsS l))) := Lib.hid fun X hX hl => rwords_any (HB X hX) (Nat.le_refl _) c (by omega)
  have HL : Hid (l.length ≤ 2000 → (wordsS l).length ≤ 2000 ∧ (sortS (wordsS l)).length ≤ 1000000) := Lib.hid fun hl => by have := words_len l; have := sort_len (wordsS l); omega
  have H3 : Hid (∀ (X : World) (N k c' : Nat) (A' : Option Addr), OwnT X N (.slice A' k c') (wordsS l) → l.length ≤ 2000 → Calls Try.prog 13 #[.slice A' k c'] X (OutT X (sortS (wordsS l)))) := Lib.hid fun X N k c' A' ho hl => rsorted_any ho.tx (Nat.le_refl _) k c' (lens_same ho).symm (by rw [lens_same ho]; have := (HL.out hl).1; omega)
  clear h hc hm HB
  generalize l.length = n at *
  go_enter Try.func4, Try.ntmps4
  go_wp2_with fail
  refine HAW.out.mono ?_
  rintro e w1 ⟨rfl, b1⟩
  have B1 := Lib.hid b1
  clear b1 HAW
  by_cases hl : n ≤ 2000
  · have hl2 : ¬ (2000 : Int) < (n : Int) := by omega
    go_wp2_with fail
    refine (H1.out w1 B1.out hl).mono ?_
    rintro e w2 ⟨v2, rfl, ho2, hb2⟩
    obtain ⟨A2, k2, c2, rfl⟩ := ownT_letters ho2
    have B2 := Lib.hid (B1.out.trans (hb2.mono B1.out.size))
    have HO2 := Lib.hid ho2
    clear ho2 hb2
    go_wp2_with fail
    refine (H2.out w2 B2.out hl).mono ?_
    rintro e w3 ⟨v3, rfl, ho3, hb3⟩
    obtain ⟨A3, k3, c3, rfl⟩ := ownT_letters ho3
    have B3 := Lib.hid (B2.out.trans (hb3.mono B2.out.size))
    have HO3 := Lib.hid (HO2.out.below hb3)
    have HC3 := Lib.hid (H3.out w3 _ k3 c3 A3 ho3 hl)
    clear ho3 hb3
    go_wp2_with fail
    refine HC3.out.mono ?_
    rintro e w4 ⟨v4, rfl, ho4, hb4⟩
    obtain ⟨A4, k4, c4, rfl⟩ := ownT_letters ho4
    have B4 := Lib.hid (B3.out.trans (hb4.mono B3.out.size))
    have HSM := Lib.hid (same_own (HO3.out.below hb4) ho4 (HL.out hl).2)
    clear ho4 hb4
    go_wp2_with fail
    refine HSM.out.mono ?_
    rintro e w5 ⟨rfl, hb5⟩
    have B5 := Lib.hid (B4.out.trans (hb5.mono B4.out.size))
    go_wp2_with fail
    go_ret
    exact ⟨rfl, B5.out⟩
  · have hl2 : (2000 : Int) < (n : Int) := by omega
    go_wp2_with fail
    go_ret
    exact ⟨rfl, B1.out⟩
end
end Tk
end Go.Proofs.Ytbhkppleomnjjaa
