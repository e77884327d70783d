/- Chapter 15's example. Conditions: as stated at each. -/
import Derived.Test.YtpfonpjcnpfipaaGreatDoorEnChks
import Derived.Test.YtpfonpjcnpfipaaGreatDoorEnRow
namespace Go.Proofs.YtpfonpjcnpfipaaGreatDoor
set_option maxRecDepth 100000
namespace En
open Go.RowKit Go Go.Proofs.YtpfonpjcnpfipaaGreatDoor.Pa
attribute [local go_sem] Oper.semAt_some
def exE : Env := ([], [[97, 64, 98]], 0)
theorem exE_small : SmallE exE := ⟨by decide, fun k => by
  rcases Nat.eq_zero_or_pos k with h | h
  · subst h; decide
  · unfold exE
    simp only [List.getD]
    rw [List.getElem?_eq_none (by simp; omega)]
    decide, by decide, by decide, by decide⟩
theorem ex_put : putS [[97, 98], []] = [50, 58, 97, 98, 44, 48, 58, 44] := by decide +kernel
theorem ex_chk : checkE exE 0 = true := by decide +kernel
/-- two slices in a row that is written out. -/
theorem rws_two {w : World} {x y : Value} {a b : L} (hx : SlV w x a) (hy : SlV w y b) : Rws (w.alloc (.cells #[x, y] 22)) (w.heap.size + 1) (some ⟨w.heap.size, 0, none⟩) [a, b] := fun k r hk => by
  obtain ⟨A, c, rfl, h1, h2, h3⟩ := hx
  obtain ⟨A', c', rfl, h1', h2', h3'⟩ := hy
  have hb : Below w.heap.size w (w.alloc (.cells #[.slice A a.length c, .slice A' b.length c'] 22)) := (Below.refl _ w).alloc (Nat.le_refl _) _
  rcases k with _ | _ | k
  · obtain rfl : a = r := by simpa using hk
    exact ⟨_, A, c, rfl, by simp, by rw [add_0]; exact (cell_of_row _ w.heap.size 0 _ _ _ (heap_alloc_new w _)).trans rfl, h2, h3, (h1.below hb).more (by omega)⟩
  · obtain rfl : b = r := by simpa using hk
    exact ⟨_, A', c', rfl, by simp, by rw [tx_addn]; exact (cell_of_row _ w.heap.size 1 _ _ _ (heap_alloc_new w _)).trans rfl, h2', h3', (h1'.below hb).more (by omega)⟩
  · simp at hk
theorem outp_str {w : World} {t : L} {e : Ending} {w' : World} (h : OutP w t e w') {n : Nat} (hn : t.length = n) {s : ByteArray} (hs : str t = s) :
    ∃ A c, e = .returned (.slice A n c) ∧ (convert 22 9 (.slice A n c)).run Tryz.prog w' = .ok (.string s) w' ∧ Below w.heap.size w w' := by
  obtain ⟨v, rfl, ho, hb⟩ := h
  subst hn
  subst hs
  obtain ⟨A, c, rfl, _, _⟩ := own_slice ho
  exact ⟨A, c, rfl, conv_str ho.bts c, hb⟩
set_option maxHeartbeats 1600000 in
theorem awake_any (w : World) (hG : GlT w) : Calls Tryz.prog 4 #[] w fun r w' => r = .returned (.bool true) ∧ Below w.heap.size w w' := by
  have hcv := conv_const
  have HGT := Lib.hid (fun (X : World) (hX : Below w.heap.size w X) => hG.below hX hG.lt)
  have hb1 : Below w.heap.size w (w.alloc (.cells #[.int .u8 97, .int .u8 98] 5 (2, 3))) := (Below.refl _ w).alloc (Nat.le_refl _) _
  have hs1 : SlV (w.alloc (.cells #[.int .u8 97, .int .u8 98] 5 (2, 3))) (.slice (some ⟨w.heap.size, 0, none⟩) 2 2) [97, 98] := ⟨_, 2, rfl, (bts_new w [97, 98] #[.int .u8 97, .int .u8 98] (2, 3) rfl).more (by simp), by decide, by decide⟩
  have hrw := rws_two hs1 (y := .slice none 0 0) (b := []) ⟨none, 0, rfl, Cs.nil, by decide, by decide⟩
  simp only [World.size_alloc] at hrw
  have hb2 := hb1.alloc hb1.size (.cells #[.slice (some ⟨w.heap.size, 0, none⟩) 2 2, .slice none 0 0] 22)
  have HPU := Lib.hid (put_any (hrw.more (by simp)) 2 2 rfl (by rw [ex_put]; decide) (HGT.out _ hb2))
  rw [ex_put] at HPU
  have HPV := Lib.hid (HPU.out.mono fun e w' h => outp_str h (n := 8) rfl (s := ⟨#[50, 58, 97, 98, 44, 48, 58, 44]⟩) rfl)
  clear HPU
  have HCK : Hid (∀ X, Below w.heap.size w X → Calls Tryz.prog 9 #[.agg #[.string ⟨#[]⟩, .slice (some ⟨X.heap.size, 0, none⟩) 1 1, .int .i64 0], .slice none 0 0] (X.alloc (.cells #[.string ⟨#[97, 64, 98]⟩] 9)) fun e w' => e = .returned (.int .i64 0) ∧ Below X.heap.size X w') := Lib.hid fun X hX => by
    have htx := tx_lit X #[.string ⟨#[97, 64, 98]⟩] [[97, 64, 98]] rfl (0, 0)
    have := Check_any (w := X.alloc (.cells #[.string ⟨#[97, 64, 98]⟩] 9)) (x := .agg #[.string ⟨#[]⟩, .slice (some ⟨X.heap.size, 0, none⟩) 1 1, .int .i64 0]) (e := exE) ⟨_, 1, rfl, htx.more (by simp), by decide, by decide⟩ exE_small none 0 0
    rw [ex_chk] at this
    refine this.mono ?_
    rintro e w' ⟨rfl, h⟩
    exact ⟨rfl, ((Below.refl _ X).alloc (Nat.le_refl _) _).trans (h.mono (by simp))⟩
  have HB2 := Lib.hid hb2
  clear hb1 hs1 hrw hb2
  go_enter Tryz.func4, Tryz.ntmps4
  go_wp2_with fail
  refine HPV.out.mono ?_
  rintro e w3 ⟨A3, c3, rfl, hcs, hb3⟩
  have HB3 := Lib.hid (HB2.out.trans (hb3.mono HB2.out.size))
  have HC3 := Lib.hid (HCK.out w3 HB3.out)
  clear hb3 HPV HCK
  go_wp2_with (first
    | (go_at_call 9; refine HC3.out.mono ?_; rintro e w4 ⟨rfl, hb4⟩; have HB4 := Lib.hid (HB3.out.trans (hb4.mono HB3.out.size)); clear hb4)
    | fail)
  go_ret
  exact ⟨rfl, HB4.out⟩
end En
end Go.Proofs.YtpfonpjcnpfipaaGreatDoor
