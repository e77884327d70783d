/- head.plain: whether a body may stand in a line. Conditions: as stated at each. -/
import Derived.Test.YtliaciojlcajdaaDoorHdAnyB
namespace Go.Proofs.YtliaciojlcajdaaDoor
set_option maxRecDepth 100000
namespace Hd
open Go.RowKit Go Go.Proofs.YtliaciojlcajdaaDoor.Pa
theorem indexAny_any : ∀ l : List UInt8, decide ((0 : Int) ≤ Lib.indexAny l [13, 10]) = l.any endB
  | [] => rfl
  | b :: l => by
    have ih := indexAny_any l
    have hge := Lib.indexAny_ge [13, 10] l
    have hc : [(13 : UInt8), 10].contains b = endB b := by
      unfold endB
      simp [List.contains, List.elem]
      cases h1 : b == 13 <;> cases h2 : b == 10 <;> simp
    rw [List.any_cons, Lib.indexAny, hc, ← ih]
    cases he : endB b with
    | true => simp
    | false =>
      simp only [Bool.false_eq_true, if_false, Bool.false_or]
      rcases (show Lib.indexAny l [13, 10] = -1 ∨ 0 ≤ Lib.indexAny l [13, 10] by omega) with h | h
      · rw [h]; decide
      · have hn : (Lib.indexAny l [13, 10] == -1) = false := beq_eq_false_iff_ne.2 (by omega)
        rw [hn]
        simp only [Bool.false_eq_true, if_false]
        rw [decide_eq_true h, decide_eq_true (by omega)]
theorem ends_ascii : ∀ (j : Nat) b, (ByteArray.mk #[13, 10]).data.toList[j]? = some b → b.toNat < 128 := by
  intro j b h
  match j with
  | 0 => simp at h; subst h; decide
  | 1 => simp at h; subst h; decide
  | j + 2 => simp at h
theorem iany_any (l : List UInt8) (w : World) (hl : l.length ≤ 1000000) : Calls Tryd.prog 65 #[.string (str l), .string ⟨#[13, 10]⟩] w (AnyP w l) := by
  by_cases h8 : l.length ≤ 8
  · exact iany_short l w h8
  · have := Tryd.strings_IndexAny_long (fun w => by kernel_rfl) (str l) ⟨#[13, 10]⟩ w (by decide) (by rw [str_size]; omega) (by rw [str_size]; omega) (by decide) ends_ascii
    refine this.mono fun e w' h => ?_
    obtain ⟨rfl, hw⟩ := h
    refine ⟨_, rfl, ?_, ?_⟩
    · rw [str_data]
      exact indexAny_any l
    · rw [hw]
      exact ((Below.refl _ w).alloc (Nat.le_refl _) _).alloc (by simp) _
theorem all_any (l : List UInt8) : l.all noEnd = !(l.any endB) := by
  induction l with
  | nil => rfl
  | cons c l ih =>
    rw [List.all_cons, List.any_cons, ih]
    unfold noEnd endB
    cases h1 : c == 13 <;> cases h2 : c == 10 <;> simp [h1, h2, bne]
def PlP (w : World) (b : Bool) (e : Ending) (w' : World) : Prop := e = .returned (.bool b) ∧ Below w.heap.size w w'
theorem contains_any (l : List UInt8) (w : World) (hl : l.length ≤ 1000000) : Calls Tryd.prog 57 #[.string (str l), .string ⟨#[13, 10]⟩] w (PlP w (l.any endB)) := by
  have HI := Lib.hid (iany_any l w hl)
  generalize str l = s at *
  go_enter Tryd.func57, Tryd.ntmps57
  go_wp2_with fail
  refine HI.out.mono ?_
  rintro e w' ⟨r, rfl, hr, hb⟩
  have HR := Lib.hid (And.intro hr hb)
  clear hr hb
  go_wp2_with fail
  go_ret
  exact ⟨ret_bool HR.out.1, HR.out.2⟩
set_option maxHeartbeats 800000 in
theorem plain_any (l : List UInt8) (w : World) (hl : l.length ≤ 1000000) : Calls Tryd.prog 43 #[.string (str l)] w (PlP w (plainS l)) := by
  have HC := Lib.hid (contains_any l w hl)
  have HT : Hid (∀ w, Calls Tryd.prog 58 #[.string (str l), .string ⟨#[32, 9]⟩] w fun e w' => e = .returned (.string (str (trimB l))) ∧ Below w.heap.size w w') := Lib.hid fun w => strim_any l w hl
  have HEQ := Lib.hid (str_beq (trimB l) l)
  have HPF := Lib.hid (fun h : l.any endB = true => plainS_f (l := l) (by rw [all_any, h]; rfl))
  have HPT := Lib.hid (fun h : l.any endB = false => plainS_t (l := l) (by rw [all_any, h]; rfl))
  generalize str (trimB l) = t at *
  generalize str l = s at *
  go_enter Tryd.func43, Tryd.ntmps43
  go_wp2_with fail
  refine HC.out.mono ?_
  rintro e w1 ⟨rfl, b1⟩
  cases hh : l.any endB with
  | true =>
    have hp := Lib.hid (HPF.out hh)
    clear hh
    go_wp2_with fail
    go_ret
    exact ⟨ret_bool hp.out, b1⟩
  | false =>
    have hp := Lib.hid (HPT.out hh)
    clear hh
    go_wp2_with fail
    refine (HT.out _).mono ?_
    rintro e w2 ⟨rfl, b2⟩
    have b3 : Below w.heap.size w w2 := b1.trans (b2.mono b1.size)
    clear b2
    go_wp2_with fail
    go_ret
    refine ⟨ret_bool ?_, b3⟩
    rw [← hp.out, HEQ.out, Bool.eq_iff_iff, beq_iff_eq, beq_iff_eq]
    exact eq_comm
end Hd
end Go.Proofs.YtliaciojlcajdaaDoor
