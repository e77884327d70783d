/- The domain of an address: retain.domain, folded, the document's of. Conditions: as stated at each. -/
import Derived.Test.YtokaifnpmhkkpaaRtFind
import Derived.Test.YtokaifnpmhkkpaaPaFold
namespace Go.Proofs.Ytokaifnpmhkkpaa
set_option maxRecDepth 100000
namespace Rt
open Go.RowKit Go Go.Proofs.Ytokaifnpmhkkpaa.Pa
theorem dmn_any (l : L) (w : World) (hl : l.length ≤ 140737488355328) :
    Calls Try.prog 32 #[.string (str l)] w fun e w' => e = .returned (.string (str (domOf l))) ∧ Below w.heap.size w w' := by
  have HF := Lib.hid (fun W => fold_any l W hl)
  have HO := Lib.hid (fun W => of_any (foldS l) W (by rw [foldS_length]; exact hl))
  rw [show domOf l = dom (foldS l) from rfl]
  generalize str (dom (foldS l)) = sd at *
  generalize str (loc (foldS l)) = sl at *
  generalize str (foldS l) = sf at *
  generalize str l = s at *
  go_enter Try.func32, Try.ntmps32
  go_wp2_with (first
    | (go_at_call 42; refine (HF.out _).mono ?_; rintro e w1 ⟨rfl, hb1⟩)
    | (go_at_call 41; refine (HO.out _).mono ?_; rintro e w2 ⟨rfl, hb2⟩)
    | fail)
  go_ret
  exact ⟨rfl, hb1.trans (hb2.mono hb1.size)⟩
theorem rof13_any (l d : L) (w : World) (hl : l.length ≤ 140737488355328) :
    Calls Try.prog 34 #[.string (str l), .string (str d)] w fun e w' => e = .returned (.bool (domOf l == d)) ∧ Below w.heap.size w w' := by
  have HF := Lib.hid (fun W => rfold_any l W hl)
  have HO := Lib.hid (fun W => rof_any (foldS l) W (by rw [foldS_length]; exact hl))
  have he : ((str (domOf l)).toList == (str d).toList) = (domOf l == d) := beq_str
  rw [show domOf l = dom (foldS l) from rfl] at he ⊢
  generalize hr : (dom (foldS l) == d) = r at *
  have HR := Lib.hid he
  clear hr he
  generalize str (dom (foldS l)) = sd at *
  generalize str (loc (foldS l)) = sl at *
  generalize str (foldS l) = sf at *
  generalize str l = s at *
  generalize str d = t at *
  go_enter Try.func34, Try.ntmps34
  go_wp2_with (first
    | (go_at_call 44; refine (HF.out _).mono ?_; rintro e w1 ⟨rfl, hb1⟩)
    | (go_at_call 43; refine (HO.out _).mono ?_; rintro e w2 ⟨rfl, hb2⟩)
    | fail)
  go_ret
  exact ⟨ret_bool HR.out, hb1.trans (hb2.mono hb1.size)⟩
/-- a domain as rules have it. -/
def foldedS (l : L) : Bool := domS l && (domOf (64 :: l) == l)
theorem folded_any (l : L) (w : World) (hl : l.length ≤ 140737488355328) :
    Calls Try.prog 25 #[.string (str l)] w fun e w' => e = .returned (.bool (foldedS l)) ∧ Below w.heap.size w w' := by
  have HD := Lib.hid (fun W => Pa.domain_any l hl W)
  unfold foldedS
  cases hd : domS l with
  | false =>
    rw [hd] at HD
    generalize str l = s at *
    go_enter Try.func25, Try.ntmps25
    go_wp2_with (first
      | (go_at_call 36; refine (HD.out _).mono ?_; rintro e w1 ⟨rfl, hb1⟩)
      | fail)
    go_ret
    exact ⟨rfl, hb1⟩
  | true =>
    rw [hd, ] at HD
    rw [Bool.true_and]
    have hl2 : l.length ≤ 255 := by
      unfold domS at hd
      rw [Bool.and_eq_true, decide_eq_true_eq] at hd
      exact hd.1
    have hz := str_size l
    have ha : (⟨#[64]⟩ : ByteArray) ++ str l = str (64 :: l) := str_append [64] l
    have HN := Lib.hid (fun W => dmn_any (64 :: l) W (by simp; omega))
    have he : ((str (domOf (64 :: l))).toList == (str l).toList) = (domOf (64 :: l) == l) := beq_str
    generalize hr : (domOf (64 :: l) == l) = r at *
    have HR := Lib.hid he
    clear hr he hd
    generalize str (domOf (64 :: l)) = sd at *
    generalize str (64 :: l) = sa at *
    generalize str l = s at *
    go_enter Try.func25, Try.ntmps25
    go_wp2_with (first
      | (go_at_call 36; refine (HD.out _).mono ?_; rintro e w1 ⟨rfl, hb1⟩)
      | (go_at_call 32; refine (HN.out _).mono ?_; rintro e w2 ⟨rfl, hb2⟩)
      | fail)
    go_ret
    exact ⟨ret_bool HR.out, hb1.trans (hb2.mono hb1.size)⟩
end Rt
end Go.Proofs.Ytokaifnpmhkkpaa
