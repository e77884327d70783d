/- retain.Over, the document's. Conditions: as stated at each. -/
import Derived.Test.YtokaifnpmhkkpaaRtFind
import Derived.Test.YtokaifnpmhkkpaaRtThose
namespace Go.Proofs.Ytokaifnpmhkkpaa
set_option maxRecDepth 100000
namespace Rt
open Go.RowKit Go Go.Proofs.Ytokaifnpmhkkpaa.Pa
theorem over_is (l : List C) (nm : L) (a now : Int) : overS l nm a now = ((findS l nm).isSome && decide (untilS a (fc l nm).2 ≤ now)) := by
  unfold overS fc
  cases findS l nm <;> rfl
set_option maxHeartbeats 1600000 in
theorem over_any {w : World} {B : Nat} {A : Option Addr} {l : List C} (h : Prs w B A (cvC l)) (hB : B ≤ w.heap.size) (n c : Nat) (hn : l.length = n) (hn1 : n ≤ 1000) (hok : OkC l) (nm : L) (a now : Int) (ha : I64 a) :
    Calls Try.prog 19 #[.slice A n c, .string (str nm), .int .i64 a, .int .i64 now] w fun e w' => e = .returned (.bool (overS l nm a now)) ∧ Below w.heap.size w w' := by
  have HF := Lib.hid (find_any h hB n c hn hn1 hok nm)
  have HU := Lib.hid (fun X => until_any a (fc l nm).2 ha (hok.fc nm) X)
  have HO := Lib.hid (over_is l nm a now)
  clear h hn hok hB hn1 ha
  unfold FindP at HF
  generalize overS l nm a now = r at *
  generalize untilS a (fc l nm).2 = u at *
  generalize (fc l nm).2 = v at *
  generalize str (fc l nm).1 = s at *
  generalize str nm = t at *
  cases hi : (findS l nm).isSome with
  | false =>
    rw [hi] at HF HO
    clear hi
    go_enter Try.func19, Try.ntmps19
    go_wp2_with (first
      | (go_at_call 13; refine HF.out.mono ?_; rintro e w1 ⟨rfl, hb1⟩)
      | fail)
    go_ret
    exact ⟨ret_bool (by rw [HO.out]; rfl), hb1.trans ((below_a w1 _).mono hb1.size)⟩
  | true =>
    rw [hi, Bool.true_and] at HO
    rw [hi] at HF
    clear hi
    go_enter Try.func19, Try.ntmps19
    go_wp2_with (first
      | (go_at_call 13; refine HF.out.mono ?_; rintro e w1 ⟨rfl, hb1⟩)
      | (go_at_call 17; refine (HU.out _).mono ?_; rintro e w2 ⟨rfl, rfl⟩)
      | fail)
    go_ret
    exact ⟨ret_bool (by rw [HO.out]), hb1.trans ((below_a w1 _).mono hb1.size)⟩
set_option maxHeartbeats 1600000 in
theorem rover_any {w : World} {B : Nat} {A : Option Addr} {l : List C} (h : Prs w B A (cvC l)) (hB : B ≤ w.heap.size) (n c : Nat) (hn : l.length = n) (hn1 : n ≤ 1000) (hok : OkC l) (nm : L) (a now : Int) (ha : I64 a) :
    Calls Try.prog 20 #[.slice A n c, .string (str nm), .int .i64 a, .int .i64 now] w fun e w' => e = .returned (.bool (overS l nm a now)) ∧ Below w.heap.size w w' := by
  have HF := Lib.hid (rfind_any h hB n c hn hn1 nm)
  have HU := Lib.hid (fun X => runtil_any a (fc l nm).2 ha (hok.fc nm) X)
  have HO := Lib.hid (over_is l nm a now)
  clear h hn hok hB hn1 ha
  unfold FindP at HF
  generalize overS l nm a now = r at *
  generalize untilS a (fc l nm).2 = u at *
  generalize (fc l nm).2 = v at *
  generalize str (fc l nm).1 = s at *
  generalize str nm = t at *
  cases hi : (findS l nm).isSome with
  | false =>
    rw [hi] at HF HO
    clear hi
    go_enter Try.func20, Try.ntmps20
    go_wp2_with (first
      | (go_at_call 14; refine HF.out.mono ?_; rintro e w1 ⟨rfl, hb1⟩)
      | fail)
    go_ret
    exact ⟨ret_bool (by rw [HO.out]; rfl), hb1.trans ((below_a w1 _).mono hb1.size)⟩
  | true =>
    rw [hi, Bool.true_and] at HO
    rw [hi] at HF
    clear hi
    go_enter Try.func20, Try.ntmps20
    go_wp2_with (first
      | (go_at_call 14; refine HF.out.mono ?_; rintro e w1 ⟨rfl, hb1⟩)
      | (go_at_call 18; refine (HU.out _).mono ?_; rintro e w2 ⟨rfl, rfl⟩)
      | fail)
    go_ret
    exact ⟨ret_bool (by rw [HO.out]), hb1.trans ((below_a w1 _).mono hb1.size)⟩
end Rt
end Go.Proofs.Ytokaifnpmhkkpaa
