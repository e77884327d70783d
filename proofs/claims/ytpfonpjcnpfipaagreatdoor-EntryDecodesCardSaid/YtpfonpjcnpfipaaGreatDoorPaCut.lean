/- strings.Cut, LastIndexByte, path.cut. Conditions: as stated at each. -/
import Derived.Test.YtpfonpjcnpfipaaGreatDoorPaMath
import Derived.Test.YtpfonpjcnpfipaaGreatDoorShelf
namespace Go.Proofs.YtpfonpjcnpfipaaGreatDoor
set_option maxRecDepth 100000
namespace Pa
open Go.RowKit Go
theorem str_size (l : List UInt8) : (str l).size = l.length := by simp [str, ByteArray.size]
theorem str_data (l : List UInt8) : (str l).data.toList = l := by simp [str]
theorem str_extract (l : List UInt8) (a b : Nat) : (str l).extract a b = str ((l.drop a).take (b - a)) := by
  rw [Go.Lib.extract_eq, str_data]; rfl
theorem str_append (a b : List UInt8) : str a ++ str b = str (a ++ b) := by
  apply ByteArray.ext
  simp [str]
theorem sub_any (c : UInt8) (l : List UInt8) (w : World) (hl : l.length ≤ 1000000) :
    Calls Tryz.prog 97 #[.string (str l), .string ⟨#[c]⟩] w fun e w' => e = .returned (.tuple #[.string (str (ahead c l)), .string (str (behind c l)), .bool (has c l)]) ∧ ∃ n, w' = w.drewN n := by
  have hi := Tryz.stringslite_Index_one (str l) c w
  rw [str_data, idx_has] at hi
  have hsz := str_size l
  by_cases hc : c ∈ l
  · rw [if_pos hc] at hi
    have hb := behind_len hc
    have e1 : (str l).extract 0 (ahead c l).length = str (ahead c l) := by rw [str_extract, List.drop_zero, Nat.sub_zero, (take_ahead hc).1]
    have e2 : (str l).extract ((ahead c l).length + 1) l.length = str (behind c l) := by
      rw [str_extract, (take_ahead hc).2, List.take_of_length_le (by omega)]
    rw [has_t hc]
    have HI := Lib.hid hi
    have E1 := Lib.hid e1
    have E2 := Lib.hid e2
    clear hi e1 e2
    generalize (ahead c l) = a at *
    generalize (behind c l) = b at *
    go_enter Tryz.func97, Tryz.ntmps97
    go_wp2_with (first
      | (refine HI.out.mono ?_; rintro e w' ⟨rfl, rfl⟩)
      | fail)
    go_quiet (fail)
    go_wp2_with fail
    refine bodyPost_ret (results_tmp3 rfl _ _ _) rfl ?_
    refine ⟨?_, _, rfl⟩
    show Ending.returned (.tuple #[.string ((str l).extract 0 a.length), .string ((str l).extract (a.length + 1) l.length), .bool true]) = _
    rw [E1.out, E2.out]
  · rw [if_neg hc] at hi
    rw [has_f hc, (ahead_no hc).1, (ahead_no hc).2]
    have HI := Lib.hid hi
    clear hi
    go_enter Tryz.func97, Tryz.ntmps97
    go_wp2_with (first
      | (refine HI.out.mono ?_; rintro e w' ⟨rfl, rfl⟩)
      | fail)
    refine bodyPost_ret (results_tmp3 rfl _ _ _) rfl ?_
    exact ⟨rfl, 0, rfl⟩
/-- strings.Cut at one byte. -/
theorem cut_any (c : UInt8) (l : List UInt8) (w : World) (hl : l.length ≤ 1000000) :
    Calls Tryz.prog 86 #[.string (str l), .string ⟨#[c]⟩] w fun e w' => e = .returned (.tuple #[.string (str (ahead c l)), .string (str (behind c l)), .bool (has c l)]) ∧ ∃ n, w' = w.drewN n := by
  have HI := Lib.hid (sub_any c l w hl)
  go_enter Tryz.func86, Tryz.ntmps86
  go_wp2_with (first
    | (refine HI.out.mono ?_; rintro e w' ⟨rfl, n, rfl⟩)
    | fail)
  refine bodyPost_ret (results_tmp3 rfl _ _ _) rfl ?_
  exact ⟨rfl, n, rfl⟩
theorem lastI_lt (l : List UInt8) : -1 ≤ lastI l ∧ lastI l < l.length := by
  rcases last_cases l with ⟨_, h⟩ | ⟨a, b, rfl, _, h⟩
  · rw [h]; omega
  · rw [h]; simp; omega
theorem lastByte_any (l : List UInt8) (w : World) (hl : l.length ≤ 140737488355328) :
    Calls Tryz.prog 64 #[.string (str l), .int .u8 64] w fun e w' => e = .returned (.int .i64 (lastI l)) ∧ w' = w :=
  Tryz.strings_LastIndexByte (str l) 64 (by rw [str_size]; omega) w
/-- path.cut: ahead of the last at sign, behind it. -/
theorem pcut_any (l : List UInt8) (w : World) (hl : l.length ≤ 140737488355328) :
    Calls Tryz.prog 48 #[.string (str l)] w fun e w' => e = .returned (.tuple #[.string (str (loc l)), .string (str (dom l))]) ∧ ∃ n, w' = w.drewN n := by
  have HI := Lib.hid (lastByte_any l w hl)
  have hsz := str_size l
  rcases last_cases l with ⟨hn, h⟩ | ⟨a, b, hab, hn, h⟩
  · rw [h] at HI
    rw [(loc_no hn).1, (loc_no hn).2]
    clear hn h
    go_enter Tryz.func48, Tryz.ntmps48
    go_wp2_with (first
      | (refine HI.out.mono ?_; rintro e w' ⟨rfl, rfl⟩)
      | fail)
    refine bodyPost_ret (results_tmp2 rfl _ _ _) rfl ?_
    exact ⟨rfl, 0, rfl⟩
  · rw [h] at HI
    have e1 := (loc_at (a := a) hn).1
    have e2 := (loc_at (a := a) hn).2
    rw [← hab] at e1 e2
    have hlen : l.length = a.length + b.length + 1 := by rw [hab]; simp; omega
    have E1 : Hid ((str l).extract 0 a.length = str (loc l)) := Lib.hid (by rw [str_extract, e1, List.drop_zero, Nat.sub_zero, hab, List.take_left])
    have E2 : Hid ((str l).extract (a.length + 1) l.length = str (dom l)) := Lib.hid (by
      rw [str_extract, e2, List.take_of_length_le (by rw [List.length_drop]; omega), hab, show a ++ 64 :: b = (a ++ [64]) ++ b by simp, show a.length + 1 = (a ++ [64]).length by simp, List.drop_left])
    have hlen2 : a.length + 1 ≤ l.length := by omega
    clear hn h e1 e2 hab hlen
    go_enter Tryz.func48, Tryz.ntmps48
    go_wp2_with (first
      | (refine HI.out.mono ?_; rintro e w' ⟨rfl, rfl⟩)
      | fail)
    go_quiet (fail)
    go_wp2_with fail
    refine bodyPost_ret (results_tmp2 rfl _ _ _) rfl ?_
    refine ⟨?_, _, rfl⟩
    show Ending.returned (.tuple #[.string ((str l).extract 0 a.length), .string ((str l).extract (a.length + 1) l.length)]) = _
    rw [E1.out, E2.out]
end Pa
end Go.Proofs.YtpfonpjcnpfipaaGreatDoor
