/- path.Parse, Show, Of; the document's. Conditions: as stated at each. -/
import Derived.Test.YtokaifnpmhkkpaaPaEach
import Derived.Test.YtokaifnpmhkkpaaPaRDom
namespace Go.Proofs.Ytokaifnpmhkkpaa
set_option maxRecDepth 100000
namespace Pa
open Go.RowKit Go
theorem parse_is (l : List UInt8) : parseS l = if has 62 l && Go.Lib.hasPrefix (ahead 62 l) [60] && (((ahead 62 l).drop 1).isEmpty || mailS ((ahead 62 l).drop 1)) then ((ahead 62 l).drop 1, behind 62 l, true) else ([], l, false) := by
  unfold parseS Go.Lib.hasPrefix
  have e : (((ahead 62 l).drop 1) == []) = ((ahead 62 l).drop 1).isEmpty := by cases (ahead 62 l).drop 1 <;> rfl
  rw [e]
theorem trim_yes {a : List UInt8} (h : Go.Lib.hasPrefix a [60] = true) : Go.Lib.trimPrefix a [60] = a.drop 1 := by
  unfold Go.Lib.trimPrefix; rw [if_pos h]; rfl
theorem str_nil : str [] = ⟨#[]⟩ := rfl
theorem str_isEmpty (l : List UInt8) : (str l).toList.isEmpty = l.isEmpty := by rw [Go.Lib.toList_data, str_data]
theorem of_any (l : List UInt8) (W : World) (hl : l.length ≤ 140737488355328) :
    Calls Try.prog 41 #[.string (str l)] W fun e w' => e = .returned (.tuple #[.string (str (loc l)), .string (str (dom l))]) ∧ Below W.heap.size W w' := by
  have HC := Lib.hid (fun W => pcut_any l W (by omega))
  obtain ⟨q1, q2⟩ := loc_len l
  have HK1 := Lib.hid (fun W => clone_s (loc l) W (by omega))
  have HK2 := Lib.hid (fun W => clone_s (dom l) W (by omega))
  have HD : Hid (∀ n, Below W.heap.size W (W.drewN n)) := Lib.hid (fun n => ⟨rfl, rfl, rfl, Nat.le_refl _, fun _ _ => rfl⟩)
  clear q1 q2
  generalize str (loc l) = s1 at *
  generalize str (dom l) = s2 at *
  generalize str l = s at *
  go_enter Try.func41, Try.ntmps41
  go_wp2_with (first
    | (go_at_call 47; refine (HC.out _).mono ?_; rintro e w1 ⟨rfl, n, rfl⟩)
    | (go_at_call 31; with_reducible refine (HK1.out _).mono ?_; rintro e w3 ⟨rfl, hb3⟩; clear HK1)
    | (go_at_call 31; with_reducible refine (HK2.out _).mono ?_; rintro e w4 ⟨rfl, hb4⟩)
    | fail)
  refine bodyPost_ret (results_tmp2 rfl _ _ _) rfl ?_
  exact ⟨rfl, ((HD.out _).trans hb3).trans (hb4.mono ((HD.out _).trans hb3).size)⟩
theorem rof_any (l : List UInt8) (W : World) (hl : l.length ≤ 140737488355328) :
    Calls Try.prog 43 #[.string (str l)] W fun e w' => e = .returned (.tuple #[.string (str (loc l)), .string (str (dom l))]) ∧ Below W.heap.size W w' := by
  have HI := Lib.hid (rlast_any l W (by omega))
  have hsz := str_size l
  rcases last_cases l with ⟨hn, h⟩ | ⟨a, b, hab, hn, h⟩
  · rw [h] at HI
    rw [(loc_no hn).1, (loc_no hn).2]
    clear hn h
    generalize str l = s at *
    go_enter Try.func43, Try.ntmps43
    go_wp2_with (first
      | (refine HI.out.mono ?_; rintro e w' ⟨rfl, rfl⟩)
      | fail)
    refine bodyPost_ret (results_tmp2 rfl _ _ _) rfl ?_
    exact ⟨rfl, Below.refl _ _⟩
  · have h1 : ¬ lastI l < 0 := by rw [h]; omega
    rw [h] at HI
    have e1 := (loc_at (a := a) hn).1
    have e2 := (loc_at (a := a) hn).2
    rw [← hab] at e1 e2
    have hlen : l.length = a.length + b.length + 1 := by rw [hab]; simp; omega
    have E1 : Hid ((str l).extract 0 a.length = str (loc l)) := Lib.hid (by rw [str_extract, e1, List.drop_zero, Nat.sub_zero, hab, List.take_left])
    have E2 : Hid ((str l).extract (a.length + 1) l.length = str (dom l)) := Lib.hid (by
      rw [str_extract, e2, List.take_of_length_le (by rw [List.length_drop]; omega), hab, show a ++ 64 :: b = (a ++ [64]) ++ b by simp, show a.length + 1 = (a ++ [64]).length by simp, List.drop_left])
    have hlen2 : a.length + 1 ≤ l.length := by omega
    clear hn h h1 e1 e2 hab hlen
    generalize str (loc l) = s1 at *
    generalize str (dom l) = s2 at *
    generalize str l = s at *
    go_enter Try.func43, Try.ntmps43
    go_wp2_with (first
      | (refine HI.out.mono ?_; rintro e w' ⟨rfl, rfl⟩)
      | fail)
    go_quiet (fail)
    go_wp2_with fail
    refine bodyPost_ret (results_tmp2 rfl _ _ _) rfl ?_
    refine ⟨?_, rfl, rfl, rfl, Nat.le_refl _, fun _ _ => rfl⟩
    show Ending.returned (.tuple #[.string (s.extract 0 a.length), .string (s.extract (a.length + 1) l.length)]) = _
    rw [E1.out, E2.out]
end Pa
end Go.Proofs.Ytokaifnpmhkkpaa
