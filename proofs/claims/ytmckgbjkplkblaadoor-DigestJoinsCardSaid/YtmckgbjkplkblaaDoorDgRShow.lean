/- Contracts of the document's Show and Parse. Conditions: as stated at each. -/
import Derived.Test.YtmckgbjkplkblaaDoorDgParse
namespace Go.Proofs.YtmckgbjkplkblaaDoor
open Go.RowKit Go
theorem run_cut (n : Nat) (hn : n < 16) (w : World) : (Instr.slice 9 (.string ⟨#[48, 49, 50, 51, 52, 53, 54, 55, 56, 57, 97, 98, 99, 100, 101, 102]⟩) (some (.int .u8 n)) (some (.int .u8 (n + 1 : Nat))) none).run Tryd.prog w = .ok (.string (str [hexd n])) w := by
  have : n = 0 ∨ n = 1 ∨ n = 2 ∨ n = 3 ∨ n = 4 ∨ n = 5 ∨ n = 6 ∨ n = 7 ∨ n = 8 ∨ n = 9 ∨ n = 10 ∨ n = 11 ∨ n = 12 ∨ n = 13 ∨ n = 14 ∨ n = 15 := by omega
  rcases this with rfl | rfl | rfl | rfl | rfl | rfl | rfl | rfl | rfl | rfl | rfl | rfl | rfl | rfl | rfl | rfl <;> rfl
theorem str_append (a b : List UInt8) : str a ++ str b = str (a ++ b) := by
  apply ByteArray.ext
  simp [str]
theorem run_cat (x y : ByteArray) (n : Nat) (h : x.size + y.size = n) (hn : n ≤ 1000000000) (w : World) : (Op.stringOp .add x y).run Tryd.prog w = .ok (.string (x ++ y)) w := by
  subst h
  have e : ¬ ((x.size + y.size : Nat) : Int) > IntKind.i64.max := by
    have : IntKind.i64.max = 9223372036854775807 := by decide
    omega
  simp only [Op.stringOp, if_neg e, Sem.run_pure]
theorem str_size (l : List UInt8) : (str l).size = l.length := rfl
set_option maxRecDepth 100000 in
set_option maxHeartbeats 800000 in
theorem rshow_any (h : List UInt8) (w : World) (hh : h.length = 32) :
    Calls Tryd.prog 14 #[.agg (bv h).toArray] w fun e w' => e = .returned (.string (str (hex h))) ∧ Below w.heap.size w w' := by
  have HH := Lib.hid hh
  have HI24 : Hid ((Tryd.prog.info? 24).map (·.size) = some (bv h).toArray.size) := Lib.hid (by rw [isz24, List.size_toArray, bv_length, hh])
  clear hh
  generalize hX : (bv h).toArray = X at *
  have HX := Lib.hid hX
  have hb0 := BlkIs.new w 24 X
  have HW := Lib.hid ((Below.refl w.heap.size w).alloc (Nat.le_refl _) (.cells X 24))
  clear hX
  go_enter Tryd.func14, Tryd.ntmps14
  go_wp2_with (first
    | (with_reducible refine load_blk (.tmp 1) 24 w.heap.size 24 X hb0 rfl rfl rfl _ Tryd.underlying24 rfl HI24.out ?_)
    | fail)
  have HE : Hid (str [] = (⟨#[]⟩ : ByteArray)) := Lib.hid rfl
  go_loopw [3, 7] (fun t i wr => ∃ k : Nat, k ≤ 32 ∧ i = .int .i64 k ∧ t = .string (str (hex (h.take k))) ∧ Below w.heap.size w wr) (fun _ i _ => 32 - (intOf i).toNat)
  case atStart => exact ⟨0, by omega, rfl, rfl, HW.out⟩
  case round =>
    clear HW hb0
    obtain ⟨k, hk, rfl, rfl, hbel⟩ := hrel
    by_cases hlt : k < 32
    · have hidx := fun w => run_index (P := Tryd.prog) Tryd.underlying24 Tryd.underlying5 isz5 X k (.int .u8 ((h.getD k 0).toNat : Int)) hlt (by rw [← HX.out, List.getElem?_toArray]; exact bv_get h k (by rw [HH.out]; exact hlt)) w
      have HN := Lib.hid (hex_next h k (by rw [HH.out]; exact hlt))
      have hc := (h.getD k 0).toNat_lt
      generalize (h.getD k 0).toNat = c at *
      have r1 := run_cut (c / 16) (by omega)
      have r2 := run_cut (c % 16) (by omega)
      obtain ⟨a, ha⟩ : ∃ a, a = c / 16 := ⟨_, rfl⟩
      obtain ⟨b, hb'⟩ : ∃ b, b = c % 16 := ⟨_, rfl⟩
      have e1 : IntKind.u8.wrap ((c : Int).tdiv 16) = (a : Int) := by rw [IntWalk.u8_quo _ _ (by omega)]; omega
      have e1' : (c : Int) / 16 = (a : Int) := by omega
      have e2 : (c : Int).tmod 16 = (b : Int) := by rw [Int.tmod_eq_emod_of_nonneg (by omega)]; omega
      have e2' : (c : Int) % 16 = (b : Int) := by omega
      rw [← ha] at r1 HN
      rw [← hb'] at r2 HN
      have e5 : IntKind.u8.wrap (a : Int) = (a : Int) := IntWalk.u8_in _ (by omega)
      have e6 : IntKind.u8.wrap (b : Int) = (b : Int) := IntWalk.u8_in _ (by omega)
      have e3 : IntKind.u8.wrap ((a : Int) + 1) = (a : Int) + 1 := IntWalk.u8_in _ (by omega)
      have e4 : IntKind.u8.wrap ((b : Int) + 1) = (b : Int) + 1 := IntWalk.u8_in _ (by omega)
      rw [Int.natCast_add, Int.natCast_one] at r1
      rw [Int.natCast_add, Int.natCast_one] at r2
      obtain ⟨x1, hx1⟩ : ∃ x, x = str [hexd a] := ⟨_, rfl⟩
      obtain ⟨x2, hx2⟩ : ∃ x, x = str [hexd b] := ⟨_, rfl⟩
      rw [← hx1] at r1
      rw [← hx2] at r2
      have HC : Hid (str (hex (h.take k)) ++ (x1 ++ x2) = str (hex (h.take (k + 1)))) := Lib.hid (by
        rw [hx1, hx2, str_append, str_append, HN.out]
        rfl)
      have c1 := run_cat x1 x2 2 (by rw [hx1, hx2]; rfl) (by omega)
      have c2 := run_cat (str (hex (h.take k))) (x1 ++ x2) (2 * k + 2) (by rw [hx1, hx2, str_append, str_size, str_size, hex_length, List.length_take, HH.out, Nat.min_eq_left (by omega)]; rfl) (by omega)
      have k32 : (k : Int) < 32 := by omega
      generalize str (hex (h.take k)) = X0 at *
      clear ha hb' hx1 hx2
      go_wp2_with fail
      go_quiet (fail)
      go_wp2_with fail
      have hb3 : Below w.heap.size w (wr.drewN nq) := below_drewN hbel nq
      refine ⟨⟨k + 1, by omega, by go_num, by rw [HC.out], hb3⟩, by simp [intOf]; omega⟩
    · obtain rfl : k = 32 := by omega
      have HT : Hid (h.take 32 = h) := Lib.hid (List.take_of_length_le (Nat.le_of_eq HH.out))
      go_wp2_with fail
      go_ret
      exact ⟨by show Ending.returned (.string (str (hex (h.take 32)))) = _; rw [HT.out], hbel⟩
end Go.Proofs.YtmckgbjkplkblaaDoor
