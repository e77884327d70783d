/- Leaves compared; two trees of one root; contracts of the law's same and apart. Conditions: as stated at each. -/
import Derived.Test.YtlbmieeimnjncaaDoorSeAwake
import Derived.Test.YtlbmieeimnjncaaDoorMkMore
namespace Go.Proofs.YtlbmieeimnjncaaDoor
set_option maxRecDepth 100000
open Go.RowKit Go
/-- whether two trees show two unlike pairs with one sum. -/
def apartB (a b : List (List UInt8)) : Bool :=
  if _h : 2 ≤ a.length then
    if rootS (a.take (spl a.length)) = rootS (b.take (spl a.length)) ∧ rootS (a.drop (spl a.length)) = rootS (b.drop (spl a.length)) then
      apartB (a.take (spl a.length)) (b.take (spl a.length)) || apartB (a.drop (spl a.length)) (b.drop (spl a.length))
    else nodeS (rootS (a.take (spl a.length))) (rootS (a.drop (spl a.length))) == nodeS (rootS (b.take (spl a.length))) (rootS (b.drop (spl a.length)))
  else false
termination_by a.length
decreasing_by
  · rw [List.length_take]; have := spl_lt _h; omega
  · rw [List.length_drop]; have := spl_pos a.length; omega
theorem apartB_few {a b : List (List UInt8)} (h : ¬ 2 ≤ a.length) : apartB a b = false := by rw [apartB, dif_neg h]
theorem apartB_eq {a b : List (List UInt8)} (h : 2 ≤ a.length) (h1 : rootS (a.take (spl a.length)) = rootS (b.take (spl a.length))) (h2 : rootS (a.drop (spl a.length)) = rootS (b.drop (spl a.length))) :
    apartB a b = (apartB (a.take (spl a.length)) (b.take (spl a.length)) || apartB (a.drop (spl a.length)) (b.drop (spl a.length))) := by rw [apartB, dif_pos h, if_pos ⟨h1, h2⟩]
theorem apartB_ne {a b : List (List UInt8)} (h : 2 ≤ a.length) (h1 : ¬ (rootS (a.take (spl a.length)) = rootS (b.take (spl a.length)) ∧ rootS (a.drop (spl a.length)) = rootS (b.drop (spl a.length)))) :
    apartB a b = (nodeS (rootS (a.take (spl a.length))) (rootS (a.drop (spl a.length))) == nodeS (rootS (b.take (spl a.length))) (rootS (b.drop (spl a.length)))) := by rw [apartB, dif_pos h, if_neg h1]
theorem apartB_true : ∀ (n : Nat) (a b : List (List UInt8)), a.length ≤ n → a.length = b.length → rootS a = rootS b → a ≠ b → apartB a b = true
  | 0, a, b, hn, hl, _, hne => by
    have h1 := List.eq_nil_of_length_eq_zero (show a.length = 0 by omega)
    have h2 := List.eq_nil_of_length_eq_zero (show b.length = 0 by omega)
    exact absurd (h1.trans h2.symm) hne
  | n + 1, a, b, hn, hl, hr, hne => by
    by_cases h2 : 2 ≤ a.length
    · have h3 := spl_lt h2
      have h4 := spl_pos a.length
      by_cases hp : rootS (a.take (spl a.length)) = rootS (b.take (spl a.length)) ∧ rootS (a.drop (spl a.length)) = rootS (b.drop (spl a.length))
      · rw [apartB_eq h2 hp.1 hp.2, Bool.or_eq_true]
        by_cases ht : a.take (spl a.length) = b.take (spl a.length)
        · right
          refine apartB_true n _ _ (by rw [List.length_drop]; omega) (by rw [List.length_drop, List.length_drop, hl]) hp.2 (fun hd => hne ?_)
          rw [← List.take_append_drop (spl a.length) a, ht, hd, List.take_append_drop]
        · left
          exact apartB_true n _ _ (by rw [List.length_take]; omega) (by rw [List.length_take, List.length_take, hl]) hp.1 ht
      · rw [apartB_ne h2 hp, beq_iff_eq, ← rootS_two h2, hr, rootS_two (by omega), hl]
    · exfalso
      rcases a with _ | ⟨x, _ | ⟨y, a⟩⟩
      · have := List.eq_nil_of_length_eq_zero (show b.length = 0 by rw [← hl]; rfl)
        exact hne this.symm
      · obtain ⟨z, rfl⟩ := List.length_eq_one_iff.1 (show b.length = 1 by rw [← hl]; rfl)
        rw [rootS_one, rootS_one] at hr
        exact hne (by rw [hr])
      · exact h2 (by simp)
theorem eqItems_two {P : Program} {w : World} {d n : Nat} {e : TypeId} {xs ys : Array Value} {a0 b0 a1 b1 : Value} {r0 r1 : Bool} (p0 : (part e xs (0 * n)).run P w = .ok a0 w) (p1 : (part e xs (1 * n)).run P w = .ok a1 w) (p2 : (part e ys (0 * n)).run P w = .ok b0 w) (p3 : (part e ys (1 * n)).run P w = .ok b1 w)
    (q0 : (Op.equalIn d e a0 b0).run P w = .ok r0 w) (q1 : (Op.equalIn d e a1 b1).run P w = .ok r1 w) : (Op.eqItems d e n xs ys [0, 1]).run P w = .ok (r0 && r1) w := by
  simp only [Op.eqItems, Sem.run_bind, p0, p2, q0, Result.andThen_ok]
  cases r0
  · simp
  · simp only [Bool.not_true, Bool.false_eq_true, if_false, Sem.run_bind, p1, p3, q1, Result.andThen_ok]
    cases r1 <;> simp
theorem run_eq35 (x1 x2 y1 y2 : List UInt8) (h1 : x1.length = 32) (h2 : x2.length = 32) (h3 : y1.length = 32) (h4 : y2.length = 32) (w : World) :
    (Op.equalIn 10000 29 (.agg (bv (x1 ++ x2)).toArray) (.agg (bv (y1 ++ y2)).toArray)).run Tryd.prog w = .ok ((x1 == y1) && (x2 == y2)) w := by
  obtain ⟨i, hi, _, _, _⟩ := info_parts info26
  have h := run_equalIn_array (P := Tryd.prog) w 9999 (bv (x1 ++ x2)).toArray (bv (y1 ++ y2)).toArray Tryd.underlying29 hi
  rw [show Tryd.prog.cellsOf 22 = 32 by kernel_rfl, show List.range 2 = [0, 1] from rfl] at h
  have p : ∀ a b : List UInt8, a.length = 32 → b.length = 32 → (part 22 (bv (a ++ b)).toArray (0 * 32)).run Tryd.prog w = .ok (.agg (bv a).toArray) w ∧ (part 22 (bv (a ++ b)).toArray (1 * 32)).run Tryd.prog w = .ok (.agg (bv b).toArray) w := fun a b ha hb => by
    refine ⟨?_, ?_⟩
    · have := part_sum [] (bv a) (bv b) 0 w rfl (by rw [bv_length, ha])
      rw [List.nil_append, ← bv_append] at this
      exact this
    · have := part_sum (bv a) (bv b) [] 32 w (by rw [bv_length, ha]) (by rw [bv_length, hb])
      rw [List.append_nil, ← bv_append] at this
      exact this
  obtain ⟨px0, px1⟩ := p x1 x2 h1 h2
  obtain ⟨py0, py1⟩ := p y1 y2 h3 h4
  have q0 : (Op.equalIn 9999 22 (.agg (bv x1).toArray) (.agg (bv y1).toArray)).run Tryd.prog w = .ok (x1 == y1) w := by
    rw [show (9999 : Nat) = 9997 + 2 from rfl]
    exact run_eq24d 9997 x1 y1 h1 h3 w
  have q1 : (Op.equalIn 9999 22 (.agg (bv x2).toArray) (.agg (bv y2).toArray)).run Tryd.prog w = .ok (x2 == y2) w := by
    rw [show (9999 : Nat) = 9997 + 2 from rfl]
    exact run_eq24d 9997 x2 y2 h2 h4 w
  rw [show (10000 : Nat) = 9999 + 1 from rfl, h]
  exact eqItems_two px0 px1 py0 py1 q0 q1
theorem info35 : (Tryd.prog.info? 29).map (fun i => (i.zero, i.size, i.bytes)) = some (some (.agg (bv (List.replicate 64 0)).toArray), 64, 64) := by kernel_rfl
theorem isz35s {s : List UInt8} (h : s.length = 64) : (Tryd.prog.info? 29).map (·.size) = some (bv s).length := by rw [bv_length, h]; kernel_rfl
theorem isz35a {s : List UInt8} (h : s.length = 64) : (Tryd.prog.info? 29).map (·.size) = some (bv s).toArray.size := by rw [List.size_toArray]; exact isz35s h
theorem run_build35_ (a0 a1 a2 a3 a4 a5 a6 a7 a8 a9 a10 a11 a12 a13 a14 a15 a16 a17 a18 a19 a20 a21 a22 a23 a24 a25 a26 a27 a28 a29 a30 a31 : UInt8) (b0 b1 b2 b3 b4 b5 b6 b7 b8 b9 b10 b11 b12 b13 b14 b15 b16 b17 b18 b19 b20 b21 b22 b23 b24 b25 b26 b27 b28 b29 b30 b31 : UInt8) (w : World) :
    (Instr.build 29 #[(0, .agg (bv [a0, a1, a2, a3, a4, a5, a6, a7, a8, a9, a10, a11, a12, a13, a14, a15, a16, a17, a18, a19, a20, a21, a22, a23, a24, a25, a26, a27, a28, a29, a30, a31]).toArray), (1, .agg (bv [b0, b1, b2, b3, b4, b5, b6, b7, b8, b9, b10, b11, b12, b13, b14, b15, b16, b17, b18, b19, b20, b21, b22, b23, b24, b25, b26, b27, b28, b29, b30, b31]).toArray)]).run Tryd.prog w =
      .ok (.agg (bv ([a0, a1, a2, a3, a4, a5, a6, a7, a8, a9, a10, a11, a12, a13, a14, a15, a16, a17, a18, a19, a20, a21, a22, a23, a24, a25, a26, a27, a28, a29, a30, a31] ++ [b0, b1, b2, b3, b4, b5, b6, b7, b8, b9, b10, b11, b12, b13, b14, b15, b16, b17, b18, b19, b20, b21, b22, b23, b24, b25, b26, b27, b28, b29, b30, b31])).toArray) w := by kernel_rfl
theorem run_build35 (x y : List UInt8) (hx : x.length = 32) (hy : y.length = 32) (w : World) : (Instr.build 29 #[(0, .agg (bv x).toArray), (1, .agg (bv y).toArray)]).run Tryd.prog w = .ok (.agg (bv (x ++ y)).toArray) w := by
  match x, hx, y, hy with
  | [a0, a1, a2, a3, a4, a5, a6, a7, a8, a9, a10, a11, a12, a13, a14, a15, a16, a17, a18, a19, a20, a21, a22, a23, a24, a25, a26, a27, a28, a29, a30, a31], _, [b0, b1, b2, b3, b4, b5, b6, b7, b8, b9, b10, b11, b12, b13, b14, b15, b16, b17, b18, b19, b20, b21, b22, b23, b24, b25, b26, b27, b28, b29, b30, b31], _ => exact run_build35_ a0 a1 a2 a3 a4 a5 a6 a7 a8 a9 a10 a11 a12 a13 a14 a15 a16 a17 a18 a19 a20 a21 a22 a23 a24 a25 a26 a27 a28 a29 a30 a31 b0 b1 b2 b3 b4 b5 b6 b7 b8 b9 b10 b11 b12 b13 b14 b15 b16 b17 b18 b19 b20 b21 b22 b23 b24 b25 b26 b27 b28 b29 b30 b31 w
theorem pair_ranges {W : World} {g : Nat} {t : TypeId} {x y : List UInt8} (h : BlkIs W g t (bv (x ++ y)).toArray) (hx : x.length = 32) : W.rangeAt g 0 (bv x) ∧ W.rangeAt g 32 (bv y) := by
  rw [bv_append] at h
  refine ⟨BlkIs.range (a := []) (b := bv x) (c := bv y) h rfl, BlkIs.range (t := t) (a := bv x) (b := bv y) (c := []) (by rw [List.append_nil]; exact h) (by rw [bv_length, hx])⟩
end Go.Proofs.YtlbmieeimnjncaaDoor
