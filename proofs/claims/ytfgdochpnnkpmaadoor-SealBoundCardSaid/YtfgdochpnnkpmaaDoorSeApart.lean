/- Leaves compared; two trees of one root; contracts of the law's same and apart. Conditions: as stated at each. -/
import Derived.Test.YtfgdochpnnkpmaaDoorSeAwake
import Derived.Test.YtfgdochpnnkpmaaDoorMkMore
namespace Go.Proofs.YtfgdochpnnkpmaaDoor
set_option maxRecDepth 100000
open Go.RowKit Go
/-- whether two trees show two unlike pairs with one sum. -/
def apartB (a b : List (List UInt8)) : Bool :=
  if _h : 2 ≤ a.length then
    if rootS (a.take (spl a.length)) = rootS (b.take (spl a.length)) ∧ rootS (a.drop (spl a.length)) = rootS (b.drop (spl a.length)) then
      apartB (a.take (spl a.length)) (b.take (spl a.length)) || apartB (a.drop (spl a.length)) (b.drop (spl a.length))
    else nodeS (rootS (a.take (spl a.length))) (rootS (a.drop (spl a.length))) == nodeS (rootS (b.take (spl a.length))) (rootS (b.drop (spl a.length)))
  else false
termination_by a.length
decreasing_by
  · rw [List.length_take]; have := spl_lt _h; omega
  · rw [List.length_drop]; have := spl_pos a.length; omega
theorem apartB_few {a b : List (List UInt8)} (h : ¬ 2 ≤ a.length) : apartB a b = false := by rw [apartB, dif_neg h]
theorem apartB_eq {a b : List (List UInt8)} (h : 2 ≤ a.length) (h1 : rootS (a.take (spl a.length)) = rootS (b.take (spl a.length))) (h2 : rootS (a.drop (spl a.length)) = rootS (b.drop (spl a.length))) :
    apartB a b = (apartB (a.take (spl a.length)) (b.take (spl a.length)) || apartB (a.drop (spl a.length)) (b.drop (spl a.length))) := by rw [apartB, dif_pos h, if_pos ⟨h1, h2⟩]
theorem apartB_ne {a b : List (List UInt8)} (h : 2 ≤ a.length) (h1 : ¬ (rootS (a.take (spl a.length)) = rootS (b.take (spl a.length)) ∧ rootS (a.drop (spl a.length)) = rootS (b.drop (spl a.length)))) :
    apartB a b = (nodeS (rootS (a.take (spl a.length))) (rootS (a.drop (spl a.length))) == nodeS (rootS (b.take (spl a.length))) (rootS (b.drop (spl a.length)))) := by rw [apartB, dif_pos h, if_neg h1]
theorem apartB_true : ∀ (n : Nat) (a b : List (List UInt8)), a.length ≤ n → a.length = b.length → rootS a = rootS b → a ≠ b → apartB a b = true
  | 0, a, b, hn, hl, _, hne => by
    have h1 := List.eq_nil_of_length_eq_zero (show a.length = 0 by omega)
    have h2 := List.eq_nil_of_length_eq_zero (show b.length = 0 by omega)
    exact absurd (h1.trans h2.symm) hne
  | n + 1, a, b, hn, hl, hr, hne => by
    by_cases h2 : 2 ≤ a.length
    · have h3 := spl_lt h2
      have h4 := spl_pos a.length
      by_cases hp : rootS (a.take (spl a.length)) = rootS (b.take (spl a.length)) ∧ rootS (a.drop (spl a.length)) = rootS (b.drop (spl a.length))
      · rw [apartB_eq h2 hp.1 hp.2, Bool.or_eq_true]
        by_cases ht : a.take (spl a.length) = b.take (spl a.length)
        · right
          refine apartB_true n _ _ (by rw [List.length_drop]; omega) (by rw [List.length_drop, List.length_drop, hl]) hp.2 (fun hd => hne ?_)
          rw [← List.take_append_drop (spl a.length) a, ht, hd, List.take_append_drop]
        · left
          exact apartB_true n _ _ (by rw [List.length_take]; omega) (by rw [List.length_take, List.length_take, hl]) hp.1 ht
      · rw [apartB_ne h2 hp, beq_iff_eq, ← rootS_two h2, hr, rootS_two (by omega), hl]
    · exfalso
      rcases a with _ | ⟨x, _ | ⟨y, a⟩⟩
      · have := List.eq_nil_of_length_eq_zero (show b.length = 0 by rw [← hl]; rfl)
        exact hne this.symm
      · obtain ⟨z, rfl⟩ := List.length_eq_one_iff.1 (show b.length = 1 by rw [← hl]; rfl)
        rw [rootS_one, rootS_one] at hr
        exact hne (by rw [hr])
      · exact h2 (by simp)
theorem eqItems_two {P : Program} {w : World} {d n : Nat} {e : TypeId} {xs ys : Array Value} {a0 b0 a1 b1 : Value} {r0 r1 : Bool} (p0 : (part e xs (0 * n)).run P w = .ok a0 w) (p1 : (part e xs (1 * n)).run P w = .ok a1 w) (p2 : (part e ys (0 * n)).run P w = .ok b0 w) (p3 : (part e ys (1 * n)).run P w = .ok b1 w)
    (q0 : (Op.equalIn d e a0 b0).run P w = .ok r0 w) (q1 : (Op.equalIn d e a1 b1).run P w = .ok r1 w) : (Op.eqItems d e n xs ys [0, 1]).run P w = .ok (r0 && r1) w := by
  simp only [Op.eqItems, Sem.run_bind, p0, p2, q0, Result.andThen_ok]
  cases r0
  · simp
  · simp only [Bool.not_true, Bool.false_eq_true, if_false, Sem.run_bind, p1, p3, q1, Result.andThen_ok]
    cases r1 <;> simp
theorem run_eq35 (x1 x2 y1 y2 : List UInt8) (h1 : x1.length = 32) (h2 : x2.length = 32) (h3 : y1.length = 32) (h4 : y2.length = 32) (w : World) :
    (Op.equalIn 10000 35 (.agg (bv (x1 ++ x2)).toArray) (.agg (bv (y1 ++ y2)).toArray)).run Tryd.prog w = .ok ((x1 == y1) && (x2 == y2)) w := by
  obtain ⟨i, hi, _, _, _⟩ := info_parts info26
  have h := run_equalIn_array (P := Tryd.prog) w 9999 (bv (x1 ++ x2)).toArray (bv (y1 ++ y2)).toArray Tryd.underlying35 hi
  rw [show Tryd.prog.cellsOf 22 = 32 by kernel_rfl, show List.range 2 = [0, 1] from rfl] at h
  have p : ∀ a b : List UInt8, a.length = 32 → b.length = 32 → (part 22 (bv (a ++ b)).toArray (0 * 32)).run Tryd.prog w = .ok (.agg (bv a).toArray) w ∧ (part 22 (bv (a ++ b)).toArray (1 * 32)).run Tryd.prog w = .ok (.agg (bv b).toArray) w := fun a b ha hb => by
    refine ⟨?_, ?_⟩
    · have := part_sum [] (bv a) (bv b) 0 w rfl (by rw [bv_length, ha])
      rw [List.nil_append, ← bv_append] at this
      exact this
    · have := part_sum (bv a) (bv b) [] 32 w (by rw [bv_length, ha]) (by rw [bv_length, hb])
      rw [List.append_nil, ← bv_append] at this
      exact this
  obtain ⟨px0, px1⟩ := p x1 x2 h1 h2
  obtain ⟨py0, py1⟩ := p y1 y2 h3 h4
  have q0 : (Op.equalIn 9999 22 (.agg (bv x1).toArray) (.agg (bv y1).toArray)).run Tryd.prog w = .ok (x1 == y1) w := by
    rw [show (9999 : Nat) = 9997 + 2 from rfl]
    exact run_eq24d 9997 x1 y1 h1 h3 w
  have q1 : (Op.equalIn 9999 22 (.agg (bv x2).toArray) (.agg (bv y2).toArray)).run Tryd.prog w = .ok (x2 == y2) w := by
    rw [show (9999 : Nat) = 9997 + 2 from rfl]
    exact run_eq24d 9997 x2 y2 h2 h4 w
  rw [show (10000 : Nat) = 9999 + 1 from rfl, h]
  exact eqItems_two px0 px1 py0 py1 q0 q1
theorem info35 : (Tryd.prog.info? 35).map (fun i => (i.zero, i.size, i.bytes)) = some (some (.agg (bv (List.replicate 64 0)).toArray), 64, 64) := by kernel_rfl
theorem isz35s {s : List UInt8} (h : s.length = 64) : (Tryd.prog.info? 35).map (·.size) = some (bv s).length := by rw [bv_length, h]; kernel_rfl
theorem isz35a {s : List UInt8} (h : s.length = 64) : (Tryd.prog.info? 35).map (·.size) = some (bv s).toArray.size := by rw [List.size_toArray]; exact isz35s h
theorem run_build35_ (a0 a1 a2 a3 a4 a5 a6 a7 a8 a9 a10 a11 a12 a13 a14 a15 a16 a17 a18 a19 a20 a21 a22 a23 a24 a25 a26 a27 a28 a29 a30 a31 : UInt8) (b0 b1 b2 b3 b4 b5 b6 b7 b8 b9 b10 b11 b12 b13 b14 b15 b16 b17 b18 b19 b20 b21 b22 b23 b24 b25 b26 b27 b28 b29 b30 b31 : UInt8) (w : World) :
    (Instr.build 35 #[(0, .agg (bv [a0, a1, a2, a3, a4, a5, a6, a7, a8, a9, a10, a11, a12, a13, a14, a15, a16, a17, a18, a19, a20, a21, a22, a23, a24, a25, a26, a27, a28, a29, a30, a31]).toArray), (1, .agg (bv [b0, b1, b2, b3, b4, b5, b6, b7, b8, b9, b10, b11, b12, b13, b14, b15, b16, b17, b18, b19, b20, b21, b22, b23, b24, b25, b26, b27, b28, b29, b30, b31]).toArray)]).run Tryd.prog w =
      .ok (.agg (bv ([a0, a1, a2, a3, a4, a5, a6, a7, a8, a9, a10, a11, a12, a13, a14, a15, a16, a17, a18, a19, a20, a21, a22, a23, a24, a25, a26, a27, a28, a29, a30, a31] ++ [b0, b1, b2, b3, b4, b5, b6, b7, b8, b9, b10, b11, b12, b13, b14, b15, b16, b17, b18, b19, b20, b21, b22, b23, b24, b25, b26, b27, b28, b29, b30, b31])).toArray) w := by kernel_rfl
theorem run_build35 (x y : List UInt8) (hx : x.length = 32) (hy : y.length = 32) (w : World) : (Instr.build 35 #[(0, .agg (bv x).toArray), (1, .agg (bv y).toArray)]).run Tryd.prog w = .ok (.agg (bv (x ++ y)).toArray) w := by
  match x, hx, y, hy with
  | [a0, a1, a2, a3, a4, a5, a6, a7, a8, a9, a10, a11, a12, a13, a14, a15, a16, a17, a18, a19, a20, a21, a22, a23, a24, a25, a26, a27, a28, a29, a30, a31], _, [b0, b1, b2, b3, b4, b5, b6, b7, b8, b9, b10, b11, b12, b13, b14, b15, b16, b17, b18, b19, b20, b21, b22, b23, b24, b25, b26, b27, b28, b29, b30, b31], _ => exact run_build35_ a0 a1 a2 a3 a4 a5 a6 a7 a8 a9 a10 a11 a12 a13 a14 a15 a16 a17 a18 a19 a20 a21 a22 a23 a24 a25 a26 a27 a28 a29 a30 a31 b0 b1 b2 b3 b4 b5 b6 b7 b8 b9 b10 b11 b12 b13 b14 b15 b16 b17 b18 b19 b20 b21 b22 b23 b24 b25 b26 b27 b28 b29 b30 b31 w
theorem pair_ranges {W : World} {g : Nat} {t : TypeId} {x y : List UInt8} (h : BlkIs W g t (bv (x ++ y)).toArray) (hx : x.length = 32) : W.rangeAt g 0 (bv x) ∧ W.rangeAt g 32 (bv y) := by
  rw [bv_append] at h
  refine ⟨BlkIs.range (a := []) (b := bv x) (c := bv y) h rfl, BlkIs.range (t := t) (a := bv x) (b := bv y) (c := []) (by rw [List.append_nil]; exact h) (by rw [bv_length, hx])⟩
set_option maxHeartbeats 1600000 in
theorem same6_any (A A' : Option Addr) (n c c' : Nat) (L M : List (List UInt8)) (w : World) (hn : L.length = n) (hn' : M.length = n) (h9 : n ≤ 100000) (h : Hs w w.heap.size A L) (h' : Hs w w.heap.size A' M) :
    Calls Tryd.prog 37 #[.slice A n c, .slice A' n c'] w fun e w' => e = .returned (.bool (L == M)) ∧ Below w.heap.size w w' := by
  have HN := Lib.hid hn
  have HN' := Lib.hid hn'
  clear hn hn'
  go_enter Tryd.func37, Tryd.ntmps37
  go_wp2_with fail
  go_loopw [8] (fun i wr => ∃ k : Nat, k ≤ n ∧ i = .int .i64 k ∧ Below w.heap.size w wr ∧ Hid (L.take k = M.take k)) (fun i _ => n - (intOf i).toNat)
  case atStart => exact ⟨0, Nat.zero_le _, rfl, Below.refl _ _, Lib.hid rfl⟩
  case round =>
    obtain ⟨k, hk, rfl, hb, HT⟩ := hrel
    by_cases hlt : k < n
    · obtain ⟨g, o, rfl, hgB, hr⟩ := h.at_ (k := k) (by rw [HN.out]; exact hlt)
      obtain ⟨g', o', rfl, hgB', hr'⟩ := h'.at_ (k := k) (by rw [HN'.out]; exact hlt)
      have hx : (L.getD k []).length = 32 := h.1.getD (by rw [HN.out]; exact hlt)
      have hy : (M.getD k []).length = 32 := h'.1.getD (by rw [HN'.out]; exact hlt)
      have HTL : Hid (L.take (k + 1) = L.take k ++ [L.getD k []]) := Lib.hid (by rw [List.take_succ_eq_append_getElem (by rw [HN.out]; exact hlt), List.getD_eq_getElem?_getD, List.getElem?_eq_getElem (by rw [HN.out]; exact hlt)]; rfl)
      have HTM : Hid (M.take (k + 1) = M.take k ++ [M.getD k []]) := Lib.hid (by rw [List.take_succ_eq_append_getElem (by rw [HN'.out]; exact hlt), List.getD_eq_getElem?_getD, List.getElem?_eq_getElem (by rw [HN'.out]; exact hlt)]; rfl)
      generalize L.getD k [] = x at *
      generalize M.getD k [] = y at *
      have HX := Lib.hid hx
      have HY := Lib.hid hy
      have HR : Hid (∀ W, Below w.heap.size w W → W.rangeAt g (o + k * 32) (bv x) ∧ W.rangeAt g' (o' + k * 32) (bv y)) := Lib.hid fun W hb => ⟨range_below hr hb hgB, range_below hr' hb hgB'⟩
      have hne := fun w => run_eq24 x y hx hy w
      clear hr hr' hx hy
      by_cases hxy : x = y
      · have HXY := Lib.hid hxy
        rw [show (x == y) = true by rw [hxy]; simp] at hne
        clear hxy
        go_wp2_with fail
        have k0 : Below w.heap.size w wr.drew := hb.drew
        refine wp_region_held_drew (S := (fun W => Below w.heap.size w W)) (by kernel_rfl) (k0) (fun hHeld => ?_)
        refine wpAnyH_take (i := 0) (v := .slice (some ⟨g, o, none⟩) n c) rfl (by kernel_rfl) (by kernel_rfl) (by kernel_rfl) (fun _ _ _ h => h) (Or.inl ⟨by rfl, fun w hS => by first | (go_simp; done) | (go_simp; with_reducible rfl)⟩) hHeld ?_
        try simp only [Act.put, List.getElem_toArray, List.getElem_cons_zero, List.setIfInBounds_toArray, List.set_cons_zero, List.set_cons_succ]
        refine wpAnyH_take (i := 1) (v := .int .i64 k) rfl (by kernel_rfl) (by kernel_rfl) (by kernel_rfl) (fun _ _ _ h => h) (Or.inl ⟨by rfl, fun w hS => by first | (go_simp; done) | (go_simp; with_reducible rfl)⟩) hHeld ?_
        try simp only [Act.put, List.getElem_toArray, List.getElem_cons_zero, List.getElem_cons_succ, List.setIfInBounds_toArray, List.set_cons_zero, List.set_cons_succ]
        refine wpAnyH_take (i := 2) (v := .pointer (some ⟨g, o + k * 32, none⟩)) rfl (by kernel_rfl) (by kernel_rfl) (by kernel_rfl) (fun _ _ _ h => h) (Or.inl ⟨by rfl, fun w hS => by first | (go_simp; done) | (go_simp; with_reducible rfl)⟩) hHeld ?_
        try simp only [Act.put, List.getElem_toArray, List.getElem_cons_zero, List.getElem_cons_succ, List.setIfInBounds_toArray, List.set_cons_zero, List.set_cons_succ]
        refine wpAnyH_take (i := 3) (v := _) rfl (by kernel_rfl) (by kernel_rfl) (by kernel_rfl) (fun _ _ _ h => h) (yieldsIf_load_mid (by rfl) 22 (.tmp 13) rfl g (o + k * 32) rfl (bv x) _ (fun w h => (HR.out w h).1) Tryd.underlying22 rfl (isz26s HX.out)) hHeld ?_
        try simp only [Act.put, List.getElem_toArray, List.getElem_cons_zero, List.getElem_cons_succ, List.setIfInBounds_toArray, List.set_cons_zero, List.set_cons_succ]
        refine wpAnyH_take (i := 4) (v := .slice (some ⟨g', o', none⟩) n c') rfl (by kernel_rfl) (by kernel_rfl) (by kernel_rfl) (fun _ _ _ h => h) (Or.inl ⟨by rfl, fun w hS => by first | (go_simp; done) | (go_simp; with_reducible rfl)⟩) hHeld ?_
        try simp only [Act.put, List.getElem_toArray, List.getElem_cons_zero, List.getElem_cons_succ, List.setIfInBounds_toArray, List.set_cons_zero, List.set_cons_succ]
        refine wpAnyH_take (i := 5) (v := .int .i64 k) rfl (by kernel_rfl) (by kernel_rfl) (by kernel_rfl) (fun _ _ _ h => h) (Or.inl ⟨by rfl, fun w hS => by first | (go_simp; done) | (go_simp; with_reducible rfl)⟩) hHeld ?_
        try simp only [Act.put, List.getElem_toArray, List.getElem_cons_zero, List.getElem_cons_succ, List.setIfInBounds_toArray, List.set_cons_zero, List.set_cons_succ]
        refine wpAnyH_take (i := 6) (v := .pointer (some ⟨g', o' + k * 32, none⟩)) rfl (by kernel_rfl) (by kernel_rfl) (by kernel_rfl) (fun _ _ _ h => h) (Or.inl ⟨by rfl, fun w hS => by first | (go_simp; done) | (go_simp; with_reducible rfl)⟩) hHeld ?_
        try simp only [Act.put, List.getElem_toArray, List.getElem_cons_zero, List.getElem_cons_succ, List.setIfInBounds_toArray, List.set_cons_zero, List.set_cons_succ]
        refine wpAnyH_take (i := 7) (v := _) rfl (by kernel_rfl) (by kernel_rfl) (by kernel_rfl) (fun _ _ _ h => h) (yieldsIf_load_mid (by rfl) 22 (.tmp 17) rfl g' (o' + k * 32) rfl (bv y) _ (fun w h => (HR.out w h).2) Tryd.underlying22 rfl (isz26s HY.out)) hHeld ?_
        try simp only [Act.put, List.getElem_toArray, List.getElem_cons_zero, List.getElem_cons_succ, List.setIfInBounds_toArray, List.set_cons_zero, List.set_cons_succ]
        refine wpAnyH_take (i := 8) (v := .bool false) rfl (by kernel_rfl) (by kernel_rfl) (by kernel_rfl) (fun _ _ _ h => h) (Or.inl ⟨by rfl, fun w hS => by first | (go_simp; done) | (go_simp; with_reducible rfl)⟩) hHeld ?_
        try simp only [Act.put, List.getElem_toArray, List.getElem_cons_zero, List.getElem_cons_succ, List.setIfInBounds_toArray, List.set_cons_zero, List.set_cons_succ]
        refine wpAnyH_done (by kernel_rfl) ?_ _
        go_wp2_with fail
        go_roundw
        case rel => exact ⟨k + 1, by omega, by go_num, k0, Lib.hid (by rw [HTL.out, HTM.out, HT.out, HXY.out])⟩
        case measure => simp [intOf]; omega
      · have HF : Hid ((L == M) = false) := Lib.hid (by
          rw [beq_eq_false_iff_ne]
          intro e
          subst e
          have h1 := HTL.out.symm.trans HTM.out
          have h2 := List.append_inj' h1 rfl
          exact hxy (List.singleton_inj.1 h2.2))
        rw [show (x == y) = false by simpa using hxy] at hne
        clear hxy
        go_wp2_with fail
        have k0 : Below w.heap.size w wr.drew := hb.drew
        refine wp_region_held_drew (S := (fun W => Below w.heap.size w W)) (by kernel_rfl) (k0) (fun hHeld => ?_)
        refine wpAnyH_take (i := 0) (v := .slice (some ⟨g, o, none⟩) n c) rfl (by kernel_rfl) (by kernel_rfl) (by kernel_rfl) (fun _ _ _ h => h) (Or.inl ⟨by rfl, fun w hS => by first | (go_simp; done) | (go_simp; with_reducible rfl)⟩) hHeld ?_
        try simp only [Act.put, List.getElem_toArray, List.getElem_cons_zero, List.setIfInBounds_toArray, List.set_cons_zero, List.set_cons_succ]
        refine wpAnyH_take (i := 1) (v := .int .i64 k) rfl (by kernel_rfl) (by kernel_rfl) (by kernel_rfl) (fun _ _ _ h => h) (Or.inl ⟨by rfl, fun w hS => by first | (go_simp; done) | (go_simp; with_reducible rfl)⟩) hHeld ?_
        try simp only [Act.put, List.getElem_toArray, List.getElem_cons_zero, List.getElem_cons_succ, List.setIfInBounds_toArray, List.set_cons_zero, List.set_cons_succ]
        refine wpAnyH_take (i := 2) (v := .pointer (some ⟨g, o + k * 32, none⟩)) rfl (by kernel_rfl) (by kernel_rfl) (by kernel_rfl) (fun _ _ _ h => h) (Or.inl ⟨by rfl, fun w hS => by first | (go_simp; done) | (go_simp; with_reducible rfl)⟩) hHeld ?_
        try simp only [Act.put, List.getElem_toArray, List.getElem_cons_zero, List.getElem_cons_succ, List.setIfInBounds_toArray, List.set_cons_zero, List.set_cons_succ]
        refine wpAnyH_take (i := 3) (v := _) rfl (by kernel_rfl) (by kernel_rfl) (by kernel_rfl) (fun _ _ _ h => h) (yieldsIf_load_mid (by rfl) 22 (.tmp 13) rfl g (o + k * 32) rfl (bv x) _ (fun w h => (HR.out w h).1) Tryd.underlying22 rfl (isz26s HX.out)) hHeld ?_
        try simp only [Act.put, List.getElem_toArray, List.getElem_cons_zero, List.getElem_cons_succ, List.setIfInBounds_toArray, List.set_cons_zero, List.set_cons_succ]
        refine wpAnyH_take (i := 4) (v := .slice (some ⟨g', o', none⟩) n c') rfl (by kernel_rfl) (by kernel_rfl) (by kernel_rfl) (fun _ _ _ h => h) (Or.inl ⟨by rfl, fun w hS => by first | (go_simp; done) | (go_simp; with_reducible rfl)⟩) hHeld ?_
        try simp only [Act.put, List.getElem_toArray, List.getElem_cons_zero, List.getElem_cons_succ, List.setIfInBounds_toArray, List.set_cons_zero, List.set_cons_succ]
        refine wpAnyH_take (i := 5) (v := .int .i64 k) rfl (by kernel_rfl) (by kernel_rfl) (by kernel_rfl) (fun _ _ _ h => h) (Or.inl ⟨by rfl, fun w hS => by first | (go_simp; done) | (go_simp; with_reducible rfl)⟩) hHeld ?_
        try simp only [Act.put, List.getElem_toArray, List.getElem_cons_zero, List.getElem_cons_succ, List.setIfInBounds_toArray, List.set_cons_zero, List.set_cons_succ]
        refine wpAnyH_take (i := 6) (v := .pointer (some ⟨g', o' + k * 32, none⟩)) rfl (by kernel_rfl) (by kernel_rfl) (by kernel_rfl) (fun _ _ _ h => h) (Or.inl ⟨by rfl, fun w hS => by first | (go_simp; done) | (go_simp; with_reducible rfl)⟩) hHeld ?_
        try simp only [Act.put, List.getElem_toArray, List.getElem_cons_zero, List.getElem_cons_succ, List.setIfInBounds_toArray, List.set_cons_zero, List.set_cons_succ]
        refine wpAnyH_take (i := 7) (v := _) rfl (by kernel_rfl) (by kernel_rfl) (by kernel_rfl) (fun _ _ _ h => h) (yieldsIf_load_mid (by rfl) 22 (.tmp 17) rfl g' (o' + k * 32) rfl (bv y) _ (fun w h => (HR.out w h).2) Tryd.underlying22 rfl (isz26s HY.out)) hHeld ?_
        try simp only [Act.put, List.getElem_toArray, List.getElem_cons_zero, List.getElem_cons_succ, List.setIfInBounds_toArray, List.set_cons_zero, List.set_cons_succ]
        refine wpAnyH_take (i := 8) (v := .bool true) rfl (by kernel_rfl) (by kernel_rfl) (by kernel_rfl) (fun _ _ _ h => h) (Or.inl ⟨by rfl, fun w hS => by first | (go_simp; done) | (go_simp; with_reducible rfl)⟩) hHeld ?_
        try simp only [Act.put, List.getElem_toArray, List.getElem_cons_zero, List.getElem_cons_succ, List.setIfInBounds_toArray, List.set_cons_zero, List.set_cons_succ]
        refine wpAnyH_done (by kernel_rfl) ?_ _
        go_wp2_with fail
        go_ret
        exact ⟨by rw [HF.out]; rfl, k0⟩
    · have hk2 : ¬ (k : Int) < (n : Int) := by omega
      have HF : Hid ((L == M) = true) := Lib.hid (by
        have h1 := HT.out
        rw [List.take_of_length_le (by rw [HN.out]; omega), List.take_of_length_le (by rw [HN'.out]; omega)] at h1
        rw [beq_iff_eq]
        exact h1)
      go_wp2_with fail
      go_ret
      exact ⟨by rw [HF.out]; rfl, hb⟩
set_option maxHeartbeats 12800000 in
theorem apart6_any : ∀ (N : Nat) (A A' : Option Addr) (n c c' : Nat) (L M : List (List UInt8)) (w : World), n ≤ N → L.length = n → M.length = n → n ≤ 100 → n ≤ c → n ≤ c' → c ≤ maxLen → c' ≤ maxLen → Hs w w.heap.size A L → Hs w w.heap.size A' M →
    Calls Tryd.prog 38 #[.slice A n c, .slice A' n c'] w fun e w' => e = .returned (.bool (apartB L M)) ∧ Below w.heap.size w w'
  | N, A, A', n, c, c', L, M, w, hN, hn, hn', h9, hc, hc', hm, hm', h, h' => by
    by_cases h2 : 2 ≤ n
    · match N, hN with
      | 0, hN => omega
      | N + 1, hN =>
      obtain ⟨k, hk⟩ : ∃ k, k = spl n := ⟨_, rfl⟩
      have hk1 : 1 ≤ k := by rw [hk]; exact spl_pos n
      have hkn : k < n := by rw [hk]; exact spl_lt h2
      have HK : Hid (spl n = k) := Lib.hid hk.symm
      obtain ⟨Dx, hx2, hxd⟩ := cutH_hi A L n c k h hn (Nat.le_of_lt hkn) hc
      obtain ⟨Dy, hy2, hyd⟩ := cutH_hi A' M n c' k h' hn' (Nat.le_of_lt hkn) hc'
      have HCx1 := Lib.hid (cutH_lo A n c k (Nat.le_of_lt hkn) hc)
      have HCy1 := Lib.hid (cutH_lo A' n c' k (Nat.le_of_lt hkn) hc')
      have HCx2 := Lib.hid hx2
      have HCy2 := Lib.hid hy2
      have hst : (L.take k).length = k ∧ (M.take k).length = k ∧ (L.drop k).length = n - k ∧ (M.drop k).length = n - k := by
        rw [List.length_take, List.length_take, List.length_drop, List.length_drop]
        omega
      have sx1 : ∀ W, Below w.heap.size w W → Hs W W.heap.size A (L.take k) := fun W hb => ((h.below hb).take k).more hb.size
      have sy1 : ∀ W, Below w.heap.size w W → Hs W W.heap.size A' (M.take k) := fun W hb => ((h'.below hb).take k).more hb.size
      have sx2 : ∀ W, Below w.heap.size w W → Hs W W.heap.size Dx (L.drop k) := fun W hb => (hxd.below hb).more hb.size
      have sy2 : ∀ W, Below w.heap.size w W → Hs W W.heap.size Dy (M.drop k) := fun W hb => (hyd.below hb).more hb.size
      have HRx1 : Hid (∀ W, Below w.heap.size w W → Calls Tryd.prog 55 #[.slice A k c] W fun e w' => e = .returned (.agg (bv (rootS (L.take k))).toArray) ∧ Below W.heap.size W w') := Lib.hid fun W hb => rroot_any k A k c (L.take k) W (Nat.le_refl _) hst.1 (by omega) (by omega) hm (sx1 W hb)
      have HRx2 : Hid (∀ W, Below w.heap.size w W → Calls Tryd.prog 55 #[.slice Dx (n - k) (c - k)] W fun e w' => e = .returned (.agg (bv (rootS (L.drop k))).toArray) ∧ Below W.heap.size W w') := Lib.hid fun W hb => rroot_any (n - k) Dx (n - k) (c - k) (L.drop k) W (Nat.le_refl _) hst.2.2.1 (by omega) (by omega) (by omega) (sx2 W hb)
      have HRy1 : Hid (∀ W, Below w.heap.size w W → Calls Tryd.prog 55 #[.slice A' k c'] W fun e w' => e = .returned (.agg (bv (rootS (M.take k))).toArray) ∧ Below W.heap.size W w') := Lib.hid fun W hb => rroot_any k A' k c' (M.take k) W (Nat.le_refl _) hst.2.1 (by omega) (by omega) hm' (sy1 W hb)
      have HRy2 : Hid (∀ W, Below w.heap.size w W → Calls Tryd.prog 55 #[.slice Dy (n - k) (c' - k)] W fun e w' => e = .returned (.agg (bv (rootS (M.drop k))).toArray) ∧ Below W.heap.size W w') := Lib.hid fun W hb => rroot_any (n - k) Dy (n - k) (c' - k) (M.drop k) W (Nat.le_refl _) hst.2.2.2 (by omega) (by omega) (by omega) (sy2 W hb)
      have IH1 : Hid (∀ W, Below w.heap.size w W → Calls Tryd.prog 38 #[.slice A k c, .slice A' k c'] W fun e w' => e = .returned (.bool (apartB (L.take k) (M.take k))) ∧ Below W.heap.size W w') := Lib.hid fun W hb =>
        apart6_any N A A' k c c' (L.take k) (M.take k) W (by omega) hst.1 hst.2.1 (by omega) (by omega) (by omega) hm hm' (sx1 W hb) (sy1 W hb)
      have IH2 : Hid (∀ W, Below w.heap.size w W → Calls Tryd.prog 38 #[.slice Dx (n - k) (c - k), .slice Dy (n - k) (c' - k)] W fun e w' => e = .returned (.bool (apartB (L.drop k) (M.drop k))) ∧ Below W.heap.size W w') := Lib.hid fun W hb =>
        apart6_any N Dx Dy (n - k) (c - k) (c' - k) (L.drop k) (M.drop k) W (by omega) hst.2.2.1 hst.2.2.2 (by omega) (by omega) (by omega) (by omega) (by omega) (sx2 W hb) (sy2 W hb)
      have HEQ : Hid (rootS (L.take k) = rootS (M.take k) → rootS (L.drop k) = rootS (M.drop k) → apartB L M = (apartB (L.take k) (M.take k) || apartB (L.drop k) (M.drop k))) := Lib.hid (by
        have := apartB_eq (a := L) (b := M) (by rw [hn]; exact h2)
        rw [hn, ← hk] at this
        exact this)
      have HNE : Hid (¬ (rootS (L.take k) = rootS (M.take k) ∧ rootS (L.drop k) = rootS (M.drop k)) → apartB L M = (nodeS (rootS (L.take k)) (rootS (L.drop k)) == nodeS (rootS (M.take k)) (rootS (M.drop k)))) := Lib.hid (by
        have := apartB_ne (a := L) (b := M) (by rw [hn]; exact h2)
        rw [hn, ← hk] at this
        exact this)
      have lx1 := rootS_length (h.1.take k)
      have lx2 := rootS_length (h.1.drop k)
      have ly1 := rootS_length (h'.1.take k)
      have ly2 := rootS_length (h'.1.drop k)
      generalize rootS (L.take k) = x1 at *
      generalize rootS (L.drop k) = x2 at *
      generalize rootS (M.take k) = y1 at *
      generalize rootS (M.drop k) = y2 at *
      generalize apartB (L.take k) (M.take k) = b1 at *
      generalize apartB (L.drop k) (M.drop k) = b2 at *
      generalize apartB L M = br at *
      have Hx1 := Lib.hid lx1
      have Hx2 := Lib.hid lx2
      have Hy1 := Lib.hid ly1
      have Hy2 := Lib.hid ly2
      have HLx : Hid ((x1 ++ x2).length = 64) := Lib.hid (by rw [List.length_append, lx1, lx2])
      have HLy : Hid ((y1 ++ y2).length = 64) := Lib.hid (by rw [List.length_append, ly1, ly2])
      have HZx : Hid ((bv (List.replicate 64 0)).toArray.size = (bv (x1 ++ x2)).toArray.size) := Lib.hid (by rw [List.size_toArray, List.size_toArray, bv_length, bv_length, HLx.out]; rfl)
      have HZy : Hid ((bv (List.replicate 64 0)).toArray.size = (bv (y1 ++ y2)).toArray.size) := Lib.hid (by rw [List.size_toArray, List.size_toArray, bv_length, bv_length, HLy.out]; rfl)
      have HE35 : Hid (∀ w, (Op.equalIn 10000 35 (.agg (bv (x1 ++ x2)).toArray) (.agg (bv (y1 ++ y2)).toArray)).run Tryd.prog w = .ok ((x1 == y1) && (x2 == y2)) w) := Lib.hid fun w => run_eq35 x1 x2 y1 y2 Hx1.out Hx2.out Hy1.out Hy2.out w
      have HNX : Hid (∀ W, Calls Tryd.prog 22 #[.agg (bv x1).toArray, .agg (bv x2).toArray] W fun e w' => e = .returned (.agg (bv (nodeS x1 x2)).toArray) ∧ Below W.heap.size W w') := Lib.hid fun W => rnode_any x1 x2 W Hx1.out Hx2.out
      have HNY : Hid (∀ W, Calls Tryd.prog 22 #[.agg (bv y1).toArray, .agg (bv y2).toArray] W fun e w' => e = .returned (.agg (bv (nodeS y1 y2)).toArray) ∧ Below W.heap.size W w') := Lib.hid fun W => rnode_any y1 y2 W Hy1.out Hy2.out
      have HEN : Hid (∀ w, (Op.equalIn 10000 22 (.agg (bv (nodeS x1 x2)).toArray) (.agg (bv (nodeS y1 y2)).toArray)).run Tryd.prog w = .ok (nodeS x1 x2 == nodeS y1 y2) w) := Lib.hid fun w => run_eq24 _ _ (nodeS_length _ _) (nodeS_length _ _) w
      have n2 : ¬ (n : Int) < 2 := by omega
      have hbw : Below w.heap.size w w := Below.refl _ _
      clear h h' hn hn' hst sx1 sx2 sy1 sy2 hxd hyd hx2 hy2 lx1 lx2 ly1 ly2 hk
      go_enter Tryd.func38, Tryd.ntmps38
      go_wp2_with fail
      go_loop [5] (fun y => ∃ p : Nat, Hid (∃ j, p = 2 ^ j) ∧ 1 ≤ p ∧ p < n ∧ y = .int .i64 p) (fun y => n - (intOf y).toNat)
      case atStart => exact ⟨1, Lib.hid ⟨0, rfl⟩, by omega, by omega, rfl⟩
      case round =>
        obtain ⟨p, hp, h1, hlt, rfl⟩ := hrel
        by_cases hcc : p < n - p
        · have hc1 : (p : Int) < (n : Int) - (p : Int) := by omega
          go_wp2_with fail
          go_round
          case rel =>
            refine ⟨2 * p, Lib.hid ?_, by omega, by omega, by go_num⟩
            obtain ⟨j, hj⟩ := hp.out
            exact ⟨j + 1, by rw [hj, Nat.pow_succ]; omega⟩
          case measure => simp [intOf]; omega
        · have hc1 : ¬ (p : Int) < (n : Int) - (p : Int) := by omega
          have hpk : p = k := by
            obtain ⟨j, hj⟩ := hp.out
            rw [← HK.out, hj]
            exact (spl_is (j := j) (by omega) (by omega)).symm
          subst hpk
          go_wp2_with fail
          have kd : Below w.heap.size w w.drew := hbw.drew
          refine wp_region_held_drew (S := (fun W => Below w.heap.size w W)) (by kernel_rfl) (kd) (fun hHeld => ?_)
          refine wpAnyH_take (i := 0) (v := .slice A n c) rfl (by kernel_rfl) (by kernel_rfl) (by kernel_rfl) (fun _ _ _ h => h) (Or.inl ⟨by rfl, fun w hS => by first | (go_simp; done) | (go_simp; with_reducible rfl)⟩) hHeld ?_
          try simp only [Act.put, List.getElem_toArray, List.getElem_cons_zero, List.setIfInBounds_toArray, List.set_cons_zero, List.set_cons_succ]
          refine wpAnyH_take (i := 1) (v := .int .i64 p) rfl (by kernel_rfl) (by kernel_rfl) (by kernel_rfl) (fun _ _ _ h => h) (Or.inl ⟨by rfl, fun w hS => by first | (go_simp; done) | (go_simp; with_reducible rfl)⟩) hHeld ?_
          try simp only [Act.put, List.getElem_toArray, List.getElem_cons_zero, List.getElem_cons_succ, List.setIfInBounds_toArray, List.set_cons_zero, List.set_cons_succ]
          refine wpAnyH_take (i := 2) (v := .slice A p c) rfl (by kernel_rfl) (by kernel_rfl) (by kernel_rfl) (fun _ _ _ h => h) (Or.inl ⟨by rfl, fun w hS => by (have hc := HCx1.out; first | (go_simp; done) | (go_simp; with_reducible rfl))⟩) hHeld ?_
          try simp only [Act.put, List.getElem_toArray, List.getElem_cons_zero, List.getElem_cons_succ, List.setIfInBounds_toArray, List.set_cons_zero, List.set_cons_succ]
          refine wpAnyH_take (i := 4) (v := .slice A n c) rfl (by kernel_rfl) (by kernel_rfl) (by kernel_rfl) (fun _ _ _ h => h) (Or.inl ⟨by rfl, fun w hS => by first | (go_simp; done) | (go_simp; with_reducible rfl)⟩) hHeld ?_
          try simp only [Act.put, List.getElem_toArray, List.getElem_cons_zero, List.getElem_cons_succ, List.setIfInBounds_toArray, List.set_cons_zero, List.set_cons_succ]
          refine wpAnyH_take (i := 5) (v := .int .i64 p) rfl (by kernel_rfl) (by kernel_rfl) (by kernel_rfl) (fun _ _ _ h => h) (Or.inl ⟨by rfl, fun w hS => by first | (go_simp; done) | (go_simp; with_reducible rfl)⟩) hHeld ?_
          try simp only [Act.put, List.getElem_toArray, List.getElem_cons_zero, List.getElem_cons_succ, List.setIfInBounds_toArray, List.set_cons_zero, List.set_cons_succ]
          refine wpAnyH_take (i := 6) (v := .slice Dx (n - p) (c - p)) rfl (by kernel_rfl) (by kernel_rfl) (by kernel_rfl) (fun _ _ _ h => h) (Or.inl ⟨by rfl, fun w hS => by (have hc := HCx2.out; first | (go_simp; done) | (go_simp; with_reducible rfl))⟩) hHeld ?_
          try simp only [Act.put, List.getElem_toArray, List.getElem_cons_zero, List.getElem_cons_succ, List.setIfInBounds_toArray, List.set_cons_zero, List.set_cons_succ]
          refine wpAnyH_ready (rs := [3, 9]) (by kernel_rfl) (by simp) ?_
          refine AllReadyH.cons rfl (fun K hK => ?_) (AllReadyH.cons rfl (fun K hK => ?_) AllReadyH.nil)
          focus
            skip
            go_simp
            go_wp2_with (go_at_call 55; refine (HRx1.out _ kd).mono ?_; rintro e wax ⟨rfl, hbwax⟩; have kwax := kd.trans (hbwax.mono kd.size))
            refine hK.out _ _ ?_ (fun hHeld => ?_)
            · exact kwax
            clear hK K
            try simp only [Act.put, List.getElem_toArray, List.getElem_cons_zero, List.getElem_cons_succ, List.setIfInBounds_toArray, List.set_cons_zero, List.set_cons_succ]
            refine wpAnyH_ready (rs := [7, 9]) (by kernel_rfl) (by simp) ?_
            refine AllReadyH.cons rfl (fun K hK => ?_) (AllReadyH.cons rfl (fun K hK => ?_) AllReadyH.nil)
            focus
              skip
              go_simp
              go_wp2_with (go_at_call 55; refine (HRx2.out _ kwax).mono ?_; rintro e wbx ⟨rfl, hbwbx⟩; have kwbx := kwax.trans (hbwbx.mono kwax.size))
              refine hK.out _ _ ?_ (fun hHeld => ?_)
              · exact kwbx
              clear hK K
              try simp only [Act.put, List.getElem_toArray, List.getElem_cons_zero, List.getElem_cons_succ, List.setIfInBounds_toArray, List.set_cons_zero, List.set_cons_succ]
              refine wpAnyH_take (i := 8) (v := _) rfl (by kernel_rfl) (by kernel_rfl) (by kernel_rfl) (fun _ _ _ h => h) (yields_build 35 #[(0, .tmp 22), (1, .tmp 26)] #[(0, .agg (bv x1).toArray), (1, .agg (bv x2).toArray)] _ (fun w => run_build35 x1 x2 Hx1.out Hx2.out w) rfl (by simp only [List.map_toArray, List.map_cons, List.map_nil]; rfl) rfl) hHeld ?_
              try simp only [Act.put, List.getElem_toArray, List.getElem_cons_zero, List.getElem_cons_succ, List.setIfInBounds_toArray, List.set_cons_zero, List.set_cons_succ]
              refine wpAnyH_ready (rs := [9]) (by kernel_rfl) (by simp) ?_
              refine AllReadyH.cons rfl (fun K hK => ?_) AllReadyH.nil
              go_simp
              refine hK.out _ _ ?_ (fun hHeld => ?_)
              · exact kwbx.alloc kwbx.size _
              clear hK K
              try simp only [Act.put, List.getElem_toArray, List.getElem_cons_zero, List.getElem_cons_succ, List.setIfInBounds_toArray, List.set_cons_zero, List.set_cons_succ]
              have kz := kwbx.alloc kwbx.size (.cells (bv (List.replicate 64 0)).toArray 35)
              have hlow := kwbx.size
              refine wpAnyH_ready (rs := [10]) (by kernel_rfl) (by simp) ?_
              refine AllReadyH.cons rfl (fun K hK => ?_) AllReadyH.nil
              refine step_store (.tmp 6) (.tmp 27) 35 wbx.heap.size 35 _ (bv (x1 ++ x2)).toArray (BlkIs.new _ _ _) rfl rfl rfl rfl rfl (isz35a HLx.out) HZx.out (bv_all _) ?_; intro wx blx htx
              refine hK.out _ _ ?_ (fun hHeld => ?_)
              · exact kz.trans (htx.below kz.size (fun i hi h => by omega))
              clear hK K
              try simp only [Act.put, List.getElem_toArray, List.getElem_cons_zero, List.getElem_cons_succ, List.setIfInBounds_toArray, List.set_cons_zero, List.set_cons_succ]
              refine wpAnyH_done (by kernel_rfl) ?_ _
              have kx : Below w.heap.size w wx := kz.trans (htx.below kz.size (fun i hi h => by omega))
              clear htx
              obtain ⟨gx, hgx⟩ : ∃ g, g = wbx.heap.size := ⟨_, rfl⟩
              rw [← hgx] at blx ⊢
              clear hgx kz hlow
            rotate_left
            focus
              skip
              go_simp
              refine hK.out _ _ ?_ (fun hHeld => ?_)
              · exact kwax.alloc kwax.size _
              clear hK K
              try simp only [Act.put, List.getElem_toArray, List.getElem_cons_zero, List.getElem_cons_succ, List.setIfInBounds_toArray, List.set_cons_zero, List.set_cons_succ]
              have kz := kwax.alloc kwax.size (.cells (bv (List.replicate 64 0)).toArray 35)
              have hlow := kwax.size
              refine wpAnyH_ready (rs := [7]) (by kernel_rfl) (by simp) ?_
              refine AllReadyH.cons rfl (fun K hK => ?_) AllReadyH.nil
              go_simp
              go_wp2_with (go_at_call 55; refine (HRx2.out _ kz).mono ?_; rintro e wbx ⟨rfl, hbwbx⟩; have kwbx := kz.trans (hbwbx.mono kz.size))
              refine hK.out _ _ ?_ (fun hHeld => ?_)
              · exact kwbx
              clear hK K
              try simp only [Act.put, List.getElem_toArray, List.getElem_cons_zero, List.getElem_cons_succ, List.setIfInBounds_toArray, List.set_cons_zero, List.set_cons_succ]
              have bz : BlkIs wbx wax.heap.size 35 (bv (List.replicate 64 0)).toArray := (hbwbx.block _ (by simp)).trans (BlkIs.new _ _ _)
              refine wpAnyH_take (i := 8) (v := _) rfl (by kernel_rfl) (by kernel_rfl) (by kernel_rfl) (fun _ _ _ h => h) (yields_build 35 #[(0, .tmp 22), (1, .tmp 26)] #[(0, .agg (bv x1).toArray), (1, .agg (bv x2).toArray)] _ (fun w => run_build35 x1 x2 Hx1.out Hx2.out w) rfl (by simp only [List.map_toArray, List.map_cons, List.map_nil]; rfl) rfl) hHeld ?_
              try simp only [Act.put, List.getElem_toArray, List.getElem_cons_zero, List.getElem_cons_succ, List.setIfInBounds_toArray, List.set_cons_zero, List.set_cons_succ]
              refine wpAnyH_ready (rs := [10]) (by kernel_rfl) (by simp) ?_
              refine AllReadyH.cons rfl (fun K hK => ?_) AllReadyH.nil
              refine step_store (.tmp 6) (.tmp 27) 35 wax.heap.size 35 _ (bv (x1 ++ x2)).toArray bz rfl rfl rfl rfl rfl (isz35a HLx.out) HZx.out (bv_all _) ?_; intro wx blx htx
              refine hK.out _ _ ?_ (fun hHeld => ?_)
              · exact kwbx.trans (htx.below kwbx.size (fun i hi h => by omega))
              clear hK K
              try simp only [Act.put, List.getElem_toArray, List.getElem_cons_zero, List.getElem_cons_succ, List.setIfInBounds_toArray, List.set_cons_zero, List.set_cons_succ]
              refine wpAnyH_done (by kernel_rfl) ?_ _
              have kx : Below w.heap.size w wx := kwbx.trans (htx.below kwbx.size (fun i hi h => by omega))
              clear htx
              obtain ⟨gx, hgx⟩ : ∃ g, g = wax.heap.size := ⟨_, rfl⟩
              rw [← hgx] at blx ⊢
              clear hgx kz hlow bz
            rotate_left
          rotate_left 2
          focus
            skip
            go_simp
            refine hK.out _ _ ?_ (fun hHeld => ?_)
            · exact kd.alloc kd.size _
            clear hK K
            try simp only [Act.put, List.getElem_toArray, List.getElem_cons_zero, List.getElem_cons_succ, List.setIfInBounds_toArray, List.set_cons_zero, List.set_cons_succ]
            have kz := kd.alloc kd.size (.cells (bv (List.replicate 64 0)).toArray 35)
            have hlow := kd.size
            refine wpAnyH_ready (rs := [3]) (by kernel_rfl) (by simp) ?_
            refine AllReadyH.cons rfl (fun K hK => ?_) AllReadyH.nil
            go_simp
            go_wp2_with (go_at_call 55; refine (HRx1.out _ kz).mono ?_; rintro e wax ⟨rfl, hbwax⟩; have kwax := kz.trans (hbwax.mono kz.size))
            refine hK.out _ _ ?_ (fun hHeld => ?_)
            · exact kwax
            clear hK K
            try simp only [Act.put, List.getElem_toArray, List.getElem_cons_zero, List.getElem_cons_succ, List.setIfInBounds_toArray, List.set_cons_zero, List.set_cons_succ]
            have by_ : BlkIs wax w.heap.size 35 (bv (List.replicate 64 0)).toArray := (hbwax.block _ (by simp)).trans (BlkIs.new_at _ _ _ _ rfl)
            refine wpAnyH_ready (rs := [7]) (by kernel_rfl) (by simp) ?_
            refine AllReadyH.cons rfl (fun K hK => ?_) AllReadyH.nil
            go_simp
            go_wp2_with (go_at_call 55; refine (HRx2.out _ kwax).mono ?_; rintro e wbx ⟨rfl, hbwbx⟩; have kwbx := kwax.trans (hbwbx.mono kwax.size))
            refine hK.out _ _ ?_ (fun hHeld => ?_)
            · exact kwbx
            clear hK K
            try simp only [Act.put, List.getElem_toArray, List.getElem_cons_zero, List.getElem_cons_succ, List.setIfInBounds_toArray, List.set_cons_zero, List.set_cons_succ]
            have bz : BlkIs wbx w.heap.size 35 (bv (List.replicate 64 0)).toArray := (hbwbx.block _ by_.lt).trans by_
            refine wpAnyH_take (i := 8) (v := _) rfl (by kernel_rfl) (by kernel_rfl) (by kernel_rfl) (fun _ _ _ h => h) (yields_build 35 #[(0, .tmp 22), (1, .tmp 26)] #[(0, .agg (bv x1).toArray), (1, .agg (bv x2).toArray)] _ (fun w => run_build35 x1 x2 Hx1.out Hx2.out w) rfl (by simp only [List.map_toArray, List.map_cons, List.map_nil]; rfl) rfl) hHeld ?_
            try simp only [Act.put, List.getElem_toArray, List.getElem_cons_zero, List.getElem_cons_succ, List.setIfInBounds_toArray, List.set_cons_zero, List.set_cons_succ]
            refine wpAnyH_ready (rs := [10]) (by kernel_rfl) (by simp) ?_
            refine AllReadyH.cons rfl (fun K hK => ?_) AllReadyH.nil
            refine step_store (.tmp 6) (.tmp 27) 35 w.heap.size 35 _ (bv (x1 ++ x2)).toArray bz rfl rfl rfl rfl rfl (isz35a HLx.out) HZx.out (bv_all _) ?_; intro wx blx htx
            refine hK.out _ _ ?_ (fun hHeld => ?_)
            · exact kwbx.trans (htx.below kwbx.size (fun i hi h => by (have := hlow; simp at this; omega)))
            clear hK K
            try simp only [Act.put, List.getElem_toArray, List.getElem_cons_zero, List.getElem_cons_succ, List.setIfInBounds_toArray, List.set_cons_zero, List.set_cons_succ]
            refine wpAnyH_done (by kernel_rfl) ?_ _
            have kx : Below w.heap.size w wx := kwbx.trans (htx.below kwbx.size (fun i hi h => by (have := hlow; simp at this; omega)))
            clear htx
            obtain ⟨gx, hgx⟩ : ∃ g, g = w.heap.size := ⟨_, rfl⟩
            rw [← hgx] at blx ⊢
            clear hgx kz hlow bz by_
          rotate_left
          all_goals
            go_wp2_with fail
            have kdx : Below w.heap.size w wx.drew := kx.drew
            have bxd : BlkIs wx.drew gx 35 (bv (x1 ++ x2)).toArray := (Alk.drew _).blk blx
            have KX : Hid (Below wx.drew.heap.size wx.drew wx.drew) := Lib.hid (Below.refl _ _)
            have hgx_lt : gx < wx.heap.size := blx.lt
            refine wp_region_held_drew (S := (fun W => Below w.heap.size w W ∧ BlkIs W gx 35 (bv (x1 ++ x2)).toArray)) (by kernel_rfl) (⟨kdx, bxd⟩) (fun hHeld => ?_)
            refine wpAnyH_take (i := 0) (v := .slice A' n c') rfl (by kernel_rfl) (by kernel_rfl) (by kernel_rfl) (fun _ _ _ h => h) (Or.inl ⟨by rfl, fun w hS => by first | (go_simp; done) | (go_simp; with_reducible rfl)⟩) hHeld ?_
            try simp only [Act.put, List.getElem_toArray, List.getElem_cons_zero, List.setIfInBounds_toArray, List.set_cons_zero, List.set_cons_succ]
            refine wpAnyH_take (i := 1) (v := .int .i64 p) rfl (by kernel_rfl) (by kernel_rfl) (by kernel_rfl) (fun _ _ _ h => h) (Or.inl ⟨by rfl, fun w hS => by first | (go_simp; done) | (go_simp; with_reducible rfl)⟩) hHeld ?_
            try simp only [Act.put, List.getElem_toArray, List.getElem_cons_zero, List.getElem_cons_succ, List.setIfInBounds_toArray, List.set_cons_zero, List.set_cons_succ]
            refine wpAnyH_take (i := 2) (v := .slice A' p c') rfl (by kernel_rfl) (by kernel_rfl) (by kernel_rfl) (fun _ _ _ h => h) (Or.inl ⟨by rfl, fun w hS => by (have hc := HCy1.out; first | (go_simp; done) | (go_simp; with_reducible rfl))⟩) hHeld ?_
            try simp only [Act.put, List.getElem_toArray, List.getElem_cons_zero, List.getElem_cons_succ, List.setIfInBounds_toArray, List.set_cons_zero, List.set_cons_succ]
            refine wpAnyH_take (i := 4) (v := .slice A' n c') rfl (by kernel_rfl) (by kernel_rfl) (by kernel_rfl) (fun _ _ _ h => h) (Or.inl ⟨by rfl, fun w hS => by first | (go_simp; done) | (go_simp; with_reducible rfl)⟩) hHeld ?_
            try simp only [Act.put, List.getElem_toArray, List.getElem_cons_zero, List.getElem_cons_succ, List.setIfInBounds_toArray, List.set_cons_zero, List.set_cons_succ]
            refine wpAnyH_take (i := 5) (v := .int .i64 p) rfl (by kernel_rfl) (by kernel_rfl) (by kernel_rfl) (fun _ _ _ h => h) (Or.inl ⟨by rfl, fun w hS => by first | (go_simp; done) | (go_simp; with_reducible rfl)⟩) hHeld ?_
            try simp only [Act.put, List.getElem_toArray, List.getElem_cons_zero, List.getElem_cons_succ, List.setIfInBounds_toArray, List.set_cons_zero, List.set_cons_succ]
            refine wpAnyH_take (i := 6) (v := .slice Dy (n - p) (c' - p)) rfl (by kernel_rfl) (by kernel_rfl) (by kernel_rfl) (fun _ _ _ h => h) (Or.inl ⟨by rfl, fun w hS => by (have hc := HCy2.out; first | (go_simp; done) | (go_simp; with_reducible rfl))⟩) hHeld ?_
            try simp only [Act.put, List.getElem_toArray, List.getElem_cons_zero, List.getElem_cons_succ, List.setIfInBounds_toArray, List.set_cons_zero, List.set_cons_succ]
            refine wpAnyH_ready (rs := [3, 9]) (by kernel_rfl) (by simp) ?_
            refine AllReadyH.cons rfl (fun K hK => ?_) (AllReadyH.cons rfl (fun K hK => ?_) AllReadyH.nil)
            focus
              skip
              go_simp
              go_wp2_with (go_at_call 55; refine (HRy1.out _ kdx).mono ?_; rintro e way ⟨rfl, hbway⟩; have kway := kdx.trans (hbway.mono kdx.size); have qway : BlkIs way gx 35 (bv (x1 ++ x2)).toArray := (hbway.block _ hHeld.2.lt).trans hHeld.2)
              refine hK.out _ _ ?_ (fun hHeld => ?_)
              · exact ⟨kway, qway⟩
              clear hK K
              try simp only [Act.put, List.getElem_toArray, List.getElem_cons_zero, List.getElem_cons_succ, List.setIfInBounds_toArray, List.set_cons_zero, List.set_cons_succ]
              refine wpAnyH_ready (rs := [7, 9]) (by kernel_rfl) (by simp) ?_
              refine AllReadyH.cons rfl (fun K hK => ?_) (AllReadyH.cons rfl (fun K hK => ?_) AllReadyH.nil)
              focus
                skip
                go_simp
                go_wp2_with (go_at_call 55; refine (HRy2.out _ kway).mono ?_; rintro e wby ⟨rfl, hbwby⟩; have kwby := kway.trans (hbwby.mono kway.size); have qwby : BlkIs wby gx 35 (bv (x1 ++ x2)).toArray := (hbwby.block _ hHeld.2.lt).trans hHeld.2)
                refine hK.out _ _ ?_ (fun hHeld => ?_)
                · exact ⟨kwby, qwby⟩
                clear hK K
                try simp only [Act.put, List.getElem_toArray, List.getElem_cons_zero, List.getElem_cons_succ, List.setIfInBounds_toArray, List.set_cons_zero, List.set_cons_succ]
                refine wpAnyH_take (i := 8) (v := _) rfl (by kernel_rfl) (by kernel_rfl) (by kernel_rfl) (fun _ _ _ h => h) (yields_build 35 #[(0, .tmp 31), (1, .tmp 35)] #[(0, .agg (bv y1).toArray), (1, .agg (bv y2).toArray)] _ (fun w => run_build35 y1 y2 Hy1.out Hy2.out w) rfl (by simp only [List.map_toArray, List.map_cons, List.map_nil]; rfl) rfl) hHeld ?_
                try simp only [Act.put, List.getElem_toArray, List.getElem_cons_zero, List.getElem_cons_succ, List.setIfInBounds_toArray, List.set_cons_zero, List.set_cons_succ]
                refine wpAnyH_ready (rs := [9]) (by kernel_rfl) (by simp) ?_
                refine AllReadyH.cons rfl (fun K hK => ?_) AllReadyH.nil
                go_simp
                refine hK.out _ _ ?_ (fun hHeld => ?_)
                · exact ⟨kwby.alloc kwby.size _, hHeld.2.alloc _⟩
                clear hK K
                try simp only [Act.put, List.getElem_toArray, List.getElem_cons_zero, List.getElem_cons_succ, List.setIfInBounds_toArray, List.set_cons_zero, List.set_cons_succ]
                have kz := kwby.alloc kwby.size (.cells (bv (List.replicate 64 0)).toArray 35)
                have hlow := kwby.size
                refine wpAnyH_ready (rs := [10]) (by kernel_rfl) (by simp) ?_
                refine AllReadyH.cons rfl (fun K hK => ?_) AllReadyH.nil
                refine step_store (.tmp 7) (.tmp 36) 35 wby.heap.size 35 _ (bv (y1 ++ y2)).toArray (BlkIs.new _ _ _) rfl rfl rfl rfl rfl (isz35a HLy.out) HZy.out (bv_all _) ?_; intro wy bly hty; have qwy : BlkIs wy gx 35 (bv (x1 ++ x2)).toArray := BlkIs.tn hHeld.2 hty (fun e => absurd e (Nat.ne_of_lt qwby.lt))
                refine hK.out _ _ ?_ (fun hHeld => ?_)
                · exact ⟨kz.trans (hty.below kz.size (fun i hi h => by omega)), qwy⟩
                clear hK K
                try simp only [Act.put, List.getElem_toArray, List.getElem_cons_zero, List.getElem_cons_succ, List.setIfInBounds_toArray, List.set_cons_zero, List.set_cons_succ]
                refine wpAnyH_done (by kernel_rfl) ?_ _
                have ky : Below w.heap.size w wy := kz.trans (hty.below kz.size (fun i hi h => by omega))
                clear hty
                obtain ⟨gy, hgy⟩ : ∃ g, g = wby.heap.size := ⟨_, rfl⟩
                rw [← hgy] at bly ⊢
                clear hgy kz hlow
              rotate_left
              focus
                skip
                go_simp
                refine hK.out _ _ ?_ (fun hHeld => ?_)
                · exact ⟨kway.alloc kway.size _, hHeld.2.alloc _⟩
                clear hK K
                try simp only [Act.put, List.getElem_toArray, List.getElem_cons_zero, List.getElem_cons_succ, List.setIfInBounds_toArray, List.set_cons_zero, List.set_cons_succ]
                have kz := kway.alloc kway.size (.cells (bv (List.replicate 64 0)).toArray 35)
                have hlow := kway.size
                refine wpAnyH_ready (rs := [7]) (by kernel_rfl) (by simp) ?_
                refine AllReadyH.cons rfl (fun K hK => ?_) AllReadyH.nil
                go_simp
                go_wp2_with (go_at_call 55; refine (HRy2.out _ kz).mono ?_; rintro e wby ⟨rfl, hbwby⟩; have kwby := kz.trans (hbwby.mono kz.size); have qwby : BlkIs wby gx 35 (bv (x1 ++ x2)).toArray := (hbwby.block _ hHeld.2.lt).trans hHeld.2)
                refine hK.out _ _ ?_ (fun hHeld => ?_)
                · exact ⟨kwby, qwby⟩
                clear hK K
                try simp only [Act.put, List.getElem_toArray, List.getElem_cons_zero, List.getElem_cons_succ, List.setIfInBounds_toArray, List.set_cons_zero, List.set_cons_succ]
                have bz : BlkIs wby way.heap.size 35 (bv (List.replicate 64 0)).toArray := (hbwby.block _ (by simp)).trans (BlkIs.new _ _ _)
                refine wpAnyH_take (i := 8) (v := _) rfl (by kernel_rfl) (by kernel_rfl) (by kernel_rfl) (fun _ _ _ h => h) (yields_build 35 #[(0, .tmp 31), (1, .tmp 35)] #[(0, .agg (bv y1).toArray), (1, .agg (bv y2).toArray)] _ (fun w => run_build35 y1 y2 Hy1.out Hy2.out w) rfl (by simp only [List.map_toArray, List.map_cons, List.map_nil]; rfl) rfl) hHeld ?_
                try simp only [Act.put, List.getElem_toArray, List.getElem_cons_zero, List.getElem_cons_succ, List.setIfInBounds_toArray, List.set_cons_zero, List.set_cons_succ]
                refine wpAnyH_ready (rs := [10]) (by kernel_rfl) (by simp) ?_
                refine AllReadyH.cons rfl (fun K hK => ?_) AllReadyH.nil
                refine step_store (.tmp 7) (.tmp 36) 35 way.heap.size 35 _ (bv (y1 ++ y2)).toArray bz rfl rfl rfl rfl rfl (isz35a HLy.out) HZy.out (bv_all _) ?_; intro wy bly hty; have qwy : BlkIs wy gx 35 (bv (x1 ++ x2)).toArray := BlkIs.tn hHeld.2 hty (fun e => absurd e (Nat.ne_of_lt qway.lt))
                refine hK.out _ _ ?_ (fun hHeld => ?_)
                · exact ⟨kwby.trans (hty.below kwby.size (fun i hi h => by omega)), qwy⟩
                clear hK K
                try simp only [Act.put, List.getElem_toArray, List.getElem_cons_zero, List.getElem_cons_succ, List.setIfInBounds_toArray, List.set_cons_zero, List.set_cons_succ]
                refine wpAnyH_done (by kernel_rfl) ?_ _
                have ky : Below w.heap.size w wy := kwby.trans (hty.below kwby.size (fun i hi h => by omega))
                clear hty
                obtain ⟨gy, hgy⟩ : ∃ g, g = way.heap.size := ⟨_, rfl⟩
                rw [← hgy] at bly ⊢
                clear hgy kz hlow bz
              rotate_left
            rotate_left 2
            focus
              skip
              go_simp
              refine hK.out _ _ ?_ (fun hHeld => ?_)
              · exact ⟨kdx.alloc kdx.size _, hHeld.2.alloc _⟩
              clear hK K
              try simp only [Act.put, List.getElem_toArray, List.getElem_cons_zero, List.getElem_cons_succ, List.setIfInBounds_toArray, List.set_cons_zero, List.set_cons_succ]
              have kz := kdx.alloc kdx.size (.cells (bv (List.replicate 64 0)).toArray 35)
              have hlow := kdx.size
              refine wpAnyH_ready (rs := [3]) (by kernel_rfl) (by simp) ?_
              refine AllReadyH.cons rfl (fun K hK => ?_) AllReadyH.nil
              go_simp
              go_wp2_with (go_at_call 55; refine (HRy1.out _ kz).mono ?_; rintro e way ⟨rfl, hbway⟩; have kway := kz.trans (hbway.mono kz.size); have qway : BlkIs way gx 35 (bv (x1 ++ x2)).toArray := (hbway.block _ hHeld.2.lt).trans hHeld.2)
              refine hK.out _ _ ?_ (fun hHeld => ?_)
              · exact ⟨kway, qway⟩
              clear hK K
              try simp only [Act.put, List.getElem_toArray, List.getElem_cons_zero, List.getElem_cons_succ, List.setIfInBounds_toArray, List.set_cons_zero, List.set_cons_succ]
              have by_ : BlkIs way wx.heap.size 35 (bv (List.replicate 64 0)).toArray := (hbway.block _ (by simp)).trans (BlkIs.new_at _ _ _ _ rfl)
              refine wpAnyH_ready (rs := [7]) (by kernel_rfl) (by simp) ?_
              refine AllReadyH.cons rfl (fun K hK => ?_) AllReadyH.nil
              go_simp
              go_wp2_with (go_at_call 55; refine (HRy2.out _ kway).mono ?_; rintro e wby ⟨rfl, hbwby⟩; have kwby := kway.trans (hbwby.mono kway.size); have qwby : BlkIs wby gx 35 (bv (x1 ++ x2)).toArray := (hbwby.block _ hHeld.2.lt).trans hHeld.2)
              refine hK.out _ _ ?_ (fun hHeld => ?_)
              · exact ⟨kwby, qwby⟩
              clear hK K
              try simp only [Act.put, List.getElem_toArray, List.getElem_cons_zero, List.getElem_cons_succ, List.setIfInBounds_toArray, List.set_cons_zero, List.set_cons_succ]
              have bz : BlkIs wby wx.heap.size 35 (bv (List.replicate 64 0)).toArray := (hbwby.block _ by_.lt).trans by_
              refine wpAnyH_take (i := 8) (v := _) rfl (by kernel_rfl) (by kernel_rfl) (by kernel_rfl) (fun _ _ _ h => h) (yields_build 35 #[(0, .tmp 31), (1, .tmp 35)] #[(0, .agg (bv y1).toArray), (1, .agg (bv y2).toArray)] _ (fun w => run_build35 y1 y2 Hy1.out Hy2.out w) rfl (by simp only [List.map_toArray, List.map_cons, List.map_nil]; rfl) rfl) hHeld ?_
              try simp only [Act.put, List.getElem_toArray, List.getElem_cons_zero, List.getElem_cons_succ, List.setIfInBounds_toArray, List.set_cons_zero, List.set_cons_succ]
              refine wpAnyH_ready (rs := [10]) (by kernel_rfl) (by simp) ?_
              refine AllReadyH.cons rfl (fun K hK => ?_) AllReadyH.nil
              refine step_store (.tmp 7) (.tmp 36) 35 wx.heap.size 35 _ (bv (y1 ++ y2)).toArray bz rfl rfl rfl rfl rfl (isz35a HLy.out) HZy.out (bv_all _) ?_; intro wy bly hty; have qwy : BlkIs wy gx 35 (bv (x1 ++ x2)).toArray := BlkIs.tn hHeld.2 hty (fun e => absurd e (Nat.ne_of_lt hgx_lt))
              refine hK.out _ _ ?_ (fun hHeld => ?_)
              · exact ⟨kwby.trans (hty.below kwby.size (fun i hi h => by (have := hlow; simp at this; omega))), qwy⟩
              clear hK K
              try simp only [Act.put, List.getElem_toArray, List.getElem_cons_zero, List.getElem_cons_succ, List.setIfInBounds_toArray, List.set_cons_zero, List.set_cons_succ]
              refine wpAnyH_done (by kernel_rfl) ?_ _
              have ky : Below w.heap.size w wy := kwby.trans (hty.below kwby.size (fun i hi h => by (have := hlow; simp at this; omega)))
              clear hty
              obtain ⟨gy, hgy⟩ : ∃ g, g = wx.heap.size := ⟨_, rfl⟩
              rw [← hgy] at bly ⊢
              clear hgy kz hlow bz by_
            rotate_left
            all_goals
              obtain ⟨rx1, rx2⟩ := pair_ranges qwy Hx1.out
              obtain ⟨ry1, ry2⟩ := pair_ranges bly Hy1.out
              have rx := blk_rng qwy
              have ry := blk_rng bly
              have hgxl := qwy.lt
              have hgyl := bly.lt
              have KY := Lib.hid ky
              clear qwy bly ky kx blx bxd kdx KX
              have heq := HE35.out
              by_cases hp12 : x1 = y1 ∧ x2 = y2
              · have HBR := Lib.hid (HEQ.out hp12.1 hp12.2)
                have hxy : ((x1 == y1) && (x2 == y2)) = true := by simp [hp12.1, hp12.2]
                rw [hxy] at heq
                clear hp12 hxy
                go_wp2_with (first
                  | (refine load_wt (by rfl) 35 (.tmp 6) rfl gx 0 rfl (bv (x1 ++ x2)) _ rx Tryd.underlying35 rfl (isz35s HLx.out) ?_)
                  | (refine load_wt (by rfl) 35 (.tmp 7) rfl gy 0 rfl (bv (y1 ++ y2)) _ ry Tryd.underlying35 rfl (isz35s HLy.out) ?_)
                  | fail)
                have k0 : Below w.heap.size w wy.drew := KY.out.drew
                cases b1
                · skip
                  refine wp_region_held_drew (S := (fun W => Below w.heap.size w W)) (by kernel_rfl) (k0) (fun hHeld => ?_)
                  refine wpAnyH_take (i := 0) (v := .slice A n c) rfl (by kernel_rfl) (by kernel_rfl) (by kernel_rfl) (fun _ _ _ h => h) (Or.inl ⟨by rfl, fun w hS => by first | (go_simp; done) | (go_simp; with_reducible rfl)⟩) hHeld ?_
                  try simp only [Act.put, List.getElem_toArray, List.getElem_cons_zero, List.setIfInBounds_toArray, List.set_cons_zero, List.set_cons_succ]
                  refine wpAnyH_take (i := 1) (v := .int .i64 p) rfl (by kernel_rfl) (by kernel_rfl) (by kernel_rfl) (fun _ _ _ h => h) (Or.inl ⟨by rfl, fun w hS => by first | (go_simp; done) | (go_simp; with_reducible rfl)⟩) hHeld ?_
                  try simp only [Act.put, List.getElem_toArray, List.getElem_cons_zero, List.getElem_cons_succ, List.setIfInBounds_toArray, List.set_cons_zero, List.set_cons_succ]
                  refine wpAnyH_take (i := 2) (v := .slice A p c) rfl (by kernel_rfl) (by kernel_rfl) (by kernel_rfl) (fun _ _ _ h => h) (Or.inl ⟨by rfl, fun w hS => by (have hc := HCx1.out; first | (go_simp; done) | (go_simp; with_reducible rfl))⟩) hHeld ?_
                  try simp only [Act.put, List.getElem_toArray, List.getElem_cons_zero, List.getElem_cons_succ, List.setIfInBounds_toArray, List.set_cons_zero, List.set_cons_succ]
                  refine wpAnyH_take (i := 3) (v := .slice A' n c') rfl (by kernel_rfl) (by kernel_rfl) (by kernel_rfl) (fun _ _ _ h => h) (Or.inl ⟨by rfl, fun w hS => by first | (go_simp; done) | (go_simp; with_reducible rfl)⟩) hHeld ?_
                  try simp only [Act.put, List.getElem_toArray, List.getElem_cons_zero, List.getElem_cons_succ, List.setIfInBounds_toArray, List.set_cons_zero, List.set_cons_succ]
                  refine wpAnyH_take (i := 4) (v := .int .i64 p) rfl (by kernel_rfl) (by kernel_rfl) (by kernel_rfl) (fun _ _ _ h => h) (Or.inl ⟨by rfl, fun w hS => by first | (go_simp; done) | (go_simp; with_reducible rfl)⟩) hHeld ?_
                  try simp only [Act.put, List.getElem_toArray, List.getElem_cons_zero, List.getElem_cons_succ, List.setIfInBounds_toArray, List.set_cons_zero, List.set_cons_succ]
                  refine wpAnyH_take (i := 5) (v := .slice A' p c') rfl (by kernel_rfl) (by kernel_rfl) (by kernel_rfl) (fun _ _ _ h => h) (Or.inl ⟨by rfl, fun w hS => by (have hc := HCy1.out; first | (go_simp; done) | (go_simp; with_reducible rfl))⟩) hHeld ?_
                  try simp only [Act.put, List.getElem_toArray, List.getElem_cons_zero, List.getElem_cons_succ, List.setIfInBounds_toArray, List.set_cons_zero, List.set_cons_succ]
                  refine wpAnyH_ready (rs := [6]) (by kernel_rfl) (by simp) ?_
                  refine AllReadyH.cons rfl (fun K hK => ?_) AllReadyH.nil
                  go_simp
                  go_wp2_with (go_at_call 38; refine (IH1.out _ k0).mono ?_; rintro e wa ⟨rfl, hba⟩; have ka := k0.trans (hba.mono k0.size))
                  refine hK.out _ _ ?_ (fun hHeld => ?_)
                  · exact ka
                  clear hK K
                  try simp only [Act.put, List.getElem_toArray, List.getElem_cons_zero, List.getElem_cons_succ, List.setIfInBounds_toArray, List.set_cons_zero, List.set_cons_succ]
                  refine wpAnyH_take (i := 7) (v := .bool false) rfl (by kernel_rfl) (by kernel_rfl) (by kernel_rfl) (fun _ _ _ h => h) (Or.inl ⟨by rfl, fun w hS => by first | (go_simp; done) | (go_simp; with_reducible rfl)⟩) hHeld ?_
                  try simp only [Act.put, List.getElem_toArray, List.getElem_cons_zero, List.getElem_cons_succ, List.setIfInBounds_toArray, List.set_cons_zero, List.set_cons_succ]
                  refine wpAnyH_take (i := 8) (v := .slice A n c) rfl (by kernel_rfl) (by kernel_rfl) (by kernel_rfl) (fun _ _ _ h => h) (Or.inl ⟨by rfl, fun w hS => by first | (go_simp; done) | (go_simp; with_reducible rfl)⟩) hHeld ?_
                  try simp only [Act.put, List.getElem_toArray, List.getElem_cons_zero, List.getElem_cons_succ, List.setIfInBounds_toArray, List.set_cons_zero, List.set_cons_succ]
                  refine wpAnyH_take (i := 9) (v := .int .i64 p) rfl (by kernel_rfl) (by kernel_rfl) (by kernel_rfl) (fun _ _ _ h => h) (Or.inl ⟨by rfl, fun w hS => by first | (go_simp; done) | (go_simp; with_reducible rfl)⟩) hHeld ?_
                  try simp only [Act.put, List.getElem_toArray, List.getElem_cons_zero, List.getElem_cons_succ, List.setIfInBounds_toArray, List.set_cons_zero, List.set_cons_succ]
                  refine wpAnyH_take (i := 10) (v := .slice Dx (n - p) (c - p)) rfl (by kernel_rfl) (by kernel_rfl) (by kernel_rfl) (fun _ _ _ h => h) (Or.inl ⟨by rfl, fun w hS => by (have hc := HCx2.out; first | (go_simp; done) | (go_simp; with_reducible rfl))⟩) hHeld ?_
                  try simp only [Act.put, List.getElem_toArray, List.getElem_cons_zero, List.getElem_cons_succ, List.setIfInBounds_toArray, List.set_cons_zero, List.set_cons_succ]
                  refine wpAnyH_take (i := 11) (v := .slice A' n c') rfl (by kernel_rfl) (by kernel_rfl) (by kernel_rfl) (fun _ _ _ h => h) (Or.inl ⟨by rfl, fun w hS => by first | (go_simp; done) | (go_simp; with_reducible rfl)⟩) hHeld ?_
                  try simp only [Act.put, List.getElem_toArray, List.getElem_cons_zero, List.getElem_cons_succ, List.setIfInBounds_toArray, List.set_cons_zero, List.set_cons_succ]
                  refine wpAnyH_take (i := 12) (v := .int .i64 p) rfl (by kernel_rfl) (by kernel_rfl) (by kernel_rfl) (fun _ _ _ h => h) (Or.inl ⟨by rfl, fun w hS => by first | (go_simp; done) | (go_simp; with_reducible rfl)⟩) hHeld ?_
                  try simp only [Act.put, List.getElem_toArray, List.getElem_cons_zero, List.getElem_cons_succ, List.setIfInBounds_toArray, List.set_cons_zero, List.set_cons_succ]
                  refine wpAnyH_take (i := 13) (v := .slice Dy (n - p) (c' - p)) rfl (by kernel_rfl) (by kernel_rfl) (by kernel_rfl) (fun _ _ _ h => h) (Or.inl ⟨by rfl, fun w hS => by (have hc := HCy2.out; first | (go_simp; done) | (go_simp; with_reducible rfl))⟩) hHeld ?_
                  try simp only [Act.put, List.getElem_toArray, List.getElem_cons_zero, List.getElem_cons_succ, List.setIfInBounds_toArray, List.set_cons_zero, List.set_cons_succ]
                  refine wpAnyH_ready (rs := [14]) (by kernel_rfl) (by simp) ?_
                  refine AllReadyH.cons rfl (fun K hK => ?_) AllReadyH.nil
                  go_simp
                  go_wp2_with (go_at_call 38; refine (IH2.out _ ka).mono ?_; rintro e wb ⟨rfl, hbb⟩; have kb := ka.trans (hbb.mono ka.size))
                  refine hK.out _ _ ?_ (fun hHeld => ?_)
                  · exact kb
                  clear hK K
                  try simp only [Act.put, List.getElem_toArray, List.getElem_cons_zero, List.getElem_cons_succ, List.setIfInBounds_toArray, List.set_cons_zero, List.set_cons_succ]
                  refine wpAnyH_take (i := 15) (v := .bool b2) rfl (by kernel_rfl) (by kernel_rfl) (by kernel_rfl) (fun _ _ _ h => h) (Or.inl ⟨by rfl, fun w hS => by first | (go_simp; done) | (go_simp; with_reducible rfl)⟩) hHeld ?_
                  try simp only [Act.put, List.getElem_toArray, List.getElem_cons_zero, List.getElem_cons_succ, List.setIfInBounds_toArray, List.set_cons_zero, List.set_cons_succ]
                  refine wpAnyH_take (i := 16) (v := .bool b2) rfl (by kernel_rfl) (by kernel_rfl) (by kernel_rfl) (fun _ _ _ h => h) (Or.inl ⟨by rfl, fun w hS => by first | (go_simp; done) | (go_simp; with_reducible rfl)⟩) hHeld ?_
                  try simp only [Act.put, List.getElem_toArray, List.getElem_cons_zero, List.getElem_cons_succ, List.setIfInBounds_toArray, List.set_cons_zero, List.set_cons_succ]
                  refine wpAnyH_done (by kernel_rfl) ?_ _
                  go_wp2_with fail
                  go_ret
                  exact ⟨by rw [HBR.out]; rfl, kb⟩
                · skip
                  refine wp_region_held_drew (S := (fun W => Below w.heap.size w W)) (by kernel_rfl) (k0) (fun hHeld => ?_)
                  refine wpAnyH_take (i := 0) (v := .slice A n c) rfl (by kernel_rfl) (by kernel_rfl) (by kernel_rfl) (fun _ _ _ h => h) (Or.inl ⟨by rfl, fun w hS => by first | (go_simp; done) | (go_simp; with_reducible rfl)⟩) hHeld ?_
                  try simp only [Act.put, List.getElem_toArray, List.getElem_cons_zero, List.setIfInBounds_toArray, List.set_cons_zero, List.set_cons_succ]
                  refine wpAnyH_take (i := 1) (v := .int .i64 p) rfl (by kernel_rfl) (by kernel_rfl) (by kernel_rfl) (fun _ _ _ h => h) (Or.inl ⟨by rfl, fun w hS => by first | (go_simp; done) | (go_simp; with_reducible rfl)⟩) hHeld ?_
                  try simp only [Act.put, List.getElem_toArray, List.getElem_cons_zero, List.getElem_cons_succ, List.setIfInBounds_toArray, List.set_cons_zero, List.set_cons_succ]
                  refine wpAnyH_take (i := 2) (v := .slice A p c) rfl (by kernel_rfl) (by kernel_rfl) (by kernel_rfl) (fun _ _ _ h => h) (Or.inl ⟨by rfl, fun w hS => by (have hc := HCx1.out; first | (go_simp; done) | (go_simp; with_reducible rfl))⟩) hHeld ?_
                  try simp only [Act.put, List.getElem_toArray, List.getElem_cons_zero, List.getElem_cons_succ, List.setIfInBounds_toArray, List.set_cons_zero, List.set_cons_succ]
                  refine wpAnyH_take (i := 3) (v := .slice A' n c') rfl (by kernel_rfl) (by kernel_rfl) (by kernel_rfl) (fun _ _ _ h => h) (Or.inl ⟨by rfl, fun w hS => by first | (go_simp; done) | (go_simp; with_reducible rfl)⟩) hHeld ?_
                  try simp only [Act.put, List.getElem_toArray, List.getElem_cons_zero, List.getElem_cons_succ, List.setIfInBounds_toArray, List.set_cons_zero, List.set_cons_succ]
                  refine wpAnyH_take (i := 4) (v := .int .i64 p) rfl (by kernel_rfl) (by kernel_rfl) (by kernel_rfl) (fun _ _ _ h => h) (Or.inl ⟨by rfl, fun w hS => by first | (go_simp; done) | (go_simp; with_reducible rfl)⟩) hHeld ?_
                  try simp only [Act.put, List.getElem_toArray, List.getElem_cons_zero, List.getElem_cons_succ, List.setIfInBounds_toArray, List.set_cons_zero, List.set_cons_succ]
                  refine wpAnyH_take (i := 5) (v := .slice A' p c') rfl (by kernel_rfl) (by kernel_rfl) (by kernel_rfl) (fun _ _ _ h => h) (Or.inl ⟨by rfl, fun w hS => by (have hc := HCy1.out; first | (go_simp; done) | (go_simp; with_reducible rfl))⟩) hHeld ?_
                  try simp only [Act.put, List.getElem_toArray, List.getElem_cons_zero, List.getElem_cons_succ, List.setIfInBounds_toArray, List.set_cons_zero, List.set_cons_succ]
                  refine wpAnyH_ready (rs := [6]) (by kernel_rfl) (by simp) ?_
                  refine AllReadyH.cons rfl (fun K hK => ?_) AllReadyH.nil
                  go_simp
                  go_wp2_with (go_at_call 38; refine (IH1.out _ k0).mono ?_; rintro e wa ⟨rfl, hba⟩; have ka := k0.trans (hba.mono k0.size))
                  refine hK.out _ _ ?_ (fun hHeld => ?_)
                  · exact ka
                  clear hK K
                  try simp only [Act.put, List.getElem_toArray, List.getElem_cons_zero, List.getElem_cons_succ, List.setIfInBounds_toArray, List.set_cons_zero, List.set_cons_succ]
                  refine wpAnyH_take (i := 7) (v := .bool true) rfl (by kernel_rfl) (by kernel_rfl) (by kernel_rfl) (fun _ _ _ h => h) (Or.inl ⟨by rfl, fun w hS => by first | (go_simp; done) | (go_simp; with_reducible rfl)⟩) hHeld ?_
                  try simp only [Act.put, List.getElem_toArray, List.getElem_cons_zero, List.getElem_cons_succ, List.setIfInBounds_toArray, List.set_cons_zero, List.set_cons_succ]
                  refine wpAnyH_take (i := 8) (v := undef) rfl (by kernel_rfl) (by kernel_rfl) (by kernel_rfl) (fun _ _ _ h => h) (Or.inr ⟨by rfl, rfl⟩) hHeld ?_
                  try simp only [Act.put, List.getElem_toArray, List.getElem_cons_zero, List.getElem_cons_succ, List.setIfInBounds_toArray, List.set_cons_zero, List.set_cons_succ]
                  refine wpAnyH_take (i := 9) (v := undef) rfl (by kernel_rfl) (by kernel_rfl) (by kernel_rfl) (fun _ _ _ h => h) (Or.inr ⟨by rfl, rfl⟩) hHeld ?_
                  try simp only [Act.put, List.getElem_toArray, List.getElem_cons_zero, List.getElem_cons_succ, List.setIfInBounds_toArray, List.set_cons_zero, List.set_cons_succ]
                  refine wpAnyH_take (i := 10) (v := undef) rfl (by kernel_rfl) (by kernel_rfl) (by kernel_rfl) (fun _ _ _ h => h) (Or.inr ⟨by rfl, rfl⟩) hHeld ?_
                  try simp only [Act.put, List.getElem_toArray, List.getElem_cons_zero, List.getElem_cons_succ, List.setIfInBounds_toArray, List.set_cons_zero, List.set_cons_succ]
                  refine wpAnyH_take (i := 11) (v := undef) rfl (by kernel_rfl) (by kernel_rfl) (by kernel_rfl) (fun _ _ _ h => h) (Or.inr ⟨by rfl, rfl⟩) hHeld ?_
                  try simp only [Act.put, List.getElem_toArray, List.getElem_cons_zero, List.getElem_cons_succ, List.setIfInBounds_toArray, List.set_cons_zero, List.set_cons_succ]
                  refine wpAnyH_take (i := 12) (v := undef) rfl (by kernel_rfl) (by kernel_rfl) (by kernel_rfl) (fun _ _ _ h => h) (Or.inr ⟨by rfl, rfl⟩) hHeld ?_
                  try simp only [Act.put, List.getElem_toArray, List.getElem_cons_zero, List.getElem_cons_succ, List.setIfInBounds_toArray, List.set_cons_zero, List.set_cons_succ]
                  refine wpAnyH_take (i := 13) (v := undef) rfl (by kernel_rfl) (by kernel_rfl) (by kernel_rfl) (fun _ _ _ h => h) (Or.inr ⟨by rfl, rfl⟩) hHeld ?_
                  try simp only [Act.put, List.getElem_toArray, List.getElem_cons_zero, List.getElem_cons_succ, List.setIfInBounds_toArray, List.set_cons_zero, List.set_cons_succ]
                  refine wpAnyH_take (i := 14) (v := undef) rfl (by kernel_rfl) (by kernel_rfl) (by kernel_rfl) (fun _ _ _ h => h) (Or.inr ⟨by rfl, rfl⟩) hHeld ?_
                  try simp only [Act.put, List.getElem_toArray, List.getElem_cons_zero, List.getElem_cons_succ, List.setIfInBounds_toArray, List.set_cons_zero, List.set_cons_succ]
                  refine wpAnyH_take (i := 15) (v := .bool true) rfl (by kernel_rfl) (by kernel_rfl) (by kernel_rfl) (fun _ _ _ h => h) (Or.inl ⟨by rfl, fun w hS => by first | (go_simp; done) | (go_simp; with_reducible rfl)⟩) hHeld ?_
                  try simp only [Act.put, List.getElem_toArray, List.getElem_cons_zero, List.getElem_cons_succ, List.setIfInBounds_toArray, List.set_cons_zero, List.set_cons_succ]
                  refine wpAnyH_take (i := 16) (v := .bool true) rfl (by kernel_rfl) (by kernel_rfl) (by kernel_rfl) (fun _ _ _ h => h) (Or.inl ⟨by rfl, fun w hS => by first | (go_simp; done) | (go_simp; with_reducible rfl)⟩) hHeld ?_
                  try simp only [Act.put, List.getElem_toArray, List.getElem_cons_zero, List.getElem_cons_succ, List.setIfInBounds_toArray, List.set_cons_zero, List.set_cons_succ]
                  refine wpAnyH_done (by kernel_rfl) ?_ _
                  go_wp2_with fail
                  go_ret
                  exact ⟨by rw [HBR.out]; rfl, ka⟩
              · have HBR := Lib.hid (HNE.out hp12)
                have hxy : ((x1 == y1) && (x2 == y2)) = false := by
                  rw [Bool.and_eq_false_iff, beq_eq_false_iff_ne, beq_eq_false_iff_ne]
                  by_cases e1 : x1 = y1
                  · exact .inr (fun e2 => hp12 ⟨e1, e2⟩)
                  · exact .inl e1
                rw [hxy] at heq
                clear hp12 hxy
                go_wp2_with (first
                  | (refine load_wt (by rfl) 35 (.tmp 6) rfl gx 0 rfl (bv (x1 ++ x2)) _ rx Tryd.underlying35 rfl (isz35s HLx.out) ?_)
                  | (refine load_wt (by rfl) 35 (.tmp 7) rfl gy 0 rfl (bv (y1 ++ y2)) _ ry Tryd.underlying35 rfl (isz35s HLy.out) ?_)
                  | fail)
                have k0 : Below w.heap.size w wy.drew := KY.out.drew
                have j0 : Below wy.heap.size wy wy.drew := (Below.refl _ wy).drew
                have hen := HEN.out
                have KP : Hid (∀ W, Below wy.heap.size wy W → Below w.heap.size w W ∧ W.rangeAt gx 0 (bv x1) ∧ W.rangeAt gx 32 (bv x2) ∧ W.rangeAt gy 0 (bv y1) ∧ W.rangeAt gy 32 (bv y2)) := Lib.hid fun W hb =>
                  ⟨KY.out.trans (hb.mono KY.out.size), range_below rx1 hb hgxl, range_below rx2 hb hgxl, range_below ry1 hb hgyl, range_below ry2 hb hgyl⟩
                generalize (nodeS x1 x2 == nodeS y1 y2) = bn at *
                refine wp_region_held_drew (S := (fun W => Below wy.heap.size wy W)) (by kernel_rfl) (j0) (fun hHeld => ?_)
                refine wpAnyH_take (i := 0) (v := .pointer (some ⟨gx, 0, none⟩)) rfl (by kernel_rfl) (by kernel_rfl) (by kernel_rfl) (fun _ _ _ h => h) (Or.inl ⟨by rfl, fun w hS => by first | (go_simp; done) | (go_simp; with_reducible rfl)⟩) hHeld ?_
                try simp only [Act.put, List.getElem_toArray, List.getElem_cons_zero, List.setIfInBounds_toArray, List.set_cons_zero, List.set_cons_succ]
                refine wpAnyH_take (i := 1) (v := _) rfl (by kernel_rfl) (by kernel_rfl) (by kernel_rfl) (fun _ _ _ h => h) (yieldsIf_load_mid (by rfl) 22 (.tmp 40) rfl gx 0 rfl (bv x1) _ (fun w h => (KP.out w h).2.1) Tryd.underlying22 rfl (isz26s Hx1.out)) hHeld ?_
                try simp only [Act.put, List.getElem_toArray, List.getElem_cons_zero, List.getElem_cons_succ, List.setIfInBounds_toArray, List.set_cons_zero, List.set_cons_succ]
                refine wpAnyH_take (i := 2) (v := .pointer (some ⟨gx, 32, none⟩)) rfl (by kernel_rfl) (by kernel_rfl) (by kernel_rfl) (fun _ _ _ h => h) (Or.inl ⟨by rfl, fun w hS => by first | (go_simp; done) | (go_simp; with_reducible rfl)⟩) hHeld ?_
                try simp only [Act.put, List.getElem_toArray, List.getElem_cons_zero, List.getElem_cons_succ, List.setIfInBounds_toArray, List.set_cons_zero, List.set_cons_succ]
                refine wpAnyH_take (i := 3) (v := _) rfl (by kernel_rfl) (by kernel_rfl) (by kernel_rfl) (fun _ _ _ h => h) (yieldsIf_load_mid (by rfl) 22 (.tmp 42) rfl gx 32 rfl (bv x2) _ (fun w h => (KP.out w h).2.2.1) Tryd.underlying22 rfl (isz26s Hx2.out)) hHeld ?_
                try simp only [Act.put, List.getElem_toArray, List.getElem_cons_zero, List.getElem_cons_succ, List.setIfInBounds_toArray, List.set_cons_zero, List.set_cons_succ]
                refine wpAnyH_take (i := 5) (v := .pointer (some ⟨gy, 0, none⟩)) rfl (by kernel_rfl) (by kernel_rfl) (by kernel_rfl) (fun _ _ _ h => h) (Or.inl ⟨by rfl, fun w hS => by first | (go_simp; done) | (go_simp; with_reducible rfl)⟩) hHeld ?_
                try simp only [Act.put, List.getElem_toArray, List.getElem_cons_zero, List.getElem_cons_succ, List.setIfInBounds_toArray, List.set_cons_zero, List.set_cons_succ]
                refine wpAnyH_take (i := 6) (v := _) rfl (by kernel_rfl) (by kernel_rfl) (by kernel_rfl) (fun _ _ _ h => h) (yieldsIf_load_mid (by rfl) 22 (.tmp 45) rfl gy 0 rfl (bv y1) _ (fun w h => (KP.out w h).2.2.2.1) Tryd.underlying22 rfl (isz26s Hy1.out)) hHeld ?_
                try simp only [Act.put, List.getElem_toArray, List.getElem_cons_zero, List.getElem_cons_succ, List.setIfInBounds_toArray, List.set_cons_zero, List.set_cons_succ]
                refine wpAnyH_take (i := 7) (v := .pointer (some ⟨gy, 32, none⟩)) rfl (by kernel_rfl) (by kernel_rfl) (by kernel_rfl) (fun _ _ _ h => h) (Or.inl ⟨by rfl, fun w hS => by first | (go_simp; done) | (go_simp; with_reducible rfl)⟩) hHeld ?_
                try simp only [Act.put, List.getElem_toArray, List.getElem_cons_zero, List.getElem_cons_succ, List.setIfInBounds_toArray, List.set_cons_zero, List.set_cons_succ]
                refine wpAnyH_take (i := 8) (v := _) rfl (by kernel_rfl) (by kernel_rfl) (by kernel_rfl) (fun _ _ _ h => h) (yieldsIf_load_mid (by rfl) 22 (.tmp 47) rfl gy 32 rfl (bv y2) _ (fun w h => (KP.out w h).2.2.2.2) Tryd.underlying22 rfl (isz26s Hy2.out)) hHeld ?_
                try simp only [Act.put, List.getElem_toArray, List.getElem_cons_zero, List.getElem_cons_succ, List.setIfInBounds_toArray, List.set_cons_zero, List.set_cons_succ]
                refine wpAnyH_ready (rs := [4]) (by kernel_rfl) (by simp) ?_
                refine AllReadyH.cons rfl (fun K hK => ?_) AllReadyH.nil
                go_simp
                go_wp2_with (go_at_call 22; refine (HNX.out _).mono ?_; rintro e wa ⟨rfl, hba⟩; have ja := j0.trans (hba.mono j0.size))
                refine hK.out _ _ ?_ (fun hHeld => ?_)
                · exact ja
                clear hK K
                try simp only [Act.put, List.getElem_toArray, List.getElem_cons_zero, List.getElem_cons_succ, List.setIfInBounds_toArray, List.set_cons_zero, List.set_cons_succ]
                refine wpAnyH_ready (rs := [9]) (by kernel_rfl) (by simp) ?_
                refine AllReadyH.cons rfl (fun K hK => ?_) AllReadyH.nil
                go_simp
                go_wp2_with (go_at_call 22; refine (HNY.out _).mono ?_; rintro e wb ⟨rfl, hbb⟩; have jb := ja.trans (hbb.mono ja.size))
                refine hK.out _ _ ?_ (fun hHeld => ?_)
                · exact jb
                clear hK K
                try simp only [Act.put, List.getElem_toArray, List.getElem_cons_zero, List.getElem_cons_succ, List.setIfInBounds_toArray, List.set_cons_zero, List.set_cons_succ]
                refine wpAnyH_take (i := 10) (v := .bool bn) rfl (by kernel_rfl) (by kernel_rfl) (by kernel_rfl) (fun _ _ _ h => h) (Or.inl ⟨by rfl, fun w hS => by first | (go_simp; done) | (go_simp; with_reducible rfl)⟩) hHeld ?_
                try simp only [Act.put, List.getElem_toArray, List.getElem_cons_zero, List.getElem_cons_succ, List.setIfInBounds_toArray, List.set_cons_zero, List.set_cons_succ]
                refine wpAnyH_take (i := 11) (v := .bool bn) rfl (by kernel_rfl) (by kernel_rfl) (by kernel_rfl) (fun _ _ _ h => h) (Or.inl ⟨by rfl, fun w hS => by first | (go_simp; done) | (go_simp; with_reducible rfl)⟩) hHeld ?_
                try simp only [Act.put, List.getElem_toArray, List.getElem_cons_zero, List.getElem_cons_succ, List.setIfInBounds_toArray, List.set_cons_zero, List.set_cons_succ]
                refine wpAnyH_done (by kernel_rfl) ?_ _
                go_wp2_with fail
                go_ret
                exact ⟨by rw [HBR.out]; rfl, (KP.out _ jb).1⟩
    · have n2 : (n : Int) < 2 := by omega
      have HF : Hid (apartB L M = false) := Lib.hid (apartB_few (by rw [hn]; exact h2))
      clear h h' hn hn'
      go_enter Tryd.func38, Tryd.ntmps38
      go_wp2_with fail
      go_ret
      exact ⟨by rw [HF.out]; rfl, Below.refl _ _⟩
end Go.Proofs.YtfgdochpnnkpmaaDoor
