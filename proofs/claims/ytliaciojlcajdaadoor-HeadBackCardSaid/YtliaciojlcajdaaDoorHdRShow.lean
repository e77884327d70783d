/- The document's Show. Conditions: as stated at each. -/
import Derived.Test.YtliaciojlcajdaaDoorHdShow
namespace Go.Proofs.YtliaciojlcajdaaDoor
set_option maxRecDepth 100000
namespace Hd
open Go.RowKit Go Go.Proofs.YtliaciojlcajdaaDoor.Pa
theorem lapp5b {ops : Array Oper} {o : Oper} {rest : List Oper} {a : Act} {w : World} {Q : Exit → Act → World → Prop} (s x : Operand)
    (ho : o.op = .call { callee := .builtin .append, args := #[s, x], argTypes := #[22, 22] }) (hgd : o.guard = none)
    {N : Nat} {v : Value} {l m : List UInt8} {n : Nat} (hs : a.eval s = v) (hown : Own5 w N v l)
    {B : Nat} {A : Option Addr} {c : Nat} (hx : a.eval x = .slice A n c) (hl : m.length = n) (hr : Bts w B A m) (h63 : l.length + n ≤ 1000000000) (hN : N ≤ w.heap.size)
    (h : ∀ v' w', Own5 w' N v' (l ++ m) → w.grownBy w' v.ownBlock → wpList Tryd.prog ops Q rest (a.put o.dst v') w') : wpList Tryd.prog ops Q (o :: rest) a w := by
  refine wpList_plain hgd fun K hK => ?_
  subst hl
  obtain ⟨v', w', hrun, h2, h3⟩ := run_app5b o.type hown hr h63 hN (c := c)
  unfold Oper.wp execOp
  simp only [ho, resolve, invoke, builtin, Sem.run_bind, Sem.run_pure, Result.andThen_ok, List.map_toArray, List.map_cons, List.map_nil, hs, hx, hrun]
  exact hK _ _ (h v' w' h2 h3)
set_option maxHeartbeats 3200000 in
theorem rshow_any {w : World} {A : Option Addr} {fs : List F} (h : Prs w w.heap.size A (fv fs)) (n c : Nat) (hn : fs.length = n) (hl : n ≤ 20 ∨ n = 1001) (hsm : ∀ f ∈ fs, small f) :
    Calls Tryd.prog 14 #[.slice A n c] w (ShowP w fs n) := by
  have HEL := Lib.hid (els_of h hn)
  have HNA : Hid (∀ k, k < n → ∀ X, Calls Tryd.prog 19 #[.string (str (fs.getD k ([], [])).1)] X fun e w' => e = .returned (.bool (nameS (fs.getD k ([], [])).1)) ∧ X = w') := Lib.hid fun k hk X => by
    have := (hsm _ (getD_in (fs := fs) (k := k) (by omega))).1
    exact rname_any _ X (by omega)
  have HPL : Hid (∀ k, k < n → ∀ X, Calls Tryd.prog 31 #[.string (str (fs.getD k ([], [])).2)] X fun e w' => e = .returned (.bool (plainS (fs.getD k ([], [])).2)) ∧ X = w') := Lib.hid fun k hk X => by
    have := (hsm _ (getD_in (fs := fs) (k := k) (by omega))).2
    exact rplain_any _ X (by omega)
  have HMEM : Hid (∀ k, k < n → fs.getD k ([], []) ∈ fs) := Lib.hid fun k hk => getD_in (by omega)
  have HALL : Hid ((∀ j, j < n → okF (fs.getD j ([], [])) = true) → ∀ f ∈ fs, okF f = true) := Lib.hid fun hk f hf => by
    obtain ⟨i, hi, rfl⟩ := List.mem_iff_getElem.1 hf
    have := hk i (by omega)
    simpa [List.getD, hi] using this
  have HSH : Hid (∀ k, k < n → shownL (fs.take (k + 1)) = shownL (fs.take k) ++ lineL (fs.getD k ([], []))) := Lib.hid fun k hk => shownL_take (by omega)
  have HLE : Hid (∀ k, (shownL (fs.take k)).length ≤ 504 * k) := Lib.hid fun k => by rw [shownL_len]; exact sizeL_le hsm k
  have HEND : Hid (shownL (fs.take n) = shownL fs) := Lib.hid (by rw [List.take_of_length_le (by omega)])
  have hl1 : n ≤ 1001 := by omega
  clear h hn
  go_enter Tryd.func14, Tryd.ntmps14
  go_wp2_with fail
  go_loopw [5, 14] (fun _ i wr => ∃ k : Nat, k ≤ n ∧ i = .int .i64 k ∧ (∀ j, j < k → okF (fs.getD j ([], [])) = true) ∧ Below w.heap.size w wr) (fun _ i _ => n - (intOf i).toNat)
  case atStart => exact ⟨0, Nat.zero_le _, rfl, fun j hj => absurd hj (Nat.not_lt_zero _), Below.refl _ _⟩
  case round =>
    obtain ⟨k, hk, rfl, hok, hbel⟩ := hrel
    by_cases hlt : k < n
    · obtain ⟨g, o, rfl, hall⟩ := HEL.out k hlt
      obtain ⟨y0, y1⟩ := hall wr hbel
      have HN := Lib.hid (HNA.out k hlt)
      have HP := Lib.hid (HPL.out k hlt)
      have HBAD : Hid (okF (fs.getD k ([], [])) = false → ∃ f ∈ fs, okF f = false) := Lib.hid fun e => ⟨_, HMEM.out k hlt, e⟩
      have HF := Lib.hid (hbel.trans ((belowA wr (.cells #[.string (str (fs.getD k ([], [])).1), .string (str (fs.getD k ([], [])).2)] 47)).mono hbel.size))
      have HOKJ := Lib.hid hok
      clear hall hbel hok
      obtain ⟨nb, hnb⟩ : ∃ x, x = nameS (fs.getD k ([], [])).1 := ⟨_, rfl⟩
      obtain ⟨pb, hpb⟩ : ∃ x, x = plainS (fs.getD k ([], [])).2 := ⟨_, rfl⟩
      have HOK : Hid (okF (fs.getD k ([], [])) = (nb && pb)) := Lib.hid (by unfold okF; rw [hnb, hpb])
      rw [← hnb] at HN
      rw [← hpb] at HP
      clear hnb hpb
      generalize str (fs.getD k ([], [])).1 = s0 at *
      generalize str (fs.getD k ([], [])).2 = s1 at *
      cases nb with
      | false =>
        have HB := Lib.hid (HBAD.out (by rw [HOK.out]; rfl))
        go_wp2_with (first
          | (go_at_call 19; refine (HN.out _).mono ?_; rintro e w' ⟨rfl, rfl⟩)
          | fail)
        refine bodyPost_ret (results_tmp2 rfl _ _ _) rfl ?_
        exact ⟨HF.out, .inr (.inl ⟨rfl, HB.out⟩)⟩
      | true =>
        cases pb with
        | false =>
          have HB := Lib.hid (HBAD.out (by rw [HOK.out]; rfl))
          go_wp2_with (first
            | (go_at_call 19; refine (HN.out _).mono ?_; rintro e w' ⟨rfl, rfl⟩)
            | (go_at_call 31; refine (HP.out _).mono ?_; rintro e w' ⟨rfl, rfl⟩)
            | fail)
          refine bodyPost_ret (results_tmp2 rfl _ _ _) rfl ?_
          exact ⟨HF.out, .inr (.inl ⟨rfl, HB.out⟩)⟩
        | true =>
          go_wp2_with (first
            | (go_at_call 19; refine (HN.out _).mono ?_; rintro e w' ⟨rfl, rfl⟩)
            | (go_at_call 31; refine (HP.out _).mono ?_; rintro e w' ⟨rfl, rfl⟩)
            | fail)
          go_roundw
          case rel =>
            refine ⟨k + 1, by omega, by go_num, fun j hj => ?_, HF.out⟩
            rcases Nat.lt_or_ge j k with h | h
            · exact HOKJ.out j h
            · obtain rfl : j = k := by omega
              rw [HOK.out]
              rfl
          case measure => simp [intOf]; omega
    · have hkn : k = n := by omega
      subst hkn
      have HOK := Lib.hid (HALL.out hok)
      have HB0 := Lib.hid hbel
      clear hok hbel hlt
      rcases hl with hn20 | hn1001
      · have hn3 : ¬ (1000 : Int) < k := by omega
        clear HNA HPL HALL
        go_wp2_with fail
        go_loopw [6, 8, 34] (fun x6 _ i wr => ∃ j m : Nat, j ≤ k ∧ i = .int .i64 j ∧ x6 = .int .i64 m ∧ m ≤ 2 + 504 * j ∧ Below w.heap.size w wr) (fun _ _ i _ => k - (intOf i).toNat)
        case atStart => exact ⟨0, 2, Nat.zero_le _, rfl, rfl, by omega, HB0.out⟩
        case round =>
          obtain ⟨j, m, hj, rfl, rfl, hm, hbel⟩ := hrel
          by_cases hlt : j < k
          · obtain ⟨g, o, rfl, hall⟩ := HEL.out j hlt
            obtain ⟨y0, y1⟩ := hall _ hbel
            obtain ⟨hs0, hs1⟩ := hsm _ (HMEM.out j hlt)
            have hz1 := str_size (fs.getD j ([], [])).1
            have hz2 := str_size (fs.getD j ([], [])).2
            have hb0 : (str (fs.getD j ([], [])).1).size ≤ 200 := by omega
            have hb1 : (str (fs.getD j ([], [])).2).size ≤ 300 := by omega
            have HF := Lib.hid (hbel.trans ((belowA wr (.cells #[.string (str (fs.getD j ([], [])).1), .string (str (fs.getD j ([], [])).2)] 47)).mono hbel.size))
            have HMJ := Lib.hid hm
            have hm3 : (m : Int) ≤ 20000 := by omega
            clear hall hbel hz1 hz2 hs0 hs1 hm
            generalize str (fs.getD j ([], [])).1 = s0 at *
            generalize str (fs.getD j ([], [])).2 = s1 at *
            obtain ⟨a0, ha0⟩ : ∃ a, a = s0.size := ⟨_, rfl⟩
            have hgt : (m : Int) + ((s0.size : Int) + (s1.size : Int) + 4) ≤ 100000 := by omega
            have hgt2 : ¬ (100000 : Int) < (m : Int) + ((s0.size : Int) + (s1.size : Int) + 4) := by omega
            clear ha0 a0
            go_wp2_with fail
            go_roundw
            case rel => exact ⟨j + 1, m + (s0.size + s1.size + 4), by omega, by go_num, by go_num, by have := HMJ.out; omega, HF.out⟩
            case measure => simp [intOf]; omega
          · have HB1 := Lib.hid hbel
            clear hbel hm
            go_wp2_with fail
            go_loopw [9, 11, 53] (fun x9 _ i wr => ∃ j : Nat, j ≤ k ∧ i = .int .i64 j ∧ Own5 wr w.heap.size x9 (shownL (fs.take j)) ∧ Below w.heap.size w wr) (fun _ _ i _ => k - (intOf i).toNat)
            case atStart => exact ⟨0, Nat.zero_le _, rfl, World.ownsRow_nil _ _ _ _, HB1.out⟩
            case round =>
              obtain ⟨j, hj, rfl, hown, hbel⟩ := hrel
              obtain ⟨A6, c6, rfl, hc6, hm6⟩ := own5_len hown
              by_cases hlt : j < k
              · obtain ⟨g, o, rfl, hall⟩ := HEL.out j hlt
                obtain ⟨y0, y1⟩ := hall _ hbel
                have hss := HLE.out j
                obtain ⟨hs0, hs1⟩ := hsm _ (HMEM.out j hlt)
                have hz1 := str_size (fs.getD j ([], [])).1
                have hz2 := str_size (fs.getD j ([], [])).2
                have hb0 : (str (fs.getD j ([], [])).1).size ≤ 200 := by omega
                have hb1 : (str (fs.getD j ([], [])).2).size ≤ 300 := by omega
                have hll := lineL_len (fs.getD j ([], []))
                have hO1 : Own5 (wr.alloc (.cells #[.string (str (fs.getD j ([], [])).1), .string (str (fs.getD j ([], [])).2)] 47)) w.heap.size (.slice A6 (shownL (fs.take j)).length c6) (shownL (fs.take j)) := own_kept2 hown (belowA wr _) (Nat.le_refl _)
                have HO1 := Lib.hid hO1
                have hbA := hbel.trans ((belowA wr (.cells #[.string (str (fs.getD j ([], [])).1), .string (str (fs.getD j ([], [])).2)] 47)).mono hbel.size)
                have HBA := Lib.hid hbA
                have hNA := hbA.size
                have HST := Lib.hid (str_line (fs.getD j ([], [])))
                have h63 : (shownL (fs.take j)).length + (lineL (fs.getD j ([], []))).length ≤ 1000000000 := by omega
                have HSK := Lib.hid (HSH.out j hlt)
                have hlow := fun b hb => (hO1.lt b hb).1
                clear hall hown hbel hz1 hz2 hs0 hs1 hss hll hbA hO1
                generalize lineL (fs.getD j ([], [])) = ln at *
                generalize str (fs.getD j ([], [])).1 = s0 at *
                generalize str (fs.getD j ([], [])).2 = s1 at *
                generalize shownL (fs.take j) = sh at *
                go_wp2_with (first
                  | (refine lapp5s (.tmp 57) (.tmp 64) rfl rfl rfl HO1.out rfl HST.out h63 hNA ?_; intro v6 w6 ho6 hg6)
                  | fail)
                have HF : Hid (Own5 w6 w.heap.size v6 (shownL (fs.take (j + 1))) ∧ Below w.heap.size w w6) := Lib.hid ⟨by rw [HSK.out]; exact ho6, HBA.out.grown hg6 hNA hlow⟩
                go_roundw
                case rel => exact ⟨j + 1, by omega, by go_num, HF.out⟩
                case measure => simp [intOf]; omega
              · have hjk : j = k := by omega
                subst hjk
                rw [HEND.out] at hown
                have hss := HLE.out j
                rw [HEND.out] at hss
                have ha := belowA wr (.cells #[.int .u8 13, .int .u8 10] 5)
                have hbA := hbel.trans (ha.mono hbel.size)
                have hN := hbA.size
                have hO1 := own_kept2 hown ha (Nat.le_refl _)
                have HO1 := Lib.hid hO1
                have HBA := Lib.hid hbA
                have HBT : Hid (Bts (wr.alloc (.cells #[.int .u8 13, .int .u8 10] 5)) (wr.heap.size + 1) (some ⟨wr.heap.size, 0, none⟩) [13, 10]) := Lib.hid (Bts.newm wr [13, 10] _ _ rfl)
                have h63 : (shownL fs).length + 2 ≤ 1000000000 := by omega
                have HLW := Lib.hid fun b hb => (hO1.lt b hb).1
                rw [HEND.out]
                clear hown hbel hss ha hbA hO1
                go_wp2_with (first
                  | (refine lapp5b (.tmp 67) (.tmp 68) rfl rfl rfl HO1.out rfl (m := [13, 10]) rfl HBT.out h63 hN ?_; intro v6 w6 ho6 hg6)
                  | fail)
                refine bodyPost_ret (results_tmp2 rfl _ _ _) rfl ?_
                exact ⟨HBA.out.grown hg6 hN HLW.out, .inl ⟨_, rfl, hn20, HOK.out, ho6⟩⟩
      · have hn3 : (1000 : Int) < k := by omega
        have HN1 := Lib.hid hn1001
        clear hn1001
        go_wp2_with fail
        refine bodyPost_ret (results_tmp2 rfl _ _ _) rfl ?_
        exact ⟨HB0.out, .inr (.inr ⟨rfl, HN1.out, HOK.out⟩)⟩
end Hd
end Go.Proofs.YtliaciojlcajdaaDoor
