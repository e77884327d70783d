/- The walks of TokenTerms, TokenJoined, TokenFolds. Conditions: as stated at each. -/
import Derived.Test.YtbhkppleomnjjaaTkLaws
namespace Go.Proofs.Ytbhkppleomnjjaa
set_option maxRecDepth 100000
namespace Tk
open Go.RowKit Go.Shelf Go Go.Proofs.Ytbhkppleomnjjaa.Pa
theorem hBRset {w X : World} {g : Nat} (h : Below w.heap.size w X) (hg : w.heap.size ≤ g) (k : Nat) (u : Value) : Below w.heap.size w (X.setCell ⟨g, k, none⟩ u) := h.setCell (show w.heap.size ≤ (⟨g, k, none⟩ : Addr).block from hg) u
theorem str_of (s : ByteArray) : s = str s.data.toList := by simp [str]
section
variable {w : World} {A : Option Addr} {l : L}
set_option maxHeartbeats 1600000 in
theorem lterms_any (s : L) (h : Bts w w.heap.size A l) (c : Nat) (hc : l.length ≤ c) (hm : c ≤ maxLen) :
    Calls Try.prog 5 #[.string (str s), .slice A l.length c] w fun e w' => e = .returned (.bool true) ∧ Below w.heap.size w w' := by
  have HAW := Lib.hid (awake12 w)
  have HB := args_keep h
  have H1 : Hid (∀ X, Below w.heap.size w X → l.length ≤ 2000 → Calls Try.prog 10 #[.slice A l.length c] X (OutT X (wordsS l))) := Lib.hid fun X hX hl => words_any (HB X hX) c hc hm (by omega)
  have HT : Hid (∀ X, s.length ≤ 200 → Calls Try.prog 14 #[.string (str s)] X fun e w' => e = .returned (.bool (termS s)) ∧ Below X.heap.size X w') := Lib.hid fun X hl => term_any s X (by omega)
  have HR : Hid (∀ X, s.length ≤ 200 → Calls Try.prog 15 #[.string (str s)] X fun e w' => e = .returned (.bool (termS s)) ∧ X = w') := Lib.hid fun X hl => rterm_any s X (by omega)
  have HW : Hid (∀ X k, k < (wordsS l).length → Calls Try.prog 14 #[.string (str ((wordsS l).getD k []))] X fun e w' => e = .returned (.bool true) ∧ Below X.heap.size X w') := Lib.hid fun X k hk => by
    have hmem : (wordsS l).getD k [] ∈ wordsS l := by simp [List.getD, hk]
    have := term_any ((wordsS l).getD k []) X (by have := words_short hmem; omega)
    rw [words_term hmem] at this
    exact this
  have HL : Hid (l.length ≤ 2000 → (wordsS l).length ≤ 2000) := Lib.hid fun hl => by have := words_len l; omega
  have hsz := str_size s
  clear h hc hm HB
  generalize hws : wordsS l = ws at *
  clear hws
  generalize l.length = n at *
  generalize s.length = m at *
  generalize termS s = tm at *
  generalize str s = t at *
  go_enter Try.func5, Try.ntmps5
  go_wp2_with fail
  refine HAW.out.mono ?_
  rintro e w1 ⟨rfl, b1⟩
  have B1 := Lib.hid b1
  clear b1 HAW
  by_cases hl : m ≤ 200
  · have hl2 : ¬ (200 : Int) < (m : Int) := by omega
    by_cases hn : n ≤ 2000
    · have hn2 : ¬ (2000 : Int) < (n : Int) := by omega
      have hne : (tm != tm) = false := by cases tm <;> rfl
      go_wp2_with fail
      refine (HT.out w1 hl).mono ?_
      rintro e w2 ⟨rfl, hb2⟩
      have B2 := Lib.hid (B1.out.trans (hb2.mono B1.out.size))
      clear hb2
      go_wp2_with fail
      refine (HR.out w2 hl).mono ?_
      rintro e w3 ⟨rfl, rfl⟩
      go_wp2_with fail
      refine (H1.out w2 B2.out hn).mono ?_
      rintro e w4 ⟨v4, rfl, ho4, hb4⟩
      obtain ⟨A4, k4, c4, rfl⟩ := ownT_letters ho4
      obtain rfl := lens_same ho4
      have hk4 := HL.out hn
      have B4 := Lib.hid (B2.out.trans (hb4.mono B2.out.size))
      have HEL : Hid (∀ k, k < ws.length → ∃ g o, A4 = some ⟨g, o, none⟩ ∧ g < w4.heap.size ∧ ∀ X, Below w4.heap.size w4 X → X.cell? ⟨g, o + k, none⟩ = some (.string (str (ws.getD k [])))) := Lib.hid ho4.tx.els
      have HB0 : Hid (Below w4.heap.size w4 w4) := Lib.hid (Below.refl _ _)
      clear ho4 hb4
      generalize ws.length = q at *
      go_wp2_with fail
      go_loopw [6, 35] (fun _ i wr => ∃ k : Nat, k ≤ q ∧ i = .int .i64 k ∧ Hid (Below w4.heap.size w4 wr)) (fun _ i _ => q - (intOf i).toNat)
      case atStart => exact ⟨0, Nat.zero_le _, rfl, HB0⟩
      case round =>
        obtain ⟨k, hk, rfl, HBR⟩ := hrel
        by_cases hlt : k < q
        · obtain ⟨g, o, rfl, hg, hall⟩ := HEL.out k hlt
          have y0 := hall wr HBR.out
          have hgr : g < wr.heap.size := World.block_lt_of_cell? wr _ y0
          have HC := Lib.hid (HW.out wr k hlt)
          clear hall
          generalize str (ws.getD k []) = s0 at *
          go_wp2_with fail
          refine HC.out.mono ?_
          rintro e w5 ⟨rfl, hb5⟩
          have HB5 := Lib.hid (HBR.out.trans (hb5.mono HBR.out.size))
          clear hb5
          go_wp2_with fail
          go_roundw
          case rel => exact ⟨k + 1, by omega, by go_num, HB5⟩
          case measure => simp [intOf]; omega
        · obtain rfl : k = q := by omega
          go_wp2_with fail
          go_ret
          exact ⟨rfl, B4.out.trans (HBR.out.mono B4.out.size)⟩
    · have hn2 : (2000 : Int) < (n : Int) := by omega
      go_wp2_with fail
      go_ret
      exact ⟨rfl, B1.out⟩
  · have hl2 : (200 : Int) < (m : Int) := by omega
    go_wp2_with fail
    go_ret
    exact ⟨rfl, B1.out⟩
theorem lterms_s (s : ByteArray) (h : Bts w w.heap.size A l) (c : Nat) (hc : l.length ≤ c) (hm : c ≤ maxLen) :
    Calls Try.prog 5 #[.string s, .slice A l.length c] w fun e w' => e = .returned (.bool true) ∧ Below w.heap.size w w' := by
  rw [str_of s]
  exact lterms_any _ h c hc hm
/-- the first k made great. -/
def upK (k : Nat) (l : L) : L := (l.take k).map upB ++ l.drop k
theorem upK_length (k : Nat) (l : L) : (upK k l).length = l.length := by unfold upK; rw [List.length_append, List.length_map, List.length_take, List.length_drop]; omega
theorem upK_zero (l : L) : upK 0 l = l := by simp [upK]
theorem upK_full (l : L) : upK l.length l = l.map upB := by simp [upK]
theorem upK_get {k : Nat} {l : L} (h : k < l.length) : (upK k l).getD k 0 = l.getD k 0 := by
  unfold upK
  simp only [List.getD]
  rw [List.getElem?_append_right (by rw [List.length_map, List.length_take]; omega), List.length_map, List.length_take, Nat.min_eq_left (by omega), Nat.sub_self, List.getElem?_drop]
  simp
theorem upK_next {k : Nat} {l : L} (h : k < l.length) : (upK k l).set k (upB (l.getD k 0)) = upK (k + 1) l := by
  unfold upK
  have hl : ((l.take k).map upB).length = k := by rw [List.length_map, List.length_take]; omega
  rw [List.set_append_right k _ (by omega), hl, Nat.sub_self, List.drop_eq_getElem_cons h, List.take_succ_eq_append_getElem h, List.map_append]
  simp only [List.getD, List.getElem?_eq_getElem h, Option.getD_some, List.set_cons_zero, List.map_cons, List.map_nil, List.append_assoc, List.cons_append, List.nil_append]
theorem upK_same {k : Nat} {l : L} (h : k < l.length) (hu : upB (l.getD k 0) = l.getD k 0) : upK (k + 1) l = upK k l := by
  unfold upK
  rw [List.take_succ_eq_append_getElem h, List.map_append, List.drop_eq_getElem_cons h]
  simp only [List.getD, List.getElem?_eq_getElem h, Option.getD_some] at hu
  simp [hu]
theorem up_int (c : UInt8) : ((upB c).toNat : Int) = if (97 : Int) ≤ c.toNat ∧ (c.toNat : Int) ≤ 122 then (c.toNat : Int) - 32 else c.toNat := by
  rw [up_num]
  by_cases h : 97 ≤ c.toNat ∧ c.toNat ≤ 122
  · rw [if_pos h, if_pos (by omega)]; omega
  · rw [if_neg h, if_neg (by omega)]
theorem up_fix {c : UInt8} (h : ¬ ((97 : Int) ≤ c.toNat ∧ (c.toNat : Int) ≤ 122)) : upB c = c := by
  unfold upB; rw [if_neg (by omega)]
theorem own5_len {X : World} {N n c : Nat} {A : Option Addr} {l : L} (h : Own5 X N (.slice A n c) l) : n = l.length ∧ n ≤ c ∧ c ≤ maxLen := by
  obtain ⟨A', c', e, h1, h2⟩ := own_slice h
  injection e with _ e2 e3
  subst e3
  exact ⟨e2, by omega, h2⟩
set_option maxHeartbeats 1600000 in
theorem lfolds_any (h : Bts w w.heap.size A l) (c : Nat) (hc : l.length ≤ c) (hm : c ≤ maxLen) :
    Calls Try.prog 7 #[.slice A l.length c] w fun e w' => e = .returned (.bool true) ∧ Below w.heap.size w w' := by
  have HAW := Lib.hid (awake12 w)
  have HB := args_keep h
  have HBB := Lib.hid HB
  have H1 : Hid (∀ X, Below w.heap.size w X → l.length ≤ 2000 → Calls Try.prog 10 #[.slice A l.length c] X (OutT X (wordsS l))) := Lib.hid fun X hX hl => words_any (HB X hX) c hc hm (by omega)
  have H2 : Hid (∀ X, Below w.heap.size w X → l.length ≤ 2000 → Calls Try.prog 12 #[.slice A l.length c] X (OutT X (sortS (wordsS l)))) := Lib.hid fun X hX hl => set_any (HB X hX) c hc hm (by omega)
  have H3 : Hid (∀ (X Y : World) (N k c' : Nat) (A' : Option Addr), Own5 X N (.slice A' k c') (l.map upB) → Below X.heap.size X Y → l.length ≤ 2000 → Calls Try.prog 10 #[.slice A' k c'] Y (OutT Y (wordsS l))) := Lib.hid fun X Y N k c' A' ho hb hl => by
    obtain ⟨e1, e2, e3⟩ := own5_len ho
    have := words_any (((Own5.bts ho).below hb).more hb.size) c' (by rw [← e1]; exact e2) e3 (by rw [List.length_map]; omega)
    rw [← e1, words_up] at this
    exact this
  have H4 : Hid (∀ (X Y : World) (N k c' : Nat) (A' : Option Addr), Own5 X N (.slice A' k c') (l.map upB) → Below X.heap.size X Y → l.length ≤ 2000 → Calls Try.prog 12 #[.slice A' k c'] Y (OutT Y (sortS (wordsS l)))) := Lib.hid fun X Y N k c' A' ho hb hl => by
    obtain ⟨e1, e2, e3⟩ := own5_len ho
    have := set_any (((Own5.bts ho).below hb).more hb.size) c' (by rw [← e1]; exact e2) e3 (by rw [List.length_map]; omega)
    rw [← e1, words_up] at this
    exact this
  have HL : Hid (l.length ≤ 2000 → (wordsS l).length ≤ 1000000 ∧ (sortS (wordsS l)).length ≤ 1000000) := Lib.hid fun hl => by have := words_len l; have := sort_len (wordsS l); omega
  have HE : Hid (([] ++ l : L) = l) := Lib.hid rfl
  have HK0 := Lib.hid (upK_zero l)
  have HKF := Lib.hid (upK_full l)
  have HKL := Lib.hid (fun k => upK_length k l)
  have HKG := Lib.hid (fun k (hk : k < l.length) => upK_get hk)
  have HKN := Lib.hid (fun k (hk : k < l.length) => upK_next hk)
  have HKS := Lib.hid (fun k (hk : k < l.length) => upK_same hk)
  clear h hc hm HB
  generalize hn : l.length = n at *
  have HN := Lib.hid hn
  clear hn
  go_enter Try.func7, Try.ntmps7
  go_wp2_with fail
  refine HAW.out.mono ?_
  rintro e w1 ⟨rfl, b1⟩
  have B1 := Lib.hid b1
  have HZ := Lib.hid b1.size
  clear b1 HAW
  by_cases hl : n ≤ 2000
  · have hl2 : ¬ (2000 : Int) < (n : Int) := by omega
    go_wp2_with (first
      | (refine app5 (.const (.slice none 0 0)) (.tmp 11) rfl rfl w.heap.size (.slice none 0 0) [] l rfl (Own5.nil _ _) w1.heap.size A c (by rw [HN.out]; rfl) (HBB.out _ B1.out) (by simp; rw [HN.out]; omega) HZ.out ?_; intro v2 w2 h1 h2; rw [HE.out] at h1; have h1' : Own5 w2 w.heap.size v2 l := h1; obtain ⟨A2, c2, hv2, _, _⟩ := own_slice h1; rw [HN.out] at hv2; subst hv2; have HO2 : Hid (Own5 w2 w.heap.size (.slice A2 n c2) (upK 0 l)) := Lib.hid (by rw [HK0.out]; exact h1'); have B2 := Lib.hid (B1.out.grown h2 HZ.out (fun k hk => by cases hk)); clear h1 h2 h1')
      | fail)
    go_loopw [4, 5, 15] (fun _ _ i wr => ∃ k : Nat, k ≤ n ∧ i = .int .i64 k ∧ Hid (Own5 wr w.heap.size (.slice A2 n c2) (upK k l)) ∧ Hid (Below w.heap.size w wr)) (fun _ _ i _ => n - (intOf i).toNat)
    case atStart => exact ⟨0, Nat.zero_le _, rfl, HO2, B2⟩
    case round =>
      obtain ⟨k, hk, rfl, HO, HBR⟩ := hrel
      by_cases hlt : k < n
      · have hkl : k < (upK k l).length := by rw [HKL.out]; exact hlt
        obtain ⟨g, c3, hv3, hgN, hgl⟩ := own5_some HO.out (List.length_pos_iff.1 (by omega))
        injection hv3 with hA3 _ hc3
        subst hA3
        have hcell := own5_cell HO.out hkl
        have hf := own5_froz HO.out (HKL.out k).symm k
        rw [HKG.out k hlt] at hcell
        have hset := own5_set HO.out k (upB (l.getD k 0))
        rw [HKN.out k hlt] at hset
        have hui := up_int (l.getD k 0)
        have hfx := up_fix (c := l.getD k 0)
        have hsm := HKS.out k hlt
        have hcn := (l.getD k 0).toNat_lt
        have HBS := Lib.hid (fun u => hBRset HBR.out hgN k u)
        generalize hcc : l.getD k 0 = cc at *
        by_cases c1 : (97 : Int) ≤ cc.toNat
        · by_cases c2' : (cc.toNat : Int) ≤ 122
          · rw [if_pos ⟨c1, c2'⟩] at hui
            rw [hui] at hset
            have HSET := Lib.hid hset
            have hwr : IntKind.u8.wrap ((cc.toNat : Int) - 32) = (cc.toNat : Int) - 32 := IntWalk.u8_in _ (by omega)
            clear hset hui hfx hsm hcc
            generalize (cc.toNat : Int) = z at *
            go_wp2_with fail
            go_roundw
            case rel => exact ⟨k + 1, by omega, by go_num, HSET, Lib.hid (HBS.out _)⟩
            case measure => simp [intOf]; omega
          · have HSM := Lib.hid (hsm (hfx (fun h => c2' h.2)))
            clear hset hui hfx hsm hcc
            generalize (cc.toNat : Int) = z at *
            go_wp2_with fail
            go_roundw
            case rel => exact ⟨k + 1, by omega, by go_num, Lib.hid (by rw [HSM.out]; exact HO.out), HBR⟩
            case measure => simp [intOf]; omega
        · have HSM := Lib.hid (hsm (hfx (fun h => c1 h.1)))
          clear hset hui hfx hsm hcc
          generalize (cc.toNat : Int) = z at *
          go_wp2_with fail
          go_roundw
          case rel => exact ⟨k + 1, by omega, by go_num, Lib.hid (by rw [HSM.out]; exact HO.out), HBR⟩
          case measure => simp [intOf]; omega
      · obtain rfl : n = k := by omega
        have HOF : Hid (Own5 wr w.heap.size (.slice A2 n c2) (l.map upB)) := Lib.hid (by rw [← HKF.out]; exact HO.out)
        go_wp2_with fail
        refine (H3.out wr wr _ _ _ _ HOF.out (Below.refl _ _) hl).mono ?_
        rintro e w3 ⟨v3, rfl, ho3, hb3⟩
        obtain ⟨A3, k3, c3, rfl⟩ := ownT_letters ho3
        have B3 := Lib.hid (HBR.out.trans (hb3.mono HBR.out.size))
        have HO3 := Lib.hid ho3
        have HX3 := Lib.hid hb3
        clear ho3 hb3
        go_wp2_with fail
        refine (H1.out w3 B3.out hl).mono ?_
        rintro e w4 ⟨v4, rfl, ho4, hb4⟩
        obtain ⟨A4, k4, c4, rfl⟩ := ownT_letters ho4
        have B4 := Lib.hid (B3.out.trans (hb4.mono B3.out.size))
        have HX4 := Lib.hid (HX3.out.trans (hb4.mono HX3.out.size))
        have HSM := Lib.hid (same_own (HO3.out.below hb4) ho4 (HL.out hl).1)
        clear ho4 hb4
        go_wp2_with fail
        refine HSM.out.mono ?_
        rintro e w5 ⟨rfl, hb5⟩
        have B5 := Lib.hid (B4.out.trans (hb5.mono B4.out.size))
        have HX5 := Lib.hid (HX4.out.trans (hb5.mono HX4.out.size))
        clear hb5 HSM
        go_wp2_with fail
        refine (H4.out wr w5 _ _ _ _ HOF.out HX5.out hl).mono ?_
        rintro e w6 ⟨v6, rfl, ho6, hb6⟩
        obtain ⟨A6, k6, c6, rfl⟩ := ownT_letters ho6
        have B6 := Lib.hid (B5.out.trans (hb6.mono B5.out.size))
        have HO6 := Lib.hid ho6
        clear ho6 hb6
        go_wp2_with fail
        refine (H2.out w6 B6.out hl).mono ?_
        rintro e w7 ⟨v7, rfl, ho7, hb7⟩
        obtain ⟨A7, k7, c7, rfl⟩ := ownT_letters ho7
        have B7 := Lib.hid (B6.out.trans (hb7.mono B6.out.size))
        have HSM := Lib.hid (same_own (HO6.out.below hb7) ho7 (HL.out hl).2)
        clear ho7 hb7
        go_wp2_with fail
        refine HSM.out.mono ?_
        rintro e w8 ⟨rfl, hb8⟩
        have B8 := Lib.hid (B7.out.trans (hb8.mono B7.out.size))
        go_wp2_with fail
        go_ret
        exact ⟨rfl, B8.out⟩
  · have hl2 : (2000 : Int) < (n : Int) := by omega
    go_wp2_with fail
    go_ret
    exact ⟨rfl, B1.out⟩
set_option maxHeartbeats 1600000 in
theorem ljoined_any {A' : Option Addr} {l' : L} (h : Bts w w.heap.size A l) (h' : Bts w w.heap.size A' l') (c c' : Nat) (hc : l.length ≤ c) (hm : c ≤ maxLen) (hc' : l'.length ≤ c') (hm' : c' ≤ maxLen) :
    Calls Try.prog 6 #[.slice A l.length c, .slice A' l'.length c'] w fun e w' => e = .returned (.bool true) ∧ Below w.heap.size w w' := by
  have HAW := Lib.hid (awake12 w)
  have HB := Lib.hid (args_keep h)
  have HB' := Lib.hid (args_keep h')
  have H1 : Hid (∀ X, Below w.heap.size w X → l.length ≤ 1000 → Calls Try.prog 10 #[.slice A l.length c] X (OutT X (wordsS l))) := Lib.hid fun X hX hl => words_any (HB.out X hX) c hc hm (by omega)
  have H2 : Hid (∀ X, Below w.heap.size w X → l'.length ≤ 1000 → Calls Try.prog 10 #[.slice A' l'.length c'] X (OutT X (wordsS l'))) := Lib.hid fun X hX hl => words_any (HB'.out X hX) c' hc' hm' (by omega)
  have H3 : Hid (∀ (X : World) (N k c2 : Nat) (A2 : Option Addr), Own5 X N (.slice A2 k c2) (l ++ [32] ++ l') → l.length ≤ 1000 → l'.length ≤ 1000 → Calls Try.prog 10 #[.slice A2 k c2] X (OutT X (wordsS l ++ wordsS l'))) := Lib.hid fun X N k c2 A2 ho hl hl' => by
    obtain ⟨e1, e2, e3⟩ := own5_len ho
    have := words_any (Own5.bts ho) c2 (by rw [← e1]; exact e2) e3 (by simp; omega)
    rw [← e1, show l ++ [32] ++ l' = l ++ 32 :: l' by simp, words_joined] at this
    exact this
  have HL : Hid (l.length ≤ 1000 → (wordsS l).length ≤ 1000) := Lib.hid fun hl => by have := words_len l; omega
  have HL' : Hid (l'.length ≤ 1000 → (wordsS l').length ≤ 1000) := Lib.hid fun hl => by have := words_len l'; omega
  have HE : Hid (([] ++ l : L) = l) := Lib.hid rfl
  generalize wordsS l = ws at *
  generalize wordsS l' = ws' at *
  clear h h' hc hc' hm hm'
  generalize hn : l.length = n at *
  generalize hn' : l'.length = n' at *
  have HN := Lib.hid hn
  have HN' := Lib.hid hn'
  clear hn hn'
  go_enter Try.func6, Try.ntmps6
  go_wp2_with fail
  refine HAW.out.mono ?_
  rintro e w1 ⟨rfl, b1⟩
  have B1 := Lib.hid b1
  have HZ := Lib.hid b1.size
  clear b1 HAW
  by_cases hl : n ≤ 1000
  · have hl2 : ¬ (1000 : Int) < (n : Int) := by omega
    by_cases hl' : n' ≤ 1000
    · have hl2' : ¬ (1000 : Int) < (n' : Int) := by omega
      go_wp2_with (first
        | (refine app5 (.const (.slice none 0 0)) (.tmp 16) rfl rfl w.heap.size (.slice none 0 0) [] l rfl (Own5.nil _ _) w1.heap.size A c (by rw [HN.out]; rfl) (HB.out _ B1.out) (by simp; rw [HN.out]; omega) HZ.out ?_; intro v2 w2 h1 h2; rw [HE.out] at h1; have HO2 : Hid (Own5 w2 w.heap.size v2 l) := Lib.hid h1; have B2 := Lib.hid (B1.out.grown h2 HZ.out (fun k hk => by cases hk)); clear h1 h2)
        | (refine app5 (.tmp 17) (.tmp 18) rfl rfl w.heap.size v2 l [32] rfl (own_kept HO2.out (belowA w2 _) (Nat.le_refl _)) (w2.heap.size + 1) (some ⟨w2.heap.size, 0, none⟩) 1 rfl (bts_lit w2 [32] _ _ rfl) (by simp; rw [HN.out]; omega) (by have := B2.out.size; simp; omega) ?_; intro v3 w3 h1 h2; have HO3 : Hid (Own5 w3 w.heap.size v3 (l ++ [32])) := Lib.hid h1; have B3 := Lib.hid ((B2.out.alloc B2.out.size (.cells #[.int .u8 32] 5)).grown h2 (by have := B2.out.size; simp; omega) (fun k hk => (HO2.out.lt k hk).1)); clear h1 h2)
        | (refine app5 (.tmp 19) (.tmp 20) rfl rfl w.heap.size v3 (l ++ [32]) l' rfl HO3.out w3.heap.size A' c' (by rw [HN'.out]; rfl) (HB'.out _ B3.out) (by simp; rw [HN.out, HN'.out]; omega) B3.out.size ?_; intro v4 w4 h1 h2; have HO4 : Hid (Own5 w4 w.heap.size v4 (l ++ [32] ++ l')) := Lib.hid h1; have B4 := Lib.hid (B3.out.grown h2 B3.out.size (fun k hk => (HO3.out.lt k hk).1)); obtain ⟨A4, k4, c4, hv4⟩ : ∃ A k c, v4 = .slice A k c := (by obtain ⟨A, c, e, _⟩ := own_slice h1; exact ⟨A, _, c, e⟩); subst hv4; clear h1 h2)
        | (refine (H3.out _ _ _ _ _ HO4.out hl hl').mono ?_; rintro e w5 ⟨v5, rfl, ho5, hb5⟩; obtain ⟨A5, k5, c5, rfl⟩ := ownT_letters ho5; have HO5 := Lib.hid ho5; have B5 := Lib.hid (B4.out.trans (hb5.mono B4.out.size)); clear ho5 hb5 H3)
        | fail)
      refine (H1.out w5 B5.out hl).mono ?_
      rintro e w6 ⟨v6, rfl, ho6, hb6⟩
      obtain ⟨A6, k6, c6, rfl⟩ := ownT_letters ho6
      have HO6 := Lib.hid ho6
      have HO56 := Lib.hid (HO5.out.below hb6)
      have B6 := Lib.hid (B5.out.trans (hb6.mono B5.out.size))
      have HS6 := Lib.hid hb6.size
      clear ho6 hb6
      go_wp2_with fail
      refine (H2.out w6 B6.out hl').mono ?_
      rintro e w7 ⟨v7, rfl, ho7, hb7⟩
      obtain ⟨A7, k7, c7, rfl⟩ := ownT_letters ho7
      have HT7 := Lib.hid ho7.tx
      have HK7 := Lib.hid (lens_same ho7).symm
      have HO67 := Lib.hid (HO6.out.below hb7)
      have HO57 := Lib.hid (HO56.out.below hb7)
      have B7 := Lib.hid (B6.out.trans (hb7.mono B6.out.size))
      have hsz7 : w5.heap.size ≤ w7.heap.size := Nat.le_trans HS6.out hb7.size
      have hl6 := HL.out hl
      have hl7 := HL'.out hl'
      have HNE : Hid (∀ X : World, w7.grownBy X (Value.slice A6 k6 c6).ownBlock → OwnT X w4.heap.size (.slice A5 k5 c5) (ws ++ ws')) := Lib.hid fun X hg => World.ownsRow.kept HO57.out hg (by
        rcases HO5.out.2 with ⟨h5, _⟩ | ⟨g5, _, _, h5, _⟩
        · left; rw [h5]; rfl
        · right
          rw [h5]
          intro e9
          have h1 := (HO5.out.lt g5 (by rw [h5]; rfl)).2
          have h2 := (HO67.out.lt g5 (by rw [← e9]; rfl)).1
          omega)
      clear ho7 hb7
      go_wp2_with (first
        | (refine lappTx (.tmp 25) (.tmp 27) rfl rfl (ps := ws) (qs := ws') rfl HO67.out (A := A7) (m := k7) (c := c7) rfl HT7.out HK7.out (by have := HK7.out; omega) hsz7 ?_; intro v8 w8 h1 h2; have HO8 := Lib.hid h1; have HO58 := Lib.hid (HNE.out w8 h2); have B8 := Lib.hid (B7.out.grown h2 B7.out.size (fun k hk => Nat.le_trans B5.out.size (HO67.out.lt k hk).1)); obtain ⟨A8, k8, c8, hv8⟩ := ownT_letters h1; subst hv8; clear h1 h2)
        | fail)
      refine (same_own HO58.out HO8.out (by rw [List.length_append]; omega)).mono ?_
      rintro e w9 ⟨rfl, hb9⟩
      have B9 := Lib.hid (B8.out.trans (hb9.mono B8.out.size))
      clear hb9
      go_wp2_with fail
      go_ret
      exact ⟨rfl, B9.out⟩
    · have hl2' : (1000 : Int) < (n' : Int) := by omega
      go_wp2_with fail
      go_ret
      exact ⟨rfl, B1.out⟩
  · have hl2 : (1000 : Int) < (n : Int) := by omega
    go_wp2_with fail
    go_ret
    exact ⟨rfl, B1.out⟩
end
end Tk
end Go.Proofs.Ytbhkppleomnjjaa
