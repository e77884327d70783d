/- The law's words: whether lists are few; chapter 18's example; lists compared. Conditions: as stated at each. -/
import Derived.Test.YtkpolakdamiiiaaPsCheck
namespace Go.Proofs.Ytkpolakdamiiiaa
set_option maxRecDepth 100000
namespace Ps
open Go.RowKit Go
attribute [local go_sem] Oper.semAt_some
def fewB (L : List E) : Bool := decide (L.length ≤ 20) && L.all fun e => decide (e.l.length ≤ 100)
theorem few_yes {L : List E} (h : fewB L = true) : L.length ≤ 20 ∧ ∀ e ∈ L, e.l.length ≤ 100 := by
  unfold fewB at h
  simpa using h
set_option maxHeartbeats 1600000 in
theorem few_any {w : World} {D n c : Nat} {A : Option Addr} {L : List E} (hl : L.length = n) (h : Cs w D A (L.map E.val)) :
    Calls Try.prog 9 #[.slice A n c] w fun e w' => e = .returned (.bool (fewB L)) ∧ w = w' := by
  have HI := Lib.hid h
  have HL := Lib.hid hl
  clear h hl
  by_cases h20 : 20 < n
  · have hm : fewB L = false := by unfold fewB; rw [HL.out, decide_eq_false (by omega)]; rfl
    rw [hm]
    clear HI HL hm
    go_enter Try.func9, Try.ntmps9
    go_wp2_with fail
    go_ret
    exact ⟨rfl, rfl⟩
  · go_enter Try.func9, Try.ntmps9
    go_wp2_with fail
    go_loopw [4, 10] (fun _ y wr => ∃ k : Nat, y = .int .i64 k ∧ k ≤ n ∧ wr = w ∧ Hid (∀ j (hj : j < L.length), j < k → (L[j]).l.length ≤ 100)) (fun _ y _ => n - (intOf y).toNat)
    case atStart => exact ⟨0, rfl, Nat.zero_le _, rfl, Lib.hid (fun j _ hj => by omega)⟩
    case round =>
      obtain ⟨k, rfl, hk, rfl, HR⟩ := hrel
      by_cases hlt : k < n
      · have hkL : k < L.length := by rw [HL.out]; exact hlt
        obtain ⟨ad, rfl, _, ck⟩ := HI.out k (L[k]).val (by rw [List.getElem?_map, List.getElem?_eq_getElem hkL]; rfl)
        obtain ⟨e, he⟩ : ∃ e, L[k] = e := ⟨_, rfl⟩
        rw [he] at ck
        obtain ⟨ea, ec, el⟩ := e
        unfold E.val at ck
        dsimp only at ck
        have HE := Lib.hid he
        obtain ⟨m, hm⟩ : ∃ m, el.length = m := ⟨_, rfl⟩
        rw [hm] at ck
        have HM := Lib.hid hm
        clear he hm
        by_cases h100 : 100 < m
        · have hf : fewB L = false := by
            rw [Bool.eq_false_iff]
            intro hq
            have h1 := (few_yes hq).2 (L[k]) (List.getElem_mem hkL)
            rw [HE.out] at h1
            have h2 := HM.out
            dsimp only at h1
            omega
          have HF := Lib.hid hf
          clear hf
          go_wp2_with fail
          go_ret
          exact ⟨by rw [HF.out]; rfl, rfl⟩
        · go_wp2_with fail
          go_roundw
          case rel => exact ⟨k + 1, by go_num, by omega, trivial, Lib.hid (fun j hj hjk => by
            rcases Nat.lt_or_ge j k with h | h
            · exact HR.out j hj h
            · obtain rfl : j = k := by omega
              rw [HE.out]
              have h2 := HM.out
              dsimp only
              omega)⟩
          case measure => simp [intOf]; omega
      · have hf : fewB L = true := by
          unfold fewB
          rw [HL.out, decide_eq_true (by omega), Bool.true_and, List.all_eq_true]
          intro e he
          obtain ⟨j, hj, rfl⟩ := List.mem_iff_getElem.1 he
          exact decide_eq_true (HR.out j hj (by rw [HL.out] at hj; omega))
        have HF := Lib.hid hf
        clear hf
        go_wp2_with fail
        go_ret
        exact ⟨by rw [HF.out]; rfl, rfl⟩
theorem Alk.bel {w w' : World} (h : Alk w w') : Below w.heap.size w w' := ⟨h.2.1, h.2.2.1, h.2.2.2, by rw [h.1]; exact Nat.le_refl _, fun i _ => by rw [h.1]⟩
/-- lists alike. -/
theorem same_yes {w : World} {v1 v2 : Value} {a b : List Int} (h : Ar w v1 a) (h' : Ar w v2 b) (he : a = b) (hn : a.length ≤ 1000000) : Calls Try.prog 12 #[v1, v2] w fun e w' => e = .returned (.bool true) ∧ Below w.heap.size w w' := by
  obtain ⟨A, c, rfl, h1, _⟩ := h
  obtain ⟨A', c', rfl, k1, _⟩ := h'
  refine (same_any rfl h1 rfl k1 hn).mono ?_
  rintro e w' ⟨rfl, hk⟩
  exact ⟨by rw [decide_eq_true he], Alk.bel hk⟩
theorem rof_ar {w : World} {v : Value} {l : List Int} (h : Ar w v l) (hn : l.length ≤ 100000) : Calls Try.prog 14 #[v] w (ResQ w (· ∈ l) l.length) := by
  obtain ⟨A, c, rfl, h1, _⟩ := h
  refine (rof_any (c := c) h1 (Nat.le_refl _) l.length rfl hn).mono ?_
  rintro e w' ⟨v, rfl, ho, hb⟩
  obtain ⟨f1, f2, f3⟩ := ofS_facts l
  exact ⟨v, _, rfl, ho, hb, f1, f2, f3⟩
set_option maxHeartbeats 1600000 in
theorem awake_any (w : World) : Calls Try.prog 8 #[] w fun e w' => e = .returned (.bool true) ∧ Below w.heap.size w w' := by
  have hb1 : Below w.heap.size w (w.alloc (.cells #[.int .i64 1, .int .i64 2, .int .i64 3] 2)) := (Below.refl _ w).alloc (Nat.le_refl _) _
  have hb2 : Below w.heap.size w ((w.alloc (.cells #[.int .i64 1, .int .i64 2, .int .i64 3] 2)).alloc (.cells #[.int .i64 2] 2)) := hb1.alloc hb1.size _
  have k1 := (BlkIs.new w 2 #[.int .i64 1, .int .i64 2, .int .i64 3]).alloc (.cells #[.int .i64 2] 2)
  have k2 := BlkIs.new (w.alloc (.cells #[.int .i64 1, .int .i64 2, .int .i64 3] 2)) 2 #[.int .i64 2]
  rw [World.size_alloc] at k2
  have a1 : Ar ((w.alloc (.cells #[.int .i64 1, .int .i64 2, .int .i64 3] 2)).alloc (.cells #[.int .i64 2] 2)) (.slice (some ⟨w.heap.size, 0, none⟩) 3 3) [1, 2, 3] := ⟨_, _, rfl, cs_blk (cs := iv [1, 2, 3]) k1, by decide, by unfold maxLen; omega⟩
  have a2 : Ar ((w.alloc (.cells #[.int .i64 1, .int .i64 2, .int .i64 3] 2)).alloc (.cells #[.int .i64 2] 2)) (.slice (some ⟨w.heap.size + 1, 0, none⟩) 1 1) [2] := ⟨_, _, rfl, cs_blk (cs := iv [2]) k2, by decide, by unfold maxLen; omega⟩
  have HC := Lib.hid (less_two a1 a2 (by decide) (by decide))
  have HB := Lib.hid hb2
  clear hb1 hb2 k1 k2 a1 a2
  unfold ResQ at HC
  go_enter Try.func8, Try.ntmps8
  go_wp2_with fail
  try simp only [World.size_alloc]
  generalize (w.alloc (.cells #[.int .i64 1, .int .i64 2, .int .i64 3] 2)).alloc (.cells #[.int .i64 2] 2) = w1 at *
  refine HC.out.mono ?_
  rintro e w2 ⟨v2, r, rfl, ho, hb, hu, hm, _⟩
  have hr : r = [1, 3] := up_eq hu (by simp [Up]) (fun x => by
    rw [hm]
    simp only [List.mem_cons, List.not_mem_nil, or_false]
    omega)
  subst hr
  obtain ⟨A, c, rfl, _, _, hi⟩ := ho.ints
  obtain ⟨ad, rfl, _, c0⟩ := hi.at_ (k := 0) (by decide)
  obtain ⟨ad2, hA2, _, c1⟩ := hi.at_ (k := 1) (by decide)
  injection hA2 with hA2
  subst hA2
  have c0 : w2.cell? ad = some (.int .i64 1) := by
    rw [show ad.add 0 = ad by simp [Addr.add]] at c0
    exact c0
  replace c1 : w2.cell? ⟨ad.block, ad.off + 1, none⟩ = some (.int .i64 3) := by
    have := c1
    simpa [Addr.add] using this
  have HR := Lib.hid (HB.out.trans (hb.mono HB.out.size))
  clear HC ho hu hm hb hi
  dsimp only [List.length_cons, List.length_nil]
  go_wp2_with fail
  go_ret
  exact ⟨rfl, HR.out⟩
end Ps
end Go.Proofs.Ytkpolakdamiiiaa
