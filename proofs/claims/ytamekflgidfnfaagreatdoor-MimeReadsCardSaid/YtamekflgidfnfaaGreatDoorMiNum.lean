/- mime.numbers, mime.Boundary. Conditions: as stated at each. -/
import Derived.Test.YtamekflgidfnfaaGreatDoorMiMem
import Derived.Test.YtamekflgidfnfaaGreatDoorMiGather
namespace Go.Proofs.YtamekflgidfnfaaGreatDoor
set_option maxRecDepth 100000
namespace Mi
open Go.RowKit Go Go.Proofs.YtamekflgidfnfaaGreatDoor.Pa
attribute [local go_sem] Oper.semAt_some
theorem GlM.below {w w' : World} {B : Nat} (h : GlM w) (hb : Below B w w') (hB : 0 < B) : GlM w' := by
  obtain ⟨x, hx⟩ := h
  exact ⟨x, (hb.cell (p := ⟨_, 0, none⟩) hB).trans hx⟩
theorem GlM.lt {w : World} (h : GlM w) : 0 < w.heap.size := by
  obtain ⟨x, hx⟩ := h
  exact World.block_lt_of_cell? w ⟨_, 0, none⟩ hx
theorem conv_const1 (w : World) (o : Obj) (C : Array Value) (n c : Nat) : (convert 22 22 (.slice (some ⟨w.heap.size + 1, 0, none⟩) n c)).run Tryz.prog ((w.alloc o).alloc (.cells C 5)) = .ok (.slice (some ⟨w.heap.size + 1, 0, none⟩) n c) ((w.alloc o).alloc (.cells C 5 (C.size, C.size + 1))) := by
  have := conv_const (w.alloc o) C n c
  rwa [World.size_alloc] at this
/-- what the first pieces tell. -/
def Told (most : Nat) (ps : List L) (k : Nat) : Prop := ∃ p ∈ ps, PN most p k
theorem told_snoc (most : Nat) (ps : List L) (p : L) (k : Nat) : Told most (ps ++ [p]) k ↔ Told most ps k ∨ PN most p k := by
  unfold Told
  constructor
  · rintro ⟨q, hq, h⟩
    rcases List.mem_append.1 hq with hq | hq
    · exact .inl ⟨q, hq, h⟩
    · rw [List.mem_singleton] at hq
      subst hq
      exact .inr h
  · rintro (⟨q, hq, h⟩ | h)
    · exact ⟨q, List.mem_append_left _ hq, h⟩
    · exact ⟨p, by simp, h⟩
theorem pn_no {most : Nat} {p : L} (h : [45].isPrefixOf p = false) (k : Nat) : ¬ PN most p k := by
  rintro ⟨d, rfl, _⟩
  simp at h
theorem pn_yes {most : Nat} {p : L} (h : [45].isPrefixOf p = true) (k : Nat) : PN most p k ↔ GN most (p.drop 1) (p.drop 1).length k := by
  rw [List.isPrefixOf_iff_prefix] at h
  obtain ⟨d, rfl⟩ := h
  constructor
  · rintro ⟨d', e, h⟩
    have : d = d' := by simpa using e
    subst this
    exact h
  · intro h
    exact ⟨d, rfl, h⟩
/-- all pieces together are no longer than the bytes. -/
theorem split_sum : ∀ (k : Nat) (l : L), ((Go.Lib.splitK nm 0 k l).map List.length).sum ≤ l.length
  | 0, l => by simp [Go.Lib.splitK]
  | k + 1, l => by
    rcases Go.Lib.index_spec l nm with ⟨h1, _⟩ | ⟨i, h1, h2, h3, _⟩
    · rw [splitK_miss _ _ _ h1]; simp
    · rw [splitK_hit _ _ _ _ h1, List.map_cons, List.sum_cons]
      have := split_sum k (l.drop (i + nm.length))
      rw [List.length_drop] at this
      rw [List.length_take]
      omega
theorem pcs_sum (l : L) : ((pcs l).map List.length).sum ≤ l.length := by
  have := split_sum (Go.Lib.count l nm) l
  obtain ⟨p, ps, e, _⟩ := split_head nm (Go.Lib.count l nm) l
  unfold pcs
  rw [e] at this ⊢
  rw [List.map_cons, List.sum_cons] at this
  simpa using Nat.le_trans (Nat.le_add_left _ _) this
theorem split_len : ∀ (k : Nat) (l : L), (Go.Lib.splitK nm 0 k l).length ≤ l.length + 1
  | 0, l => by simp [Go.Lib.splitK]
  | k + 1, l => by
    rcases Go.Lib.index_spec l nm with ⟨h1, _⟩ | ⟨i, h1, h2, h3, _⟩
    · rw [splitK_miss _ _ _ h1]; simp
    · rw [splitK_hit _ _ _ _ h1, List.length_cons]
      have := split_len k (l.drop (i + nm.length))
      have hr := Go.Lib.index_room l nm (by omega)
      have h9 : nm.length = 9 := rfl
      rw [List.length_drop] at this
      omega
theorem pcs_len (l : L) : (pcs l).length ≤ l.length := by
  have := split_len (Go.Lib.count l nm) l
  obtain ⟨p, ps, e, _⟩ := split_head nm (Go.Lib.count l nm) l
  unfold pcs
  rw [e] at this ⊢
  simpa using this
theorem cell_of_grown {w w' : World} {row : Option Nat} (h : w.grownBy w' row) {q : Addr} (hq : q.block < w.heap.size) (hr : some q.block ≠ row) : w'.cell? q = w.cell? q := by
  have := h.block q.block hq hr
  simp [World.cell?, this]
theorem sum_take (ps : List L) (k : Nat) : ((ps.take k).map List.length).sum ≤ (ps.map List.length).sum := by
  have := congrArg (fun l : List L => (l.map List.length).sum) (List.take_append_drop k ps)
  simp only [List.map_append, List.sum_append] at this
  omega
/-- behind numbers: a map of those whose boundaries stand there, up to their length. -/
def NumsP (w : World) (m : Nat) (ps : List L) (e : Ending) (w' : World) : Prop :=
  ∃ g n, e = .returned (.map (some g)) ∧ MapN w' g n (fun k => Told m ps k) ∧ Below w.heap.size w w' ∧ w.heap.size ≤ g
set_option maxHeartbeats 1600000 in
theorem numbers_any {w : World} {A : Option Addr} {l : L} (h : Bts w w.heap.size A l) (c : Nat) (hc : l.length ≤ c) (hm : c ≤ maxLen) (hA : A = none → c = 0) (hl : l.length ≤ 100000) (hG : GlM w) :
    Calls Tryz.prog 41 #[.slice A l.length c] w (NumsP w l.length (pcs l)) := by
  have hcv := conv_const
  have hcv1 := conv_const1
  have hmm := @run_makeMap Tryz.prog
  have HG := Lib.hid (fun (X : World) (hX : Below w.heap.size w X) => hG.below hX hG.lt)
  have HSP : Hid (∀ X, Below w.heap.size w X → Calls Tryz.prog 75 #[.slice A l.length c, .slice (some ⟨X.heap.size, 0, none⟩) 9 9] (X.alloc (.cells #[.int .u8 45, .int .u8 45, .int .u8 106, .int .u8 111, .int .u8 117, .int .u8 114, .int .u8 110, .int .u8 97, .int .u8 108] 5 (9, 10))) fun e w' =>
      e = .returned (.slice (some ⟨X.heap.size + 1, 0, none⟩) ((pcs l).length + 1) ((pcs l).length + 1)) ∧ Below X.heap.size X w' ∧ X.heap.size + 1 < w'.heap.size ∧ Pcs w' w.heap.size (X.heap.size + 1) (pcs l)) := Lib.hid fun X hX => by
    have hb := hX.alloc hX.size (.cells #[.int .u8 45, .int .u8 45, .int .u8 106, .int .u8 111, .int .u8 117, .int .u8 114, .int .u8 110, .int .u8 97, .int .u8 108] 5 (9, 10))
    have := split_any (h.below hb) (by have := hb.size; omega) (bts_new X nm _ (9, 10) rfl) c 9 hc hm hA (by omega) (HG.out _ hb)
    rw [World.size_alloc] at this
    refine this.mono ?_
    rintro e w' ⟨h1, h2, h3, h4⟩
    exact ⟨h1, ((Below.refl _ X).alloc (Nat.le_refl _) _).trans (h2.mono (by omega)), h3, h4⟩
  have hpl := pcs_len l
  have HPS := Lib.hid (pcs_sum l)
  have HPD : Hid (∀ k, k < (pcs l).length → (pcs l).take (k + 1) = (pcs l).take k ++ [(pcs l).getD k []]) := Lib.hid fun k hk => by
    rw [List.take_succ_eq_append_getElem hk, List.getD, List.getElem?_eq_getElem hk]; rfl
  have hX0 : Below w.heap.size w (w.alloc (.map #[] 0)) := (Below.refl _ w).alloc (Nat.le_refl _) _
  have HS1 := HSP.out _ hX0
  rw [World.size_alloc] at HS1
  have HM0 := Lib.hid (MapN.new w)
  have HX0 := Lib.hid hX0
  have HSI := Lib.hid HS1
  clear HS1 HSP hX0 h
  generalize pcs l = ps at *
  generalize l.length = m at *
  generalize hps : ps.length = pn at *
  have HPN := Lib.hid hps
  clear hps
  by_cases hp0 : pn = 0
  · have HNIL : Hid (ps = []) := Lib.hid (List.eq_nil_of_length_eq_zero (by rw [HPN.out]; exact hp0))
    subst hp0
    go_enter Tryz.func41, Tryz.ntmps41
    go_wp2_with (first
      | (go_at_call 75; refine HSI.out.mono ?_; rintro e w1 ⟨rfl, hb1, hs1, hp1⟩)
      | fail)
    go_loopw [15] (fun y wr => y = .int .i64 0 ∧ w1 = wr) (fun y _ => 1 - (intOf y).toNat)
    case atStart => exact ⟨rfl, rfl⟩
    case round =>
      obtain ⟨rfl, rfl⟩ := hrel
      go_wp2_with fail
      go_ret
      refine ⟨w.heap.size, 0, rfl, ?_, HX0.out.trans (hb1.mono (by simp)), Nat.le_refl _⟩
      rw [HNIL.out]
      exact (HM0.out.same (hb1.block _ (by simp))).set fun k => ⟨fun ⟨p, h, _⟩ => by simp at h, False.elim⟩
  · go_enter Tryz.func41, Tryz.ntmps41
    go_wp2_with (first
      | (go_at_call 75; refine HSI.out.mono ?_; rintro e w1 ⟨rfl, hb1, hs1, hp1⟩)
      | fail)
    have HB1 : Hid (Below w.heap.size w w1) := Lib.hid (HX0.out.trans (hb1.mono (by simp)))
    have HM1 : Hid (MapN w1 w.heap.size 0 (fun _ => False)) := Lib.hid (HM0.out.same (hb1.block _ (by simp)))
    have HP1 := Lib.hid hp1
    have HS1 := Lib.hid hs1
    clear hb1 hp1 hs1 HSI HM0 HX0
    go_loopw [15] (fun y wr => ∃ k : Nat, k ≤ pn ∧ y = .int .i64 (k : Nat) ∧ Hid (MapN wr w.heap.size ((ps.take k).map List.length).sum (fun j => Told m (ps.take k) j)) ∧ Hid (Pcs wr w.heap.size (w.heap.size + 1 + 1) ps) ∧ Hid (Below w.heap.size w wr) ∧ Hid (w.heap.size + 1 + 1 < wr.heap.size)) (fun y _ => pn + 1 - (intOf y).toNat)
    case atStart => exact ⟨0, Nat.zero_le _, rfl, Lib.hid (HM1.out.set fun k => ⟨fun ⟨p, h, _⟩ => by simp at h, False.elim⟩), HP1, HB1, HS1⟩
    case round =>
      obtain ⟨k, hk, rfl, HMK, HPK, HBK, HSK⟩ := hrel
      by_cases hlt : k < pn
      · obtain ⟨ad, cp, h1, h2, h3⟩ := HPK.out k (by rw [HPN.out]; exact hlt)
        have HPD1 := Lib.hid (HPD.out k hlt)
        have hz : (k : Int) < (pn : Int) := by omega
        have hsk := HSK.out
        rw [Nat.add_comm k 1] at h1
        have HSL := Lib.hid (sum_take ps k)
        have HSL1 := Lib.hid (sum_take ps (k + 1))
        have hB0 := Lib.hid ((Below.refl wr.heap.size wr).alloc (Nat.le_refl _) (.cells #[.int .u8 45] 5 (1, 2)))
        generalize ps.getD k [] = p at *
        have HCP := Lib.hid (cutpre_any (h3.below (hB0.out.mono (by have := HBK.out.size; omega))) (bts_new wr [45] #[.int .u8 45] (1, 2) rfl) cp 1 h2 (fun e => by cases e))
        have HPY := Lib.hid (pn_yes (most := m) (p := p))
        have HPO := Lib.hid (pn_no (most := m) (p := p))
        have HTS := Lib.hid (told_snoc m (ps.take k) p)
        have HMW : Hid (MapN (wr.alloc (.cells #[.int .u8 45] 5 (1, 2))) w.heap.size ((ps.take k).map List.length).sum (fun j => Told m (ps.take k) j)) := Lib.hid (HMK.out.same (hB0.out.block _ (by omega)))
        have HBW := Lib.hid (HBK.out.trans (hB0.out.mono (by have := HBK.out.size; omega)))
        have HPW : Hid (Pcs (wr.alloc (.cells #[.int .u8 45] 5 (1, 2))) w.heap.size (w.heap.size + 1 + 1) ps) := Lib.hid (HPK.out.keep (hB0.out.block _ hsk) (fun q hq => hB0.out.cell (Nat.lt_of_lt_of_le hq HBK.out.size)))
        have HSM : Hid ((List.map List.length (ps.take (k + 1))).sum = (List.map List.length (ps.take k)).sum + p.length) := Lib.hid (by rw [HPD1.out, List.map_append, List.sum_append]; simp)
        clear h3
        go_wp2_with (first
          | (go_at_call 45; refine HCP.out.mono ?_; rintro e w2 ⟨rfl, hcase⟩; rcases hcase with ⟨hp, A2, c2, rfl, hb2, hc2, _, _⟩ | ⟨hp, rfl⟩)
          | fail)
        · have hb3 : Bts (wr.alloc (.cells #[.int .u8 45] 5 (1, 2))) w.heap.size A2 (p.drop 1) := hb2
          have hlen : List.length p - 1 = (p.drop 1).length := by rw [List.length_drop]
          have hdl : (p.drop 1).length ≤ p.length := by rw [List.length_drop]; omega
          have hpm := HSL1.out
          rw [HSM.out] at hpm
          have HGA := Lib.hid (gather_any hb3 HMW.out (Nat.le_refl _) c2 m (by have := HPS.out; omega) (by omega) (by have := HPS.out; omega))
          have HPY2 := Lib.hid (HPY.out hp)
          have HDL := Lib.hid hdl
          clear hb2 hb3 hc2 hp hpm hdl HPY HPO
          rw [hlen]
          generalize p.drop 1 = d at *
          clear hlen
          refine HGA.out.mono ?_
          rintro e w3 ⟨rfl, hg3, hm3⟩
          go_wp2_with fail
          have HB3 : Hid (Below w.heap.size w w3) := Lib.hid (HBW.out.grown hg3 HBW.out.size (fun j hj => by injection hj with hj; omega))
          have HP3 : Hid (Pcs w3 w.heap.size (w.heap.size + 1 + 1) ps) := Lib.hid (HPW.out.keep (hg3.block _ (by simp; omega) (by intro e; injection e; omega)) (fun q hq => by
            have hq2 : q.block < (wr.alloc (.cells #[.int .u8 45] 5 (1, 2))).heap.size := Nat.lt_of_lt_of_le hq HBW.out.size
            exact cell_of_grown hg3 hq2 (by intro e; injection e; omega)))
          have HM3 := Lib.hid hm3
          have hz3 := hg3.size
          clear hg3 hm3
          go_roundw
          case rel =>
            refine ⟨k + 1, by omega, by go_num, Lib.hid ((HM3.out.more (by rw [HSM.out]; have := HDL.out; omega)).set fun j => ?_), HP3, HB3, Lib.hid (by simp at hz3; omega)⟩
            rw [HPD1.out, HTS.out, HPY2.out]
          case measure => simp [intOf]; omega
        · have HPO2 := Lib.hid (HPO.out hp)
          clear hp HPO HPY
          go_wp2_with fail
          go_roundw
          case rel =>
            refine ⟨k + 1, by omega, by go_num, Lib.hid ((HMW.out.more (by rw [HSM.out]; omega)).set fun j => ?_), HPW, HBW, Lib.hid (by simp; omega)⟩
            rw [HPD1.out, HTS.out]
            exact ⟨fun h => h.elim id (fun h => absurd h (HPO2.out j)), .inl⟩
          case measure => simp [intOf]; omega
      · obtain rfl : k = pn := by omega
        have hz : ¬ (k : Int) < (k : Int) := by omega
        have HTK : Hid (ps.take k = ps) := Lib.hid (List.take_of_length_le (by rw [HPN.out]; exact Nat.le_refl _))
        go_wp2_with fail
        go_ret
        refine ⟨w.heap.size, (List.map List.length ps).sum, rfl, ?_, HBK.out, Nat.le_refl _⟩
        have := HMK.out
        rw [HTK.out] at this
        exact this
end Mi
end Go.Proofs.YtamekflgidfnfaaGreatDoor
