/- The document's Scan. Conditions: as stated at each. -/
import Derived.Test.YtdbmcbnohldolaaDtRStuff
namespace Go.Proofs.Ytdbmcbnohldolaa
set_option maxRecDepth 100000
namespace Dt
open Go.RowKit Go Go.Proofs.Ytdbmcbnohldolaa.Hd
/-- what Scan answers: the text (of the call's own), what stands behind, and whether there is an end. -/
def ScanP (w : World) (l : L) (e : Ending) (w' : World) : Prop :=
  ∃ v y rest, e = .returned (.tuple #[v, y, .bool (scanL (lines l)).isSome]) ∧ Own5 w' w.heap.size v (match scanL (lines l) with | some p => p.1 | none => []) ∧
    rest = (match scanL (lines l) with | some p => l.drop p.2 | none => l) ∧ (∃ A c, y = .slice A rest.length c ∧ Bts w' w'.heap.size A rest ∧ rest.length ≤ c ∧ c ≤ maxLen) ∧ Below w.heap.size w w'
theorem str_list (x : L) : (str x).toList = x := by rw [Go.Lib.toList_data]; rfl
theorem last_str (x : L) : ((str x).toList == [46, 13, 10]) = (x == last) := by rw [str_list]; rfl
/-- between two rounds: none of the first is the last one. -/
theorem scan_at {ls : List L} {k : Nat} (hk : k < ls.length) (hno : ∀ x ∈ ls.take k, x ≠ last) (hx : ls.getD k [] = last) : scanL ls = some (texts (ls.take k), (ls.take k).flatten.length + 3) := by
  have e : ls = ls.take k ++ last :: ls.drop (k + 1) := by
    conv => lhs; rw [← List.take_append_drop k ls]
    congr 1
    rw [List.drop_eq_getElem_cons hk]
    congr 1
    rw [← hx]
    simp [List.getD, hk]
  rw [e, scanL_yes hno, ← e]
theorem no_next {ls : List L} {k : Nat} (hk : k < ls.length) (hno : ∀ x ∈ ls.take k, x ≠ last) (hx : ls.getD k [] ≠ last) : ∀ x ∈ ls.take (k + 1), x ≠ last := fun x h => by
  rw [take_next hk] at h
  rcases List.mem_append.1 h with h | h
  · exact hno x h
  · rw [List.mem_singleton.1 h]; exact hx
theorem flat_next {ls : List L} {k : Nat} (hk : k < ls.length) : (ls.take (k + 1)).flatten.length = (ls.take k).flatten.length + (ls.getD k []).length := by
  rw [take_next hk]; simp
theorem flat_take (ls : List L) (k : Nat) : (ls.take k).flatten.length ≤ ls.flatten.length := by
  have : ls.flatten = (ls.take k).flatten ++ (ls.drop k).flatten := by rw [← List.flatten_append, List.take_append_drop]
  rw [this, List.length_append]
  omega
set_option maxHeartbeats 1600000 in
theorem rscan_any {w : World} {A : Option Addr} {l : L} (h : Bts w w.heap.size A l) (c : Nat) (hc : l.length ≤ c) (hm : c ≤ maxLen) (hl : l.length ≤ 100000) :
    Calls Try.prog 16 #[.slice A l.length c] w (ScanP w l) := by
  have HB := Lib.hid h
  have HLB := Lib.hid (lines_line l)
  have HLL := Lib.hid (lines_len l)
  have HSU := Lib.hid (lines_sum l)
  have HLI := Lib.hid (rlines_any h c hc hm (by omega))
  have hml := Nat.le_trans (lines_count l) hl
  have HP : Hid (∀ v y b w', (∃ rest, b = (scanL (lines l)).isSome ∧ Own5 w' w.heap.size v (match scanL (lines l) with | some p => p.1 | none => []) ∧ rest = (match scanL (lines l) with | some p => l.drop p.2 | none => l) ∧ (∃ A c, y = .slice A rest.length c ∧ Bts w' w'.heap.size A rest ∧ rest.length ≤ c ∧ c ≤ maxLen) ∧ Below w.heap.size w w') → ScanP w l (.returned (.tuple #[v, y, .bool b])) w') := Lib.hid fun v y b w' ⟨rest, e, h1, h2, h3, h4⟩ => by
    subst e
    exact ⟨v, y, rest, rfl, h1, h2, h3, h4⟩
  have HTX := Lib.hid (texts_len (lines l))
  clear h
  generalize ScanP w l = R at *
  generalize hls : lines l = ls at *
  clear hls
  generalize hn : l.length = n at *
  have HN := Lib.hid hn
  clear hn
  have HM := Lib.hid hm
  unfold maxLen at hm
  go_enter Try.func16, Try.ntmps16
  go_wp2_with fail
  refine HLI.out.mono ?_
  rintro e w2 ⟨v2, y2, rfl, hr2, hb2⟩
  obtain ⟨A2, c2, rfl, hc2, hm2⟩ := hr2.slice
  have HR2 := Lib.hid hr2
  have HB2 := Lib.hid hb2
  have hs2 := hb2.size
  clear hr2
  generalize hmm : ls.length = m at *
  have HMM := Lib.hid hmm
  clear hmm
  go_wp2_with fail
  go_loopw [5, 8, 18] (fun x y z wr => ∃ k a : Nat, k ≤ m ∧ z = .int .i64 k ∧ y = .int .i64 a ∧ a = (ls.take k).flatten.length ∧ (∀ x ∈ ls.take k, x ≠ last) ∧ Own5 wr w.heap.size x (texts (ls.take k)) ∧ RowS wr w.heap.size w.heap.size (.slice A2 m c2) ls ∧ Below w.heap.size w wr) (fun _ _ z _ => m - (intOf z).toNat)
  case atStart => exact ⟨0, 0, Nat.zero_le _, rfl, rfl, rfl, (fun x h => by simp at h), Own5.nil _ _, HR2.out, HB2.out⟩
  case round =>
    obtain ⟨k, a, hk, rfl, rfl, ha, hno, hown, hrow, hbel⟩ := hrel
    have HNO := Lib.hid hno
    have HRW := Lib.hid hrow
    have HBE := Lib.hid hbel
    have hsz := hbel.size
    obtain ⟨Ao, co, rfl, hco, hmo⟩ := own_slice hown
    have HOW := Lib.hid hown
    clear hno hown hrow hbel
    by_cases hlt : k < m
    · have hk' : k < ls.length := by rw [HMM.out]; exact hlt
      obtain ⟨g, A3, c3, rfl, hg, hcell, hc3, hm3, hbt⟩ := HRW.out.at_ hk'
      have hx2 := (HLB.out _ (get_mem hk')).len
      have hxl := HLL.out _ (get_mem hk')
      have HTN := Lib.hid (take_next hk')
      have hft := flat_next hk'
      have hfl := Nat.le_trans (flat_take ls (k + 1)) HSU.out
      have hta := Nat.le_trans (texts_len (ls.take k)) (Nat.le_trans (flat_take ls k) HSU.out)
      rw [hft, ← ha] at hfl
      have HFT := Lib.hid hft
      have HA := Lib.hid ha
      obtain ⟨g3, o3, rfl, hg3, hb3⟩ := bts_at_ hbt (by omega)
      have hc0 := (HBE.out.cell (p := ⟨g3, o3 + 0, none⟩) hg3).symm
      have hc0 := hb3 0 (by omega)
      rw [Nat.add_zero] at hc0
      have hstr := run_str Try.prog (w := wr) Try.underlying22 Try.underlying5 Try.underlying9 c3 hbt
      have hls := last_str (ls.getD k [])
      have e0 : ((((ls.getD k []).getD 0 0).toNat : Int) == 46) = ((ls.getD k []).getD 0 0 == 46) := eq_byte _ 46
      have HD1 := Lib.hid (fun h => (dot_t (x := ls.getD k []) h hx2).2)
      have HD2 := Lib.hid (fun h => (dot_f (x := ls.getD k []) h).2)
      have HYES := Lib.hid (fun h => scan_at hk' HNO.out h)
      have HNX := Lib.hid (fun h => no_next hk' HNO.out h)
      have HBT := Lib.hid hbt
      clear hbt hb3 hft ha
      generalize hxe : ls.getD k [] = x at *
      generalize hqe : (x == last) = q at *
      have HQ := Lib.hid hqe
      generalize x.getD 0 0 = c0 at *
      generalize hxn : x.length = xn at *
      have HXN := Lib.hid hxn
      generalize hsx : str x = sx at *
      generalize htl : (texts (ls.take k)).length = tl at *
      have HTL := Lib.hid htl
      clear hxe hxn hk' hqe hsx htl
      have hkm : (k : Int) < (m : Int) := by omega
      have hx0 : 0 < xn := by omega
      have hx1 : (1 : Int) ≤ (xn : Int) := by omega
      cases q with
      | true =>
        have hx : x = last := by have := HQ.out; simpa using this
        have z1 : (a : Int) + (xn : Int) ≤ (n : Int) := by omega
        have z2 : (n : Int) ≤ (c : Int) := by omega
        have hsc := HYES.out hx
        have hna : a + 3 ≤ n := by have := HXN.out; rw [hx] at this; simp [last] at this; omega
        obtain ⟨g0, o0, rfl, _, _⟩ := bts_at_ HB.out (by rw [HN.out]; omega)
        have hx3 : xn = 3 := by have := HXN.out; rw [hx] at this; simpa [last] using this.symm
        subst hx3
        have HSC := Lib.hid hsc
        clear hsc HYES HNX HD1 HD2
        go_wp2_with fail
        go_quiet (fail)
        go_wp2_with fail
        all_goals
          refine bodyPost_ret (results_tmp3 rfl _ _ _) rfl ?_
          refine HP.out _ _ _ _ ⟨l.drop (a + 3), ?_, ?_, ?_, ?_, HBE.out.trans (drewN_below _ _ _)⟩
          · rw [HSC.out]; rfl
          · rw [HSC.out]; exact own_kept HOW.out (drewN_below wr wr.heap.size _) (Nat.le_refl _)
          · rw [HSC.out]; show l.drop (a + 3) = l.drop ((ls.take k).flatten.length + 3); rw [HA.out]
          · have hd : (l.drop (a + 3)).length = n - (a + 3) := by rw [List.length_drop, HN.out]
            have hge : w.heap.size ≤ (wr.drewN nq).heap.size := hsz
            have hb9 := HBE.out.trans (drewN_below wr w.heap.size nq)
            refine ⟨_, _, by rw [hd]; rfl, ?_, by rw [hd]; omega, by unfold maxLen; omega⟩
            first
              | (have := (HB.out.drop_eq (a + 3)).below hb9; rw [add_at] at this; exact this.more hge)
              | exact ((HB.out.drop_all (A' := some ⟨g0, o0, none⟩) (a + 3) (by rw [HN.out]; omega)).below hb9).more hge
      | false =>
        have hx : x ≠ last := by have := HQ.out; simpa using this
        have HX' := Lib.hid (HNX.out hx)
        clear HYES HNX hx
        by_cases h46 : c0 = 46
        · subst h46
          have HD := Lib.hid (HD1.out rfl)
          clear HD1 HD2
          have hb1 : ((x.drop 1).length : Nat) = xn - 1 := by rw [List.length_drop, HXN.out]
          have HB1' := Lib.hid hb1
          have HBD := Lib.hid (HBT.out.drop_eq 1)
          clear hb1
          go_wp2_with (first
            | (refine app5 (.tmp 39) (.tmp 40) rfl rfl w.heap.size _ (texts (ls.take k)) (x.drop 1) rfl HOW.out w.heap.size (some ⟨g3, o3 + 1, none⟩) (c3 - 1) (by rw [HB1'.out]; rfl) (by have := HBD.out; rwa [add_at] at this) (by rw [HB1'.out, HTL.out]; omega) hsz ?_; intro v5 w5 h1 h2; have H5 := Lib.hid (show Own5 w5 w.heap.size v5 (texts (ls.take k) ++ x.drop 1) from h1); have HR5 := Lib.hid (HRW.out.other HOW.out (Nat.le_refl _) hsz h2); have b5 := HBE.out.grown h2 hsz (fun k hk => (HOW.out.lt k hk).1); clear h1 h2)
            | fail)
          go_roundw
          case rel => exact ⟨k + 1, a + xn, by omega, by go_num, by go_num, HFT.out ▸ by rw [HA.out], HX'.out, by rw [HTN.out, texts_snoc, HD.out]; exact H5.out, HR5.out, b5⟩
          case measure => simp [intOf]; omega
        · have h46' : (c0 == 46) = false := by simpa using h46
          rw [h46'] at e0
          have HD := Lib.hid (HD2.out h46)
          clear HD1 HD2 h46 h46'
          go_wp2_with (first
            | (refine app5 (.tmp 39) (.tmp 40) rfl rfl w.heap.size _ (texts (ls.take k)) x rfl HOW.out w.heap.size (some ⟨g3, o3, none⟩) c3 (by rw [HXN.out]; rfl) HBT.out (by rw [HXN.out, HTL.out]; omega) hsz ?_; intro v5 w5 h1 h2; have H5 := Lib.hid (show Own5 w5 w.heap.size v5 (texts (ls.take k) ++ x) from h1); have HR5 := Lib.hid (HRW.out.other HOW.out (Nat.le_refl _) hsz h2); have b5 := HBE.out.grown h2 hsz (fun k hk => (HOW.out.lt k hk).1); clear h1 h2)
            | fail)
          go_roundw
          case rel => exact ⟨k + 1, a + xn, by omega, by go_num, by go_num, HFT.out ▸ by rw [HA.out], HX'.out, by rw [HTN.out, texts_snoc, HD.out]; exact H5.out, HR5.out, b5⟩
          case measure => simp [intOf]; omega
    · have hkm : ¬ (k : Int) < (m : Int) := by omega
      have hsc : scanL ls = none := scanL_no fun x hx => HNO.out x (by rw [List.take_of_length_le (by rw [HMM.out]; omega)]; exact hx)
      have HSC := Lib.hid hsc
      clear hsc
      go_wp2_with fail
      refine bodyPost_ret (results_tmp3 rfl _ _ _) rfl ?_
      refine HP.out _ _ _ _ ⟨l, ?_, ?_, ?_, ?_, HBE.out⟩
      · rw [HSC.out]; rfl
      · rw [HSC.out]; exact Own5.nil _ _
      · rw [HSC.out]
      · exact ⟨A, c, by rw [HN.out]; rfl, (HB.out.below HBE.out).more hsz, by rw [HN.out]; exact hc, HM.out⟩
end Dt
end Go.Proofs.Ytdbmcbnohldolaa
