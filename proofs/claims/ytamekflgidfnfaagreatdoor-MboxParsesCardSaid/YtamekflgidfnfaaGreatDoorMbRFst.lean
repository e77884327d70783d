/- The document's first. Conditions: as stated at each. -/
import Derived.Test.YtamekflgidfnfaaGreatDoorMbRNum
import Derived.Test.YtamekflgidfnfaaGreatDoorMbREach
import Derived.Test.YtamekflgidfnfaaGreatDoorMbRLet
import Derived.Laws.ResultCell
import Derived.Test.YtamekflgidfnfaaGreatDoorMbRow
namespace Go.Proofs.YtamekflgidfnfaaGreatDoor
set_option maxRecDepth 100000
namespace Mb
open Go.RowKit Go Go.Proofs.YtamekflgidfnfaaGreatDoor.Pa
def FirstP (w : World) (f : L) (e : Ending) (w' : World) : Prop := Below w.heap.size w w' ∧ ((∃ (wo : L) (n : Nat), firstS f = some (wo, n) ∧ e = .returned (.tuple #[.agg #[.string (str wo), .int .i64 (n : Int), .slice none 0 0], .bool true])) ∨ (firstS f = none ∧ ∃ s v, e = .returned (.tuple #[.agg #[.string s, .int .i64 v, .slice none 0 0], .bool false])))
theorem first_no {f : L} (h : ¬ (6 ≤ f.length ∧ f.take 5 = mkL ∧ f.getD (f.length - 1) 0 = 10)) : firstS f = none := by
  cases hf : firstS f with
  | none => rfl
  | some p =>
    obtain ⟨wo, n⟩ := p
    obtain ⟨a, ds, rfl, _⟩ := first_parts hf
    refine absurd ⟨?_, ?_, ?_⟩ h
    · simp [mkL]; omega
    · rfl
    · have e : (mkL ++ (a ++ 32 :: ds) ++ [10]).length - 1 = (mkL ++ (a ++ 32 :: ds)).length := by rw [List.length_append]; rfl
      unfold List.getD
      rw [e, List.getElem?_append_right (Nat.le_refl _), Nat.sub_self]
      rfl
theorem first_form {f : L} (h : 6 ≤ f.length ∧ f.take 5 = mkL ∧ f.getD (f.length - 1) 0 = 10) : f = mkL ++ (f.drop 5).dropLast ++ [10] ∧ (f.drop 5).dropLast.length = f.length - 6 := by
  obtain ⟨h1, h2, h3⟩ := h
  have hne : f.drop 5 ≠ [] := by
    intro e
    have := congrArg List.length e
    rw [List.length_drop] at this
    simp at this
    omega
  have hl : (f.drop 5).getLast hne = 10 := by
    rw [List.getLast_eq_getElem, List.getElem_drop]
    have h4 : f.getD (f.length - 1) 0 = f[f.length - 1] := by simp [List.getD, show f.length - 1 < f.length by omega]
    rw [← h3, h4]
    congr 1
    rw [List.length_drop]
    omega
  refine ⟨?_, by simp; omega⟩
  have h5 := List.dropLast_concat_getLast hne
  rw [hl] at h5
  rw [List.append_assoc, h5, ← h2, List.take_append_drop]
theorem first_miss {m : L} (h : (32 : UInt8) ∉ m) : firstS (mkL ++ m ++ [10]) = none := by
  cases hf : firstS (mkL ++ m ++ [10]) with
  | none => rfl
  | some p =>
    obtain ⟨wo, n⟩ := p
    obtain ⟨a, ds, e, _⟩ := first_parts hf
    have := List.append_cancel_left (List.append_cancel_right e)
    rw [this] at h
    simp at h
theorem first_hit {m : L} {k : Nat} (hk : k < m.length) (h : m.getD k 0 = 32) (hn : ∀ j, j < k → m.getD j 0 ≠ 32) :
    firstS (mkL ++ m ++ [10]) = if m.take k = [45] ∨ mailS (m.take k) = true then (numS (m.drop (k + 1))).map fun n => (whom (m.take k), n) else none := by
  have hm : m = m.take k ++ 32 :: m.drop (k + 1) := by
    conv => lhs; rw [← List.take_append_drop k m]
    congr 1
    rw [List.drop_eq_getElem_cons hk]
    congr 1
    rw [← h]
    simp [List.getD, hk]
  have hno : (32 : UInt8) ∉ m.take k := fun hc => by
    obtain ⟨j, hj, e⟩ := List.mem_iff_getElem.1 hc
    rw [List.length_take] at hj
    refine hn j (by omega) ?_
    rw [List.getElem_take] at e
    simp [List.getD, show j < m.length by omega, e]
  have h5 : (mkL ++ m ++ [10]).drop 5 = m ++ [10] := by rw [List.append_assoc]; rfl
  have hmk : mark (mkL ++ m ++ [10]) = true := (mark_iff _).2 ⟨m ++ [10], by rw [List.append_assoc]; rfl⟩
  have ha : Pa.ahead 32 m = m.take k ∧ Pa.behind 32 m = m.drop (k + 1) := by
    have := ahead_at (b := m.drop (k + 1)) hno
    rw [← hm] at this
    exact this
  unfold firstS
  rw [h5, List.dropLast_concat, ha.1, ha.2]
  have hhas : has 32 m = true := has_iff.2 (by rw [hm]; simp)
  by_cases hc : m.take k = [45] ∨ mailS (m.take k) = true
  · rw [if_pos ⟨hmk, (suf_iff _).2 ⟨_, rfl⟩, hhas, hc⟩, if_pos hc]
  · rw [if_neg (fun hx => hc hx.2.2.2), if_neg hc]
theorem res_first {w : World} {g : Nat} {s : ByteArray} {v : Int} (tmps : Array Value) (hB : BlkIs w g 43 #[.string s, .int .i64 v, .slice none 0 0]) (h2 : tmps.getD 2 undef = .pointer (some ⟨g, 0, none⟩)) :
    (results Tryz.f17 tmps).run Tryz.prog w = .ok (.tuple #[.agg #[.string s, .int .i64 v, .slice none 0 0], tmps.getD 3 undef]) w := by
  rw [results_cell_tmp rfl, h2]
  have hl := run_loadVar_row (P := Tryz.prog) w g 43 43 #[.string s, .int .i64 v, .slice none 0 0] (0, 0) _ hB Tryz.underlying43 rfl (by kernel_rfl)
  simp only [asAddr, Result.andThen, Sem.run_pure]
  rw [hl]
set_option maxHeartbeats 1600000 in
theorem rfirst_any {w : World} {A : Option Addr} {f : L} (h : Bts w w.heap.size A f) (c : Nat) (hl : f.length ≤ 100000) :
    Calls Tryz.prog 17 #[.slice A f.length c] w (FirstP w f) := by
  have hcv := fun X (hX : Below w.heap.size w X) => conv_str (h.below hX) c
  have HCV := Lib.hid hcv
  clear hcv h
  have hsz := str_size f
  go_enter Tryz.func17, Tryz.ntmps17
  have hb1 : Below w.heap.size w (w.alloc (.cells #[.string ⟨#[]⟩, .int .i64 0, .slice none 0 0] 43)) := (Below.refl _ _).alloc (Nat.le_refl _) _
  have hq1 := BlkIs.new w 43 #[.string ⟨#[]⟩, .int .i64 0, .slice none 0 0]
  have hcv1 := HCV.out _ hb1
  have hx5 : (str f).extract 0 5 = str (f.take 5) := by rw [str_extract]; rfl
  have hse : ((str (f.take 5)).toList == [70, 114, 111, 109, 32]) = (f.take 5 == mkL) := by
    rw [Go.Lib.toList_data, show (str (f.take 5)).data.toList = f.take 5 by simp [str]]
    rfl
  have hxm : (str f).extract 5 (f.length - 1) = str (f.drop 5).dropLast := by
    rw [str_extract, List.dropLast_eq_take, List.length_drop]
    congr 2
  have HAT := Lib.hid (str_at f)
  have HNO0 := Lib.hid (first_no (f := f))
  have HFO := Lib.hid (first_form (f := f))
  generalize hfl : f.length = fl at *
  generalize str f = s at *
  have HB1 := Lib.hid hb1
  have HQ1 := Lib.hid hq1
  clear hb1 hq1 hfl HCV
  by_cases hsm : fl < 6
  · have HNO : Hid (firstS f = none) := Lib.hid (HNO0.out (fun hx => by omega))
    go_wp2_with fail
    exact bodyPost_ret (res_first _ HQ1.out rfl) rfl ⟨HB1.out, .inr ⟨HNO.out, _, _, rfl⟩⟩
  · by_cases h5 : f.take 5 = mkL
    · have hl0 : fl - 1 < s.size := by omega
      have hc0 := HAT.out (fl - 1) hl0
      have e0 : (((f.getD (fl - 1) 0).toNat : Int) == 10) = (f.getD (fl - 1) 0 == 10) := eq_byte _ 10
      have hse2 : ((str (f.take 5)).toList == [70, 114, 111, 109, 32]) = true := by rw [hse, h5]; rfl
      by_cases h10 : f.getD (fl - 1) 0 = 10
      · rw [h10, beq_self_eq_true] at e0
        rw [h10] at hc0
        obtain ⟨hfm, hml⟩ := HFO.out ⟨by omega, h5, h10⟩
        generalize str (f.take 5) = s5 at *
        clear hse h5 h10
        generalize (f.drop 5).dropLast = m at *
        have HFM := Lib.hid hfm
        have hmz := str_size m
        have HMA := Lib.hid (str_at m)
        have HME := Lib.hid (fun k => str_extract m k)
        have HQR := Lib.hid (fun X (hX : BlkIs X w.heap.size 43 #[.string ⟨#[]⟩, .int .i64 0, .slice none 0 0]) => hX)
        generalize hsm2 : str m = sm at *
        have HSM := Lib.hid hsm2
        clear hfm hsm2 HAT HNO0 HFO
        go_wp2_with fail
        go_loopw [5] (fun i wr => ∃ k : Nat, i = .int .i64 k ∧ k ≤ m.length ∧ (∀ j, j < k → m.getD j 0 ≠ 32) ∧ Below w.heap.size w wr ∧ BlkIs wr w.heap.size 43 #[.string ⟨#[]⟩, .int .i64 0, .slice none 0 0]) (fun i _ => m.length + 1 - (intOf i).toNat)
        case atStart => exact ⟨0, rfl, Nat.zero_le _, fun j hj => absurd hj (Nat.not_lt_zero _), HB1.out, HQ1.out⟩
        case round =>
          obtain ⟨k, rfl, hk, hno, hbel, hblk⟩ := hrel
          have HNK := Lib.hid hno
          have HBE := Lib.hid hbel
          have HBL := Lib.hid hblk
          clear hno hbel hblk HB1 HQ1 hcv1
          by_cases hlt : k < m.length
          · have hks : k < sm.size := by omega
            have hck := HMA.out k hks
            have e1 : (((m.getD k 0).toNat : Int) == 32) = (m.getD k 0 == 32) := eq_byte _ 32
            by_cases h32 : m.getD k 0 = 32
            · rw [h32, beq_self_eq_true] at e1
              rw [h32] at hck
              have hmw : mkL ++ m ++ [10] = f := HFM.out.symm
              have HIT := Lib.hid (first_hit hlt h32 HNK.out)
              rw [hmw] at HIT
              have hxa : sm.extract 0 k = str (m.take k) := by rw [← HSM.out, str_extract]; rfl
              have hxb : sm.extract (k + 1) (fl - 6) = str (m.drop (k + 1)) := by
                rw [← hml, ← HSM.out, str_extract, List.take_of_length_le (by rw [List.length_drop]; omega)]
              have HN : Hid (∀ X, Calls Tryz.prog 26 #[.string (str (m.drop (k + 1)))] X (NumP X (m.drop (k + 1)))) := Lib.hid fun X => rnumber_any _ X (by rw [List.length_drop]; omega)
              have HMB : Hid (∀ X, Calls Tryz.prog 35 #[.string (str (m.take k))] X fun e w' => e = .returned (.bool (mailS (m.take k))) ∧ Below X.heap.size X w') := Lib.hid fun X => rmailbox_any _ X (by rw [List.length_take]; omega)
              have hda : ((str (m.take k)).toList == [45]) = (m.take k == [45]) := by
                rw [Go.Lib.toList_data, show (str (m.take k)).data.toList = m.take k by simp [str]]
              have HWH : Hid (m.take k = [45] → whom (m.take k) = []) := Lib.hid fun e => by unfold whom; rw [if_pos e]
              have HWN : Hid (¬ m.take k = [45] → whom (m.take k) = m.take k) := Lib.hid fun e => by unfold whom; rw [if_neg e]
              have hsb := str_size (m.drop (k + 1))
              have hsa := str_size (m.take k)
              rw [List.length_drop] at hsb
              rw [List.length_take] at hsa
              clear h32 hmw
              generalize hA : m.take k = a at *
              generalize hD : m.drop (k + 1) = ds at *
              generalize hsa2 : str a = sa at *
              have HSA := Lib.hid hsa2
              clear hsa2
              generalize str ds = sd at *
              clear hA hD HME HMA
              go_wp2_with fail
              refine (HN.out _).mono ?_
              rintro e w2 ⟨hb2, hnum⟩
              have hN2 := HBE.out.size
              have hw2 := hb2.size
              have HB2 := Lib.hid (HBE.out.trans (hb2.mono hN2))
              have HQ2 : Hid (BlkIs w2 w.heap.size 43 #[.string ⟨#[]⟩, .int .i64 0, .slice none 0 0]) := Lib.hid ((hb2.block _ HBL.out.lt).trans HBL.out)
              clear hb2
              have hb8 := fun u v => ((Below.refl w2.heap.size w2).alloc (Nat.le_refl _) (.cells #[.string u, .int .i64 v, .slice none 0 0] 43))
              have HC8 := Lib.hid (fun u v => BlkIs.new w2 43 #[.string u, .int .i64 v, .slice none 0 0])
              have hlt2 := HQ2.out.lt
              have HQ8 := Lib.hid (fun u v => (HQ2.out.alloc (.cells #[.string u, .int .i64 v, .slice none 0 0] 43)))
              have HB8 := Lib.hid (fun u v => HB2.out.trans ((hb8 u v).mono (by omega)))
              clear hb8
              have HDA := Lib.hid hda
              clear hda
              by_cases hda1 : a = [45]
              · have hdat : (sa.toList == [45]) = true := by rw [HDA.out, hda1]; rfl
                obtain ⟨n, hn, rfl⟩ | ⟨hn, v, rfl⟩ := hnum
                · go_wp2_with fail
                  have hQ3 := HQ8.out ⟨#[]⟩ (n : Int)
                  have hC3 := HC8.out ⟨#[]⟩ (n : Int)
                  have hB3 := HB8.out ⟨#[]⟩ (n : Int)
                  generalize w2.alloc (.cells #[.string ⟨#[]⟩, .int .i64 (n : Int), .slice none 0 0] 43) = w3 at *
                  have HW32 := Lib.hid (show w2.heap.size ≠ w.heap.size by omega)
                  have hC4 : BlkIs w3.drew w2.heap.size 43 #[.string ⟨#[]⟩, .int .i64 (n : Int), .slice none 0 0] := hC3
                  have hQ4 : BlkIs w3.drew w.heap.size 43 #[.string ⟨#[]⟩, .int .i64 0, .slice none 0 0] := hQ3
                  have hB4 : Below w.heap.size w w3.drew := hB3.drew
                  clear HQ8 HC8 HB8 HN hC3 hQ3 hB3 HQ2 HB2
                  generalize w2.heap.size = b8 at *
                  refine wp_region_held_drew (S := (fun Y => BlkIs Y b8 43 #[.string ⟨#[]⟩, .int .i64 (n : Int), .slice none 0 0] ∧ Below w.heap.size w Y)) (by kernel_rfl) (⟨hC4, hB4⟩) (fun hHeld => ?_)
                  generalize w3.drew = w4 at *
                  refine wpAnyH_take (i := 0) (v := .agg #[.string ⟨#[]⟩, .int .i64 (n : Int), .slice none 0 0]) rfl (by kernel_rfl) (by kernel_rfl) (by kernel_rfl) (fun _ _ _ h => h) (Or.inl ⟨by rfl, fun w hS => by (have c0 := (BlkIs.cell hS.1 0).trans (rfl : _ = some (Value.string ⟨#[]⟩)); have c1 := (BlkIs.cell hS.1 1).trans (rfl : _ = some (Value.int .i64 (n : Int))); have c2 := (BlkIs.cell hS.1 2).trans (rfl : _ = some (Value.slice none 0 0)); first | (go_simp; done) | (go_simp; with_reducible rfl))⟩) hHeld ?_
                  try simp only [Act.put, List.getElem_toArray, List.getElem_cons_zero, List.setIfInBounds_toArray, List.set_cons_zero, List.set_cons_succ]
                  refine wpAnyH_take (i := 1) (v := .bool true) rfl (by kernel_rfl) (by kernel_rfl) (by kernel_rfl) (fun _ _ _ h => h) (Or.inl ⟨by rfl, fun w hS => by first | (go_simp; done) | (go_simp; with_reducible rfl)⟩) hHeld ?_
                  try simp only [Act.put, List.getElem_toArray, List.getElem_cons_zero, List.getElem_cons_succ, List.setIfInBounds_toArray, List.set_cons_zero, List.set_cons_succ]
                  refine wpAnyH_take (i := 2) (v := .bool true) rfl (by kernel_rfl) (by kernel_rfl) (by kernel_rfl) (fun _ _ _ h => h) (Or.inl ⟨by rfl, fun w hS => by first | (go_simp; done) | (go_simp; with_reducible rfl)⟩) hHeld ?_
                  try simp only [Act.put, List.getElem_toArray, List.getElem_cons_zero, List.getElem_cons_succ, List.setIfInBounds_toArray, List.set_cons_zero, List.set_cons_succ]
                  refine wpAnyH_take (i := 3) (v := .string sm) rfl (by kernel_rfl) (by kernel_rfl) (by kernel_rfl) (fun _ _ _ h => h) (Or.inl ⟨by rfl, fun w hS => by first | (go_simp; done) | (go_simp; with_reducible rfl)⟩) hHeld ?_
                  try simp only [Act.put, List.getElem_toArray, List.getElem_cons_zero, List.getElem_cons_succ, List.setIfInBounds_toArray, List.set_cons_zero, List.set_cons_succ]
                  refine wpAnyH_take (i := 4) (v := .int .i64 k) rfl (by kernel_rfl) (by kernel_rfl) (by kernel_rfl) (fun _ _ _ h => h) (Or.inl ⟨by rfl, fun w hS => by first | (go_simp; done) | (go_simp; with_reducible rfl)⟩) hHeld ?_
                  try simp only [Act.put, List.getElem_toArray, List.getElem_cons_zero, List.getElem_cons_succ, List.setIfInBounds_toArray, List.set_cons_zero, List.set_cons_succ]
                  refine wpAnyH_take (i := 5) (v := .string sa) rfl (by kernel_rfl) (by kernel_rfl) (by kernel_rfl) (fun _ _ _ h => h) (Or.inl ⟨by rfl, fun w hS => by (go_simp; intro hh; omega)⟩) hHeld ?_
                  try simp only [Act.put, List.getElem_toArray, List.getElem_cons_zero, List.getElem_cons_succ, List.setIfInBounds_toArray, List.set_cons_zero, List.set_cons_succ]
                  refine wpAnyH_take (i := 6) (v := .bool true) rfl (by kernel_rfl) (by kernel_rfl) (by kernel_rfl) (fun _ _ _ h => h) (Or.inl ⟨by rfl, fun w hS => by first | (go_simp; done) | (go_simp; with_reducible rfl)⟩) hHeld ?_
                  try simp only [Act.put, List.getElem_toArray, List.getElem_cons_zero, List.getElem_cons_succ, List.setIfInBounds_toArray, List.set_cons_zero, List.set_cons_succ]
                  refine wpAnyH_take (i := 7) (v := .bool true) rfl (by kernel_rfl) (by kernel_rfl) (by kernel_rfl) (fun _ _ _ h => h) (Or.inl ⟨by rfl, fun w hS => by first | (go_simp; done) | (go_simp; with_reducible rfl)⟩) hHeld ?_
                  try simp only [Act.put, List.getElem_toArray, List.getElem_cons_zero, List.getElem_cons_succ, List.setIfInBounds_toArray, List.set_cons_zero, List.set_cons_succ]
                  refine wpAnyH_take (i := 8) (v := undef) rfl (by kernel_rfl) (by kernel_rfl) (by kernel_rfl) (fun _ _ _ h => h) (Or.inr ⟨by rfl, rfl⟩) hHeld ?_
                  try simp only [Act.put, List.getElem_toArray, List.getElem_cons_zero, List.getElem_cons_succ, List.setIfInBounds_toArray, List.set_cons_zero, List.set_cons_succ]
                  refine wpAnyH_take (i := 9) (v := undef) rfl (by kernel_rfl) (by kernel_rfl) (by kernel_rfl) (fun _ _ _ h => h) (Or.inr ⟨by rfl, rfl⟩) hHeld ?_
                  try simp only [Act.put, List.getElem_toArray, List.getElem_cons_zero, List.getElem_cons_succ, List.setIfInBounds_toArray, List.set_cons_zero, List.set_cons_succ]
                  refine wpAnyH_take (i := 10) (v := undef) rfl (by kernel_rfl) (by kernel_rfl) (by kernel_rfl) (fun _ _ _ h => h) (Or.inr ⟨by rfl, rfl⟩) hHeld ?_
                  try simp only [Act.put, List.getElem_toArray, List.getElem_cons_zero, List.getElem_cons_succ, List.setIfInBounds_toArray, List.set_cons_zero, List.set_cons_succ]
                  refine wpAnyH_take (i := 11) (v := undef) rfl (by kernel_rfl) (by kernel_rfl) (by kernel_rfl) (fun _ _ _ h => h) (Or.inr ⟨by rfl, rfl⟩) hHeld ?_
                  try simp only [Act.put, List.getElem_toArray, List.getElem_cons_zero, List.getElem_cons_succ, List.setIfInBounds_toArray, List.set_cons_zero, List.set_cons_succ]
                  refine wpAnyH_take (i := 12) (v := .bool true) rfl (by kernel_rfl) (by kernel_rfl) (by kernel_rfl) (fun _ _ _ h => h) (Or.inl ⟨by rfl, fun w hS => by first | (go_simp; done) | (go_simp; with_reducible rfl)⟩) hHeld ?_
                  try simp only [Act.put, List.getElem_toArray, List.getElem_cons_zero, List.getElem_cons_succ, List.setIfInBounds_toArray, List.set_cons_zero, List.set_cons_succ]
                  refine wpAnyH_take (i := 13) (v := .bool true) rfl (by kernel_rfl) (by kernel_rfl) (by kernel_rfl) (fun _ _ _ h => h) (Or.inl ⟨by rfl, fun w hS => by first | (go_simp; done) | (go_simp; with_reducible rfl)⟩) hHeld ?_
                  try simp only [Act.put, List.getElem_toArray, List.getElem_cons_zero, List.getElem_cons_succ, List.setIfInBounds_toArray, List.set_cons_zero, List.set_cons_succ]
                  have z0c := (BlkIs.cell hQ4 0).trans (rfl : _ = some (Value.string ⟨#[]⟩))
                  have z1c := (BlkIs.cell hQ4 1).trans (rfl : _ = some (Value.int .i64 0))
                  have z2c := (BlkIs.cell hQ4 2).trans (rfl : _ = some (Value.slice none 0 0))
                  have zf0 := hQ4.froz 0
                  have zf1 := hQ4.froz 1
                  have zf2 := hQ4.froz 2
                  have HQF := Lib.hid (((hQ4.put 0 (.string ⟨#[]⟩)).put 1 (.int .i64 (n : Int))).put 2 (.slice none 0 0))
                  have HBF := Lib.hid (((hB4.setCell (p := ⟨w.heap.size, 0, none⟩) (Nat.le_refl _) (.string ⟨#[]⟩)).setCell (p := ⟨w.heap.size, 1, none⟩) (Nat.le_refl _) (.int .i64 (n : Int))).setCell (p := ⟨w.heap.size, 2, none⟩) (Nat.le_refl _) (.slice none 0 0))
                  have HCF := Lib.hid (((hC4.far (x := ⟨w.heap.size, 0, none⟩) HW32.out (.string ⟨#[]⟩)).far (x := ⟨w.heap.size, 1, none⟩) HW32.out (.int .i64 (n : Int))).far (x := ⟨w.heap.size, 2, none⟩) HW32.out (.slice none 0 0))
                  refine wpAnyH_ready (rs := [14]) (by kernel_rfl) (by simp) ?_
                  refine AllReadyH.cons rfl (fun K hK => ?_) AllReadyH.nil
                  go_simp
                  refine hK.out _ _ ?_ (fun hHeld => ?_)
                  · exact ⟨HCF.out, HBF.out⟩
                  clear hK K
                  try simp only [Act.put, List.getElem_toArray, List.getElem_cons_zero, List.getElem_cons_succ, List.setIfInBounds_toArray, List.set_cons_zero, List.set_cons_succ]
                  refine wpAnyH_take (i := 15) (v := .bool true) rfl (by kernel_rfl) (by kernel_rfl) (by kernel_rfl) (fun _ _ _ h => h) (Or.inl ⟨by rfl, fun w hS => by first | (go_simp; done) | (go_simp; with_reducible rfl)⟩) hHeld ?_
                  try simp only [Act.put, List.getElem_toArray, List.getElem_cons_zero, List.getElem_cons_succ, List.setIfInBounds_toArray, List.set_cons_zero, List.set_cons_succ]
                  refine wpAnyH_done (by kernel_rfl) ?_ _
                  go_wp2_with fail
                  refine bodyPost_ret (res_first _ HQF.out rfl) rfl ⟨HBF.out, .inl ⟨[], n, ?_, rfl⟩⟩
                  rw [HIT.out, if_pos (Or.inl hda1), hn, HWH.out hda1]
                  rfl
                · go_wp2_with fail
                  have hQ3 := HQ8.out ⟨#[]⟩ v
                  have hC3 := HC8.out ⟨#[]⟩ v
                  have hB3 := HB8.out ⟨#[]⟩ v
                  generalize w2.alloc (.cells #[.string ⟨#[]⟩, .int .i64 v, .slice none 0 0] 43) = w3 at *
                  have HW32 := Lib.hid (show w2.heap.size ≠ w.heap.size by omega)
                  have hC4 : BlkIs w3.drew w2.heap.size 43 #[.string ⟨#[]⟩, .int .i64 v, .slice none 0 0] := hC3
                  have hQ4 : BlkIs w3.drew w.heap.size 43 #[.string ⟨#[]⟩, .int .i64 0, .slice none 0 0] := hQ3
                  have hB4 : Below w.heap.size w w3.drew := hB3.drew
                  clear HQ8 HC8 HB8 HN hC3 hQ3 hB3 HQ2 HB2
                  generalize w2.heap.size = b8 at *
                  refine wp_region_held_drew (S := (fun Y => BlkIs Y b8 43 #[.string ⟨#[]⟩, .int .i64 v, .slice none 0 0] ∧ Below w.heap.size w Y)) (by kernel_rfl) (⟨hC4, hB4⟩) (fun hHeld => ?_)
                  generalize w3.drew = w4 at *
                  refine wpAnyH_take (i := 0) (v := .agg #[.string ⟨#[]⟩, .int .i64 v, .slice none 0 0]) rfl (by kernel_rfl) (by kernel_rfl) (by kernel_rfl) (fun _ _ _ h => h) (Or.inl ⟨by rfl, fun w hS => by (have c0 := (BlkIs.cell hS.1 0).trans (rfl : _ = some (Value.string ⟨#[]⟩)); have c1 := (BlkIs.cell hS.1 1).trans (rfl : _ = some (Value.int .i64 v)); have c2 := (BlkIs.cell hS.1 2).trans (rfl : _ = some (Value.slice none 0 0)); first | (go_simp; done) | (go_simp; with_reducible rfl))⟩) hHeld ?_
                  try simp only [Act.put, List.getElem_toArray, List.getElem_cons_zero, List.setIfInBounds_toArray, List.set_cons_zero, List.set_cons_succ]
                  refine wpAnyH_take (i := 1) (v := .bool false) rfl (by kernel_rfl) (by kernel_rfl) (by kernel_rfl) (fun _ _ _ h => h) (Or.inl ⟨by rfl, fun w hS => by first | (go_simp; done) | (go_simp; with_reducible rfl)⟩) hHeld ?_
                  try simp only [Act.put, List.getElem_toArray, List.getElem_cons_zero, List.getElem_cons_succ, List.setIfInBounds_toArray, List.set_cons_zero, List.set_cons_succ]
                  refine wpAnyH_take (i := 2) (v := .bool false) rfl (by kernel_rfl) (by kernel_rfl) (by kernel_rfl) (fun _ _ _ h => h) (Or.inl ⟨by rfl, fun w hS => by first | (go_simp; done) | (go_simp; with_reducible rfl)⟩) hHeld ?_
                  try simp only [Act.put, List.getElem_toArray, List.getElem_cons_zero, List.getElem_cons_succ, List.setIfInBounds_toArray, List.set_cons_zero, List.set_cons_succ]
                  refine wpAnyH_take (i := 3) (v := undef) rfl (by kernel_rfl) (by kernel_rfl) (by kernel_rfl) (fun _ _ _ h => h) (Or.inr ⟨by rfl, rfl⟩) hHeld ?_
                  try simp only [Act.put, List.getElem_toArray, List.getElem_cons_zero, List.getElem_cons_succ, List.setIfInBounds_toArray, List.set_cons_zero, List.set_cons_succ]
                  refine wpAnyH_take (i := 4) (v := undef) rfl (by kernel_rfl) (by kernel_rfl) (by kernel_rfl) (fun _ _ _ h => h) (Or.inr ⟨by rfl, rfl⟩) hHeld ?_
                  try simp only [Act.put, List.getElem_toArray, List.getElem_cons_zero, List.getElem_cons_succ, List.setIfInBounds_toArray, List.set_cons_zero, List.set_cons_succ]
                  refine wpAnyH_take (i := 5) (v := undef) rfl (by kernel_rfl) (by kernel_rfl) (by kernel_rfl) (fun _ _ _ h => h) (Or.inr ⟨by rfl, rfl⟩) hHeld ?_
                  try simp only [Act.put, List.getElem_toArray, List.getElem_cons_zero, List.getElem_cons_succ, List.setIfInBounds_toArray, List.set_cons_zero, List.set_cons_succ]
                  refine wpAnyH_take (i := 6) (v := undef) rfl (by kernel_rfl) (by kernel_rfl) (by kernel_rfl) (fun _ _ _ h => h) (Or.inr ⟨by rfl, rfl⟩) hHeld ?_
                  try simp only [Act.put, List.getElem_toArray, List.getElem_cons_zero, List.getElem_cons_succ, List.setIfInBounds_toArray, List.set_cons_zero, List.set_cons_succ]
                  refine wpAnyH_take (i := 7) (v := undef) rfl (by kernel_rfl) (by kernel_rfl) (by kernel_rfl) (fun _ _ _ h => h) (Or.inr ⟨by rfl, rfl⟩) hHeld ?_
                  try simp only [Act.put, List.getElem_toArray, List.getElem_cons_zero, List.getElem_cons_succ, List.setIfInBounds_toArray, List.set_cons_zero, List.set_cons_succ]
                  refine wpAnyH_take (i := 8) (v := undef) rfl (by kernel_rfl) (by kernel_rfl) (by kernel_rfl) (fun _ _ _ h => h) (Or.inr ⟨by rfl, rfl⟩) hHeld ?_
                  try simp only [Act.put, List.getElem_toArray, List.getElem_cons_zero, List.getElem_cons_succ, List.setIfInBounds_toArray, List.set_cons_zero, List.set_cons_succ]
                  refine wpAnyH_take (i := 9) (v := undef) rfl (by kernel_rfl) (by kernel_rfl) (by kernel_rfl) (fun _ _ _ h => h) (Or.inr ⟨by rfl, rfl⟩) hHeld ?_
                  try simp only [Act.put, List.getElem_toArray, List.getElem_cons_zero, List.getElem_cons_succ, List.setIfInBounds_toArray, List.set_cons_zero, List.set_cons_succ]
                  refine wpAnyH_take (i := 10) (v := undef) rfl (by kernel_rfl) (by kernel_rfl) (by kernel_rfl) (fun _ _ _ h => h) (Or.inr ⟨by rfl, rfl⟩) hHeld ?_
                  try simp only [Act.put, List.getElem_toArray, List.getElem_cons_zero, List.getElem_cons_succ, List.setIfInBounds_toArray, List.set_cons_zero, List.set_cons_succ]
                  refine wpAnyH_take (i := 11) (v := undef) rfl (by kernel_rfl) (by kernel_rfl) (by kernel_rfl) (fun _ _ _ h => h) (Or.inr ⟨by rfl, rfl⟩) hHeld ?_
                  try simp only [Act.put, List.getElem_toArray, List.getElem_cons_zero, List.getElem_cons_succ, List.setIfInBounds_toArray, List.set_cons_zero, List.set_cons_succ]
                  refine wpAnyH_take (i := 12) (v := undef) rfl (by kernel_rfl) (by kernel_rfl) (by kernel_rfl) (fun _ _ _ h => h) (Or.inr ⟨by rfl, rfl⟩) hHeld ?_
                  try simp only [Act.put, List.getElem_toArray, List.getElem_cons_zero, List.getElem_cons_succ, List.setIfInBounds_toArray, List.set_cons_zero, List.set_cons_succ]
                  refine wpAnyH_take (i := 13) (v := .bool false) rfl (by kernel_rfl) (by kernel_rfl) (by kernel_rfl) (fun _ _ _ h => h) (Or.inl ⟨by rfl, fun w hS => by first | (go_simp; done) | (go_simp; with_reducible rfl)⟩) hHeld ?_
                  try simp only [Act.put, List.getElem_toArray, List.getElem_cons_zero, List.getElem_cons_succ, List.setIfInBounds_toArray, List.set_cons_zero, List.set_cons_succ]
                  have z0c := (BlkIs.cell hQ4 0).trans (rfl : _ = some (Value.string ⟨#[]⟩))
                  have z1c := (BlkIs.cell hQ4 1).trans (rfl : _ = some (Value.int .i64 0))
                  have z2c := (BlkIs.cell hQ4 2).trans (rfl : _ = some (Value.slice none 0 0))
                  have zf0 := hQ4.froz 0
                  have zf1 := hQ4.froz 1
                  have zf2 := hQ4.froz 2
                  have HQF := Lib.hid (((hQ4.put 0 (.string ⟨#[]⟩)).put 1 (.int .i64 v)).put 2 (.slice none 0 0))
                  have HBF := Lib.hid (((hB4.setCell (p := ⟨w.heap.size, 0, none⟩) (Nat.le_refl _) (.string ⟨#[]⟩)).setCell (p := ⟨w.heap.size, 1, none⟩) (Nat.le_refl _) (.int .i64 v)).setCell (p := ⟨w.heap.size, 2, none⟩) (Nat.le_refl _) (.slice none 0 0))
                  have HCF := Lib.hid (((hC4.far (x := ⟨w.heap.size, 0, none⟩) HW32.out (.string ⟨#[]⟩)).far (x := ⟨w.heap.size, 1, none⟩) HW32.out (.int .i64 v)).far (x := ⟨w.heap.size, 2, none⟩) HW32.out (.slice none 0 0))
                  refine wpAnyH_ready (rs := [14]) (by kernel_rfl) (by simp) ?_
                  refine AllReadyH.cons rfl (fun K hK => ?_) AllReadyH.nil
                  go_simp
                  refine hK.out _ _ ?_ (fun hHeld => ?_)
                  · exact ⟨HCF.out, HBF.out⟩
                  clear hK K
                  try simp only [Act.put, List.getElem_toArray, List.getElem_cons_zero, List.getElem_cons_succ, List.setIfInBounds_toArray, List.set_cons_zero, List.set_cons_succ]
                  refine wpAnyH_take (i := 15) (v := .bool false) rfl (by kernel_rfl) (by kernel_rfl) (by kernel_rfl) (fun _ _ _ h => h) (Or.inl ⟨by rfl, fun w hS => by first | (go_simp; done) | (go_simp; with_reducible rfl)⟩) hHeld ?_
                  try simp only [Act.put, List.getElem_toArray, List.getElem_cons_zero, List.getElem_cons_succ, List.setIfInBounds_toArray, List.set_cons_zero, List.set_cons_succ]
                  refine wpAnyH_done (by kernel_rfl) ?_ _
                  go_wp2_with fail
                  refine bodyPost_ret (res_first _ HQF.out rfl) rfl ⟨HBF.out, .inr ⟨?_, _, _, rfl⟩⟩
                  rw [HIT.out, hn]
                  split <;> rfl
              · have hdat : (sa.toList == [45]) = false := by rw [HDA.out]; simpa using hda1
                have hdan : ¬ sa.toList = [45] := fun e => by rw [e] at hdat; exact absurd hdat (by decide)
                obtain ⟨n, hn, rfl⟩ | ⟨hn, v, rfl⟩ := hnum
                · go_wp2_with fail
                  have hQ3 := HQ8.out sa (n : Int)
                  have hC3 := HC8.out sa (n : Int)
                  have hB3 := HB8.out sa (n : Int)
                  generalize w2.alloc (.cells #[.string sa, .int .i64 (n : Int), .slice none 0 0] 43) = w3 at *
                  have HW32 := Lib.hid (show w2.heap.size ≠ w.heap.size by omega)
                  have hC4 : BlkIs w3.drew w2.heap.size 43 #[.string sa, .int .i64 (n : Int), .slice none 0 0] := hC3
                  have hQ4 : BlkIs w3.drew w.heap.size 43 #[.string ⟨#[]⟩, .int .i64 0, .slice none 0 0] := hQ3
                  have hB4 : Below w.heap.size w w3.drew := hB3.drew
                  clear HQ8 HC8 HB8 HN hC3 hQ3 hB3 HQ2 HB2
                  generalize w2.heap.size = b8 at *
                  refine wp_region_held_drew (S := (fun Y => BlkIs Y b8 43 #[.string sa, .int .i64 (n : Int), .slice none 0 0] ∧ Below w.heap.size w Y)) (by kernel_rfl) (⟨hC4, hB4⟩) (fun hHeld => ?_)
                  generalize w3.drew = w4 at *
                  refine wpAnyH_take (i := 0) (v := .agg #[.string sa, .int .i64 (n : Int), .slice none 0 0]) rfl (by kernel_rfl) (by kernel_rfl) (by kernel_rfl) (fun _ _ _ h => h) (Or.inl ⟨by rfl, fun w hS => by (have c0 := (BlkIs.cell hS.1 0).trans (rfl : _ = some (Value.string sa)); have c1 := (BlkIs.cell hS.1 1).trans (rfl : _ = some (Value.int .i64 (n : Int))); have c2 := (BlkIs.cell hS.1 2).trans (rfl : _ = some (Value.slice none 0 0)); first | (go_simp; done) | (go_simp; with_reducible rfl))⟩) hHeld ?_
                  try simp only [Act.put, List.getElem_toArray, List.getElem_cons_zero, List.setIfInBounds_toArray, List.set_cons_zero, List.set_cons_succ]
                  refine wpAnyH_take (i := 1) (v := .bool true) rfl (by kernel_rfl) (by kernel_rfl) (by kernel_rfl) (fun _ _ _ h => h) (Or.inl ⟨by rfl, fun w hS => by first | (go_simp; done) | (go_simp; with_reducible rfl)⟩) hHeld ?_
                  try simp only [Act.put, List.getElem_toArray, List.getElem_cons_zero, List.getElem_cons_succ, List.setIfInBounds_toArray, List.set_cons_zero, List.set_cons_succ]
                  refine wpAnyH_take (i := 2) (v := .bool true) rfl (by kernel_rfl) (by kernel_rfl) (by kernel_rfl) (fun _ _ _ h => h) (Or.inl ⟨by rfl, fun w hS => by first | (go_simp; done) | (go_simp; with_reducible rfl)⟩) hHeld ?_
                  try simp only [Act.put, List.getElem_toArray, List.getElem_cons_zero, List.getElem_cons_succ, List.setIfInBounds_toArray, List.set_cons_zero, List.set_cons_succ]
                  refine wpAnyH_take (i := 3) (v := .string sm) rfl (by kernel_rfl) (by kernel_rfl) (by kernel_rfl) (fun _ _ _ h => h) (Or.inl ⟨by rfl, fun w hS => by first | (go_simp; done) | (go_simp; with_reducible rfl)⟩) hHeld ?_
                  try simp only [Act.put, List.getElem_toArray, List.getElem_cons_zero, List.getElem_cons_succ, List.setIfInBounds_toArray, List.set_cons_zero, List.set_cons_succ]
                  refine wpAnyH_take (i := 4) (v := .int .i64 k) rfl (by kernel_rfl) (by kernel_rfl) (by kernel_rfl) (fun _ _ _ h => h) (Or.inl ⟨by rfl, fun w hS => by first | (go_simp; done) | (go_simp; with_reducible rfl)⟩) hHeld ?_
                  try simp only [Act.put, List.getElem_toArray, List.getElem_cons_zero, List.getElem_cons_succ, List.setIfInBounds_toArray, List.set_cons_zero, List.set_cons_succ]
                  refine wpAnyH_take (i := 5) (v := .string sa) rfl (by kernel_rfl) (by kernel_rfl) (by kernel_rfl) (fun _ _ _ h => h) (Or.inl ⟨by rfl, fun w hS => by (go_simp; intro hh; omega)⟩) hHeld ?_
                  try simp only [Act.put, List.getElem_toArray, List.getElem_cons_zero, List.getElem_cons_succ, List.setIfInBounds_toArray, List.set_cons_zero, List.set_cons_succ]
                  refine wpAnyH_take (i := 6) (v := .bool false) rfl (by kernel_rfl) (by kernel_rfl) (by kernel_rfl) (fun _ _ _ h => h) (Or.inl ⟨by rfl, fun w hS => by first | (go_simp; done) | (go_simp; with_reducible rfl)⟩) hHeld ?_
                  try simp only [Act.put, List.getElem_toArray, List.getElem_cons_zero, List.getElem_cons_succ, List.setIfInBounds_toArray, List.set_cons_zero, List.set_cons_succ]
                  refine wpAnyH_take (i := 7) (v := .bool false) rfl (by kernel_rfl) (by kernel_rfl) (by kernel_rfl) (fun _ _ _ h => h) (Or.inl ⟨by rfl, fun w hS => by first | (go_simp; done) | (go_simp; with_reducible rfl)⟩) hHeld ?_
                  try simp only [Act.put, List.getElem_toArray, List.getElem_cons_zero, List.getElem_cons_succ, List.setIfInBounds_toArray, List.set_cons_zero, List.set_cons_succ]
                  refine wpAnyH_take (i := 8) (v := .string sm) rfl (by kernel_rfl) (by kernel_rfl) (by kernel_rfl) (fun _ _ _ h => h) (Or.inl ⟨by rfl, fun w hS => by first | (go_simp; done) | (go_simp; with_reducible rfl)⟩) hHeld ?_
                  try simp only [Act.put, List.getElem_toArray, List.getElem_cons_zero, List.getElem_cons_succ, List.setIfInBounds_toArray, List.set_cons_zero, List.set_cons_succ]
                  refine wpAnyH_take (i := 9) (v := .int .i64 k) rfl (by kernel_rfl) (by kernel_rfl) (by kernel_rfl) (fun _ _ _ h => h) (Or.inl ⟨by rfl, fun w hS => by first | (go_simp; done) | (go_simp; with_reducible rfl)⟩) hHeld ?_
                  try simp only [Act.put, List.getElem_toArray, List.getElem_cons_zero, List.getElem_cons_succ, List.setIfInBounds_toArray, List.set_cons_zero, List.set_cons_succ]
                  refine wpAnyH_take (i := 10) (v := .string sa) rfl (by kernel_rfl) (by kernel_rfl) (by kernel_rfl) (fun _ _ _ h => h) (Or.inl ⟨by rfl, fun w hS => by (go_simp; intro hh; omega)⟩) hHeld ?_
                  try simp only [Act.put, List.getElem_toArray, List.getElem_cons_zero, List.getElem_cons_succ, List.setIfInBounds_toArray, List.set_cons_zero, List.set_cons_succ]
                  refine wpAnyH_ready (rs := [11]) (by kernel_rfl) (by simp) ?_
                  refine AllReadyH.cons rfl (fun K hK => ?_) AllReadyH.nil
                  go_simp
                  go_wp2_with ((go_at_call 35; refine (HMB.out _).mono ?_; rintro e w5 ⟨rfl, hb5⟩; have hB5 := hB4.trans (hb5.mono hB4.size); have hQ5 := (hb5.block _ hQ4.lt).trans hQ4; have hC5 := (hb5.block _ hC4.lt).trans hC4))
                  refine hK.out _ _ ?_ (fun hHeld => ?_)
                  · exact ⟨hC5, hB5⟩
                  clear hK K
                  try simp only [Act.put, List.getElem_toArray, List.getElem_cons_zero, List.getElem_cons_succ, List.setIfInBounds_toArray, List.set_cons_zero, List.set_cons_succ]
                  change BlkIs _ _ _ _ at hQ5
                  change BlkIs _ _ _ _ at hC5
                  generalize mailS a = mb at *
                  refine wpAnyH_take (i := 12) (v := .bool mb) rfl (by kernel_rfl) (by kernel_rfl) (by kernel_rfl) (fun _ _ _ h => h) (Or.inl ⟨by rfl, fun w hS => by first | (go_simp; done) | (go_simp; with_reducible rfl)⟩) hHeld ?_
                  try simp only [Act.put, List.getElem_toArray, List.getElem_cons_zero, List.getElem_cons_succ, List.setIfInBounds_toArray, List.set_cons_zero, List.set_cons_succ]
                  refine wpAnyH_take (i := 13) (v := .bool mb) rfl (by kernel_rfl) (by kernel_rfl) (by kernel_rfl) (fun _ _ _ h => h) (Or.inl ⟨by rfl, fun w hS => by first | (go_simp; done) | (go_simp; with_reducible rfl)⟩) hHeld ?_
                  try simp only [Act.put, List.getElem_toArray, List.getElem_cons_zero, List.getElem_cons_succ, List.setIfInBounds_toArray, List.set_cons_zero, List.set_cons_succ]
                  have z0c := (BlkIs.cell hQ5 0).trans (rfl : _ = some (Value.string ⟨#[]⟩))
                  have z1c := (BlkIs.cell hQ5 1).trans (rfl : _ = some (Value.int .i64 0))
                  have z2c := (BlkIs.cell hQ5 2).trans (rfl : _ = some (Value.slice none 0 0))
                  have zf0 := hQ5.froz 0
                  have zf1 := hQ5.froz 1
                  have zf2 := hQ5.froz 2
                  have HQF := Lib.hid (((hQ5.put 0 (.string sa)).put 1 (.int .i64 (n : Int))).put 2 (.slice none 0 0))
                  have HBF := Lib.hid (((hB5.setCell (p := ⟨w.heap.size, 0, none⟩) (Nat.le_refl _) (.string sa)).setCell (p := ⟨w.heap.size, 1, none⟩) (Nat.le_refl _) (.int .i64 (n : Int))).setCell (p := ⟨w.heap.size, 2, none⟩) (Nat.le_refl _) (.slice none 0 0))
                  have HCF := Lib.hid (((hC5.far (x := ⟨w.heap.size, 0, none⟩) HW32.out (.string sa)).far (x := ⟨w.heap.size, 1, none⟩) HW32.out (.int .i64 (n : Int))).far (x := ⟨w.heap.size, 2, none⟩) HW32.out (.slice none 0 0))
                  refine wpAnyH_ready (rs := [14]) (by kernel_rfl) (by simp) ?_
                  refine AllReadyH.cons rfl (fun K hK => ?_) AllReadyH.nil
                  go_simp
                  refine hK.out _ _ ?_ (fun hHeld => ?_)
                  · exact ⟨HCF.out, HBF.out⟩
                  clear hK K
                  try simp only [Act.put, List.getElem_toArray, List.getElem_cons_zero, List.getElem_cons_succ, List.setIfInBounds_toArray, List.set_cons_zero, List.set_cons_succ]
                  refine wpAnyH_take (i := 15) (v := .bool mb) rfl (by kernel_rfl) (by kernel_rfl) (by kernel_rfl) (fun _ _ _ h => h) (Or.inl ⟨by rfl, fun w hS => by first | (go_simp; done) | (go_simp; with_reducible rfl)⟩) hHeld ?_
                  try simp only [Act.put, List.getElem_toArray, List.getElem_cons_zero, List.getElem_cons_succ, List.setIfInBounds_toArray, List.set_cons_zero, List.set_cons_succ]
                  refine wpAnyH_done (by kernel_rfl) ?_ _
                  go_wp2_with fail
                  cases mb with
                  | true =>
                    refine bodyPost_ret (res_first _ HQF.out rfl) rfl ⟨HBF.out, .inl ⟨a, n, ?_, by rw [HSA.out]; rfl⟩⟩
                    rw [HIT.out, if_pos (Or.inr rfl), hn, HWN.out hda1]
                    rfl
                  | false =>
                    refine bodyPost_ret (res_first _ HQF.out rfl) rfl ⟨HBF.out, .inr ⟨?_, _, _, rfl⟩⟩
                    rw [HIT.out, if_neg (fun hx => hx.elim hda1 (by simp))]
                · go_wp2_with fail
                  have hQ3 := HQ8.out sa v
                  have hC3 := HC8.out sa v
                  have hB3 := HB8.out sa v
                  generalize w2.alloc (.cells #[.string sa, .int .i64 v, .slice none 0 0] 43) = w3 at *
                  have HW32 := Lib.hid (show w2.heap.size ≠ w.heap.size by omega)
                  have hC4 : BlkIs w3.drew w2.heap.size 43 #[.string sa, .int .i64 v, .slice none 0 0] := hC3
                  have hQ4 : BlkIs w3.drew w.heap.size 43 #[.string ⟨#[]⟩, .int .i64 0, .slice none 0 0] := hQ3
                  have hB4 : Below w.heap.size w w3.drew := hB3.drew
                  clear HQ8 HC8 HB8 HN hC3 hQ3 hB3 HQ2 HB2
                  generalize w2.heap.size = b8 at *
                  refine wp_region_held_drew (S := (fun Y => BlkIs Y b8 43 #[.string sa, .int .i64 v, .slice none 0 0] ∧ Below w.heap.size w Y)) (by kernel_rfl) (⟨hC4, hB4⟩) (fun hHeld => ?_)
                  generalize w3.drew = w4 at *
                  refine wpAnyH_take (i := 0) (v := .agg #[.string sa, .int .i64 v, .slice none 0 0]) rfl (by kernel_rfl) (by kernel_rfl) (by kernel_rfl) (fun _ _ _ h => h) (Or.inl ⟨by rfl, fun w hS => by (have c0 := (BlkIs.cell hS.1 0).trans (rfl : _ = some (Value.string sa)); have c1 := (BlkIs.cell hS.1 1).trans (rfl : _ = some (Value.int .i64 v)); have c2 := (BlkIs.cell hS.1 2).trans (rfl : _ = some (Value.slice none 0 0)); first | (go_simp; done) | (go_simp; with_reducible rfl))⟩) hHeld ?_
                  try simp only [Act.put, List.getElem_toArray, List.getElem_cons_zero, List.setIfInBounds_toArray, List.set_cons_zero, List.set_cons_succ]
                  refine wpAnyH_take (i := 1) (v := .bool false) rfl (by kernel_rfl) (by kernel_rfl) (by kernel_rfl) (fun _ _ _ h => h) (Or.inl ⟨by rfl, fun w hS => by first | (go_simp; done) | (go_simp; with_reducible rfl)⟩) hHeld ?_
                  try simp only [Act.put, List.getElem_toArray, List.getElem_cons_zero, List.getElem_cons_succ, List.setIfInBounds_toArray, List.set_cons_zero, List.set_cons_succ]
                  refine wpAnyH_take (i := 2) (v := .bool false) rfl (by kernel_rfl) (by kernel_rfl) (by kernel_rfl) (fun _ _ _ h => h) (Or.inl ⟨by rfl, fun w hS => by first | (go_simp; done) | (go_simp; with_reducible rfl)⟩) hHeld ?_
                  try simp only [Act.put, List.getElem_toArray, List.getElem_cons_zero, List.getElem_cons_succ, List.setIfInBounds_toArray, List.set_cons_zero, List.set_cons_succ]
                  refine wpAnyH_take (i := 3) (v := undef) rfl (by kernel_rfl) (by kernel_rfl) (by kernel_rfl) (fun _ _ _ h => h) (Or.inr ⟨by rfl, rfl⟩) hHeld ?_
                  try simp only [Act.put, List.getElem_toArray, List.getElem_cons_zero, List.getElem_cons_succ, List.setIfInBounds_toArray, List.set_cons_zero, List.set_cons_succ]
                  refine wpAnyH_take (i := 4) (v := undef) rfl (by kernel_rfl) (by kernel_rfl) (by kernel_rfl) (fun _ _ _ h => h) (Or.inr ⟨by rfl, rfl⟩) hHeld ?_
                  try simp only [Act.put, List.getElem_toArray, List.getElem_cons_zero, List.getElem_cons_succ, List.setIfInBounds_toArray, List.set_cons_zero, List.set_cons_succ]
                  refine wpAnyH_take (i := 5) (v := undef) rfl (by kernel_rfl) (by kernel_rfl) (by kernel_rfl) (fun _ _ _ h => h) (Or.inr ⟨by rfl, rfl⟩) hHeld ?_
                  try simp only [Act.put, List.getElem_toArray, List.getElem_cons_zero, List.getElem_cons_succ, List.setIfInBounds_toArray, List.set_cons_zero, List.set_cons_succ]
                  refine wpAnyH_take (i := 6) (v := undef) rfl (by kernel_rfl) (by kernel_rfl) (by kernel_rfl) (fun _ _ _ h => h) (Or.inr ⟨by rfl, rfl⟩) hHeld ?_
                  try simp only [Act.put, List.getElem_toArray, List.getElem_cons_zero, List.getElem_cons_succ, List.setIfInBounds_toArray, List.set_cons_zero, List.set_cons_succ]
                  refine wpAnyH_take (i := 7) (v := undef) rfl (by kernel_rfl) (by kernel_rfl) (by kernel_rfl) (fun _ _ _ h => h) (Or.inr ⟨by rfl, rfl⟩) hHeld ?_
                  try simp only [Act.put, List.getElem_toArray, List.getElem_cons_zero, List.getElem_cons_succ, List.setIfInBounds_toArray, List.set_cons_zero, List.set_cons_succ]
                  refine wpAnyH_take (i := 8) (v := undef) rfl (by kernel_rfl) (by kernel_rfl) (by kernel_rfl) (fun _ _ _ h => h) (Or.inr ⟨by rfl, rfl⟩) hHeld ?_
                  try simp only [Act.put, List.getElem_toArray, List.getElem_cons_zero, List.getElem_cons_succ, List.setIfInBounds_toArray, List.set_cons_zero, List.set_cons_succ]
                  refine wpAnyH_take (i := 9) (v := undef) rfl (by kernel_rfl) (by kernel_rfl) (by kernel_rfl) (fun _ _ _ h => h) (Or.inr ⟨by rfl, rfl⟩) hHeld ?_
                  try simp only [Act.put, List.getElem_toArray, List.getElem_cons_zero, List.getElem_cons_succ, List.setIfInBounds_toArray, List.set_cons_zero, List.set_cons_succ]
                  refine wpAnyH_take (i := 10) (v := undef) rfl (by kernel_rfl) (by kernel_rfl) (by kernel_rfl) (fun _ _ _ h => h) (Or.inr ⟨by rfl, rfl⟩) hHeld ?_
                  try simp only [Act.put, List.getElem_toArray, List.getElem_cons_zero, List.getElem_cons_succ, List.setIfInBounds_toArray, List.set_cons_zero, List.set_cons_succ]
                  refine wpAnyH_take (i := 11) (v := undef) rfl (by kernel_rfl) (by kernel_rfl) (by kernel_rfl) (fun _ _ _ h => h) (Or.inr ⟨by rfl, rfl⟩) hHeld ?_
                  try simp only [Act.put, List.getElem_toArray, List.getElem_cons_zero, List.getElem_cons_succ, List.setIfInBounds_toArray, List.set_cons_zero, List.set_cons_succ]
                  refine wpAnyH_take (i := 12) (v := undef) rfl (by kernel_rfl) (by kernel_rfl) (by kernel_rfl) (fun _ _ _ h => h) (Or.inr ⟨by rfl, rfl⟩) hHeld ?_
                  try simp only [Act.put, List.getElem_toArray, List.getElem_cons_zero, List.getElem_cons_succ, List.setIfInBounds_toArray, List.set_cons_zero, List.set_cons_succ]
                  refine wpAnyH_take (i := 13) (v := .bool false) rfl (by kernel_rfl) (by kernel_rfl) (by kernel_rfl) (fun _ _ _ h => h) (Or.inl ⟨by rfl, fun w hS => by first | (go_simp; done) | (go_simp; with_reducible rfl)⟩) hHeld ?_
                  try simp only [Act.put, List.getElem_toArray, List.getElem_cons_zero, List.getElem_cons_succ, List.setIfInBounds_toArray, List.set_cons_zero, List.set_cons_succ]
                  have z0c := (BlkIs.cell hQ4 0).trans (rfl : _ = some (Value.string ⟨#[]⟩))
                  have z1c := (BlkIs.cell hQ4 1).trans (rfl : _ = some (Value.int .i64 0))
                  have z2c := (BlkIs.cell hQ4 2).trans (rfl : _ = some (Value.slice none 0 0))
                  have zf0 := hQ4.froz 0
                  have zf1 := hQ4.froz 1
                  have zf2 := hQ4.froz 2
                  have HQF := Lib.hid (((hQ4.put 0 (.string sa)).put 1 (.int .i64 v)).put 2 (.slice none 0 0))
                  have HBF := Lib.hid (((hB4.setCell (p := ⟨w.heap.size, 0, none⟩) (Nat.le_refl _) (.string sa)).setCell (p := ⟨w.heap.size, 1, none⟩) (Nat.le_refl _) (.int .i64 v)).setCell (p := ⟨w.heap.size, 2, none⟩) (Nat.le_refl _) (.slice none 0 0))
                  have HCF := Lib.hid (((hC4.far (x := ⟨w.heap.size, 0, none⟩) HW32.out (.string sa)).far (x := ⟨w.heap.size, 1, none⟩) HW32.out (.int .i64 v)).far (x := ⟨w.heap.size, 2, none⟩) HW32.out (.slice none 0 0))
                  refine wpAnyH_ready (rs := [14]) (by kernel_rfl) (by simp) ?_
                  refine AllReadyH.cons rfl (fun K hK => ?_) AllReadyH.nil
                  go_simp
                  refine hK.out _ _ ?_ (fun hHeld => ?_)
                  · exact ⟨HCF.out, HBF.out⟩
                  clear hK K
                  try simp only [Act.put, List.getElem_toArray, List.getElem_cons_zero, List.getElem_cons_succ, List.setIfInBounds_toArray, List.set_cons_zero, List.set_cons_succ]
                  refine wpAnyH_take (i := 15) (v := .bool false) rfl (by kernel_rfl) (by kernel_rfl) (by kernel_rfl) (fun _ _ _ h => h) (Or.inl ⟨by rfl, fun w hS => by first | (go_simp; done) | (go_simp; with_reducible rfl)⟩) hHeld ?_
                  try simp only [Act.put, List.getElem_toArray, List.getElem_cons_zero, List.getElem_cons_succ, List.setIfInBounds_toArray, List.set_cons_zero, List.set_cons_succ]
                  refine wpAnyH_done (by kernel_rfl) ?_ _
                  go_wp2_with fail
                  refine bodyPost_ret (res_first _ HQF.out rfl) rfl ⟨HBF.out, .inr ⟨?_, _, _, rfl⟩⟩
                  rw [HIT.out, hn]
                  split <;> rfl
            · have h32' : (m.getD k 0 == 32) = false := by simpa using h32
              rw [h32'] at e1
              have HN2 : Hid (∀ j, j < k + 1 → m.getD j 0 ≠ 32) := Lib.hid fun j hj => by
                rcases Nat.lt_or_ge j k with h3 | h3
                · exact HNK.out j h3
                · obtain rfl : j = k := by omega
                  exact h32
              clear h32 h32'
              generalize m.getD k 0 = c0 at *
              go_wp2_with fail
              go_roundw
              case rel => exact ⟨k + 1, by go_num, by omega, HN2.out, HBE.out, HBL.out⟩
              case measure => simp [intOf]; omega
          · obtain rfl : k = m.length := by omega
            have HNO : Hid (firstS f = none) := Lib.hid (by
              rw [HFM.out]
              refine first_miss (fun hc => ?_)
              obtain ⟨j, hj, e⟩ := List.mem_iff_getElem.1 hc
              exact HNK.out j hj (by simp [List.getD, hj, e]))
            have hq3 := HBL.out
            have z0c := (BlkIs.cell hq3 0).trans (rfl : _ = some (Value.string ⟨#[]⟩))
            have z1c := (BlkIs.cell hq3 1).trans (rfl : _ = some (Value.int .i64 0))
            have z2c := (BlkIs.cell hq3 2).trans (rfl : _ = some (Value.slice none 0 0))
            have zf0 := hq3.froz 0
            have zf1 := hq3.froz 1
            have zf2 := hq3.froz 2
            clear hq3
            go_wp2_with fail
            exact bodyPost_ret (res_first _ (((HBL.out.put 0 _).put 1 _).put 2 _) rfl) rfl ⟨((HBE.out.setCell (p := ⟨w.heap.size, 0, none⟩) (Nat.le_refl _) _).setCell (p := ⟨w.heap.size, 1, none⟩) (Nat.le_refl _) _).setCell (p := ⟨w.heap.size, 2, none⟩) (Nat.le_refl _) _, .inr ⟨HNO.out, _, _, rfl⟩⟩
      · have HNO : Hid (firstS f = none) := Lib.hid (HNO0.out (fun hx => h10 hx.2.2))
        have h10' : (f.getD (fl - 1) 0 == 10) = false := by simpa using h10
        rw [h10'] at e0
        have hne : (((f.getD (fl - 1) 0).toNat : Int) != 10) = true := by rw [bne, e0]; rfl
        have h10n : ¬ ((f.getD (fl - 1) 0).toNat : Int) = 10 := fun e => h10 (UInt8.toNat_inj.1 (by show (f.getD (fl - 1) 0).toNat = 10; omega))
        generalize f.getD (fl - 1) 0 = cl at *
        generalize str (f.take 5) = s5 at *
        clear hse h5
        go_wp2_with fail
        exact bodyPost_ret (res_first _ HQ1.out rfl) rfl ⟨HB1.out, .inr ⟨HNO.out, _, _, rfl⟩⟩
    · have HNO : Hid (firstS f = none) := Lib.hid (HNO0.out (fun hx => h5 hx.2.1))
      have h5' : (f.take 5 == mkL) = false := by simpa using h5
      rw [h5'] at hse
      generalize str (f.take 5) = s5 at *
      go_wp2_with fail
      exact bodyPost_ret (res_first _ HQ1.out rfl) rfl ⟨HB1.out, .inr ⟨HNO.out, _, _, rfl⟩⟩
end Mb
end Go.Proofs.YtamekflgidfnfaaGreatDoor
