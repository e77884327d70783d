/- hold.Covers. Conditions: as stated at each. -/
import Derived.Test.YtamjellnmlgbeaaHoCov
namespace Go.Proofs.Ytamjellnmlgbeaa
set_option maxRecDepth 100000
namespace Ho
open Go.RowKit Go Go.Proofs.Ytamjellnmlgbeaa.Pa Go.Proofs.Ytamjellnmlgbeaa.Rt
theorem fold_e (x : L) : ([] == foldS x) = (x == []) := by
  rw [Bool.eq_iff_iff, beq_iff_eq, beq_iff_eq]
  constructor
  · intro h
    have := foldS_length x
    rw [← h] at this
    exact List.eq_nil_of_length_eq_zero this.symm
  · rintro rfl
    rfl
theorem cov_is (l : List R) (fr : L) (to : List L) : covS l fr to = (inL (l.map wf) [] || inL (l.map wf) (foldS fr) || to.any (fun a => inL (l.map wf) (foldS a))) := by
  unfold covS covB inL
  rw [Bool.eq_iff_iff]
  simp only [Bool.or_eq_true, List.any_eq_true, List.any_map, Function.comp, wf, fold_e]
  constructor
  · rintro ⟨r, hr, (h | h) | ⟨a, ha, h⟩⟩
    · exact .inl (.inl ⟨r, hr, h⟩)
    · exact .inl (.inr ⟨r, hr, h⟩)
    · exact .inr ⟨a, ha, r, hr, h⟩
  · rintro ((⟨r, hr, h⟩ | ⟨r, hr, h⟩) | ⟨a, ha, r, hr, h⟩)
    · exact ⟨r, hr, .inl (.inl h)⟩
    · exact ⟨r, hr, .inl (.inr h)⟩
    · exact ⟨r, hr, .inr ⟨a, ha, h⟩⟩
set_option maxHeartbeats 3200000 in
theorem covers_any {w0 : World} {B : Nat} {A T : Option Addr} {l : List R} {fr : L} {to : List L} (hp : Prs w0 B A (cvR l)) (ht : Tx w0 B T to) (hB : B ≤ w0.heap.size) (n c tn tc : Nat) (at' : Int) (hn : l.length = n) (htn : to.length = tn) (hn1 : n ≤ 1000) (hn2 : tn ≤ 1000) (hok : OkH l) (hfr : fr.length ≤ 140737488355328) (hto : ∀ k, (to.getD k []).length ≤ 140737488355328) :
    Calls Try.prog 15 #[.slice A n c, .agg #[.string (str fr), .slice T tn tc, .int .i64 at']] w0 fun e w' => e = .returned (.bool (covS l fr to)) ∧ Below w0.heap.size w0 w' := by
  have hbx := below_b w0 (.cells #[.string (str fr), .slice T tn tc, .int .i64 at'] 29)
  have HN := BlkIs.new w0 29 #[.string (str fr), .slice T tn tc, .int .i64 at']
  have hNl := HN.lt
  have HBX := Lib.hid hbx
  have HQ := Lib.hid HN
  have HOF := Lib.hid (of_who (hp.below (hbx.mono hB)) (Nat.le_trans hB hbx.size) n c hn hn1 hok)
  have HIS := Lib.hid (cov_is l fr to)
  have HTX := Lib.hid ht
  have hWL : (l.map wf).length = n := by rw [List.length_map, hn]
  have HWL := Lib.hid hWL
  have HTN := Lib.hid htn
  rw [HIS.out]
  clear hp ht hn hok hbx HN HIS hWL htn
  unfold OutT at HOF
  generalize l.map wf = ws at *
  have HCO : Hid (∀ X K Bx, WhoIs X Bx K ws → Calls Try.prog 26 #[.string (str fr), .pointer (some ⟨K, 0, none⟩)] X fun e w' => e = .returned (.bool (inL ws (foldS fr))) ∧ Below X.heap.size X w') := Lib.hid fun X K Bx hw => covered_any hw (by rw [HWL.out]; exact hn1) fr hfr
  have HCC : Hid (∀ X K Bx, WhoIs X Bx K ws → Below w0.heap.size w0 X → Calls Try.prog 29 #[.slice T tn tc, .func (.func 26) #[] #[.pointer (some ⟨K, 0, none⟩)]] X fun e w' => e = .returned (.bool (to.any fun a => inL ws (foldS a))) ∧ Below X.heap.size X w') := Lib.hid fun X K Bx hw hX => containsC_any (HTX.out.below (hX.mono hB)) (Nat.le_trans hB hX.size) hw (by rw [HWL.out]; exact hn1) tn tc HTN.out hn2 hto
  clear hfr hto HTX
  generalize (to.any fun a => inL ws (foldS a)) = q3 at *
  generalize inL ws (foldS fr) = q2 at *
  generalize str fr = s0 at *
  go_enter Try.func15, Try.ntmps15
  go_wp2_with fail
  generalize w0.alloc (.cells #[.string s0, .slice T tn tc, .int .i64 at'] 29) = w1 at *
  refine HOF.out.mono ?_
  rintro e w2 ⟨v2, rfl, ho2, hb2⟩
  obtain ⟨A2, c2, rfl, hc1, hc2⟩ := ho2.slice
  rw [HWL.out] at ho2 hc1 ⊢
  have HE2 : Hid (BlkIs (w2.alloc (.cells #[.slice A2 n c2] 27)) w0.heap.size 29 #[.string s0, .slice T tn tc, .int .i64 at']) := Lib.hid (BlkIs.alloc (show BlkIs w2 _ _ _ from (hb2.block _ hNl).trans HQ.out) _)
  have hb3 := (HBX.out.trans (hb2.mono HBX.out.size)).alloc (HBX.out.trans (hb2.mono HBX.out.size)).size (.cells #[.slice A2 n c2] 27)
  have hk3 := BlkIs.new w2 27 #[.slice A2 n c2]
  have hW3 : WhoIs (w2.alloc (.cells #[.slice A2 n c2] 27)) w2.heap.size w2.heap.size ws := ⟨A2, c2, by rw [HWL.out]; exact hk3, ho2.tx.below (below_b w2 _), by simp⟩
  have HCN := Lib.hid (contains_any (ps := ws) (ho2.tx.below (below_b w2 (.cells #[.slice A2 n c2] 27))) n c2 HWL.out hn1 [])
  have HB3 := Lib.hid hb3
  have HK3 := Lib.hid hk3
  have HW3 := Lib.hid hW3
  have hs2 := hb2.size
  have hKne : w2.heap.size < (w2.alloc (.cells #[.slice A2 n c2] 27)).heap.size := by simp
  clear hb2 ho2 hc1 hc2 hb3 hk3 hW3
  go_wp2_with fail
  generalize hK : w2.heap.size = K at *
  generalize w2.alloc (.cells #[.slice A2 n c2] 27) = w3 at *
  have x0 := (BlkIs.cell HE2.out 0).trans (rfl : _ = some (Value.string s0))
  have z0 := (BlkIs.cell HK3.out 0).trans (rfl : _ = some (Value.slice A2 n c2))
  cases c1 : inL ws [] with
  | true =>
    rw [c1] at HCN
    go_wp2_with (first
      | (go_at_call 27; refine HCN.out.mono ?_; rintro e w4 ⟨rfl, rfl⟩)
      | fail)
    go_ret
    exact ⟨ret_bool (by rw [c1]; rfl), HB3.out⟩
  | false =>
    rw [c1] at HCN
    cases q2 with
    | true =>
      go_wp2_with (first
        | (go_at_call 27; refine HCN.out.mono ?_; rintro e w4 ⟨rfl, rfl⟩)
        | (go_at_call 26; refine (HCO.out _ _ _ HW3.out).mono ?_; rintro e w5 ⟨rfl, hb5⟩)
        | fail)
      go_ret
      exact ⟨ret_bool (by rw [c1]; rfl), HB3.out.trans (hb5.mono HB3.out.size)⟩
    | false =>
      go_wp2_with (first
        | (go_at_call 27; refine HCN.out.mono ?_; rintro e w4 ⟨rfl, rfl⟩)
        | (go_at_call 26; refine (HCO.out _ _ _ HW3.out).mono ?_; rintro e w5 ⟨rfl, hb5⟩; have y1 := (BlkIs.cell ((hb5.block _ HE2.out.lt).trans HE2.out) 1).trans (rfl : _ = some (Value.slice T tn tc)))
        | (go_at_call 29; refine (HCC.out _ _ _ (HW3.out.below hb5) (HB3.out.trans (hb5.mono HB3.out.size))).mono ?_; rintro e w6 ⟨rfl, hb6⟩)
        | fail)
      go_ret
      exact ⟨ret_bool (by rw [c1]; rfl), (HB3.out.trans (hb5.mono HB3.out.size)).trans (hb6.mono (HB3.out.trans (hb5.mono HB3.out.size)).size)⟩
end Ho
end Go.Proofs.Ytamjellnmlgbeaa
