/- Lists of seals in memory; contracts of Chain: the program's, the document's. Conditions: as stated at each. -/
import Derived.Test.YtfgdochpnnkpmaaDoorSeSum
namespace Go.Proofs.YtfgdochpnnkpmaaDoor
set_option maxRecDepth 100000
open Go.RowKit Go
def Oks (l : List Sl) : Prop := ∀ s ∈ l, s.ok
def scs (l : List Sl) : List Value := l.flatMap sc
theorem scs_length : ∀ {l : List Sl}, Oks l → (scs l).length = 66 * l.length
  | [], _ => rfl
  | x :: l, h => by
    rw [scs, List.flatMap_cons, List.length_append, sc_length (h x (by simp)), List.length_cons]
    have := scs_length (l := l) (fun y hy => h y (by simp [hy]))
    rw [scs] at this
    omega
theorem scs_append (a b : List Sl) : scs (a ++ b) = scs a ++ scs b := by simp [scs]
theorem scs_single (s : Sl) : scs [s] = sc s := by simp [scs]
/-- the slice at A reads as these seals. -/
def Ss (w : World) (B : Nat) (A : Option Addr) (l : List Sl) : Prop := Oks l ∧ (l = [] ∨ ∃ g o, A = some ⟨g, o, none⟩ ∧ g < B ∧ w.rangeAt g o (scs l))
theorem Ss.nil {w : World} {B : Nat} {A : Option Addr} : Ss w B A [] := ⟨fun _ h => (by cases h), .inl rfl⟩
theorem Ss.below {w w' : World} {B : Nat} {A : Option Addr} {l : List Sl} (h : Ss w B A l) (hb : Below B w w') : Ss w' B A l := by
  refine ⟨h.1, ?_⟩
  rcases h.2 with e | ⟨g, o, e, hg, hr⟩
  · exact .inl e
  · exact .inr ⟨g, o, e, hg, range_below hr hb hg⟩
theorem Ss.more {w : World} {B B' : Nat} {A : Option Addr} {l : List Sl} (h : Ss w B A l) (hB : B ≤ B') : Ss w B' A l := by
  refine ⟨h.1, ?_⟩
  rcases h.2 with e | ⟨g, o, e, hg, hr⟩
  · exact .inl e
  · exact .inr ⟨g, o, e, by omega, hr⟩
theorem Ss.at_ {w : World} {B : Nat} {A : Option Addr} {l : List Sl} (h : Ss w B A l) {k : Nat} (hk : k < l.length) : ∃ g o, A = some ⟨g, o, none⟩ ∧ g < B ∧ w.rangeAt g (o + k * 66) (sc (l.getD k zeroS)) := by
  rcases h.2 with rfl | ⟨g, o, rfl, hg, hr⟩
  · simp at hk
  · refine ⟨g, o, rfl, hg, ?_⟩
    have e : l = l.take k ++ ([l.getD k zeroS] ++ l.drop (k + 1)) := by
      rw [List.getD_eq_getElem?_getD, List.getElem?_eq_getElem hk]
      simp
    rw [e, scs_append, scs_append, scs_single] at hr
    refine range_sub (c := scs (l.drop (k + 1))) ?_ ?_ (a := scs (l.take k))
    · exact hr
    · rw [scs_length (fun x hx => h.1 x (List.mem_of_mem_take hx)), List.length_take]
      omega
theorem Ss.getD {l : List Sl} (h : Oks l) {k : Nat} (hk : k < l.length) : (l.getD k zeroS).ok := by
  rw [List.getD_eq_getElem?_getD, List.getElem?_eq_getElem hk]
  exact h _ (List.getElem_mem hk)
theorem drop_at {l : List Sl} {k : Nat} (hk : k < l.length) : l.drop k = l.getD k zeroS :: l.drop (k + 1) := by
  rw [List.drop_eq_getElem_cons hk, List.getD_eq_getElem?_getD, List.getElem?_eq_getElem hk]
  rfl
set_option maxHeartbeats 3200000 in
theorem chain_any (A : Option Addr) (n c : Nat) (l : List Sl) (w : World) (hn : l.length = n) (h9 : n ≤ 100000) (h : Ss w w.heap.size A l) (hg : Glob w) :
    Calls Tryd.prog 33 #[.slice A n c] w fun e w' => e = .returned (.int .i64 (chainS sumS 0 (List.replicate 32 0) 0 l : Nat)) ∧ Below w.heap.size w w' := by
  have GS := Lib.hid hg.size
  have HN := Lib.hid hn
  generalize hr0 : chainS sumS 0 (List.replicate 32 0) 0 l = r
  have HR0 := Lib.hid hr0
  clear hr0
  have hbz : ∀ w', (Instr.build 22 #[]).run Tryd.prog w' = .ok (.agg (bv (List.replicate 32 0)).toArray) w' := fun w' => by kernel_rfl
  have HZ0 : Hid ((List.replicate 32 (0 : UInt8)).length = 32) := Lib.hid (by simp)
  clear hn
  go_enter Tryd.func33, Tryd.ntmps33
  go_wp2_with (first
    | (refine build_ops 22 #[] #[] _ (hbz _) rfl rfl rfl ?_)
    | (refine store_bl (.tmp 4) (.tmp 7) 22 w.heap.size 22 _ (bv (List.replicate 32 0)).toArray (BlkIs.new w _ _) rfl rfl rfl rfl rfl (isz26a HZ0.out) rfl (bv_all _) ?_; intro w0 hb0 ht0; have k0 : Below w.heap.size w w0 := (below1 w _).trans (ht0.below (by simp) (fun i hi h => by omega)))
    | fail)
  clear hbz ht0
  have HB0 := Lib.hid hb0
  have HK0 := Lib.hid k0
  clear hb0 k0
  go_loopw [3, 10] (fun sg i wr => ∃ (k : Nat) (seg : Int) (sum : List UInt8), k ≤ n ∧ i = .int .i64 k ∧ sg = .int .i64 seg ∧ Hid (sum.length = 32) ∧ BlkIs wr w.heap.size 22 (bv sum).toArray ∧ Below w.heap.size w wr ∧ Hid (r = chainS sumS seg sum k (l.drop k))) (fun _ i _ => n - (intOf i).toNat)
  case atStart => exact ⟨0, 0, _, Nat.zero_le _, rfl, rfl, HZ0, HB0.out, HK0.out, Lib.hid HR0.out.symm⟩
  case round =>
    obtain ⟨k, seg, sum, hk, rfl, rfl, HSM, hbs, hb, HC⟩ := hrel
    clear HB0 HK0
    by_cases hlt : k < n
    · obtain ⟨g, o, rfl, hgB, hr⟩ := h.at_ (k := k) (by rw [HN.out]; exact hlt)
      have hx := Ss.getD h.1 (k := k) (by rw [HN.out]; exact hlt)
      have hd := drop_at (l := l) (k := k) (by rw [HN.out]; exact hlt)
      generalize l.getD k zeroS = s at *
      have HX := Lib.hid hx
      have HD := Lib.hid hd
      have hr' := range_below hr hb hgB
      have HSUM : Hid (∀ W, Below w.heap.size w W → Calls Tryd.prog 29 #[.agg (sc s).toArray] W fun e w' => e = .returned (.agg (bv (sumS s)).toArray) ∧ Below W.heap.size W w') := Lib.hid fun W hb => sum_seal s W HX.out (hg.below hb GS.out)
      have hne := fun w => run_eq24 s.prev sum HX.out.2 HSM.out w
      have HBS := Lib.hid hbs
      have HB := Lib.hid hb
      have hlw := hbs.lt
      clear hx hd hr hbs hb
      by_cases h1 : s.seg ≤ seg
      · have HE : Hid (chainS sumS seg sum k (l.drop k) = k) := Lib.hid (by rw [HD.out, chainS, if_pos (.inl h1)])
        clear hne
        go_wp2_with (first
          | (refine load_wt (by rfl) 39 (.tmp 13) rfl g (o + k * 66) rfl (sc s) _ hr' Tryd.underlying39 rfl (isz39s HX.out) ?_)
          | (refine store_bl (.tmp 6) (.tmp 14) 39 wr.heap.size 39 _ (sc s).toArray (BlkIs.new wr _ _) rfl rfl rfl rfl rfl (isz39a HX.out) (sc_size zeroS_ok HX.out) (sc_all _) ?_; intro w3 hb3 ht3; have k3 : Below wr.heap.size wr w3 := (below1 wr _).trans (ht3.below (by simp) (fun i hi h => by omega)); have c3 := sc_seg hb3; have p3 := sc_prev HX.out hb3; have s3 : w3.rangeAt w.heap.size 0 (bv sum) := BlkIs.sum ((k3.block _ HBS.out.lt).trans HBS.out); clear ht3 hr')
          | (refine load_wt (by rfl) 22 (.tmp 20) rfl wr.heap.size 34 rfl (bv s.prev) _ p3 Tryd.underlying22 rfl (isz26s HX.out.2) ?_)
          | (refine load_wt (by rfl) 22 (.tmp 4) rfl w.heap.size 0 rfl (bv sum) _ s3 Tryd.underlying22 rfl (isz26s HSM.out) ?_)
          | fail)
        go_ret
        exact ⟨by rw [HC.out, HE.out]; rfl, HB.out.trans (k3.mono HB.out.size)⟩
      · by_cases h2 : s.prev = sum
        · have HE : Hid (chainS sumS seg sum k (l.drop k) = chainS sumS s.seg (sumS s) (k + 1) (l.drop (k + 1))) := Lib.hid (by rw [HD.out, chainS, if_neg (by simp [h1, h2])])
          have hb2 : (s.prev == sum) = true := by simp [h2]
          rw [hb2] at hne
          have H2 := Lib.hid h2
          clear hb2 h2
          go_wp2_with (first
            | (refine load_wt (by rfl) 39 (.tmp 13) rfl g (o + k * 66) rfl (sc s) _ hr' Tryd.underlying39 rfl (isz39s HX.out) ?_)
            | (refine store_bl (.tmp 6) (.tmp 14) 39 wr.heap.size 39 _ (sc s).toArray (BlkIs.new wr _ _) rfl rfl rfl rfl rfl (isz39a HX.out) (sc_size zeroS_ok HX.out) (sc_all _) ?_; intro w3 hb3 ht3; have k3 : Below wr.heap.size wr w3 := (below1 wr _).trans (ht3.below (by simp) (fun i hi h => by omega)); have c3 := sc_seg hb3; have p3 := sc_prev HX.out hb3; have s3 : w3.rangeAt w.heap.size 0 (bv sum) := BlkIs.sum ((k3.block _ HBS.out.lt).trans HBS.out); clear ht3 hr')
            | (refine load_wt (by rfl) 22 (.tmp 20) rfl wr.heap.size 34 rfl (bv s.prev) _ p3 Tryd.underlying22 rfl (isz26s HX.out.2) ?_)
            | (refine load_wt (by rfl) 22 (.tmp 4) rfl w.heap.size 0 rfl (bv sum) _ s3 Tryd.underlying22 rfl (isz26s HSM.out) ?_)
            | fail)
          have HB3 := Lib.hid hb3
          have HK3 := Lib.hid k3
          clear hb3 k3 c3 p3 s3
          refine wp_region_held_drew (S := (fun W => BlkIs W wr.heap.size 39 (sc s).toArray)) (by kernel_rfl) ((Alk.drew _).blk HB3.out) (fun hHeld => ?_)
          refine wpAnyH_take (i := 0) (v := .pointer (some ⟨wr.heap.size, 0, none⟩)) rfl (by kernel_rfl) (by kernel_rfl) (by kernel_rfl) (fun _ _ _ h => h) (Or.inl ⟨by rfl, fun w hS => by first | (go_simp; done) | (go_simp; with_reducible rfl)⟩) hHeld ?_
          try simp only [Act.put, List.getElem_toArray, List.getElem_cons_zero, List.setIfInBounds_toArray, List.set_cons_zero, List.set_cons_succ]
          refine wpAnyH_take (i := 1) (v := .int .i64 s.seg) rfl (by kernel_rfl) (by kernel_rfl) (by kernel_rfl) (fun _ _ _ h => h) (Or.inl ⟨by rfl, fun w hS => by (have hc := sc_seg hS; first | (go_simp; done) | (go_simp; with_reducible rfl))⟩) hHeld ?_
          try simp only [Act.put, List.getElem_toArray, List.getElem_cons_zero, List.getElem_cons_succ, List.setIfInBounds_toArray, List.set_cons_zero, List.set_cons_succ]
          refine wpAnyH_take (i := 2) (v := _) rfl (by kernel_rfl) (by kernel_rfl) (by kernel_rfl) (fun _ _ _ h => h) (yieldsIf_load_mid (by rfl) 39 (.tmp 6) rfl wr.heap.size 0 rfl (sc s) _ (fun w h => blk_rng h) Tryd.underlying39 rfl (isz39s HX.out)) hHeld ?_
          try simp only [Act.put, List.getElem_toArray, List.getElem_cons_zero, List.getElem_cons_succ, List.setIfInBounds_toArray, List.set_cons_zero, List.set_cons_succ]
          have kw : Below w.heap.size w w3.drew := (HB.out.trans (HK3.out.mono HB.out.size)).drew
          have sw : BlkIs w3.drew w.heap.size 22 (bv sum).toArray := (Alk.drew _).blk ((HK3.out.block _ HBS.out.lt).trans HBS.out)
          refine wpAnyH_ready (rs := [3]) (by kernel_rfl) (by simp) ?_
          refine AllReadyH.cons rfl (fun K hK => ?_) AllReadyH.nil
          go_simp
          go_wp2_with (go_at_call 29; refine (HSUM.out _ kw).mono ?_; clear HSUM; rintro e w4 ⟨rfl, hb4⟩; have k4 := kw.trans (hb4.mono kw.size); have q4 : BlkIs w4 wr.heap.size 39 (sc s).toArray := (hb4.block _ hHeld.lt).trans hHeld)
          refine hK.out _ _ ?_ (fun hHeld => ?_)
          · exact q4
          clear hK K
          try simp only [Act.put, List.getElem_toArray, List.getElem_cons_zero, List.getElem_cons_succ, List.setIfInBounds_toArray, List.set_cons_zero, List.set_cons_succ]
          have s4 : BlkIs w4 w.heap.size 22 (bv sum).toArray := (hb4.block _ sw.lt).trans sw
          refine wpAnyH_take (i := 4) (v := .int .i64 s.seg) rfl (by kernel_rfl) (by kernel_rfl) (by kernel_rfl) (fun _ _ _ h => h) (Or.inl ⟨by rfl, fun w hS => by first | (go_simp; done) | (go_simp; with_reducible rfl)⟩) hHeld ?_
          try simp only [Act.put, List.getElem_toArray, List.getElem_cons_zero, List.getElem_cons_succ, List.setIfInBounds_toArray, List.set_cons_zero, List.set_cons_succ]
          refine wpAnyH_ready (rs := [5]) (by kernel_rfl) (by simp) ?_
          refine AllReadyH.cons rfl (fun K hK => ?_) AllReadyH.nil
          refine step_store (.tmp 4) (.tmp 29) 22 w.heap.size 22 _ (bv (sumS s)).toArray s4 rfl rfl rfl rfl rfl (isz26a (sumS_length s)) (by rw [List.size_toArray, List.size_toArray, bv_length, bv_length, HSM.out, sumS_length]) (bv_all _) ?_; intro w5 hb5 ht5
          refine hK.out _ _ ?_ (fun hHeld => ?_)
          · exact BlkIs.tn q4 ht5 (by omega)
          clear hK K
          try simp only [Act.put, List.getElem_toArray, List.getElem_cons_zero, List.getElem_cons_succ, List.setIfInBounds_toArray, List.set_cons_zero, List.set_cons_succ]
          refine wpAnyH_done (by kernel_rfl) ?_ _
          have k5 := k4.trans (ht5.below k4.size (fun i hi h => by omega))
          clear ht5 hb4 kw sw s4 q4
          go_wp2_with fail
          go_roundw
          case rel => exact ⟨k + 1, s.seg, sumS s, by omega, by go_num, rfl, Lib.hid (sumS_length s), hb5, k5, Lib.hid (by rw [HC.out, HE.out])⟩
          case measure => simp [intOf]; omega
        · have HE : Hid (chainS sumS seg sum k (l.drop k) = k) := Lib.hid (by rw [HD.out, chainS, if_pos (.inr h2)])
          have hb2 : (s.prev == sum) = false := by simp [h2]
          rw [hb2] at hne
          have H2 := Lib.hid h2
          clear hb2 h2
          go_wp2_with (first
            | (refine load_wt (by rfl) 39 (.tmp 13) rfl g (o + k * 66) rfl (sc s) _ hr' Tryd.underlying39 rfl (isz39s HX.out) ?_)
            | (refine store_bl (.tmp 6) (.tmp 14) 39 wr.heap.size 39 _ (sc s).toArray (BlkIs.new wr _ _) rfl rfl rfl rfl rfl (isz39a HX.out) (sc_size zeroS_ok HX.out) (sc_all _) ?_; intro w3 hb3 ht3; have k3 : Below wr.heap.size wr w3 := (below1 wr _).trans (ht3.below (by simp) (fun i hi h => by omega)); have c3 := sc_seg hb3; have p3 := sc_prev HX.out hb3; have s3 : w3.rangeAt w.heap.size 0 (bv sum) := BlkIs.sum ((k3.block _ HBS.out.lt).trans HBS.out); clear ht3 hr')
            | (refine load_wt (by rfl) 22 (.tmp 20) rfl wr.heap.size 34 rfl (bv s.prev) _ p3 Tryd.underlying22 rfl (isz26s HX.out.2) ?_)
            | (refine load_wt (by rfl) 22 (.tmp 4) rfl w.heap.size 0 rfl (bv sum) _ s3 Tryd.underlying22 rfl (isz26s HSM.out) ?_)
            | fail)
          go_ret
          exact ⟨by rw [HC.out, HE.out]; rfl, HB.out.trans (k3.mono HB.out.size)⟩
    · have hk2 : ¬ (k : Int) < (n : Int) := by omega
      have HE : Hid (chainS sumS seg sum k (l.drop k) = n) := Lib.hid (by rw [List.drop_eq_nil_of_le (by rw [HN.out]; omega), chainS]; omega)
      go_wp2_with fail
      go_ret
      exact ⟨by rw [HC.out, HE.out]; rfl, hb⟩
set_option maxHeartbeats 3200000 in
theorem rchain_any (A : Option Addr) (n c : Nat) (l : List Sl) (w : World) (hn : l.length = n) (h9 : n ≤ 100000) (h : Ss w w.heap.size A l) (hg : Glob w) :
    Calls Tryd.prog 34 #[.slice A n c] w fun e w' => e = .returned (.int .i64 (chainS sumS 0 (List.replicate 32 0) 0 l : Nat)) ∧ Below w.heap.size w w' := by
  have GS := Lib.hid hg.size
  have HN := Lib.hid hn
  generalize hr0 : chainS sumS 0 (List.replicate 32 0) 0 l = r
  have HR0 := Lib.hid hr0
  clear hr0
  have hbz : ∀ w', (Instr.build 22 #[]).run Tryd.prog w' = .ok (.agg (bv (List.replicate 32 0)).toArray) w' := fun w' => by kernel_rfl
  have HZ0 : Hid ((List.replicate 32 (0 : UInt8)).length = 32) := Lib.hid (by simp)
  clear hn
  go_enter Tryd.func34, Tryd.ntmps34
  go_wp2_with (first
    | (refine build_ops 22 #[] #[] _ (hbz _) rfl rfl rfl ?_)
    | (refine store_bl (.tmp 4) (.tmp 7) 22 w.heap.size 22 _ (bv (List.replicate 32 0)).toArray (BlkIs.new w _ _) rfl rfl rfl rfl rfl (isz26a HZ0.out) rfl (bv_all _) ?_; intro w0 hb0 ht0; have k0 : Below w.heap.size w w0 := (below1 w _).trans (ht0.below (by simp) (fun i hi h => by omega)))
    | fail)
  clear hbz ht0
  have HB0 := Lib.hid hb0
  have HK0 := Lib.hid k0
  clear hb0 k0
  go_loopw [3, 10] (fun sg i wr => ∃ (k : Nat) (seg : Int) (sum : List UInt8), k ≤ n ∧ i = .int .i64 k ∧ sg = .int .i64 seg ∧ Hid (sum.length = 32) ∧ BlkIs wr w.heap.size 22 (bv sum).toArray ∧ Below w.heap.size w wr ∧ Hid (r = chainS sumS seg sum k (l.drop k))) (fun _ i _ => n - (intOf i).toNat)
  case atStart => exact ⟨0, 0, _, Nat.zero_le _, rfl, rfl, HZ0, HB0.out, HK0.out, Lib.hid HR0.out.symm⟩
  case round =>
    obtain ⟨k, seg, sum, hk, rfl, rfl, HSM, hbs, hb, HC⟩ := hrel
    clear HB0 HK0
    by_cases hlt : k < n
    · obtain ⟨g, o, rfl, hgB, hr⟩ := h.at_ (k := k) (by rw [HN.out]; exact hlt)
      have hx := Ss.getD h.1 (k := k) (by rw [HN.out]; exact hlt)
      have hd := drop_at (l := l) (k := k) (by rw [HN.out]; exact hlt)
      generalize l.getD k zeroS = s at *
      have HX := Lib.hid hx
      have HD := Lib.hid hd
      have hr' := range_below hr hb hgB
      have HSUM : Hid (∀ W, Below w.heap.size w W → Calls Tryd.prog 30 #[.agg (sc s).toArray] W fun e w' => e = .returned (.agg (bv (sumS s)).toArray) ∧ Below W.heap.size W w') := Lib.hid fun W hb => rsum_seal s W HX.out
      have hne := fun w => run_eq24 s.prev sum HX.out.2 HSM.out w
      have HBS := Lib.hid hbs
      have HB := Lib.hid hb
      have hlw := hbs.lt
      clear hx hd hr hbs hb
      by_cases h1 : s.seg ≤ seg
      · have HE : Hid (chainS sumS seg sum k (l.drop k) = k) := Lib.hid (by rw [HD.out, chainS, if_pos (.inl h1)])
        clear hne
        go_wp2_with (first
          | (refine load_wt (by rfl) 39 (.tmp 13) rfl g (o + k * 66) rfl (sc s) _ hr' Tryd.underlying39 rfl (isz39s HX.out) ?_)
          | (refine store_bl (.tmp 6) (.tmp 14) 39 wr.heap.size 39 _ (sc s).toArray (BlkIs.new wr _ _) rfl rfl rfl rfl rfl (isz39a HX.out) (sc_size zeroS_ok HX.out) (sc_all _) ?_; intro w3 hb3 ht3; have k3 : Below wr.heap.size wr w3 := (below1 wr _).trans (ht3.below (by simp) (fun i hi h => by omega)); have c3 := sc_seg hb3; have p3 := sc_prev HX.out hb3; have s3 : w3.rangeAt w.heap.size 0 (bv sum) := BlkIs.sum ((k3.block _ HBS.out.lt).trans HBS.out); clear ht3 hr')
          | (refine load_wt (by rfl) 22 (.tmp 20) rfl wr.heap.size 34 rfl (bv s.prev) _ p3 Tryd.underlying22 rfl (isz26s HX.out.2) ?_)
          | (refine load_wt (by rfl) 22 (.tmp 4) rfl w.heap.size 0 rfl (bv sum) _ s3 Tryd.underlying22 rfl (isz26s HSM.out) ?_)
          | fail)
        go_ret
        exact ⟨by rw [HC.out, HE.out]; rfl, HB.out.trans (k3.mono HB.out.size)⟩
      · by_cases h2 : s.prev = sum
        · have HE : Hid (chainS sumS seg sum k (l.drop k) = chainS sumS s.seg (sumS s) (k + 1) (l.drop (k + 1))) := Lib.hid (by rw [HD.out, chainS, if_neg (by simp [h1, h2])])
          have hb2 : (s.prev == sum) = true := by simp [h2]
          rw [hb2] at hne
          have H2 := Lib.hid h2
          clear hb2 h2
          go_wp2_with (first
            | (refine load_wt (by rfl) 39 (.tmp 13) rfl g (o + k * 66) rfl (sc s) _ hr' Tryd.underlying39 rfl (isz39s HX.out) ?_)
            | (refine store_bl (.tmp 6) (.tmp 14) 39 wr.heap.size 39 _ (sc s).toArray (BlkIs.new wr _ _) rfl rfl rfl rfl rfl (isz39a HX.out) (sc_size zeroS_ok HX.out) (sc_all _) ?_; intro w3 hb3 ht3; have k3 : Below wr.heap.size wr w3 := (below1 wr _).trans (ht3.below (by simp) (fun i hi h => by omega)); have c3 := sc_seg hb3; have p3 := sc_prev HX.out hb3; have s3 : w3.rangeAt w.heap.size 0 (bv sum) := BlkIs.sum ((k3.block _ HBS.out.lt).trans HBS.out); clear ht3 hr')
            | (refine load_wt (by rfl) 22 (.tmp 20) rfl wr.heap.size 34 rfl (bv s.prev) _ p3 Tryd.underlying22 rfl (isz26s HX.out.2) ?_)
            | (refine load_wt (by rfl) 22 (.tmp 4) rfl w.heap.size 0 rfl (bv sum) _ s3 Tryd.underlying22 rfl (isz26s HSM.out) ?_)
            | fail)
          have HB3 := Lib.hid hb3
          have HK3 := Lib.hid k3
          clear hb3 k3 c3 p3 s3
          refine wp_region_held_drew (S := (fun W => BlkIs W wr.heap.size 39 (sc s).toArray)) (by kernel_rfl) ((Alk.drew _).blk HB3.out) (fun hHeld => ?_)
          refine wpAnyH_take (i := 0) (v := .pointer (some ⟨wr.heap.size, 0, none⟩)) rfl (by kernel_rfl) (by kernel_rfl) (by kernel_rfl) (fun _ _ _ h => h) (Or.inl ⟨by rfl, fun w hS => by first | (go_simp; done) | (go_simp; with_reducible rfl)⟩) hHeld ?_
          try simp only [Act.put, List.getElem_toArray, List.getElem_cons_zero, List.setIfInBounds_toArray, List.set_cons_zero, List.set_cons_succ]
          refine wpAnyH_take (i := 1) (v := .int .i64 s.seg) rfl (by kernel_rfl) (by kernel_rfl) (by kernel_rfl) (fun _ _ _ h => h) (Or.inl ⟨by rfl, fun w hS => by (have hc := sc_seg hS; first | (go_simp; done) | (go_simp; with_reducible rfl))⟩) hHeld ?_
          try simp only [Act.put, List.getElem_toArray, List.getElem_cons_zero, List.getElem_cons_succ, List.setIfInBounds_toArray, List.set_cons_zero, List.set_cons_succ]
          refine wpAnyH_take (i := 2) (v := _) rfl (by kernel_rfl) (by kernel_rfl) (by kernel_rfl) (fun _ _ _ h => h) (yieldsIf_load_mid (by rfl) 39 (.tmp 6) rfl wr.heap.size 0 rfl (sc s) _ (fun w h => blk_rng h) Tryd.underlying39 rfl (isz39s HX.out)) hHeld ?_
          try simp only [Act.put, List.getElem_toArray, List.getElem_cons_zero, List.getElem_cons_succ, List.setIfInBounds_toArray, List.set_cons_zero, List.set_cons_succ]
          have kw : Below w.heap.size w w3.drew := (HB.out.trans (HK3.out.mono HB.out.size)).drew
          have sw : BlkIs w3.drew w.heap.size 22 (bv sum).toArray := (Alk.drew _).blk ((HK3.out.block _ HBS.out.lt).trans HBS.out)
          refine wpAnyH_ready (rs := [3]) (by kernel_rfl) (by simp) ?_
          refine AllReadyH.cons rfl (fun K hK => ?_) AllReadyH.nil
          go_simp
          go_wp2_with (go_at_call 30; refine (HSUM.out _ kw).mono ?_; clear HSUM; rintro e w4 ⟨rfl, hb4⟩; have k4 := kw.trans (hb4.mono kw.size); have q4 : BlkIs w4 wr.heap.size 39 (sc s).toArray := (hb4.block _ hHeld.lt).trans hHeld)
          refine hK.out _ _ ?_ (fun hHeld => ?_)
          · exact q4
          clear hK K
          try simp only [Act.put, List.getElem_toArray, List.getElem_cons_zero, List.getElem_cons_succ, List.setIfInBounds_toArray, List.set_cons_zero, List.set_cons_succ]
          have s4 : BlkIs w4 w.heap.size 22 (bv sum).toArray := (hb4.block _ sw.lt).trans sw
          refine wpAnyH_take (i := 4) (v := .int .i64 s.seg) rfl (by kernel_rfl) (by kernel_rfl) (by kernel_rfl) (fun _ _ _ h => h) (Or.inl ⟨by rfl, fun w hS => by first | (go_simp; done) | (go_simp; with_reducible rfl)⟩) hHeld ?_
          try simp only [Act.put, List.getElem_toArray, List.getElem_cons_zero, List.getElem_cons_succ, List.setIfInBounds_toArray, List.set_cons_zero, List.set_cons_succ]
          refine wpAnyH_ready (rs := [5]) (by kernel_rfl) (by simp) ?_
          refine AllReadyH.cons rfl (fun K hK => ?_) AllReadyH.nil
          refine step_store (.tmp 4) (.tmp 29) 22 w.heap.size 22 _ (bv (sumS s)).toArray s4 rfl rfl rfl rfl rfl (isz26a (sumS_length s)) (by rw [List.size_toArray, List.size_toArray, bv_length, bv_length, HSM.out, sumS_length]) (bv_all _) ?_; intro w5 hb5 ht5
          refine hK.out _ _ ?_ (fun hHeld => ?_)
          · exact BlkIs.tn q4 ht5 (by omega)
          clear hK K
          try simp only [Act.put, List.getElem_toArray, List.getElem_cons_zero, List.getElem_cons_succ, List.setIfInBounds_toArray, List.set_cons_zero, List.set_cons_succ]
          refine wpAnyH_done (by kernel_rfl) ?_ _
          have k5 := k4.trans (ht5.below k4.size (fun i hi h => by omega))
          clear ht5 hb4 kw sw s4 q4
          go_wp2_with fail
          go_roundw
          case rel => exact ⟨k + 1, s.seg, sumS s, by omega, by go_num, rfl, Lib.hid (sumS_length s), hb5, k5, Lib.hid (by rw [HC.out, HE.out])⟩
          case measure => simp [intOf]; omega
        · have HE : Hid (chainS sumS seg sum k (l.drop k) = k) := Lib.hid (by rw [HD.out, chainS, if_pos (.inr h2)])
          have hb2 : (s.prev == sum) = false := by simp [h2]
          rw [hb2] at hne
          have H2 := Lib.hid h2
          clear hb2 h2
          go_wp2_with (first
            | (refine load_wt (by rfl) 39 (.tmp 13) rfl g (o + k * 66) rfl (sc s) _ hr' Tryd.underlying39 rfl (isz39s HX.out) ?_)
            | (refine store_bl (.tmp 6) (.tmp 14) 39 wr.heap.size 39 _ (sc s).toArray (BlkIs.new wr _ _) rfl rfl rfl rfl rfl (isz39a HX.out) (sc_size zeroS_ok HX.out) (sc_all _) ?_; intro w3 hb3 ht3; have k3 : Below wr.heap.size wr w3 := (below1 wr _).trans (ht3.below (by simp) (fun i hi h => by omega)); have c3 := sc_seg hb3; have p3 := sc_prev HX.out hb3; have s3 : w3.rangeAt w.heap.size 0 (bv sum) := BlkIs.sum ((k3.block _ HBS.out.lt).trans HBS.out); clear ht3 hr')
            | (refine load_wt (by rfl) 22 (.tmp 20) rfl wr.heap.size 34 rfl (bv s.prev) _ p3 Tryd.underlying22 rfl (isz26s HX.out.2) ?_)
            | (refine load_wt (by rfl) 22 (.tmp 4) rfl w.heap.size 0 rfl (bv sum) _ s3 Tryd.underlying22 rfl (isz26s HSM.out) ?_)
            | fail)
          go_ret
          exact ⟨by rw [HC.out, HE.out]; rfl, HB.out.trans (k3.mono HB.out.size)⟩
    · have hk2 : ¬ (k : Int) < (n : Int) := by omega
      have HE : Hid (chainS sumS seg sum k (l.drop k) = n) := Lib.hid (by rw [List.drop_eq_nil_of_le (by rw [HN.out]; omega), chainS]; omega)
      go_wp2_with fail
      go_ret
      exact ⟨by rw [HC.out, HE.out]; rfl, hb⟩
end Go.Proofs.YtfgdochpnnkpmaaDoor
