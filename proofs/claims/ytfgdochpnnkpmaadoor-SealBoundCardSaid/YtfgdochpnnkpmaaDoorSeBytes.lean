/- Contracts of a seal's bytes: lay, Bytes, the document's four. Conditions: as stated at each. -/
import Derived.Test.YtfgdochpnnkpmaaDoorSeMem
import Derived.Test.YtfgdochpnnkpmaaDoorDgEnd
import Derived.Test.YtfgdochpnnkpmaaDoorMkIn
import Derived.Test.YtfgdochpnnkpmaaDoorMkRNode
namespace Go.Proofs.YtfgdochpnnkpmaaDoor
set_option maxRecDepth 100000
open Go.RowKit Go
theorem nb0 (n : Int) : n % 256 = ((nb n 0).toNat : Int) := by have := nb_int n 0; simpa using this
theorem nb1 (n : Int) : n / 256 % 256 = ((nb n 1).toNat : Int) := by have := nb_int n 1; simpa using this
theorem nb2 (n : Int) : n / 65536 % 256 = ((nb n 2).toNat : Int) := by have := nb_int n 2; simpa using this
theorem nb3 (n : Int) : n / 16777216 % 256 = ((nb n 3).toNat : Int) := by have := nb_int n 3; simpa using this
/-- between two rounds. -/
def midB (n : Int) (old : List UInt8) (k : Nat) : List UInt8 := (fourB n).take k ++ old.drop k
theorem mid_set (n : Int) (pre post : List UInt8) (a b c d : UInt8) (o k : Nat) (ho : pre.length = o) (hk : k < 4) (v : Value) (hv : v = .int .u8 (((fourB n).getD k 0).toNat : Int)) :
    (bv (pre ++ (midB n [a, b, c, d] k ++ post))).toArray.setIfInBounds (o + k) v = (bv (pre ++ (midB n [a, b, c, d] (k + 1) ++ post))).toArray := by
  subst hv
  subst ho
  apply Array.toList_inj.1
  rcases k with _ | _ | _ | _ | k
  · simp [bv, midB, fourB]
  · simp [bv, midB, fourB]
  · simp [bv, midB, fourB]
  · simp [bv, midB, fourB]
  · omega
theorem mid_get (n : Int) (pre post : List UInt8) (a b c d : UInt8) (o k : Nat) (ho : pre.length = o) (hk : k < 4) : ∃ u : UInt8, (bv (pre ++ (midB n [a, b, c, d] k ++ post)))[o + k]? = some (.int .u8 (u.toNat : Int)) := by
  subst ho
  rcases k with _ | _ | _ | _ | k
  · exact ⟨a, by simp [bv, midB, fourB]⟩
  · exact ⟨b, by simp [bv, midB, fourB]⟩
  · exact ⟨c, by simp [bv, midB, fourB]⟩
  · exact ⟨d, by simp [bv, midB, fourB]⟩
  · omega
set_option maxHeartbeats 1600000 in
theorem lay_any (pre old post : List UInt8) (g o l c : Nat) (n : Int) (w : World) (h : BlkIs w g 5 (bv (pre ++ (old ++ post))).toArray) (ho : pre.length = o) (h4 : old.length = 4) (hl : 4 ≤ l) :
    Calls Tryd.prog 56 #[.slice (some ⟨g, o, none⟩) l c, .int .i64 n] w fun e w' => (∃ v, e = .returned v) ∧ BlkIs w' g 5 (bv (pre ++ (fourB n ++ post))).toArray ∧ Tn (fun i => i = g) w w' := by
  match old, h4 with
  | [a, b, c1, d], _ =>
  have hM0 : midB n [a, b, c1, d] 0 = [a, b, c1, d] := rfl
  have hM4 : Hid (midB n [a, b, c1, d] 4 = fourB n) := Lib.hid rfl
  rw [← hM0] at h
  have H0 := Lib.hid h
  have HO := Lib.hid ho
  clear h ho hM0 h4
  go_enter Tryd.func56, Tryd.ntmps56
  go_wp2_with fail
  go_loopw [5] (fun i wr => ∃ k : Nat, k ≤ 4 ∧ i = .int .i64 k ∧ BlkIs wr g 5 (bv (pre ++ (midB n [a, b, c1, d] k ++ post))).toArray ∧ Tn (fun i => i = g) w wr) (fun i _ => 4 - (intOf i).toNat)
  case atStart => exact ⟨0, by omega, rfl, H0.out, Tn.refl _ _⟩
  case round =>
    obtain ⟨k, hk, rfl, hb, ht⟩ := hrel
    by_cases hlt : k < 4
    · obtain ⟨u, hu⟩ := mid_get n pre post a b c1 d o k HO.out hlt
      have hget := hb.get hu
      have hfr := hb.froz (o + k)
      have HP := Lib.hid (fun v hv => mid_set n pre post a b c1 d o k HO.out hlt v hv)
      have HB := Lib.hid hb
      have HT := Lib.hid ht
      clear hu hb ht H0
      obtain rfl | rfl | rfl | rfl : k = 0 ∨ k = 1 ∨ k = 2 ∨ k = 3 := by omega
      · have hl0 : (0 : Int) < (l : Int) := by omega
        rw [Nat.add_zero] at hget hfr
        have hl0' : 0 < l := by omega
        go_wp2_with fail
        go_roundw
        case rel =>
          refine ⟨1, by omega, by go_num, ?_, HT.out.setCell (.inl rfl) _⟩
          have hp := HB.out.put o (.int .u8 (n / 16777216 % 256))
          rw [show o = o + 0 from rfl, HP.out _ (by rw [nb3]; rfl)] at hp
          exact hp
        case measure => simp [intOf]
      · have hl0 : (1 : Int) < (l : Int) := by omega
        have hl0' : 1 < l := by omega
        go_wp2_with fail
        go_roundw
        case rel =>
          refine ⟨2, by omega, by go_num, ?_, HT.out.setCell (.inl rfl) _⟩
          have hp := HB.out.put (o + 1) (.int .u8 (n / 65536 % 256))
          rw [HP.out _ (by rw [nb2]; rfl)] at hp
          exact hp
        case measure => simp [intOf]
      · have hl0 : (2 : Int) < (l : Int) := by omega
        have hl0' : 2 < l := by omega
        go_wp2_with fail
        go_roundw
        case rel =>
          refine ⟨3, by omega, by go_num, ?_, HT.out.setCell (.inl rfl) _⟩
          have hp := HB.out.put (o + 2) (.int .u8 (n / 256 % 256))
          rw [HP.out _ (by rw [nb1]; rfl)] at hp
          exact hp
        case measure => simp [intOf]
      · have hl0 : (3 : Int) < (l : Int) := by omega
        have hl0' : 3 < l := by omega
        go_wp2_with fail
        go_roundw
        case rel =>
          refine ⟨4, by omega, by go_num, ?_, HT.out.setCell (.inl rfl) _⟩
          have hp := HB.out.put (o + 3) (.int .u8 (n % 256))
          rw [HP.out _ (by rw [nb0]; rfl)] at hp
          exact hp
        case measure => simp [intOf]
    · obtain rfl : k = 4 := by omega
      go_wp2_with fail
      go_end0
      exact ⟨⟨_, rfl⟩, by rw [← hM4.out]; exact hb, ht⟩
theorem cut45 (g o l c k : Nat) (hk : k ≤ l) (hkc : k < c) (w : World) : (Instr.slice 45 (.slice (some ⟨g, o, none⟩) l c) (some (.int .i64 k)) none none).run Tryd.prog w = .ok (.slice (some ⟨g, o + k, none⟩) (l - k) (c - k)) w := by
  obtain ⟨i, hi, hz, h0, h1⟩ := info_parts info5
  have e1 : (k : Int) ≤ (l : Int) := by omega
  have e2 : ¬ c = k := by omega
  simp [Instr.slice, run_underlying Tryd.underlying45, Instr.sliceBounds, Instr.sliceBound, asIntOf, Sem.run_bind, hk, e2, sizeOf, typeInfo, hi, h0, add_at]
theorem isl26o (g o : Nat) (w : World) : (Instr.sliceAt 22 (.pointer (some ⟨g, o, none⟩)) none none none).run Tryd.prog w = .ok (.slice (some ⟨g, o, none⟩) 32 32) w := by
  obtain ⟨i, hi, _, h0, _⟩ := info_parts info5
  simp [Instr.sliceAt, run_underlying Tryd.underlying22, Instr.sliceBounds, Sem.run_bind, sizeOf, typeInfo, hi, Instr.sureAddr, add_at]
theorem sc_seg {W : World} {g : Nat} {s : Sl} (h : BlkIs W g 39 (sc s).toArray) : W.cell? ⟨g, 0, none⟩ = some (.int .i64 s.seg) := h.get rfl
theorem sc_count {W : World} {g : Nat} {s : Sl} (h : BlkIs W g 39 (sc s).toArray) : W.cell? ⟨g, 1, none⟩ = some (.int .i64 s.count) := h.get rfl
theorem sc_root {W : World} {g : Nat} {s : Sl} (h : BlkIs W g 39 (sc s).toArray) : W.rangeAt g 2 (bv s.root) := BlkIs.range (a := [.int .i64 s.seg, .int .i64 s.count]) (b := bv s.root) (c := bv s.prev) h rfl
theorem sc_prev {W : World} {g : Nat} {s : Sl} (hs : s.ok) (h : BlkIs W g 39 (sc s).toArray) : W.rangeAt g 34 (bv s.prev) := by
  refine BlkIs.range (t := 39) (a := [.int .i64 s.seg, .int .i64 s.count] ++ bv s.root) (b := bv s.prev) (c := []) ?_ (by simp [bv_length, hs.1])
  rw [List.append_nil, List.append_assoc]
  exact h
theorem splice_mid (a b c m : List UInt8) (o : Nat) (ho : a.length = o) (hb : b.length = m.length) : splice (bv (a ++ (b ++ c))) o (bv m) = bv (a ++ (m ++ c)) := by
  unfold splice
  rw [bv_append, bv_append, bv_append, bv_append, List.take_left' (by rw [bv_length, ho]), bv_length, ← hb, ← List.drop_drop, List.drop_left' (by rw [bv_length, ho]), List.drop_left' (by rw [bv_length])]
set_option maxHeartbeats 1600000 in
theorem bytes_any (s : Sl) (w : World) (hs : s.ok) :
    Calls Tryd.prog 27 #[.agg (sc s).toArray] w fun e w' => ∃ g, e = .returned (.slice (some ⟨g, 0, none⟩) 72 72) ∧ BlkIs w' g 5 (bv (bytesS s)).toArray ∧ w.heap.size ≤ g ∧ Below w.heap.size w w' := by
  have hmk : ∀ w' : World, (Instr.makeSlice 45 (.int .i64 72) (.int .i64 72)).run Tryd.prog w' = .ok (.slice (some ⟨w'.heap.size, 0, none⟩) 72 72) (w'.alloc (.cells (bv (List.replicate 72 0)).toArray 5)) := fun w' => run_mk5 72 (by omega) w'
  have HS := Lib.hid hs
  have HT := Lib.hid (two_blocks w (.cells (sc s).toArray 39) (.cells (bv (List.replicate 72 0)).toArray 5))
  have HK := Lib.hid (below2 w (.cells (sc s).toArray 39) (.cells (bv (List.replicate 72 0)).toArray 5))
  clear hs
  generalize hX : (sc s).toArray = X at *
  have HX := Lib.hid hX
  clear hX
  generalize hZ : (bv (List.replicate 72 0)).toArray = Z at *
  have HZ := Lib.hid hZ
  clear hZ
  go_enter Tryd.func27, Tryd.ntmps27
  go_wp2_with fail
  obtain ⟨W0, hW0⟩ : ∃ W0, W0 = (w.alloc (.cells X 39)).alloc (.cells Z 5) := ⟨_, rfl⟩
  have hT := HT.out
  have hK := HK.out
  rw [← hW0] at hT hK ⊢
  have h0 : BlkIs W0 w.heap.size 39 (sc s).toArray := by rw [HX.out]; exact hT.1
  have h1 : BlkIs W0 (w.heap.size + 1) 5 (bv ([] ++ (List.replicate 4 0 ++ List.replicate 68 0))).toArray := by
    rw [show ([] ++ (List.replicate 4 0 ++ List.replicate 68 0) : List UInt8) = List.replicate 72 0 from rfl, HZ.out]
    exact hT.2
  clear hW0 hT HT HK hmk
  generalize hg : w.heap.size + 1 = g at *
  have HN : Hid (w.heap.size < g) := Lib.hid (by omega)
  clear hg
  have hc0 : ∀ w', (Instr.slice 45 (.slice (some ⟨g, 0, none⟩) 72 72) (some (.int .i64 0)) none none).run Tryd.prog w' = .ok (.slice (some ⟨g, 0, none⟩) 72 72) w' := fun w' => cut45 g 0 72 72 0 (by omega) (by omega) w'
  have hc4 : ∀ w', (Instr.slice 45 (.slice (some ⟨g, 0, none⟩) 72 72) (some (.int .i64 4)) none none).run Tryd.prog w' = .ok (.slice (some ⟨g, 4, none⟩) 68 68) w' := fun w' => cut45 g 0 72 72 4 (by omega) (by omega) w'
  have hc8 : ∀ w', (Instr.slice 45 (.slice (some ⟨g, 0, none⟩) 72 72) (some (.int .i64 8)) none none).run Tryd.prog w' = .ok (.slice (some ⟨g, 8, none⟩) 64 64) w' := fun w' => cut45 g 0 72 72 8 (by omega) (by omega) w'
  have hc40 : ∀ w', (Instr.slice 45 (.slice (some ⟨g, 0, none⟩) 72 72) (some (.int .i64 40)) none none).run Tryd.prog w' = .ok (.slice (some ⟨g, 40, none⟩) 32 32) w' := fun w' => cut45 g 0 72 72 40 (by omega) (by omega) w'
  have hi2 := isl26o w.heap.size 2
  have hi34 := isl26o w.heap.size 34
  have H0C := Lib.hid hc0
  have H4C := Lib.hid hc4
  have H8C := Lib.hid hc8
  have H40C := Lib.hid hc40
  have HI2 := Lib.hid hi2
  have HI34 := Lib.hid hi34
  clear hc0 hc4 hc8 hc40 hi2 hi34
  have H1 := Lib.hid h1
  have HB0 := Lib.hid hK
  have H0 := Lib.hid h0
  clear h1 hK h0
  refine wp_region_held_drew (S := (fun W => W.cell? ⟨w.heap.size, 0, none⟩ = some (.int .i64 s.seg))) (by kernel_rfl) (sc_seg ((Alk.drew _).blk H0.out)) (fun hHeld => ?_)
  refine wpAnyH_take (i := 0) (v := .slice (some ⟨g, 0, none⟩) 72 72) rfl (by kernel_rfl) (by kernel_rfl) (by kernel_rfl) (fun _ _ _ h => h) (Or.inl ⟨by rfl, fun w hS => by first | (go_simp; done) | (go_simp; with_reducible rfl)⟩) hHeld ?_
  try simp only [Act.put, List.getElem_toArray, List.getElem_cons_zero, List.setIfInBounds_toArray, List.set_cons_zero, List.set_cons_succ]
  refine wpAnyH_take (i := 1) (v := .slice (some ⟨g, 0, none⟩) 72 72) rfl (by kernel_rfl) (by kernel_rfl) (by kernel_rfl) (fun _ _ _ h => h) (Or.inl ⟨by rfl, fun w hS => by (have hc := H0C.out; first | (go_simp; done) | (go_simp; with_reducible rfl))⟩) hHeld ?_
  try simp only [Act.put, List.getElem_toArray, List.getElem_cons_zero, List.getElem_cons_succ, List.setIfInBounds_toArray, List.set_cons_zero, List.set_cons_succ]
  refine wpAnyH_take (i := 2) (v := .pointer (some ⟨w.heap.size, 0, none⟩)) rfl (by kernel_rfl) (by kernel_rfl) (by kernel_rfl) (fun _ _ _ h => h) (Or.inl ⟨by rfl, fun w hS => by first | (go_simp; done) | (go_simp; with_reducible rfl)⟩) hHeld ?_
  try simp only [Act.put, List.getElem_toArray, List.getElem_cons_zero, List.getElem_cons_succ, List.setIfInBounds_toArray, List.set_cons_zero, List.set_cons_succ]
  refine wpAnyH_take (i := 3) (v := .int .i64 s.seg) rfl (by kernel_rfl) (by kernel_rfl) (by kernel_rfl) (fun _ _ _ h => h) (Or.inl ⟨by rfl, fun w hS => by (have hc := hS; first | (go_simp; done) | (go_simp; with_reducible rfl))⟩) hHeld ?_
  try simp only [Act.put, List.getElem_toArray, List.getElem_cons_zero, List.getElem_cons_succ, List.setIfInBounds_toArray, List.set_cons_zero, List.set_cons_succ]
  refine wpAnyH_ready (rs := [4]) (by kernel_rfl) (by simp) ?_
  refine AllReadyH.cons rfl (fun K hK => ?_) AllReadyH.nil
  go_simp
  go_wp2_with (go_at_call 56; refine (lay_any [] (List.replicate 4 0) (List.replicate 68 0) g 0 72 72 s.seg _ ((Alk.drew _).blk H1.out) rfl rfl (by omega)).mono ?_; rintro e w2 ⟨⟨v2, rfl⟩, hb2, ht2⟩; have k2 : BlkIs w2 w.heap.size 39 (sc s).toArray := BlkIs.tn ((Alk.drew _).blk H0.out) ht2 (by have := HN.out; omega))
  refine hK.out _ _ ?_ (fun hHeld => ?_)
  · exact sc_seg k2
  clear hK K
  try simp only [Act.put, List.getElem_toArray, List.getElem_cons_zero, List.getElem_cons_succ, List.setIfInBounds_toArray, List.set_cons_zero, List.set_cons_succ]
  refine wpAnyH_done (by kernel_rfl) ?_ _
  have HB2 : Hid (Below w.heap.size w w2) := Lib.hid ((HB0.out.drew).trans (ht2.below (HB0.out.drew).size (fun i hi h => by have := HN.out; omega)))
  have HL2 : Hid (BlkIs w2 g 5 (bv (fourB s.seg ++ (List.replicate 4 0 ++ List.replicate 64 0))).toArray) := Lib.hid hb2
  have HK2 := Lib.hid k2
  clear hb2 ht2 k2
  go_wp2_with fail
  refine wp_region_held_drew (S := (fun W => W.cell? ⟨w.heap.size, 1, none⟩ = some (.int .i64 s.count))) (by kernel_rfl) (sc_count ((Alk.drew _).blk HK2.out)) (fun hHeld => ?_)
  refine wpAnyH_take (i := 0) (v := .slice (some ⟨g, 0, none⟩) 72 72) rfl (by kernel_rfl) (by kernel_rfl) (by kernel_rfl) (fun _ _ _ h => h) (Or.inl ⟨by rfl, fun w hS => by first | (go_simp; done) | (go_simp; with_reducible rfl)⟩) hHeld ?_
  try simp only [Act.put, List.getElem_toArray, List.getElem_cons_zero, List.setIfInBounds_toArray, List.set_cons_zero, List.set_cons_succ]
  refine wpAnyH_take (i := 1) (v := .slice (some ⟨g, 4, none⟩) 68 68) rfl (by kernel_rfl) (by kernel_rfl) (by kernel_rfl) (fun _ _ _ h => h) (Or.inl ⟨by rfl, fun w hS => by (have hc := H4C.out; first | (go_simp; done) | (go_simp; with_reducible rfl))⟩) hHeld ?_
  try simp only [Act.put, List.getElem_toArray, List.getElem_cons_zero, List.getElem_cons_succ, List.setIfInBounds_toArray, List.set_cons_zero, List.set_cons_succ]
  refine wpAnyH_take (i := 2) (v := .pointer (some ⟨w.heap.size, 1, none⟩)) rfl (by kernel_rfl) (by kernel_rfl) (by kernel_rfl) (fun _ _ _ h => h) (Or.inl ⟨by rfl, fun w hS => by first | (go_simp; done) | (go_simp; with_reducible rfl)⟩) hHeld ?_
  try simp only [Act.put, List.getElem_toArray, List.getElem_cons_zero, List.getElem_cons_succ, List.setIfInBounds_toArray, List.set_cons_zero, List.set_cons_succ]
  refine wpAnyH_take (i := 3) (v := .int .i64 s.count) rfl (by kernel_rfl) (by kernel_rfl) (by kernel_rfl) (fun _ _ _ h => h) (Or.inl ⟨by rfl, fun w hS => by (have hc := hS; first | (go_simp; done) | (go_simp; with_reducible rfl))⟩) hHeld ?_
  try simp only [Act.put, List.getElem_toArray, List.getElem_cons_zero, List.getElem_cons_succ, List.setIfInBounds_toArray, List.set_cons_zero, List.set_cons_succ]
  refine wpAnyH_ready (rs := [4]) (by kernel_rfl) (by simp) ?_
  refine AllReadyH.cons rfl (fun K hK => ?_) AllReadyH.nil
  go_simp
  go_wp2_with (go_at_call 56; refine (lay_any (fourB s.seg) (List.replicate 4 0) (List.replicate 64 0) g 4 68 68 s.count _ ((Alk.drew _).blk HL2.out) rfl rfl (by omega)).mono ?_; rintro e w3 ⟨⟨v3, rfl⟩, hb3, ht3⟩; have k3 : BlkIs w3 w.heap.size 39 (sc s).toArray := BlkIs.tn ((Alk.drew _).blk HK2.out) ht3 (by have := HN.out; omega))
  refine hK.out _ _ ?_ (fun hHeld => ?_)
  · exact sc_count k3
  clear hK K
  try simp only [Act.put, List.getElem_toArray, List.getElem_cons_zero, List.getElem_cons_succ, List.setIfInBounds_toArray, List.set_cons_zero, List.set_cons_succ]
  refine wpAnyH_done (by kernel_rfl) ?_ _
  have HB3 : Hid (Below w.heap.size w w3) := Lib.hid ((HB2.out.drew).trans (ht3.below (HB2.out.drew).size (fun i hi h => by have := HN.out; omega)))
  have HL3 : Hid (BlkIs w3 g 5 (bv ((fourB s.seg ++ fourB s.count) ++ (List.replicate 32 0 ++ List.replicate 32 0))).toArray) := Lib.hid (by rw [List.append_assoc]; exact hb3)
  have HK3 := Lib.hid k3
  clear hb3 ht3 k3
  go_wp2_with fail
  refine wp_region_held_drew (S := (fun _ => True)) (by kernel_rfl) (trivial) (fun hHeld => ?_)
  refine wpAnyH_take (i := 0) (v := .slice (some ⟨g, 0, none⟩) 72 72) rfl (by kernel_rfl) (by kernel_rfl) (by kernel_rfl) (fun _ _ _ h => h) (Or.inl ⟨by rfl, fun w hS => by first | (go_simp; done) | (go_simp; with_reducible rfl)⟩) hHeld ?_
  try simp only [Act.put, List.getElem_toArray, List.getElem_cons_zero, List.setIfInBounds_toArray, List.set_cons_zero, List.set_cons_succ]
  refine wpAnyH_take (i := 1) (v := .slice (some ⟨g, 8, none⟩) 64 64) rfl (by kernel_rfl) (by kernel_rfl) (by kernel_rfl) (fun _ _ _ h => h) (Or.inl ⟨by rfl, fun w hS => by (have hc := H8C.out; first | (go_simp; done) | (go_simp; with_reducible rfl))⟩) hHeld ?_
  try simp only [Act.put, List.getElem_toArray, List.getElem_cons_zero, List.getElem_cons_succ, List.setIfInBounds_toArray, List.set_cons_zero, List.set_cons_succ]
  refine wpAnyH_take (i := 2) (v := .pointer (some ⟨w.heap.size, 2, none⟩)) rfl (by kernel_rfl) (by kernel_rfl) (by kernel_rfl) (fun _ _ _ h => h) (Or.inl ⟨by rfl, fun w hS => by first | (go_simp; done) | (go_simp; with_reducible rfl)⟩) hHeld ?_
  try simp only [Act.put, List.getElem_toArray, List.getElem_cons_zero, List.getElem_cons_succ, List.setIfInBounds_toArray, List.set_cons_zero, List.set_cons_succ]
  refine wpAnyH_take (i := 3) (v := .slice (some ⟨w.heap.size, 2, none⟩) 32 32) rfl (by kernel_rfl) (by kernel_rfl) (by kernel_rfl) (fun _ _ _ h => h) (Or.inl ⟨by rfl, fun w hS => by (have hc := HI2.out; first | (go_simp; done) | (go_simp; with_reducible rfl))⟩) hHeld ?_
  try simp only [Act.put, List.getElem_toArray, List.getElem_cons_zero, List.getElem_cons_succ, List.setIfInBounds_toArray, List.set_cons_zero, List.set_cons_succ]
  refine wpAnyH_ready (rs := [4]) (by kernel_rfl) (by simp) ?_
  refine AllReadyH.cons rfl (fun K hK => ?_) AllReadyH.nil
  refine step_copy5 (.tmp 16) (.tmp 18) g 8 64 64 ⟨w.heap.size, 2, none⟩ 32 32 (bv ((fourB s.seg ++ fourB s.count) ++ (List.replicate 32 0 ++ List.replicate 32 0))) (bv s.root) 5 ((Alk.drew _).blk HL3.out) rfl rfl rfl rfl (by rw [bv_length, HS.out.1]; rfl) (fun j v hj => by rw [add_at]; exact sc_root ((Alk.drew _).blk HK3.out) j v hj) (by simp [bv_length, HS.out.1, fourB]) (bv_one _) ?_; intro w4 hb4 ht4
  refine hK.out _ _ ?_ (fun hHeld => ?_)
  · trivial
  clear hK K
  try simp only [Act.put, List.getElem_toArray, List.getElem_cons_zero, List.getElem_cons_succ, List.setIfInBounds_toArray, List.set_cons_zero, List.set_cons_succ]
  refine wpAnyH_done (by kernel_rfl) ?_ _
  rw [splice_mid _ _ _ _ 8 (by rfl) (by rw [HS.out.1]; rfl)] at hb4
  have HB4 : Hid (Below w.heap.size w w4) := Lib.hid ((HB3.out.drew).trans (ht4.below (HB3.out.drew).size (fun i hi h => by have := HN.out; omega)))
  have HK4 : Hid (BlkIs w4 w.heap.size 39 (sc s).toArray) := Lib.hid (BlkIs.tn ((Alk.drew _).blk HK3.out) ht4 (by have := HN.out; omega))
  have HL4 : Hid (BlkIs w4 g 5 (bv (((fourB s.seg ++ fourB s.count) ++ s.root) ++ (List.replicate 32 0 ++ []))).toArray) := Lib.hid (by rw [List.append_nil, List.append_assoc]; exact hb4)
  clear hb4 ht4
  go_wp2_with fail
  refine wp_region_held_drew (S := (fun _ => True)) (by kernel_rfl) (trivial) (fun hHeld => ?_)
  refine wpAnyH_take (i := 0) (v := .slice (some ⟨g, 0, none⟩) 72 72) rfl (by kernel_rfl) (by kernel_rfl) (by kernel_rfl) (fun _ _ _ h => h) (Or.inl ⟨by rfl, fun w hS => by first | (go_simp; done) | (go_simp; with_reducible rfl)⟩) hHeld ?_
  try simp only [Act.put, List.getElem_toArray, List.getElem_cons_zero, List.setIfInBounds_toArray, List.set_cons_zero, List.set_cons_succ]
  refine wpAnyH_take (i := 1) (v := .slice (some ⟨g, 40, none⟩) 32 32) rfl (by kernel_rfl) (by kernel_rfl) (by kernel_rfl) (fun _ _ _ h => h) (Or.inl ⟨by rfl, fun w hS => by (have hc := H40C.out; first | (go_simp; done) | (go_simp; with_reducible rfl))⟩) hHeld ?_
  try simp only [Act.put, List.getElem_toArray, List.getElem_cons_zero, List.getElem_cons_succ, List.setIfInBounds_toArray, List.set_cons_zero, List.set_cons_succ]
  refine wpAnyH_take (i := 2) (v := .pointer (some ⟨w.heap.size, 34, none⟩)) rfl (by kernel_rfl) (by kernel_rfl) (by kernel_rfl) (fun _ _ _ h => h) (Or.inl ⟨by rfl, fun w hS => by first | (go_simp; done) | (go_simp; with_reducible rfl)⟩) hHeld ?_
  try simp only [Act.put, List.getElem_toArray, List.getElem_cons_zero, List.getElem_cons_succ, List.setIfInBounds_toArray, List.set_cons_zero, List.set_cons_succ]
  refine wpAnyH_take (i := 3) (v := .slice (some ⟨w.heap.size, 34, none⟩) 32 32) rfl (by kernel_rfl) (by kernel_rfl) (by kernel_rfl) (fun _ _ _ h => h) (Or.inl ⟨by rfl, fun w hS => by (have hc := HI34.out; first | (go_simp; done) | (go_simp; with_reducible rfl))⟩) hHeld ?_
  try simp only [Act.put, List.getElem_toArray, List.getElem_cons_zero, List.getElem_cons_succ, List.setIfInBounds_toArray, List.set_cons_zero, List.set_cons_succ]
  refine wpAnyH_ready (rs := [4]) (by kernel_rfl) (by simp) ?_
  refine AllReadyH.cons rfl (fun K hK => ?_) AllReadyH.nil
  refine step_copy5 (.tmp 21) (.tmp 23) g 40 32 32 ⟨w.heap.size, 34, none⟩ 32 32 (bv (((fourB s.seg ++ fourB s.count) ++ s.root) ++ (List.replicate 32 0 ++ []))) (bv s.prev) 5 ((Alk.drew _).blk HL4.out) rfl rfl rfl rfl (by rw [bv_length, HS.out.2]; rfl) (fun j v hj => by rw [add_at]; exact sc_prev HS.out ((Alk.drew _).blk HK4.out) j v hj) (by simp [bv_length, HS.out.1, HS.out.2, fourB]) (bv_one _) ?_; intro w5 hb5 ht5
  refine hK.out _ _ ?_ (fun hHeld => ?_)
  · trivial
  clear hK K
  try simp only [Act.put, List.getElem_toArray, List.getElem_cons_zero, List.getElem_cons_succ, List.setIfInBounds_toArray, List.set_cons_zero, List.set_cons_succ]
  refine wpAnyH_done (by kernel_rfl) ?_ _
  rw [splice_mid _ _ _ _ 40 (by simp [fourB, HS.out.1]) (by rw [HS.out.2]; rfl)] at hb5
  have HB5 : Hid (Below w.heap.size w w5) := Lib.hid ((HB4.out.drew).trans (ht5.below (HB4.out.drew).size (fun i hi h => by have := HN.out; omega)))
  have HL5 : Hid (BlkIs w5 g 5 (bv (bytesS s)).toArray) := Lib.hid (by
    have e : ((fourB s.seg ++ fourB s.count) ++ s.root) ++ (s.prev ++ []) = bytesS s := by simp [bytesS]
    rw [← e]
    exact hb5)
  clear hb5 ht5
  go_wp2_with fail
  go_ret
  exact ⟨g, rfl, HL5.out, Nat.le_of_lt HN.out, HB5.out⟩
set_option maxHeartbeats 800000 in
theorem four_any (n : Int) (w : World) : Calls Tryd.prog 57 #[.int .i64 n] w fun e w' => e = .returned (.slice (some ⟨w.heap.size, 0, none⟩) 4 4) ∧ w' = w.alloc (.cells (bv (fourB n)).toArray 5) := by
  have e : (bv (fourB n)).toArray = #[.int .u8 (n / 16777216 % 256), .int .u8 (n / 65536 % 256), .int .u8 (n / 256 % 256), .int .u8 (n % 256)] := by
    rw [nb3 n, nb2 n, nb1 n, nb0 n]
    rfl
  rw [e]
  go_enter Tryd.func57, Tryd.ntmps57
  go_wp2_with fail
  go_ret
  exact ⟨rfl, rfl⟩
theorem four_blk (n : Int) (w : World) : Calls Tryd.prog 57 #[.int .i64 n] w fun e w' => ∃ g, e = .returned (.slice (some ⟨g, 0, none⟩) 4 4) ∧ BlkIs w' g 5 (bv (fourB n)).toArray ∧ w.heap.size ≤ g ∧ Below w.heap.size w w' :=
  (four_any n w).mono fun e w' h => by
    obtain ⟨rfl, rfl⟩ := h
    exact ⟨_, rfl, BlkIs.new w _ _, Nat.le_refl _, below1 w _⟩
theorem own_blk {W : World} {N g n : Nat} {l : List UInt8} (h : BlkIs W g 5 (bv l).toArray) (hN : N ≤ g) (hl : l.length = n) (hn : n ≤ 100000) : W.ownsRow N 5 1 (.slice (some ⟨g, 0, none⟩) n n) n (bv l) :=
  ⟨by rw [bv_length, hl]; omega, .inr ⟨g, n, _, rfl, hN, h, Nat.le_refl _, by unfold maxLen; omega, by rw [List.size_toArray, bv_length, hl]; omega, by rw [List.take_of_length_le (by rw [bv_length, hl]; omega)]⟩⟩
set_option maxHeartbeats 1600000 in
theorem rbytes_any (s : Sl) (w : World) (hs : s.ok) :
    Calls Tryd.prog 28 #[.agg (sc s).toArray] w fun e w' => ∃ A c, e = .returned (.slice A 72 c) ∧ 72 ≤ c ∧ c ≤ maxLen ∧ Bts w' w'.heap.size A (bytesS s) ∧ Below w.heap.size w w' := by
  have HS := Lib.hid hs
  have h0 : BlkIs (w.alloc (.cells (sc s).toArray 39)) w.heap.size 39 (sc s).toArray := BlkIs.new w _ _
  have hb := below1 w (.cells (sc s).toArray 39)
  clear hs
  obtain ⟨W0, hW0⟩ : ∃ W0, W0 = w.alloc (.cells (sc s).toArray 39) := ⟨_, rfl⟩
  have hsz : W0.heap.size = w.heap.size + 1 := by rw [hW0]; simp
  go_enter Tryd.func28, Tryd.ntmps28
  go_wp2_with fail
  rw [← hW0] at h0 hb ⊢
  clear hW0
  have KEEP : Hid (∀ W, Below W0.heap.size W0 W → BlkIs W w.heap.size 39 (sc s).toArray ∧ Below w.heap.size w W) := Lib.hid fun W h => ⟨(h.block _ h0.lt).trans h0, hb.trans (h.mono (by omega))⟩
  have kd : Below W0.heap.size W0 W0.drew := (Below.refl _ W0).drew
  have HI2 := Lib.hid (isl26o w.heap.size 2)
  have HI34 := Lib.hid (isl26o w.heap.size 34)
  obtain ⟨i, hi, hzz, hi0, hi1⟩ := info_parts info5
  clear h0 hb
  refine wp_region_held_drew (S := (fun W => Below W0.heap.size W0 W)) (by kernel_rfl) (kd) (fun hHeld => ?_)
  refine wpAnyH_take (i := 0) (v := .pointer (some ⟨w.heap.size, 0, none⟩)) rfl (by kernel_rfl) (by kernel_rfl) (by kernel_rfl) (fun _ _ _ h => h) (Or.inl ⟨by rfl, fun w hS => by first | (go_simp; done) | (go_simp; with_reducible rfl)⟩) hHeld ?_
  try simp only [Act.put, List.getElem_toArray, List.getElem_cons_zero, List.setIfInBounds_toArray, List.set_cons_zero, List.set_cons_succ]
  refine wpAnyH_take (i := 1) (v := .int .i64 s.seg) rfl (by kernel_rfl) (by kernel_rfl) (by kernel_rfl) (fun _ _ _ h => h) (Or.inl ⟨by rfl, fun w hS => by (have hc := sc_seg (KEEP.out _ hS).1; first | (go_simp; done) | (go_simp; with_reducible rfl))⟩) hHeld ?_
  try simp only [Act.put, List.getElem_toArray, List.getElem_cons_zero, List.getElem_cons_succ, List.setIfInBounds_toArray, List.set_cons_zero, List.set_cons_succ]
  refine wpAnyH_take (i := 3) (v := .pointer (some ⟨w.heap.size, 1, none⟩)) rfl (by kernel_rfl) (by kernel_rfl) (by kernel_rfl) (fun _ _ _ h => h) (Or.inl ⟨by rfl, fun w hS => by first | (go_simp; done) | (go_simp; with_reducible rfl)⟩) hHeld ?_
  try simp only [Act.put, List.getElem_toArray, List.getElem_cons_zero, List.getElem_cons_succ, List.setIfInBounds_toArray, List.set_cons_zero, List.set_cons_succ]
  refine wpAnyH_take (i := 4) (v := .int .i64 s.count) rfl (by kernel_rfl) (by kernel_rfl) (by kernel_rfl) (fun _ _ _ h => h) (Or.inl ⟨by rfl, fun w hS => by (have hc := sc_count (KEEP.out _ hS).1; first | (go_simp; done) | (go_simp; with_reducible rfl))⟩) hHeld ?_
  try simp only [Act.put, List.getElem_toArray, List.getElem_cons_zero, List.getElem_cons_succ, List.setIfInBounds_toArray, List.set_cons_zero, List.set_cons_succ]
  refine wpAnyH_take (i := 7) (v := .pointer (some ⟨w.heap.size, 2, none⟩)) rfl (by kernel_rfl) (by kernel_rfl) (by kernel_rfl) (fun _ _ _ h => h) (Or.inl ⟨by rfl, fun w hS => by first | (go_simp; done) | (go_simp; with_reducible rfl)⟩) hHeld ?_
  try simp only [Act.put, List.getElem_toArray, List.getElem_cons_zero, List.getElem_cons_succ, List.setIfInBounds_toArray, List.set_cons_zero, List.set_cons_succ]
  refine wpAnyH_take (i := 8) (v := .slice (some ⟨w.heap.size, 2, none⟩) 32 32) rfl (by kernel_rfl) (by kernel_rfl) (by kernel_rfl) (fun _ _ _ h => h) (Or.inl ⟨by rfl, fun w hS => by (have hc := HI2.out; first | (go_simp; done) | (go_simp; with_reducible rfl))⟩) hHeld ?_
  try simp only [Act.put, List.getElem_toArray, List.getElem_cons_zero, List.getElem_cons_succ, List.setIfInBounds_toArray, List.set_cons_zero, List.set_cons_succ]
  refine wpAnyH_take (i := 10) (v := .pointer (some ⟨w.heap.size, 34, none⟩)) rfl (by kernel_rfl) (by kernel_rfl) (by kernel_rfl) (fun _ _ _ h => h) (Or.inl ⟨by rfl, fun w hS => by first | (go_simp; done) | (go_simp; with_reducible rfl)⟩) hHeld ?_
  try simp only [Act.put, List.getElem_toArray, List.getElem_cons_zero, List.getElem_cons_succ, List.setIfInBounds_toArray, List.set_cons_zero, List.set_cons_succ]
  refine wpAnyH_take (i := 11) (v := .slice (some ⟨w.heap.size, 34, none⟩) 32 32) rfl (by kernel_rfl) (by kernel_rfl) (by kernel_rfl) (fun _ _ _ h => h) (Or.inl ⟨by rfl, fun w hS => by (have hc := HI34.out; first | (go_simp; done) | (go_simp; with_reducible rfl))⟩) hHeld ?_
  try simp only [Act.put, List.getElem_toArray, List.getElem_cons_zero, List.getElem_cons_succ, List.setIfInBounds_toArray, List.set_cons_zero, List.set_cons_succ]
  refine wpAnyH_ready (rs := [2]) (by kernel_rfl) (by simp) ?_
  refine AllReadyH.cons rfl (fun K hK => ?_) AllReadyH.nil
  go_simp
  go_wp2_with (go_at_call 57; refine (four_blk s.seg _).mono ?_; rintro e w1 ⟨g1, rfl, r1, hg1, hb1⟩; have k1 : Below W0.heap.size W0 w1 := kd.trans (hb1.mono kd.size))
  refine hK.out _ _ ?_ (fun hHeld => ?_)
  · exact k1
  clear hK K
  try simp only [Act.put, List.getElem_toArray, List.getElem_cons_zero, List.getElem_cons_succ, List.setIfInBounds_toArray, List.set_cons_zero, List.set_cons_succ]
  have hg1' : W0.heap.size ≤ g1 := hg1
  refine wpAnyH_ready (rs := [5]) (by kernel_rfl) (by simp) ?_
  refine AllReadyH.cons rfl (fun K hK => ?_) AllReadyH.nil
  go_simp
  go_wp2_with (go_at_call 57; refine (four_blk s.count _).mono ?_; rintro e w2 ⟨g2, rfl, r2, hg2, hb2⟩; have k2 : Below W0.heap.size W0 w2 := k1.trans (hb2.mono k1.size); have q2 : BlkIs w2 g1 5 (bv (fourB s.seg)).toArray := (hb2.block _ r1.lt).trans r1)
  refine hK.out _ _ ?_ (fun hHeld => ?_)
  · exact k2
  clear hK K
  try simp only [Act.put, List.getElem_toArray, List.getElem_cons_zero, List.getElem_cons_succ, List.setIfInBounds_toArray, List.set_cons_zero, List.set_cons_succ]
  have hn2 := k2.size
  refine wpAnyH_ready (rs := [6]) (by kernel_rfl) (by simp) ?_
  refine AllReadyH.cons rfl (fun K hK => ?_) AllReadyH.nil
  rw [if_pos (by rfl)]; refine wp_app (.tmp 5) (.tmp 8) rfl (N := W0.heap.size) Tryd.underlying45 hi hzz hi0 hi1 rfl rfl (own_blk q2 hg1' (n := 4) rfl (by omega)) (A := some ⟨g2, 0, none⟩) (m := 4) (c := 4) (news := bv (fourB s.count)) rfl (BlkIs.bts r2 (Nat.lt_succ_self _)) (by rw [bv_length]; rfl) (bv_one _) (by simp) (by decide) hn2 ?_; intro v3 w3 hv3 hg3; have k3 := k2.grown hg3 hn2 (fun k hk => low_lit hg1' hk)
  refine hK.out _ _ ?_ (fun hHeld => ?_)
  · exact k3
  clear hK K
  try simp only [Act.put, List.getElem_toArray, List.getElem_cons_zero, List.getElem_cons_succ, List.setIfInBounds_toArray, List.set_cons_zero, List.set_cons_succ]
  clear r1 r2 q2 hb1 hb2
  obtain ⟨A3, c3, rfl, _, _, _⟩ := own5_bts (l := fourB s.seg ++ fourB s.count) (by rw [bv_append]; exact hv3)
  have hn3 := k3.size
  have hr3 : Cs w3 (w.heap.size + 1) (some ⟨w.heap.size, 2, none⟩) (bv s.root) := fun j v hj => ⟨⟨w.heap.size, 2, none⟩, rfl, Nat.lt_succ_self _, by rw [add_at]; exact sc_root (KEEP.out _ k3).1 j v hj⟩
  refine wpAnyH_ready (rs := [9]) (by kernel_rfl) (by simp) ?_
  refine AllReadyH.cons rfl (fun K hK => ?_) AllReadyH.nil
  rw [if_pos (by rfl)]; refine wp_app (.tmp 9) (.tmp 11) rfl (N := W0.heap.size) Tryd.underlying45 hi hzz hi0 hi1 rfl rfl hv3 (A := some ⟨w.heap.size, 2, none⟩) (m := 32) (c := 32) (news := bv s.root) rfl hr3 (by rw [bv_length, HS.out.1]) (bv_one _) (by simp) (by decide) hn3 ?_; intro v4 w4 hv4 hg4; have k4 := k3.grown hg4 hn3 (fun k hk => (World.ownsRow.lt hv3 k hk).1)
  refine hK.out _ _ ?_ (fun hHeld => ?_)
  · exact k4
  clear hK K
  try simp only [Act.put, List.getElem_toArray, List.getElem_cons_zero, List.getElem_cons_succ, List.setIfInBounds_toArray, List.set_cons_zero, List.set_cons_succ]
  obtain ⟨A4, c4, rfl, _, _, _⟩ := own5_bts (l := fourB s.seg ++ fourB s.count ++ s.root) (by rw [bv_append, bv_append, List.length_append, HS.out.1]; exact hv4)
  have hn4 := k4.size
  have hr4 : Cs w4 (w.heap.size + 1) (some ⟨w.heap.size, 34, none⟩) (bv s.prev) := fun j v hj => ⟨⟨w.heap.size, 34, none⟩, rfl, Nat.lt_succ_self _, by rw [add_at]; exact sc_prev HS.out (KEEP.out _ k4).1 j v hj⟩
  refine wpAnyH_ready (rs := [12]) (by kernel_rfl) (by simp) ?_
  refine AllReadyH.cons rfl (fun K hK => ?_) AllReadyH.nil
  rw [if_pos (by rfl)]; refine wp_app (.tmp 12) (.tmp 14) rfl (N := W0.heap.size) Tryd.underlying45 hi hzz hi0 hi1 rfl rfl hv4 (A := some ⟨w.heap.size, 34, none⟩) (m := 32) (c := 32) (news := bv s.prev) rfl hr4 (by rw [bv_length, HS.out.2]) (bv_one _) (by simp) (by decide) hn4 ?_; intro v5 w5 hv5 hg5; have k5 := k4.grown hg5 hn4 (fun k hk => (World.ownsRow.lt hv4 k hk).1)
  refine hK.out _ _ ?_ (fun hHeld => ?_)
  · exact k5
  clear hK K
  try simp only [Act.put, List.getElem_toArray, List.getElem_cons_zero, List.getElem_cons_succ, List.setIfInBounds_toArray, List.set_cons_zero, List.set_cons_succ]
  have hL5 : (bytesS s).length = 72 := bytesS_length HS.out
  obtain ⟨A5, c5, rfl, hc5, hm5, hbt⟩ := own5_bts (l := bytesS s) (by
    have e : bytesS s = fourB s.seg ++ fourB s.count ++ s.root ++ s.prev := by simp [bytesS]
    rw [hL5, e, bv_append, bv_append, bv_append]
    exact hv5)
  rw [hL5] at hc5 ⊢
  clear hL5
  refine wpAnyH_ready (rs := [13]) (by kernel_rfl) (by simp) ?_
  refine AllReadyH.cons rfl (fun K hK => ?_) AllReadyH.nil
  go_simp
  refine hK.out _ _ ?_ (fun hHeld => ?_)
  · exact hHeld
  clear hK K
  try simp only [Act.put, List.getElem_toArray, List.getElem_cons_zero, List.getElem_cons_succ, List.setIfInBounds_toArray, List.set_cons_zero, List.set_cons_succ]
  refine wpAnyH_done (by kernel_rfl) ?_ _
  go_wp2_with fail
  go_ret
  exact ⟨A5, c5, rfl, hc5, hm5, hbt, (KEEP.out _ k5).2⟩
end Go.Proofs.YtfgdochpnnkpmaaDoor
