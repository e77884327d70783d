/- Lists of sums compared; a list of sums as a parameter. Conditions: as stated. -/
import Derived.Test.YtgjepkcdacgieaaDoorMkAwake
import Derived.Test.YtgjepkcdacgieaaDoorDgOpen
import Derived.Deep.Slices
namespace Go.Proofs.YtgjepkcdacgieaaDoor
open Go.RowKit Go
set_option maxRecDepth 100000 in
set_option maxHeartbeats 1600000 in
theorem same_yes (A A' : Option Addr) (n c c' : Nat) (L : List (List UInt8)) (w : World) (hn : L.length = n) (h9 : n ≤ 100000) (h : Hs w w.heap.size A L) (h' : Hs w w.heap.size A' L) :
    Calls Tryd.prog 20 #[.slice A n c, .slice A' n c'] w fun e w' => e = .returned (.bool true) ∧ Below w.heap.size w w' := by
  have HN := Lib.hid hn
  have hnn : (((n : Int)) != (n : Int)) = false := by simp
  go_enter Tryd.func20, Tryd.ntmps20
  clear hn
  go_wp2_with fail
  go_loopw [13] (fun i wr => ∃ k : Nat, k ≤ n ∧ i = .int .i64 k ∧ Below w.heap.size w wr) (fun i _ => n - (intOf i).toNat)
  case atStart => exact ⟨0, Nat.zero_le _, rfl, Below.refl _ _⟩
  case round =>
    obtain ⟨k, hk, rfl, hb⟩ := hrel
    by_cases hlt : k < n
    · obtain ⟨g, o, rfl, hgB, hr⟩ := h.at_ (k := k) (by rw [HN.out]; exact hlt)
      obtain ⟨g', o', rfl, hgB', hr'⟩ := h'.at_ (k := k) (by rw [HN.out]; exact hlt)
      have hx : (L.getD k []).length = 32 := h.1.getD (by rw [HN.out]; exact hlt)
      generalize L.getD k [] = x at *
      have HX := Lib.hid hx
      have hne := fun w => run_eq24 x x hx hx w
      rw [show (x == x) = true by simp] at hne
      have HR : Hid (∀ W, Below w.heap.size w W → W.rangeAt g (o + k * 32) (bv x) ∧ W.rangeAt g' (o' + k * 32) (bv x)) := Lib.hid fun W hb => ⟨range_below hr hb hgB, range_below hr' hb hgB'⟩
      clear hr hr' hx
      go_wp2_with fail
      have k0 : Below w.heap.size w wr.drew := hb.drew
      refine wp_region_held_drew (S := (fun W => Below w.heap.size w W)) (by kernel_rfl) (k0) (fun hHeld => ?_)
      refine wpAnyH_take (i := 0) (v := .slice (some ⟨g, o, none⟩) n c) rfl (by kernel_rfl) (by kernel_rfl) (by kernel_rfl) (fun _ _ _ h => h) (Or.inl ⟨by rfl, fun w hS => by first | (go_simp; done) | (go_simp; with_reducible rfl)⟩) hHeld ?_
      try simp only [Act.put, List.getElem_toArray, List.getElem_cons_zero, List.setIfInBounds_toArray, List.set_cons_zero, List.set_cons_succ]
      refine wpAnyH_take (i := 1) (v := .int .i64 k) rfl (by kernel_rfl) (by kernel_rfl) (by kernel_rfl) (fun _ _ _ h => h) (Or.inl ⟨by rfl, fun w hS => by first | (go_simp; done) | (go_simp; with_reducible rfl)⟩) hHeld ?_
      try simp only [Act.put, List.getElem_toArray, List.getElem_cons_zero, List.getElem_cons_succ, List.setIfInBounds_toArray, List.set_cons_zero, List.set_cons_succ]
      refine wpAnyH_take (i := 2) (v := .pointer (some ⟨g, o + k * 32, none⟩)) rfl (by kernel_rfl) (by kernel_rfl) (by kernel_rfl) (fun _ _ _ h => h) (Or.inl ⟨by rfl, fun w hS => by first | (go_simp; done) | (go_simp; with_reducible rfl)⟩) hHeld ?_
      try simp only [Act.put, List.getElem_toArray, List.getElem_cons_zero, List.getElem_cons_succ, List.setIfInBounds_toArray, List.set_cons_zero, List.set_cons_succ]
      refine wpAnyH_take (i := 3) (v := _) rfl (by kernel_rfl) (by kernel_rfl) (by kernel_rfl) (fun _ _ _ h => h) (yieldsIf_load_mid (by rfl) 26 (.tmp 18) rfl g (o + k * 32) rfl (bv x) _ (fun w h => (HR.out w h).1) Tryd.underlying26 rfl (isz26s HX.out)) hHeld ?_
      try simp only [Act.put, List.getElem_toArray, List.getElem_cons_zero, List.getElem_cons_succ, List.setIfInBounds_toArray, List.set_cons_zero, List.set_cons_succ]
      refine wpAnyH_take (i := 4) (v := .slice (some ⟨g', o', none⟩) n c') rfl (by kernel_rfl) (by kernel_rfl) (by kernel_rfl) (fun _ _ _ h => h) (Or.inl ⟨by rfl, fun w hS => by first | (go_simp; done) | (go_simp; with_reducible rfl)⟩) hHeld ?_
      try simp only [Act.put, List.getElem_toArray, List.getElem_cons_zero, List.getElem_cons_succ, List.setIfInBounds_toArray, List.set_cons_zero, List.set_cons_succ]
      refine wpAnyH_take (i := 5) (v := .int .i64 k) rfl (by kernel_rfl) (by kernel_rfl) (by kernel_rfl) (fun _ _ _ h => h) (Or.inl ⟨by rfl, fun w hS => by first | (go_simp; done) | (go_simp; with_reducible rfl)⟩) hHeld ?_
      try simp only [Act.put, List.getElem_toArray, List.getElem_cons_zero, List.getElem_cons_succ, List.setIfInBounds_toArray, List.set_cons_zero, List.set_cons_succ]
      refine wpAnyH_take (i := 6) (v := .pointer (some ⟨g', o' + k * 32, none⟩)) rfl (by kernel_rfl) (by kernel_rfl) (by kernel_rfl) (fun _ _ _ h => h) (Or.inl ⟨by rfl, fun w hS => by first | (go_simp; done) | (go_simp; with_reducible rfl)⟩) hHeld ?_
      try simp only [Act.put, List.getElem_toArray, List.getElem_cons_zero, List.getElem_cons_succ, List.setIfInBounds_toArray, List.set_cons_zero, List.set_cons_succ]
      refine wpAnyH_take (i := 7) (v := _) rfl (by kernel_rfl) (by kernel_rfl) (by kernel_rfl) (fun _ _ _ h => h) (yieldsIf_load_mid (by rfl) 26 (.tmp 22) rfl g' (o' + k * 32) rfl (bv x) _ (fun w h => (HR.out w h).2) Tryd.underlying26 rfl (isz26s HX.out)) hHeld ?_
      try simp only [Act.put, List.getElem_toArray, List.getElem_cons_zero, List.getElem_cons_succ, List.setIfInBounds_toArray, List.set_cons_zero, List.set_cons_succ]
      refine wpAnyH_take (i := 8) (v := .bool false) rfl (by kernel_rfl) (by kernel_rfl) (by kernel_rfl) (fun _ _ _ h => h) (Or.inl ⟨by rfl, fun w hS => by first | (go_simp; done) | (go_simp; with_reducible rfl)⟩) hHeld ?_
      try simp only [Act.put, List.getElem_toArray, List.getElem_cons_zero, List.getElem_cons_succ, List.setIfInBounds_toArray, List.set_cons_zero, List.set_cons_succ]
      refine wpAnyH_done (by kernel_rfl) ?_ _
      go_wp2_with fail
      go_roundw
      case rel => exact ⟨k + 1, by omega, by go_num, k0⟩
      case measure => simp [intOf]; omega
    · have hk2 : ¬ (k : Int) < (n : Int) := by omega
      go_wp2_with fail
      go_ret
      exact ⟨rfl, hb⟩
theorem range_append {w : World} {g o : Nat} {a b : List Value} (ha : w.rangeAt g o a) (hb : w.rangeAt g (o + a.length) b) : w.rangeAt g o (a ++ b) := fun j v hj => by
  rcases Nat.lt_or_ge j a.length with h | h
  · rw [List.getElem?_append_left h] at hj
    exact ha j v hj
  · rw [List.getElem?_append_right h] at hj
    have := hb (j - a.length) v hj
    rwa [show o + a.length + (j - a.length) = o + j from by omega] at this
theorem range_flat {w : World} {g : Nat} : ∀ (L : List (List UInt8)) (o : Nat), Sms L → (∀ k, k < L.length → w.rangeAt g (o + k * 32) (bv (L.getD k []))) → w.rangeAt g o (bv L.flatten)
  | [], _, _, _ => fun j v hj => by simp [bv] at hj
  | x :: L, o, hL, h => by
    rw [List.flatten_cons, bv_append]
    refine range_append (by simpa using h 0 (by simp)) ?_
    rw [bv_length, hL x (by simp)]
    refine range_flat L (o + 32) (fun y hy => hL y (by simp [hy])) fun k hk => ?_
    have := h (k + 1) (by simp; omega)
    rw [show o + (k + 1) * 32 = o + 32 + k * 32 from by omega] at this
    simpa using this
section
open Go.ChangeShapes Go.WideShapes Go.ChangeAt
variable {H : Type} {enc : TypeId × Value → H}
/-- a parameter of sums. -/
def IsHs (W : World) (v : Value) : Prop := ∃ A c L, v = .slice A L.length c ∧ Hs W W.heap.size A L ∧ L.length ≤ c ∧ c ≤ maxLen
set_option maxRecDepth 100000 in
theorem open_hs {W : World} {v : Value} {d : DataW H} {p : List MemPlace} (hv : Value.okWide Tryd.prog W .any 0 23 v) (h : DataW.Trod enc Tryd.prog W 0 (fun _ => true) true 23 v d p) : IsHs W v := by
  obtain ⟨a0, len0, cap0, rfl⟩ := okWide_slice Tryd.underlying23 hv
  obtain ⟨fuel, hf⟩ := h
  rcases Go.Deep.open_slice Tryd.underlying23 hf with ⟨hcs, _⟩ | ⟨a, len, cap, m, n, D, Pl, hcs, _, hl, hm, hmm, _, hi⟩
  · simp [Value.cells] at hcs
    obtain ⟨rfl, rfl, rfl⟩ := hcs
    exact ⟨none, 0, [], rfl, Hs.nil _, by simp, by unfold maxLen; omega⟩
  · simp [Value.cells] at hcs
    obtain ⟨rfl, rfl, rfl⟩ := hcs
    have hle : len0 ≤ m := by rw [hmm]; split <;> omega
    have hc26 : Tryd.prog.cellsOf 26 = 32 := by kernel_rfl
    have hc5 : Tryd.prog.cellsOf 5 = 1 := by kernel_rfl
    have each : ∀ i, i < len0 → ∃ l : List UInt8, l.length = 32 ∧ ∀ j, j < 32 → W.cell? ((a.add (i * 32)).add j) = some (.int .u8 ((l.getD j 0).toNat : Int)) := fun i hil => by
      obtain ⟨cs', h1, h2⟩ := hi i (by omega)
      rw [hc26] at h1
      obtain ⟨_, hl32, hat⟩ := World.cells?_some h1
      obtain ⟨xs, m', _, _, _, hxl, hall⟩ := DataW.trod_array Tryd.underlying26 h2
      have hb : ∀ i, i < 32 → ∃ b : UInt8, cs'[i]? = some (.int .u8 (b.toNat : Int)) := fun i hi => by
        have h1 := hall i hi
        obtain ⟨x, hx⟩ : ∃ x, xs[i]? = some x := ⟨xs[i]'(by omega), List.getElem?_eq_getElem (by omega)⟩
        rw [hx, hc5] at h1
        obtain ⟨z, hcz, _, hw⟩ := DataW.trod_int Tryd.underlying5 h1
        refine ⟨UInt8.ofNat z.toNat, ?_⟩
        have h2 : cs'[i]? = some (.int .u8 z) := by
          have := congrArg (·[0]?) hcz
          simpa [List.getElem?_take, List.getElem?_drop] using this
        rw [wf_byte hw] at h2
        exact h2
      refine ⟨(List.range 32).map fun i => if h : i < 32 then (hb i h).choose else 0, by simp, fun j hj => ?_⟩
      rw [hat j hj, (hb j hj).choose_spec]
      simp [hj]
    obtain ⟨y, hy⟩ := Deep.choose_lt each
    rcases Nat.eq_zero_or_pos len0 with h0 | h0
    · subst h0
      exact ⟨some a, cap0, [], rfl, Hs.nil _, by simp, hm⟩
    · have hsp : a.spot = none := by
        have := (hy 0 h0).2 0 (by omega)
        exact World.cell?_spot (a := a) (by simpa [Addr.add] using this)
      obtain ⟨g, o, sp⟩ := a
      obtain rfl : sp = none := hsp
      have hL : Sms ((List.range len0).map y) := fun x hx => by
        rw [List.mem_map] at hx
        obtain ⟨i, hi, rfl⟩ := hx
        exact (hy i (by simpa using hi)).1
      have hB : g < W.heap.size := World.block_lt_of_cell? W _ (by simpa [add_at] using (hy 0 h0).2 0 (by omega))
      refine ⟨some ⟨g, o, none⟩, cap0, (List.range len0).map y, by simp, ⟨hL, .inr ⟨g, o, rfl, hB, range_flat _ _ hL fun k hk => ?_⟩⟩, by simpa using hl, hm⟩
      have hk' : k < len0 := by simpa using hk
      obtain ⟨e1, e2⟩ := hy k hk'
      have e3 : ((List.range len0).map y).getD k [] = y k := by simp [List.getD_eq_getElem?_getD, hk']
      rw [e3]
      intro j v hj
      have hj32 : j < 32 := by have := (List.getElem?_eq_some_iff.1 hj).1; rw [bv_length, e1] at this; exact this
      rw [bv_get _ _ (by rw [e1]; exact hj32)] at hj
      have := e2 j hj32
      rw [add_at, add_at, hj] at this
      exact this
end
end Go.Proofs.YtgjepkcdacgieaaDoor
