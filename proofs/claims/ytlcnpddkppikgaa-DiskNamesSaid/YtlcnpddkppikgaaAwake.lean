/- New, and the example that every statement of the layer begins with. Conditions: none. -/
import Derived.Test.YtlcnpddkppikgaaStart
import Derived.Lib.SlBytesConst
import Derived.Laws.BytesArg
namespace Go.Proofs.Ytlcnpddkppikgaa
open Go.RowKit Go
set_option maxHeartbeats 400000 in
theorem new_any (W : World) :
    Calls Try.prog 7 #[.int .i64 100] W fun e w' => e = .returned (.pointer (some ⟨W.heap.size + 1, 0, none⟩)) ∧
      BlkIs w' (W.heap.size + 1) 38 #[.map (some W.heap.size), .int .i64 100, .int .i64 0, .int .i64 0, .bool false] ∧ w'.heap[W.heap.size]? = some (.map #[] 0) ∧ Below W.heap.size W w' := by
  have hmm := @run_makeMap Try.prog
  go_enter Try.func7, Try.ntmps7
  go_wp2_with fail
  go_ret
  have hb := BlkIs.new (W.alloc (.map #[] 0)) 38 #[.map (some W.heap.size), .int .i64 100, .int .i64 0, .int .i64 0, .bool false]
  rw [World.size_alloc] at hb
  exact ⟨rfl, hb, (Below.heap_alloc _ _ _ (by simp)).trans (World.alloc_heap_new W _), ((Below.refl _ W).alloc (Nat.le_refl _) _).alloc (by simp) _⟩
/-- the disk with the example's file: x bytes, the power fails in the l-th change, n bytes of which s are safe. -/
def Full (W : World) (D M : Nat) (x l : Int) (b : Bool) (n : Nat) (s : Int) (xs : List Value) (X : World) : Prop :=
  ∃ g c born clk, BlkIs X D 38 #[.map (some M), .int .i64 100, .int .i64 x, .int .i64 l, .bool b] ∧ born < clk ∧ X.heap[M]? = some (.map #[ent (.agg #[.slice (some ⟨g, 0, none⟩) n c, .int .i64 s]) born] clk) ∧
    X.ownsRow W.heap.size 5 1 (.slice (some ⟨g, 0, none⟩) n c) n xs ∧ Below W.heap.size W X
theorem own_form {w : World} {base n c : Nat} {e : TypeId} {a : Option Addr} {xs : List Value} (h : w.ownsRow base e 1 (.slice a n c) n xs) (hn : 0 < n) : ∃ g, a = some ⟨g, 0, none⟩ := by
  rcases h.2 with ⟨_, h0⟩ | ⟨g, cap, cur, hv, _⟩
  · omega
  · injection hv with hv _ _
    exact ⟨g, hv⟩
theorem full_of_app {W W' X : World} {D M : Nat} {x : Int} {n : Nat} {s : Int} {xs : List Value} (h : AppPost W' W.heap.size D M (.int .i64 100) (.int .i64 0) (.bool false) x s n xs X) (hn : 0 < n) (hb : Below W.heap.size W W') (hD : W.heap.size ≤ D) (hM : W.heap.size ≤ M) :
    Full W D M x 0 false n s xs X := by
  obtain ⟨v, clk, es, h1, h2, h3, h4, ⟨a, c, rfl⟩, h6⟩ := h
  obtain ⟨g, rfl⟩ := own_form h4 hn
  rcases h3 with ⟨_, hv, _⟩ | ⟨born, hbc, rfl⟩
  · cases hv
  · exact ⟨g, c, born, clk, h1, hbc, h2, h4, hb.trans (h6.below hb.size (fun i hi hp => by have hp' : i = D ∨ i = M ∨ W.heap.size ≤ i := hp; omega))⟩
theorem full_of_sync {W W' X : World} {D M g c n born clk : Nat} {x l : Int} {b : Bool} {s : Int} {xs : List Value} (hO : W'.ownsRow W.heap.size 5 1 (.slice (some ⟨g, 0, none⟩) n c) n xs) (hD' : BlkIs W' D 38 #[.map (some M), .int .i64 100, .int .i64 x, .int .i64 0, .bool false] ∨ BlkIs W' D 38 #[.map (some M), .int .i64 100, .int .i64 x, .int .i64 1, .bool false])
    (hM' : W'.heap[M]? = some (.map #[ent (.agg #[.slice (some ⟨g, 0, none⟩) n c, .int .i64 5]) born] clk) ∨ W'.heap[M]? = some (.map #[ent (.agg #[.slice (some ⟨g, 0, none⟩) n c, .int .i64 0]) born] clk))
    (h : SyncPost W' D M (.int .i64 100) (.int .i64 l) (.bool b) x (some ⟨g, 0, none⟩) n c s X) (hb : Below W.heap.size W W') (hD : W.heap.size ≤ D) (hM : W.heap.size ≤ M) : Full W D M x l b n s xs X := by
  obtain ⟨h1, ⟨born', clk', hbc, h2⟩, h3⟩ := h
  refine ⟨g, c, born', clk', h1, hbc, h2, ownsRow_tn hO h3 ?_, hb.trans (h3.below hb.size (fun i hi hp => by have hp' : i = D ∨ i = M := hp; omega))⟩
  rcases hD' with hD' | hD' <;> rcases hM' with hM' | hM' <;> exact own_two hO hD' hM'
def b5 : List Int := [49, 50, 51, 52, 53]
def b3 : List Int := [54, 55, 56]
abbrev vals (l : List Int) : List Value := l.map (Value.int .u8)
abbrev bts (l : List Int) : Array Value := (vals l).toArray
theorem vals_one (l : List Int) : ∀ u ∈ vals l, u.oneCell' = true := by
  intro u hu
  obtain ⟨n, _, rfl⟩ := List.mem_map.1 hu
  rfl
theorem bts_cells (W : World) (l : List Int) (k : Nat) : ∀ j u, (vals l)[j]? = some u → (W.alloc (.cells (bts l) 5 (k, k + 1))).cell? (Addr.add ⟨W.heap.size, 0, none⟩ j) = some u :=
  fun j u hj => World.news_of_block (heap_alloc_new W _) j u (by simpa using hj)
theorem vals8_one : ∀ u ∈ vals b5 ++ vals b3, u.oneCell' = true := by
  intro u hu
  rcases List.mem_append.1 hu with h | h
  · exact vals_one b5 u h
  · exact vals_one b3 u h
theorem text7 {W : World} {base g c : Nat} (h : W.ownsRow base 5 1 (.slice (some ⟨g, 0, none⟩) 7 c) 7 ((vals b5 ++ vals b3).take 7)) :
    (convert 28 9 (.slice (some ⟨g, 0, none⟩) 7 c)).run Try.prog W = .ok (.string ⟨#[49, 50, 51, 52, 53, 54, 55]⟩) W := by
  obtain ⟨_, _, _, _, _, hc⟩ := own_cells h
  refine run_convert_bytes_arg W 28 5 Try.underlying28 Try.underlying5 g 0 7 c [49, 50, 51, 52, 53, 54, 55] rfl (fun i hi => ?_) 9 Try.underlying9
  have h1 := hc i (.int .u8 ([49, 50, 51, 52, 53, 54, 55].getD i 0))
  have e1 : (Addr.add ⟨g, 0, none⟩ i) = ⟨g, 0 + i, none⟩ := by unfold Addr.add; split <;> simp_all
  rw [e1] at h1
  refine h1 ?_
  have h7 : i = 0 ∨ i = 1 ∨ i = 2 ∨ i = 3 ∨ i = 4 ∨ i = 5 ∨ i = 6 := by omega
  rcases h7 with rfl | rfl | rfl | rfl | rfl | rfl | rfl <;> rfl
set_option maxHeartbeats 1600000 in
theorem awake_any (W : World) : Calls Try.prog 4 #[] W fun e w' => e = .returned (.bool true) ∧ Below W.heap.size W w' := by
  have kc := fun (w : World) (C : Array Value) (n c : Nat) => Lib.run_convert_bytes_const (P := Try.prog) w 28 5 C n c Try.underlying28 Try.underlying5
  go_enter Try.func4, Try.ntmps4
  go_wp2_with fail
  refine (new_any W).mono ?_
  rintro e W1 ⟨rfl, hD1, hM1, hb1⟩
  have hz1 := hb1.size
  go_wp2_with fail
  have hD2 := hD1.alloc (Obj.cells (bts b5) 5 (5, 6))
  have hM2 := (Below.heap_alloc W1 (Obj.cells (bts b5) 5 (5, 6)) W.heap.size (by have := BlkIs.lt hD1; omega)).trans hM1
  have hb2 := hb1.alloc hz1 (Obj.cells (bts b5) 5 (5, 6))
  have hz2 := hb2.size
  refine (append_any _ W.heap.size (W.heap.size + 1) W.heap.size W1.heap.size 0 #[] 0 none 0 0 0 [] 5 5 (vals b5) hD2 hM2 (.inl ⟨rfl, rfl, rfl⟩) (by decide) (by decide) (by decide) (own_nil _ _ _) hz2 (bts_cells W1 b5 5) (by simp) (vals_one b5) (by decide) (by decide)).mono ?_
  rintro e W3 ⟨rfl, hp3⟩
  have hF3 : Full W (W.heap.size + 1) W.heap.size 5 0 false 5 0 (vals b5) W3 := full_of_app hp3 (by decide) hb2 (by omega) (Nat.le_refl _)
  clear hp3 hD2 hM2 hb2 hz2 hD1 hM1 hb1 hz1
  go_wp2_with fail
  obtain ⟨g3, c3, born3, clk3, hD3, hc3, hM3, hO3, hB3⟩ := hF3
  refine (sync_ok W3 _ _ _ _ clk3 born3 _ _ c3 _ hD3 hM3 hc3 (by decide) (by decide) (by decide)).mono ?_
  rintro e W4 ⟨rfl, hp4⟩
  have hF4 : Full W (W.heap.size + 1) W.heap.size 5 0 false 5 5 (vals b5) W4 := full_of_sync hO3 (.inl hD3) (.inr hM3) hp4 hB3 (by omega) (Nat.le_refl _)
  clear hp4 hD3 hM3 hO3 hB3 hc3
  go_wp2_with fail
  obtain ⟨g4, c4, born4, clk4, hD4, hc4, hM4, hO4, hB4⟩ := hF4
  have hz4 := hB4.size
  have hD5 := hD4.alloc (Obj.cells (bts b3) 5 (3, 4))
  have hM5 := (Below.heap_alloc W4 (Obj.cells (bts b3) 5 (3, 4)) W.heap.size (by have := BlkIs.lt hD4; omega)).trans hM4
  have hO5 := hO4.alloc (Obj.cells (bts b3) 5 (3, 4))
  have hB5 := hB4.alloc hz4 (Obj.cells (bts b3) 5 (3, 4))
  have hz5 := hB5.size
  refine (append_any _ W.heap.size (W.heap.size + 1) W.heap.size W4.heap.size 5 _ clk4 _ 5 c4 5 (vals b5) 3 3 (vals b3) hD5 hM5 (.inr ⟨born4, hc4, rfl⟩) (by decide) (by decide) (by decide) hO5 hz5 (bts_cells W4 b3 3) (by simp) (vals_one b3) (by decide) (by decide)).mono ?_
  rintro e W6 ⟨rfl, hp6⟩
  have hF6 : Full W (W.heap.size + 1) W.heap.size 8 0 false 8 5 (vals b5 ++ vals b3) W6 := full_of_app hp6 (by decide) hB5 (by omega) (Nat.le_refl _)
  clear hp6 hD5 hM5 hO5 hB5 hz5 hD4 hM4 hO4 hB4 hz4 hc4
  go_wp2_with fail
  obtain ⟨g6, c6, born6, clk6, hD6, hc6, hM6, hO6, hB6⟩ := hF6
  refine (arm_any W6 _ _ _ _ _ _ 1 hD6 ⟨_, rfl⟩).mono ?_
  rintro e W7 ⟨rfl, rfl⟩
  have hD7 : BlkIs (W6.setCell ⟨W.heap.size + 1, 3, none⟩ (.int .i64 1)) (W.heap.size + 1) 38 #[.map (some W.heap.size), .int .i64 100, .int .i64 8, .int .i64 1, .bool false] := by
    have := hD6.put 3 (.int .i64 1)
    simpa using this
  have hM7 := (Below.heap_setCell W6 ⟨W.heap.size + 1, 3, none⟩ (.int .i64 1) W.heap.size (by show W.heap.size ≠ W.heap.size + 1; omega)).trans hM6
  have hO7 := ownsRow_tn hO6 ((Tn.refl (fun i => i = W.heap.size + 1 ∨ i = W.heap.size) W6).setCell (x := ⟨W.heap.size + 1, 3, none⟩) (.inl (.inl rfl)) (.int .i64 1)) (own_two hO6 hD6 hM6)
  have hB7 := hB6.setCell (p := ⟨W.heap.size + 1, 3, none⟩) (by show W.heap.size ≤ W.heap.size + 1; omega) (.int .i64 1)
  clear hD6 hM6 hO6 hB6
  generalize W6.setCell ⟨W.heap.size + 1, 3, none⟩ (.int .i64 1) = W7 at *
  go_wp2_with fail
  refine (sync_cut W7 _ _ _ _ clk6 born6 _ _ c6 5 hD7 hM7 hc6).mono ?_
  rintro e W8 ⟨rfl, hp8⟩
  have hF8 : Full W (W.heap.size + 1) W.heap.size 8 1 true 8 5 (vals b5 ++ vals b3) W8 := full_of_sync hO7 (.inr hD7) (.inl hM7) hp8 hB7 (by omega) (Nat.le_refl _)
  clear hp8 hD7 hM7 hO7 hB7 hc6
  obtain ⟨g8, c8, born8, clk8, hD8, hc8, hM8, hO8, hB8⟩ := hF8
  have hz8 := hB8.size
  go_wp2_with (go_at_call 11; refine (down_any W8 _ _ true (hD8.cell 0) (hD8.cell 4)).mono ?_; rintro e w' ⟨rfl, rfl⟩)
  have hD9 := hD8.alloc (Obj.cells #[.int .i64 2] 3)
  have hM9 := (Below.heap_alloc W8 (Obj.cells #[.int .i64 2] 3) W.heap.size (by have := BlkIs.lt hD8; omega)).trans hM8
  have hO9 := hO8.alloc (Obj.cells #[.int .i64 2] 3)
  have hB9 := hB8.alloc hz8 (Obj.cells #[.int .i64 2] 3)
  have hz9 := hB9.size
  refine (callsIn_wide.1 (start_any _ W.heap.size _ _ W8.heap.size g8 c8 clk8 born8 (vals b5 ++ vals b3) hD9 hM9 hc8 hO9 vals8_one hz9 ((BlkIs.new W8 3 #[.int .i64 2]).cell 0))).mono ?_
  rintro e WA ⟨rfl, gA, cA, bornA, clkA, hDA, hcA, hMA, hOA, hTA⟩
  have hBA : Below W.heap.size W WA := hB9.trans (hTA.below hz9 (fun i hi hp => by have hp' : i = W.heap.size + 1 ∨ i = W.heap.size := hp; omega))
  clear hD9 hM9 hO9 hB9 hz9 hD8 hM8 hO8 hB8 hz8 hTA hc8
  go_wp2_with fail
  refine (read_any WA W.heap.size _ _ _ _ _ clkA bornA gA 7 cA 7 ((vals b5 ++ vals b3).take 7) hDA hMA hOA (fun u hu => vals8_one u (List.mem_of_mem_take hu)) (by decide) (by decide)).mono ?_
  rintro e WB ⟨gB, cB, rfl, hOB, hbB⟩
  have hx0 : ∀ w (v u : Value), (Instr.extract (.tuple #[v, u]) 0).run Try.prog w = .ok v w := fun _ _ _ => by kernel_rfl
  have hx1 : ∀ w (v u : Value), (Instr.extract (.tuple #[v, u]) 1).run Try.prog w = .ok u w := fun _ _ _ => by kernel_rfl
  have hst := text7 hOB
  have hDB : BlkIs WB (W.heap.size + 1) 38 _ := (hbB.block _ hDA.lt).trans hDA
  have hBB : Below W.heap.size W WB := hBA.trans (hbB.mono hBA.size)
  clear hOB hbB hDA hMA hOA hBA hcA
  go_wp2_with (go_at_call 11; refine (down_any WB _ _ false (hDB.cell 0) (hDB.cell 4)).mono ?_; rintro e w' ⟨rfl, rfl⟩)
  go_ret
  exact ⟨rfl, hBB⟩
end Go.Proofs.Ytlcnpddkppikgaa
