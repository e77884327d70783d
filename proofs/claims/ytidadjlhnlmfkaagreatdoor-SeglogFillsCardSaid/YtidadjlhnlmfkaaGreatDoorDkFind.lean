/- (*disk.Disk).find at whatever state. Conditions: as stated at each. -/
import Derived.Test.YtidadjlhnlmfkaaGreatDoorDkRefuse
namespace Go.Proofs.YtidadjlhnlmfkaaGreatDoor
set_option maxRecDepth 100000
open Go.RowKit Go
theorem look_ok_none {w : World} {M n : Nat} {D : DataW Value} {s : ByteArray} (hM : MapIs w M n D) (hs : s.size ≤ maxLen) (h : at_ D s = none) :
    (Instr.lookup 53 (.map (some M)) (.string s) true).run Tryz.prog w = .ok (.tuple #[.agg #[.slice none 0 0, .int .i64 0], .bool false]) w := by
  rw [held_look hM Tryz.underlying9 Tryz.underlying53 hs (zero58 w) true, h]; rfl
theorem look_ok_some {w : World} {M n : Nat} {D : DataW Value} {s : ByteArray} {v : Value} (hM : MapIs w M n D) (hs : s.size ≤ maxLen) (h : at_ D s = some v) :
    (Instr.lookup 53 (.map (some M)) (.string s) true).run Tryz.prog w = .ok (.tuple #[v, .bool true]) w := by
  rw [held_look hM Tryz.underlying9 Tryz.underlying53 hs (zero58 w) true, h]; rfl
def FindP (W : World) (v : Value) (x : Int) (e : Ending) (w' : World) : Prop := e = .returned (.tuple #[v, .int .i64 x]) ∧ Below W.heap.size W w'
def zeroFile : Value := .agg #[.slice none 0 0, .int .i64 0]
set_option maxHeartbeats 800000 in
theorem find_down (W : World) (Dk M : Nat) (u : Value) (c0 : W.cell? ⟨Dk, 0, none⟩ = some (.map (some M))) (c4 : W.cell? ⟨Dk, 4, none⟩ = some (.bool true)) (hl : Dk < W.heap.size) :
    Calls Tryz.prog 47 #[.pointer (some ⟨Dk, 0, none⟩), u] W fun e w' => FindP W zeroFile 10 e w' := by
  have k0 := fun o => World.cell?_alloc_lt W o ⟨Dk, 0, none⟩ hl
  have k4 := fun o => World.cell?_alloc_lt W o ⟨Dk, 4, none⟩ hl
  have hr := fun o => refuse_down (W.alloc o) Dk M u ((k0 o).trans c0) ((k4 o).trans c4)
  clear k0 k4
  go_enter Tryz.func47, Tryz.ntmps47
  go_wp2_with (go_at_call 56; refine (hr _).mono ?_; rintro e w' ⟨rfl, rfl⟩)
  refine bodyPost_ret (v := .tuple #[zeroFile, .int .i64 10]) (by simp [results, Tryz.results47, go_sem, zeroFile]) rfl ⟨rfl, ?_⟩
  exact (Below.refl _ _).alloc (Nat.le_refl _) _
set_option maxHeartbeats 1600000 in
theorem find_bad (W : World) (Dk M c : Nat) (A : Option Addr) (ss : List ByteArray) (r x l : Value)
    (hD : BlkIs W Dk 55 #[.map (some M), r, x, l, .bool false]) (hS : Strs W A ss) (hSl : ∀ ad, A = some ad → ad.block < W.heap.size) (hl : ss.length ≤ maxLen) (hn : ss.all nameB = false) :
    Calls Tryz.prog 47 #[.pointer (some ⟨Dk, 0, none⟩), .slice A ss.length c] W fun e w' => FindP W zeroFile 12 e w' := by
  have hb1 := (Below.refl W.heap.size W).alloc (Nat.le_refl _) (.cells #[.slice none 0 0, .int .i64 0] 71)
  have hS1 : Strs (W.alloc (.cells #[.slice none 0 0, .int .i64 0] 71)) A ss := fun k s' h => by
    obtain ⟨h1, ad', e, h2⟩ := hS k s' h
    exact ⟨h1, ad', e, (hb1.cell (by rw [blk_add]; exact hSl ad' e)).trans h2⟩
  have hr := refuse_up (W.alloc (.cells #[.slice none 0 0, .int .i64 0] 71)) Dk M c A ss hS1 hl ((hD.alloc _).cell 0) ((hD.alloc _).cell 4)
  rw [refN_no hn] at hr
  go_enter Tryz.func47, Tryz.ntmps47
  go_wp2_with fail
  refine hr.mono ?_
  rintro e w' ⟨rfl, rfl⟩
  go_wp2_with fail
  refine bodyPost_ret (v := .tuple #[zeroFile, .int .i64 12]) (by simp [results, Tryz.results47, go_sem, zeroFile]) rfl ⟨rfl, ?_⟩
  exact hb1
set_option maxHeartbeats 1600000 in
theorem find_some (W : World) (Dk M k c : Nat) (D : DataW Value) (A : Option Addr) (s : ByteArray) (ss : List ByteArray) (r x l : Value) (a : Option Addr) (n cc : Nat) (z : Int)
    (hD : BlkIs W Dk 55 #[.map (some M), r, x, l, .bool false]) (hM : MapIs W M k D) (hS : Strs W A (s :: ss)) (hSl : ∀ ad, A = some ad → ad.block < W.heap.size) (hl : (s :: ss).length ≤ maxLen) (hn : (s :: ss).all nameB = true) (ha : at_ D s = some (.agg #[.slice a n cc, .int .i64 z])) :
    Calls Tryz.prog 47 #[.pointer (some ⟨Dk, 0, none⟩), .slice A (ss.length + 1) c] W fun e w' => FindP W (.agg #[.slice a n cc, .int .i64 z]) 0 e w' := by
  obtain ⟨hsz, ad, rfl, hcell⟩ := hS 0 s rfl
  have hadl := hSl ad rfl
  have hb1 := (Below.refl W.heap.size W).alloc (Nat.le_refl _) (.cells #[.slice none 0 0, .int .i64 0] 71)
  have hS1 : Strs (W.alloc (.cells #[.slice none 0 0, .int .i64 0] 71)) (some ad) (s :: ss) := fun k s' h => by
    obtain ⟨h1, ad', e, h2⟩ := hS k s' h
    cases e
    exact ⟨h1, ad, rfl, (hb1.cell (by rw [blk_add]; exact hadl)).trans h2⟩
  have hr := refuse_up (W.alloc (.cells #[.slice none 0 0, .int .i64 0] 71)) Dk M c (some ad) (s :: ss) hS1 hl ((hD.alloc _).cell 0) ((hD.alloc _).cell 4)
  rw [refN_yes hn] at hr
  have hD1 := hD.alloc (.cells #[.slice none 0 0, .int .i64 0] 71)
  have hM1 := Held.same hM (Below.heap_alloc W (.cells #[.slice none 0 0, .int .i64 0] 71) M (Held.lt hM))
  have hF1 := BlkIs.new W 71 #[.slice none 0 0, .int .i64 0]
  have hc1 := (hb1.cell (p := ad) hadl).trans hcell
  have hz : W.heap.size < (W.alloc (.cells #[.slice none 0 0, .int .i64 0] 71)).heap.size := by simp
  go_enter Tryz.func47, Tryz.ntmps47
  go_wp2_with fail
  refine hr.mono ?_
  rintro e w' ⟨rfl, rfl⟩
  generalize W.alloc (.cells #[.slice none 0 0, .int .i64 0] 71) = W1 at *
  have hl1 := look_ok_some (w := W1.drew) hM1 hsz ha
  have hl2 := fun o => look_ok_some (w := (W1.alloc o).drew) (Held.same hM1 (Below.heap_alloc W1 o M (Held.lt hM1))) hsz ha
  have hx0 : ∀ w (v u : Value), (Instr.extract (.tuple #[v, u]) 0).run Tryz.prog w = .ok v w := fun _ _ _ => by kernel_rfl
  have hx1 : ∀ w (v u : Value), (Instr.extract (.tuple #[v, u]) 1).run Tryz.prog w = .ok u w := fun _ _ _ => by kernel_rfl
  have d0 := hD1.cell 0
  have dl := hD1.lt
  have al : ad.block < W1.heap.size := by omega
  have b0 : 0 < ss.length + 1 := by omega
  go_wp2_with fail
  go_region
  have q0 := hF1.cell 0
  have q1 := hF1.cell 1
  have g0 := hF1.froz 0
  have g1 := hF1.froz 1
  have ql := hF1.lt
  go_wp2_with fail
  have hF2 := ((hF1.put 0 (.slice a n cc)).put 1 (.int .i64 z)).alloc (.cells #[.slice a n cc, .int .i64 z] 71)
  have e0 := hF2.cell 0
  have e1 := hF2.cell 1
  have hB := (((hb1.setCell (p := ⟨W.heap.size, 0, none⟩) (Nat.le_refl _) (.slice a n cc)).setCell (p := ⟨W.heap.size, 1, none⟩) (Nat.le_refl _) (.int .i64 z)).alloc (by simp [World.setCell]; omega) (.cells #[.slice a n cc, .int .i64 z] 71)).drew
  simp only [Array.setIfInBounds, List.size_toArray, List.length_cons, List.length_nil, Nat.reduceAdd, Nat.reduceLT, Nat.zero_lt_succ, dite_true, List.set_toArray, List.set_cons_zero, List.set_cons_succ] at e0 e1
  refine bodyPost_ret (v := .tuple #[.agg #[.slice a n cc, .int .i64 z], .int .i64 0]) (by simp [results, Tryz.results47, go_sem, e0, e1]) rfl ⟨rfl, hB⟩
set_option maxHeartbeats 1600000 in
theorem find_none (W : World) (Dk M k c : Nat) (D : DataW Value) (A : Option Addr) (s : ByteArray) (ss : List ByteArray) (r x l : Value)
    (hD : BlkIs W Dk 55 #[.map (some M), r, x, l, .bool false]) (hM : MapIs W M k D) (hS : Strs W A (s :: ss)) (hSl : ∀ ad, A = some ad → ad.block < W.heap.size) (hl : (s :: ss).length ≤ maxLen) (hn : (s :: ss).all nameB = true) (ha : at_ D s = none) :
    Calls Tryz.prog 47 #[.pointer (some ⟨Dk, 0, none⟩), .slice A (ss.length + 1) c] W fun e w' => FindP W zeroFile 3 e w' := by
  obtain ⟨hsz, ad, rfl, hcell⟩ := hS 0 s rfl
  have hadl := hSl ad rfl
  have hb1 := (Below.refl W.heap.size W).alloc (Nat.le_refl _) (.cells #[.slice none 0 0, .int .i64 0] 71)
  have hS1 : Strs (W.alloc (.cells #[.slice none 0 0, .int .i64 0] 71)) (some ad) (s :: ss) := fun k s' h => by
    obtain ⟨h1, ad', e, h2⟩ := hS k s' h
    cases e
    exact ⟨h1, ad, rfl, (hb1.cell (by rw [blk_add]; exact hadl)).trans h2⟩
  have hr := refuse_up (W.alloc (.cells #[.slice none 0 0, .int .i64 0] 71)) Dk M c (some ad) (s :: ss) hS1 hl ((hD.alloc _).cell 0) ((hD.alloc _).cell 4)
  rw [refN_yes hn] at hr
  have hD1 := hD.alloc (.cells #[.slice none 0 0, .int .i64 0] 71)
  have hM1 := Held.same hM (Below.heap_alloc W (.cells #[.slice none 0 0, .int .i64 0] 71) M (Held.lt hM))
  have hF1 := BlkIs.new W 71 #[.slice none 0 0, .int .i64 0]
  have hc1 := (hb1.cell (p := ad) hadl).trans hcell
  have hz : W.heap.size < (W.alloc (.cells #[.slice none 0 0, .int .i64 0] 71)).heap.size := by simp
  go_enter Tryz.func47, Tryz.ntmps47
  go_wp2_with fail
  refine hr.mono ?_
  rintro e w' ⟨rfl, rfl⟩
  generalize W.alloc (.cells #[.slice none 0 0, .int .i64 0] 71) = W1 at *
  have hl1 := look_ok_none (w := W1.drew) hM1 hsz ha
  have hl2 := fun o => look_ok_none (w := (W1.alloc o).drew) (Held.same hM1 (Below.heap_alloc W1 o M (Held.lt hM1))) hsz ha
  have hx0 : ∀ w (v u : Value), (Instr.extract (.tuple #[v, u]) 0).run Tryz.prog w = .ok v w := fun _ _ _ => by kernel_rfl
  have hx1 : ∀ w (v u : Value), (Instr.extract (.tuple #[v, u]) 1).run Tryz.prog w = .ok u w := fun _ _ _ => by kernel_rfl
  have d0 := hD1.cell 0
  have dl := hD1.lt
  have al : ad.block < W1.heap.size := by omega
  have b0 : 0 < ss.length + 1 := by omega
  go_wp2_with fail
  go_region
  have q0 := hF1.cell 0
  have q1 := hF1.cell 1
  have g0 := hF1.froz 0
  have g1 := hF1.froz 1
  have ql := hF1.lt
  go_wp2_with fail
  have hF2 := ((hF1.put 0 (.slice none 0 0)).put 1 (.int .i64 0)).alloc (.cells #[.slice none 0 0, .int .i64 0] 71)
  have e0 := hF2.cell 0
  have e1 := hF2.cell 1
  have hB := (((hb1.setCell (p := ⟨W.heap.size, 0, none⟩) (Nat.le_refl _) (.slice none 0 0)).setCell (p := ⟨W.heap.size, 1, none⟩) (Nat.le_refl _) (.int .i64 0)).alloc (by simp [World.setCell]; omega) (.cells #[.slice none 0 0, .int .i64 0] 71)).drew
  simp only [Array.setIfInBounds, List.size_toArray, List.length_cons, List.length_nil, Nat.reduceAdd, Nat.reduceLT, Nat.zero_lt_succ, dite_true, List.set_toArray, List.set_cons_zero, List.set_cons_succ] at e0 e1
  refine bodyPost_ret (v := .tuple #[zeroFile, .int .i64 3]) (by simp [results, Tryz.results47, go_sem, e0, e1, zeroFile]) rfl ⟨rfl, hB⟩
end Go.Proofs.YtidadjlhnlmfkaaGreatDoor
