/- A seal as a parameter, a list of seals as a parameter. Conditions: none. -/
import Derived.Test.YtfgdochpnnkpmaaDoorSeChain
import Derived.Test.YtfgdochpnnkpmaaDoorDgOpen
import Derived.Deep.Slices
import Derived.ChangeArms
namespace Go.Proofs.YtfgdochpnnkpmaaDoor
set_option maxRecDepth 100000
open Go.ChangeShapes Go.WideShapes Go.ChangeAt Go.RowKit Go
section
variable {H : Type} {enc : TypeId × Value → H}
set_option maxRecDepth 100000 in
theorem sum_trod {W : World} {m : Nat} {cs : List Value} {x : DataW H × List MemPlace} (h : DataW.trod enc Tryd.prog W 0 (fun _ => true) true m 22 cs = some x) : ∃ l : List UInt8, l.length = 32 ∧ cs = bv l := by
  obtain ⟨xs, m', _, _, hcl, hxl, hall⟩ := DataW.trod_array Tryd.underlying22 h
  have hc26 : Tryd.prog.cellsOf 22 = 32 := by kernel_rfl
  have hc5 : Tryd.prog.cellsOf 5 = 1 := by kernel_rfl
  rw [hc26] at hcl
  have hb : ∀ i, i < 32 → ∃ b : UInt8, cs[i]? = some (.int .u8 (b.toNat : Int)) := fun i hi => by
    have h1 := hall i hi
    obtain ⟨x, hx⟩ : ∃ x, xs[i]? = some x := ⟨xs[i]'(by omega), List.getElem?_eq_getElem (by omega)⟩
    rw [hx, hc5] at h1
    obtain ⟨z, hcz, _, hw⟩ := DataW.trod_int Tryd.underlying5 h1
    refine ⟨UInt8.ofNat z.toNat, ?_⟩
    have h2 : cs[i]? = some (.int .u8 z) := by
      have := congrArg (·[0]?) hcz
      simpa [List.getElem?_take, List.getElem?_drop] using this
    rw [wf_byte hw] at h2
    exact h2
  refine ⟨(List.range 32).map fun i => if h : i < 32 then (hb i h).choose else 0, by simp, ?_⟩
  apply List.ext_getElem?
  intro i
  by_cases hi : i < 32
  · rw [(hb i hi).choose_spec]
    simp [bv, hi]
  · rw [List.getElem?_eq_none (by omega)]
    simp [bv, hi]
theorem cut4 {cs : List Value} (h : cs.length = 66) : cs = (cs.drop 0).take 1 ++ ((cs.drop 1).take 1 ++ ((cs.drop 2).take 32 ++ (cs.drop 34).take 32)) := by
  have h1 : (cs.drop 34).take 32 = cs.drop 34 := List.take_of_length_le (by simp [h])
  have h2 : (cs.drop 2).take 32 ++ cs.drop 34 = cs.drop 2 := by
    rw [show (34 : Nat) = 2 + 32 from rfl, ← List.drop_drop, List.take_append_drop]
  have h3 : (cs.drop 1).take 1 ++ cs.drop 2 = cs.drop 1 := by
    rw [show (2 : Nat) = 1 + 1 from rfl, ← List.drop_drop, List.take_append_drop]
  have h4 : (cs.drop 0).take 1 ++ cs.drop 1 = cs := by
    rw [List.drop_zero, List.take_append_drop]
  rw [h1, h2, h3, h4]
set_option maxRecDepth 100000 in
theorem seal_trod {W : World} {m : Nat} {cs : List Value} {x : DataW H × List MemPlace} (h : DataW.trod enc Tryd.prog W 0 (fun _ => true) true m 39 cs = some x) : ∃ s : Sl, s.ok ∧ cs = sc s := by
  obtain ⟨xs, m', _, _, hcl, hxl, hall⟩ := DataW.trod_struct Tryd.underlying39 h
  have hc39 : Tryd.prog.cellsOf 39 = 66 := by kernel_rfl
  have hc26 : Tryd.prog.cellsOf 22 = 32 := by kernel_rfl
  have hc3 : Tryd.prog.cellsOf 3 = 1 := by kernel_rfl
  rw [hc39] at hcl
  have hxl' : xs.length = 4 := hxl.trans (by kernel_rfl)
  have at_ : ∀ i, i < 4 → ∃ x, xs[i]? = some x := fun i hi => ⟨xs[i]'(by omega), List.getElem?_eq_getElem (by omega)⟩
  obtain ⟨x0, e0⟩ := at_ 0 (by omega)
  obtain ⟨x1, e1⟩ := at_ 1 (by omega)
  obtain ⟨x2, e2⟩ := at_ 2 (by omega)
  obtain ⟨x3, e3⟩ := at_ 3 (by omega)
  have f0 := hall 0 ⟨"Seg", 3, 0, false, "", "", 0⟩ rfl
  have f1 := hall 1 ⟨"Count", 3, 1, false, "", "", 8⟩ rfl
  have f2 := hall 2 ⟨"Root", 22, 2, false, "", "", 16⟩ rfl
  have f3 := hall 3 ⟨"Prev", 22, 34, false, "", "", 48⟩ rfl
  rw [e0] at f0
  rw [e1] at f1
  rw [e2] at f2
  rw [e3] at f3
  dsimp only at f0 f1 f2 f3
  rw [hc3] at f0 f1
  rw [hc26] at f2 f3
  obtain ⟨z0, c0, _, _⟩ := DataW.trod_int Tryd.underlying3 f0
  obtain ⟨z1, c1, _, _⟩ := DataW.trod_int Tryd.underlying3 f1
  obtain ⟨l2, k2, c2⟩ := sum_trod f2
  obtain ⟨l3, k3, c3⟩ := sum_trod f3
  refine ⟨⟨z0, z1, l2, l3⟩, ⟨k2, k3⟩, ?_⟩
  rw [cut4 hcl, c0, c1, c2, c3]
  rfl
/-- a parameter that is a seal. -/
def IsSl (v : Value) : Prop := ∃ s : Sl, v = .agg (sc s).toArray ∧ s.ok
theorem open_sl {W : World} {v : Value} {d : DataW H} {p : List MemPlace} (hv : Value.okWide Tryd.prog W .any 0 39 v) (h : DataW.Trod enc Tryd.prog W 0 (fun _ => true) true 39 v d p) : IsSl v := by
  obtain ⟨cs, rfl⟩ : ∃ cs, v = .agg cs := by
    simp only [Value.okWide, Tryd.underlying39] at hv
    obtain ⟨cs, h1, _⟩ := hv
    exact ⟨cs, h1⟩
  obtain ⟨fuel, hf⟩ := h
  obtain ⟨s, hs, e⟩ := seal_trod hf
  refine ⟨s, ?_, hs⟩
  congr 1
  apply Array.toList_inj.1
  simpa [Value.cells] using e
/-- a parameter of seals. -/
def IsSs (W : World) (v : Value) : Prop := ∃ A c L, v = .slice A (List.length L) c ∧ Ss W W.heap.size A L ∧ L.length ≤ c ∧ c ≤ maxLen
theorem range_seals {w : World} {g : Nat} : ∀ (L : List Sl) (o : Nat), Oks L → (∀ k, k < L.length → w.rangeAt g (o + k * 66) (sc (L.getD k zeroS))) → w.rangeAt g o (scs L)
  | [], _, _, _ => fun j v hj => by simp [scs] at hj
  | x :: L, o, hL, h => by
    show w.rangeAt g o (sc x ++ scs L)
    refine range_append (by simpa using h 0 (by simp)) ?_
    rw [sc_length (hL x (by simp))]
    refine range_seals L (o + 66) (fun y hy => hL y (by simp [hy])) fun k hk => ?_
    have := h (k + 1) (by simp; omega)
    rw [show o + (k + 1) * 66 = o + 66 + k * 66 from by omega] at this
    simpa using this
set_option maxRecDepth 100000 in
theorem open_ss {W : World} {v : Value} {d : DataW H} {p : List MemPlace} (hv : Value.okWide Tryd.prog W .any 0 52 v) (h : DataW.Trod enc Tryd.prog W 0 (fun _ => true) true 52 v d p) : IsSs W v := by
  obtain ⟨a0, len0, cap0, rfl⟩ := okWide_slice Tryd.underlying52 hv
  obtain ⟨fuel, hf⟩ := h
  rcases Go.Deep.open_slice Tryd.underlying52 hf with ⟨hcs, _⟩ | ⟨a, len, cap, m, n, D, Pl, hcs, _, hl, hm, hmm, _, hi⟩
  · simp [Value.cells] at hcs
    obtain ⟨rfl, rfl, rfl⟩ := hcs
    exact ⟨none, 0, [], rfl, Ss.nil, by simp, by unfold maxLen; omega⟩
  · simp [Value.cells] at hcs
    obtain ⟨rfl, rfl, rfl⟩ := hcs
    have hle : len0 ≤ m := by rw [hmm]; split <;> omega
    have hc39 : Tryd.prog.cellsOf 39 = 66 := by kernel_rfl
    have each : ∀ i, i < len0 → ∃ s : Sl, s.ok ∧ ∀ j, j < 66 → W.cell? ((a.add (i * 66)).add j) = (sc s)[j]? := fun i hil => by
      obtain ⟨cs', h1, h2⟩ := hi i (by omega)
      rw [hc39] at h1
      obtain ⟨_, hl66, hat⟩ := World.cells?_some h1
      obtain ⟨s, hs, e⟩ := seal_trod h2
      refine ⟨s, hs, fun j hj => ?_⟩
      rw [hat j hj, e]
    haveI : Inhabited Sl := ⟨zeroS⟩
    obtain ⟨y, hy⟩ := Deep.choose_lt each
    rcases Nat.eq_zero_or_pos len0 with h0 | h0
    · subst h0
      exact ⟨some a, cap0, [], rfl, Ss.nil, by simp, hm⟩
    · have hsp : a.spot = none := by
        have := (hy 0 h0).2 0 (by omega)
        exact World.cell?_spot (a := a) (v := .int .i64 (y 0).seg) (by simpa [Addr.add, sc] using this)
      obtain ⟨g, o, sp⟩ := a
      obtain rfl : sp = none := hsp
      have hL : Oks ((List.range len0).map y) := fun x hx => by
        rw [List.mem_map] at hx
        obtain ⟨i, hi, rfl⟩ := hx
        exact (hy i (by simpa using hi)).1
      have hB : g < W.heap.size := World.block_lt_of_cell? W _ (u := .int .i64 (y 0).seg) (by simpa [add_at, sc] using (hy 0 h0).2 0 (by omega))
      refine ⟨some ⟨g, o, none⟩, cap0, (List.range len0).map y, by simp, ⟨hL, .inr ⟨g, o, rfl, hB, range_seals _ _ hL fun k hk => ?_⟩⟩, by simpa using hl, hm⟩
      have hk' : k < len0 := by simpa using hk
      obtain ⟨e1, e2⟩ := hy k hk'
      have e3 : ((List.range len0).map y).getD k zeroS = y k := by simp [List.getD_eq_getElem?_getD, hk']
      rw [e3]
      intro j v hj
      have hj66 : j < 66 := by have := (List.getElem?_eq_some_iff.1 hj).1; rw [sc_length e1] at this; exact this
      have := e2 j hj66
      rw [add_at, add_at, hj] at this
      exact this
end
end Go.Proofs.YtfgdochpnnkpmaaDoor
