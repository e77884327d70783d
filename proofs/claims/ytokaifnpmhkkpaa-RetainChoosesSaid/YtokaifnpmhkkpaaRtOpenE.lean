/- An envelope as a parameter. Conditions: none. -/
import Derived.Test.YtokaifnpmhkkpaaRtOpen
namespace Go.Proofs.Ytokaifnpmhkkpaa
set_option maxRecDepth 100000
open Go.ChangeShapes Go.WideShapes Go.ChangeAt Go.RowKit Go
section
variable {H : Type} {enc : TypeId × Value → H}
theorem cells9 : Try.prog.cellsOf 9 = 1 := by kernel_rfl
set_option maxRecDepth 100000 in
theorem txs_trod {W : World} {m : Nat} {cs : List Value} {x : DataW H × List MemPlace} (h : DataW.trod enc Try.prog W 0 (fun _ => true) true m 26 cs = some x) (hw : ∀ n ∈ x.1.weights Try.prog 26, n ≤ reachBytes) :
    ∃ A c ps, cs = [.slice A (List.length (α := List UInt8) ps) c] ∧ Rt.Tx W W.heap.size A ps ∧ ps.length ≤ c ∧ c ≤ maxLen ∧ ∀ p ∈ ps, p.length ≤ 140737488355328 := by
  rcases Deep.open_slice Try.underlying26 h with ⟨hcs, _⟩ | ⟨a, len, c, m, n, D, Pl, hcs, _, hl, hm, hmm, hx, hel⟩
  · exact ⟨none, 0, [], hcs, Cs.nil, Nat.le_refl _, Nat.zero_le _, fun p hp => by cases hp⟩
  · have hmc : m = c := by simpa using hmm
    have hall : ∀ i, ∃ p : List UInt8, i < len → W.cell? (a.add i) = some (.string (str p)) ∧ p.length ≤ 140737488355328 := fun i => by
      by_cases hi : i < len
      · obtain ⟨cs', h1, h2⟩ := hel i (by omega)
        rw [cells9, Nat.mul_one] at h1
        obtain ⟨_, hlen, hcell⟩ := World.cells?_some h1
        obtain ⟨s, rfl, hD, _⟩ := DataW.trod_string Try.underlying9 h2
        refine ⟨s.data.toList, fun _ => ⟨?_, ?_⟩⟩
        · rw [← str_of2]
          have := hcell 0 (by omega)
          rw [Rt.tx_add0] at this
          simpa using this
        · have hDi : D i = .lit (.string s.data.toList) := by injection hD
          have hmem : s.data.toList.length ∈ x.1.weights Try.prog 26 := by
            rw [hx]
            simp only [DataW.weights, Try.underlying26, List.mem_cons, List.mem_append]
            refine .inr (.inl (weights_all (d := D i) (List.mem_map.2 ⟨i, List.mem_range.2 hi, rfl⟩) ?_))
            rw [hDi]
            simp [DataW.weights]
          have := hw _ hmem
          have hr := reachBytes_lt
          omega
      · exact ⟨[], fun h => absurd h hi⟩
    obtain ⟨F, hF⟩ := Classical.skolem.1 hall
    refine ⟨some a, c, (List.range len).map F, by rw [hcs]; simp, fun j u hj => ?_, by simpa using hl, hm, fun p hp => ?_⟩
    · have hj' : j < len := by
        have := (List.getElem?_eq_some_iff.1 hj).1
        simpa [Pa.tv] using this
      have hu : u = .string (str (F j)) := by
        have : (Pa.tv ((List.range len).map F))[j]? = some (.string (str (F j))) := by simp [Pa.tv, hj']
        rw [this] at hj
        injection hj with hj
        exact hj.symm
      subst hu
      refine ⟨a, rfl, ?_, (hF j hj').1⟩
      have := World.block_lt_of_cell? W _ (hF j hj').1
      rwa [blk_add] at this
    · obtain ⟨i, hi, rfl⟩ := List.mem_map.1 hp
      exact (hF i (List.mem_range.1 hi)).2
set_option maxRecDepth 100000 in
/-- a parameter that is an envelope. -/
theorem open_env {W : World} {v : Value} {d : DataW H} {p : List MemPlace} (hv : Value.okWide Try.prog W .any 0 28 v) (h : DataW.Trod enc Try.prog W 0 (fun _ => true) true 28 v d p) (hw : ∀ n ∈ d.weights Try.prog 28, n ≤ reachBytes) :
    ∃ e : Rt.Env, Rt.EnvAt W W.heap.size v e ∧ Rt.OkE e := by
  obtain ⟨cs, rfl⟩ : ∃ cs, v = .agg cs := by
    simp only [Value.okWide, Try.underlying28] at hv
    obtain ⟨cs, h1, _⟩ := hv
    exact ⟨cs, h1⟩
  obtain ⟨fuel, hf⟩ := h
  obtain ⟨xs, m', _, hx, hcl, hxl, hall⟩ := DataW.trod_struct Try.underlying28 hf
  have hc28 : Try.prog.cellsOf 28 = 3 := by kernel_rfl
  have hc26 : Try.prog.cellsOf 26 = 1 := by kernel_rfl
  have hc2 : Try.prog.cellsOf 2 = 1 := by kernel_rfl
  rw [hc28] at hcl
  have hxl' : xs.length = 3 := hxl.trans (by kernel_rfl)
  have at_ : ∀ i, i < 3 → ∃ x, xs[i]? = some x := fun i hi => ⟨xs[i]'(by omega), List.getElem?_eq_getElem (by omega)⟩
  obtain ⟨x0, e0⟩ := at_ 0 (by omega)
  obtain ⟨x1, e1⟩ := at_ 1 (by omega)
  obtain ⟨x2, e2⟩ := at_ 2 (by omega)
  have f0 := hall 0 ⟨"From", 9, 0, false, "", "", 0⟩ rfl
  have f1 := hall 1 ⟨"To", 26, 1, false, "", "", 16⟩ rfl
  have f2 := hall 2 ⟨"At", 2, 2, false, "", "", 40⟩ rfl
  rw [e0] at f0
  rw [e1] at f1
  rw [e2] at f2
  dsimp only at f0 f1 f2
  rw [cells9] at f0
  rw [hc26] at f1
  rw [hc2] at f2
  have hd : d = .agg (xs.map (·.1)) := by injection hx
  have hws : ∀ (i : Nat) (t : TypeId) (y : DataW H × List MemPlace), [9, 26, 2][i]? = some t → xs[i]? = some y → ∀ n ∈ y.1.weights Try.prog t, n ≤ reachBytes := fun i t y ht hy n hn => by
    refine hw n ?_
    rw [hd]
    simp only [DataW.weights, Try.underlying28]
    exact DataW.weights_mem_each (j := i) (t := t) (d := y.1) ht (by rw [List.getElem?_map, hy]; rfl) n hn
  obtain ⟨s0, c0, hs0, _⟩ := DataW.trod_string Try.underlying9 f0
  obtain ⟨A1, k1, ps, c1, htx, hl1, hm1, hps⟩ := txs_trod f1 (hws 1 _ _ rfl e1)
  obtain ⟨z2, c2, _, hwz⟩ := DataW.trod_int Try.underlying2 f2
  have hsz : s0.data.toList.length ≤ 140737488355328 := by
    have h1 : x0.1 = .lit (.string s0.data.toList) := by rw [hs0]
    have := hws 0 _ _ rfl e0 s0.data.toList.length (by rw [h1]; simp [DataW.weights])
    have hr := reachBytes_lt
    omega
  refine ⟨(s0.data.toList, ps, z2), ⟨A1, k1, ?_, htx⟩, hsz, fun k => ?_⟩
  · congr 1
    apply Array.toList_inj.1
    have hcs : cs.toList = (cs.toList.drop 0).take 1 ++ ((cs.toList.drop 1).take 1 ++ (cs.toList.drop 2).take 1) := by
      have h1 : cs.toList.length = 3 := by simpa [Value.cells] using hcl
      match hq : cs.toList, h1 with
      | [a, b, c], _ => rfl
    rw [hcs]
    have c0' : (cs.toList.drop 0).take 1 = [.string s0] := by simpa [Value.cells] using c0
    have c1' : (cs.toList.drop 1).take 1 = [.slice A1 ps.length k1] := by simpa [Value.cells] using c1
    have c2' : (cs.toList.drop 2).take 1 = [.int .i64 z2] := by simpa [Value.cells] using c2
    rw [c0', c1', c2', ← str_of2]
    rfl
  · rcases Nat.lt_or_ge k ps.length with h | h
    · exact hps _ (by simp [List.getD, h])
    · simp [List.getD, List.getElem?_eq_none h]
end
end Go.Proofs.Ytokaifnpmhkkpaa
