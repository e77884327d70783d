/- Holds, a hold, an envelope as parameters, with their sizes. Conditions: none. -/
import Derived.Test.YtamjellnmlgbeaaFlOpen
import Derived.Test.YtamjellnmlgbeaaHoAwake
import Derived.SizedLaws
import Derived.Handed
import Derived.Deep.Slices
import Derived.Deep.SlicePairs
import Derived.ChangeArms
namespace Go.Proofs.Ytamjellnmlgbeaa
set_option maxRecDepth 100000
open Go.ChangeShapes Go.WideShapes Go.ChangeAt Go.RowKit Go
section
variable {H : Type} {enc : TypeId × Value → H}
/-- a plain row's contract, each argument's sizes at hand. -/
theorem wrap6 {a : Assume} {C : Checked} {os : Os} {f : FuncId} {fn : Func} {s : ChangeSpec} {conds : List PathCond} {apart fresh handsOn again : Bool}
    (own : ownKnob C.prog.godebug = none) (started : os.Started) (noInit : C.prog.inits.idxOf? f = none) (hfn : C.prog.funcs[f]? = some fn)
    (witness : ∃ (w : World) (tape : Tape) (i : Input), w.os = os ∧ (w.forCall tape i).Shaped C.prog ∧ i.vars = [] ∧ Input.okWide C.prog (w.forCall tape i) .any w.heap.size f i ∧
      s.pre6 enc C.prog fn conds apart (w.forCall tape i).memory i.args ∧ a.holds C.prog (lone (Frame.enter C.prog f i.args .normal) [] (w.forCall tape i)))
    (contract : ∀ (W : World) (base : Nat) (args : Array Value) (ds gs : List (DataW H)) (before : List MemPlace),
      (∀ (j : Nat) t v, fn.params[j]? = some t → args[j]? = some v → Value.okWide C.prog W .any base t v) →
      DataW.Whole enc C.prog fn.params.toList s.vars apart W args.toList ds gs before →
      (∀ (j : Nat) t d, fn.params.toList[j]? = some t → ds[j]? = some d → ∀ n ∈ d.weights C.prog t, n ≤ reachBytes) →
      Calls C.prog f args W fun e W' => ∃ v, e = .returned v ∧ s.post enc C.prog fn apart fresh handsOn again W args v W') :
    ReturnsInHanded a C os f .any (s.pre6 enc C.prog fn conds apart) (s.post enc C.prog fn apart fresh handsOn again) := by
  refine returnsInHanded_of_calls own started noInit witness ?_
  intro w tape i _ _ _ hok hpre _
  obtain ⟨_, _, _, g, hg, _, _, _, _, hval⟩ := hok
  obtain rfl : g = fn := Option.some.inj (hg.symm.trans hfn)
  obtain ⟨⟨ds, gs, before, hw, _⟩, hz⟩ := hpre
  have hsz := hz.weights hw
  have hlen : ∀ (j : Nat) t d, g.params.toList[j]? = some t → ds[j]? = some d → ∀ n ∈ d.weights C.prog t, n ≤ reachBytes := fun j t d h1 h2 n hn => by
    have hj1 : j < g.params.toList.length := (List.getElem?_eq_some_iff.1 h1).1
    have hj2 : j < ds.length := (List.getElem?_eq_some_iff.1 h2).1
    have h1' : (g.params.toList ++ (OpenSpec.ofChange s).bare.plain.varTypes C.prog)[j]? = some t := by rw [List.getElem?_append_left hj1]; exact h1
    have h2' : (ds ++ gs)[j]? = some d := by rw [List.getElem?_append_left hj2]; exact h2
    have := List.all_eq_true.1 hsz _ (DataW.weights_mem_each h1' h2' n hn)
    simpa using this
  refine (contract (w.forCall tape i) w.heap.size i.args ds gs before hval (DataW.Whole.of_heap (w' := w.forCall tape i) (by rfl) hw) hlen).mono fun e W' h => ?_
  obtain ⟨v, rfl, hp⟩ := h
  exact ChangeSpec.post_blind hp
theorem str_of2 (s : ByteArray) : s = str s.data.toList := by simp [str]
theorem weights_all {P : Program} {e : TypeId} : ∀ {l : List (DataW H)} {d : DataW H} {n : Nat}, d ∈ l → n ∈ d.weights P e → n ∈ DataW.weightsAll P e l
  | x :: l, d, n, hd, hn => by
    simp only [DataW.weightsAll, List.mem_append]
    rcases List.mem_cons.1 hd with rfl | hd
    · exact .inl hn
    · exact .inr (weights_all hd hn)
/-- a string within: its size. -/
theorem str_le {P : Program} {t : TypeId} {d : DataW H} {s : ByteArray} (hd : d = .lit (.string s.data.toList)) (hw : ∀ n ∈ d.weights P t, n ≤ reachBytes) : s.data.toList.length ≤ 140737488355328 := by
  have := hw s.data.toList.length (by rw [hd]; simp [DataW.weights])
  have hr := reachBytes_lt
  omega
set_option maxRecDepth 100000 in
theorem open_hl {W : World} {v : Value} {d : DataW H} {p : List MemPlace} (hv : Value.okWide Try.prog W .any 0 22 v) (h : DataW.Trod enc Try.prog W 0 (fun _ => true) true 22 v d p) (hw : ∀ n ∈ d.weights Try.prog 22, n ≤ reachBytes) :
    ∃ A c l, v = .slice A (List.length (α := Rt.R) l) c ∧ Rt.Prs W W.heap.size A (Rt.cvR l) ∧ Ho.OkH l ∧ l.length ≤ c ∧ c ≤ maxLen := by
  obtain ⟨a0, len0, cap0, rfl⟩ := okWide_slice Try.underlying22 hv
  obtain ⟨fuel, hf⟩ := h
  rcases Deep.open_slice_pairs Try.underlying22 Try.underlying24 (by kernel_rfl) rfl rfl (by kernel_rfl) (by kernel_rfl) hf with ⟨hcs, _⟩ | ⟨x, l, c, m, n, V0, V1, D0, D1, P0, P1, hcs, _, hl, hm, hmm, hx, hel⟩
  · simp [Value.cells] at hcs
    obtain ⟨rfl, rfl, rfl⟩ := hcs
    exact ⟨none, 0, [], rfl, .inl rfl, (fun c hc => by cases hc), Nat.le_refl _, Nat.zero_le _⟩
  · simp [Value.cells] at hcs
    obtain ⟨rfl, rfl, rfl⟩ := hcs
    have hmc : m = cap0 := by simpa using hmm
    have hd : d = .slice ((List.range len0).map fun i => .agg [D0 i, D1 i]) ((List.range (m - len0)).map fun j => .agg [D0 (len0 + j), D1 (len0 + j)]) := by injection hx
    have hall : ∀ i, ∃ f : Rt.R, i < len0 → (W.cell? (x.add (i * 2)) = some (.string (str f.1)) ∧ W.cell? (x.add (i * 2 + 1)) = some (.string (str f.2))) ∧ f.1.length ≤ 140737488355328 ∧ f.2.length ≤ 140737488355328 := fun i => by
      by_cases hi : i < len0
      · obtain ⟨c0, c1, t0, t1⟩ := hel i (by omega)
        obtain ⟨s0, e0, hD, _⟩ := DataW.trod_string Try.underlying9 t0
        obtain ⟨s1, e1, hE, _⟩ := DataW.trod_string Try.underlying9 t1
        injection e0 with e0 _
        injection e1 with e1 _
        have hD0 : D0 i = .lit (.string s0.data.toList) := by injection hD
        have hD1 : D1 i = .lit (.string s1.data.toList) := by injection hE
        have hmem : ∀ n ∈ DataW.weights Try.prog 24 (.agg [D0 i, D1 i]), n ≤ reachBytes := fun n hn => hw n (by
          rw [hd]
          simp only [DataW.weights, Try.underlying22, List.mem_cons, List.mem_append]
          exact .inr (.inl (weights_all (d := .agg [D0 i, D1 i]) (List.mem_map.2 ⟨i, List.mem_range.2 hi, rfl⟩) hn)))
        refine ⟨(s0.data.toList, s1.data.toList), fun _ => ⟨?_, str_le (P := Try.prog) (t := 9) hD0 (fun n hn => hmem n ?_), str_le (P := Try.prog) (t := 9) hD1 (fun n hn => hmem n ?_)⟩⟩
        · rw [c0, c1, e0, e1, ← str_of2, ← str_of2]
          exact ⟨rfl, rfl⟩
        · simp only [DataW.weights, Try.underlying24]
          exact DataW.weights_mem_each (j := 0) (t := 9) (d := D0 i) rfl rfl n hn
        · simp only [DataW.weights, Try.underlying24]
          exact DataW.weights_mem_each (j := 1) (t := 9) (d := D1 i) rfl rfl n hn
      · exact ⟨([], []), fun h => absurd h hi⟩
    obtain ⟨F, hF⟩ := Classical.skolem.1 hall
    refine ⟨some x, cap0, (List.range len0).map F, by simp, Rt.prs_of (fun i p hi => ?_), (fun c hc => ?_), by simpa using hl, by omega⟩
    · have hi' : i < len0 := by
        have := (List.getElem?_eq_some_iff.1 hi).1
        simpa [Rt.cvR] using this
      have : p = (.string (str (F i).1), .string (str (F i).2)) := by
        have h2 : (Rt.cvR ((List.range len0).map F))[i]? = some (.string (str (F i).1), .string (str (F i).2)) := by simp [Rt.cvR, hi']
        rw [h2] at hi
        injection hi with hi
        exact hi.symm
      subst this
      exact (hF i hi').1
    · obtain ⟨i, hi, rfl⟩ := List.mem_map.1 hc
      exact (hF i (List.mem_range.1 hi)).2
theorem cells9 : Try.prog.cellsOf 9 = 1 := by kernel_rfl
set_option maxRecDepth 100000 in
theorem txs_trod {W : World} {m : Nat} {cs : List Value} {x : DataW H × List MemPlace} (h : DataW.trod enc Try.prog W 0 (fun _ => true) true m 27 cs = some x) (hw : ∀ n ∈ x.1.weights Try.prog 27, n ≤ reachBytes) :
    ∃ A c ps, cs = [.slice A (List.length (α := List UInt8) ps) c] ∧ Ho.Tx W W.heap.size A ps ∧ ps.length ≤ c ∧ c ≤ maxLen ∧ ∀ p ∈ ps, p.length ≤ 140737488355328 := by
  rcases Deep.open_slice Try.underlying27 h with ⟨hcs, _⟩ | ⟨a, len, c, m, n, D, Pl, hcs, _, hl, hm, hmm, hx, hel⟩
  · exact ⟨none, 0, [], hcs, Cs.nil, Nat.le_refl _, Nat.zero_le _, fun p hp => by cases hp⟩
  · have hmc : m = c := by simpa using hmm
    have hall : ∀ i, ∃ p : List UInt8, i < len → W.cell? (a.add i) = some (.string (str p)) ∧ p.length ≤ 140737488355328 := fun i => by
      by_cases hi : i < len
      · obtain ⟨cs', h1, h2⟩ := hel i (by omega)
        rw [cells9, Nat.mul_one] at h1
        obtain ⟨_, hlen, hcell⟩ := World.cells?_some h1
        obtain ⟨s, rfl, hD, _⟩ := DataW.trod_string Try.underlying9 h2
        refine ⟨s.data.toList, fun _ => ⟨?_, ?_⟩⟩
        · rw [← str_of2]
          have := hcell 0 (by omega)
          rw [Ho.tx_add0] at this
          simpa using this
        · have hDi : D i = .lit (.string s.data.toList) := by injection hD
          have hmem : s.data.toList.length ∈ x.1.weights Try.prog 27 := by
            rw [hx]
            simp only [DataW.weights, Try.underlying27, List.mem_cons, List.mem_append]
            refine .inr (.inl (weights_all (d := D i) (List.mem_map.2 ⟨i, List.mem_range.2 hi, rfl⟩) ?_))
            rw [hDi]
            simp [DataW.weights]
          have := hw _ hmem
          have hr := reachBytes_lt
          omega
      · exact ⟨[], fun h => absurd h hi⟩
    obtain ⟨F, hF⟩ := Classical.skolem.1 hall
    refine ⟨some a, c, (List.range len).map F, by rw [hcs]; simp, fun j u hj => ?_, by simpa using hl, hm, fun p hp => ?_⟩
    · have hj' : j < len := by
        have := (List.getElem?_eq_some_iff.1 hj).1
        simpa [Pa.tv] using this
      have hu : u = .string (str (F j)) := by
        have : (Pa.tv ((List.range len).map F))[j]? = some (.string (str (F j))) := by simp [Pa.tv, hj']
        rw [this] at hj
        injection hj with hj
        exact hj.symm
      subst hu
      refine ⟨a, rfl, ?_, (hF j hj').1⟩
      have := World.block_lt_of_cell? W _ (hF j hj').1
      rwa [blk_add] at this
    · obtain ⟨i, hi, rfl⟩ := List.mem_map.1 hp
      exact (hF i (List.mem_range.1 hi)).2
set_option maxRecDepth 100000 in
/-- a parameter that is an envelope. -/
theorem open_env {W : World} {v : Value} {d : DataW H} {p : List MemPlace} (hv : Value.okWide Try.prog W .any 0 29 v) (h : DataW.Trod enc Try.prog W 0 (fun _ => true) true 29 v d p) (hw : ∀ n ∈ d.weights Try.prog 29, n ≤ reachBytes) :
    ∃ e : Ho.Env, Ho.EnvAt W W.heap.size v e ∧ Ho.OkE e := by
  obtain ⟨cs, rfl⟩ : ∃ cs, v = .agg cs := by
    simp only [Value.okWide, Try.underlying29] at hv
    obtain ⟨cs, h1, _⟩ := hv
    exact ⟨cs, h1⟩
  obtain ⟨fuel, hf⟩ := h
  obtain ⟨xs, m', _, hx, hcl, hxl, hall⟩ := DataW.trod_struct Try.underlying29 hf
  have hc28 : Try.prog.cellsOf 29 = 3 := by kernel_rfl
  have hc26 : Try.prog.cellsOf 27 = 1 := by kernel_rfl
  have hc2 : Try.prog.cellsOf 2 = 1 := by kernel_rfl
  rw [hc28] at hcl
  have hxl' : xs.length = 3 := hxl.trans (by kernel_rfl)
  have at_ : ∀ i, i < 3 → ∃ x, xs[i]? = some x := fun i hi => ⟨xs[i]'(by omega), List.getElem?_eq_getElem (by omega)⟩
  obtain ⟨x0, e0⟩ := at_ 0 (by omega)
  obtain ⟨x1, e1⟩ := at_ 1 (by omega)
  obtain ⟨x2, e2⟩ := at_ 2 (by omega)
  have f0 := hall 0 ⟨"From", 9, 0, false, "", "", 0⟩ rfl
  have f1 := hall 1 ⟨"To", 27, 1, false, "", "", 16⟩ rfl
  have f2 := hall 2 ⟨"At", 2, 2, false, "", "", 40⟩ rfl
  rw [e0] at f0
  rw [e1] at f1
  rw [e2] at f2
  dsimp only at f0 f1 f2
  rw [cells9] at f0
  rw [hc26] at f1
  rw [hc2] at f2
  have hd : d = .agg (xs.map (·.1)) := by injection hx
  have hws : ∀ (i : Nat) (t : TypeId) (y : DataW H × List MemPlace), [9, 27, 2][i]? = some t → xs[i]? = some y → ∀ n ∈ y.1.weights Try.prog t, n ≤ reachBytes := fun i t y ht hy n hn => by
    refine hw n ?_
    rw [hd]
    simp only [DataW.weights, Try.underlying29]
    exact DataW.weights_mem_each (j := i) (t := t) (d := y.1) ht (by rw [List.getElem?_map, hy]; rfl) n hn
  obtain ⟨s0, c0, hs0, _⟩ := DataW.trod_string Try.underlying9 f0
  obtain ⟨A1, k1, ps, c1, htx, hl1, hm1, hps⟩ := txs_trod f1 (hws 1 _ _ rfl e1)
  obtain ⟨z2, c2, _, hwz⟩ := DataW.trod_int Try.underlying2 f2
  have hsz : s0.data.toList.length ≤ 140737488355328 := by
    have h1 : x0.1 = .lit (.string s0.data.toList) := by rw [hs0]
    have := hws 0 _ _ rfl e0 s0.data.toList.length (by rw [h1]; simp [DataW.weights])
    have hr := reachBytes_lt
    omega
  refine ⟨(s0.data.toList, ps, z2), ⟨A1, k1, ?_, htx⟩, hsz, fun k => ?_⟩
  · congr 1
    apply Array.toList_inj.1
    have hcs : cs.toList = (cs.toList.drop 0).take 1 ++ ((cs.toList.drop 1).take 1 ++ (cs.toList.drop 2).take 1) := by
      have h1 : cs.toList.length = 3 := by simpa [Value.cells] using hcl
      match hq : cs.toList, h1 with
      | [a, b, c], _ => rfl
    rw [hcs]
    have c0' : (cs.toList.drop 0).take 1 = [.string s0] := by simpa [Value.cells] using c0
    have c1' : (cs.toList.drop 1).take 1 = [.slice A1 ps.length k1] := by simpa [Value.cells] using c1
    have c2' : (cs.toList.drop 2).take 1 = [.int .i64 z2] := by simpa [Value.cells] using c2
    rw [c0', c1', c2', ← str_of2]
    rfl
  · rcases Nat.lt_or_ge k ps.length with h | h
    · exact hps _ (by simp [List.getD, h])
    · simp [List.getD, List.getElem?_eq_none h]
set_option maxRecDepth 100000 in
/-- a parameter that is a hold. -/
theorem open_h {W : World} {v : Value} {d : DataW H} {p : List MemPlace} (hv : Value.okWide Try.prog W .any 0 24 v) (h : DataW.Trod enc Try.prog W 0 (fun _ => true) true 24 v d p) (hw : ∀ n ∈ d.weights Try.prog 24, n ≤ reachBytes) :
    ∃ r : Rt.R, v = .agg #[.string (str r.1), .string (str r.2)] ∧ r.1.length ≤ 140737488355328 ∧ r.2.length ≤ 140737488355328 := by
  obtain ⟨cs, rfl⟩ : ∃ cs, v = .agg cs := by
    simp only [Value.okWide, Try.underlying24] at hv
    obtain ⟨cs, h1, _⟩ := hv
    exact ⟨cs, h1⟩
  obtain ⟨fuel, hf⟩ := h
  obtain ⟨xs, m', _, hx, hcl, hxl, hall⟩ := DataW.trod_struct Try.underlying24 hf
  have hc28 : Try.prog.cellsOf 24 = 2 := by kernel_rfl
  rw [hc28] at hcl
  have hxl' : xs.length = 2 := hxl.trans (by kernel_rfl)
  have at_ : ∀ i, i < 2 → ∃ x, xs[i]? = some x := fun i hi => ⟨xs[i]'(by omega), List.getElem?_eq_getElem (by omega)⟩
  obtain ⟨x0, e0⟩ := at_ 0 (by omega)
  obtain ⟨x1, e1⟩ := at_ 1 (by omega)
  have f0 := hall 0 ⟨"Name", 9, 0, false, "", "", 0⟩ rfl
  have f1 := hall 1 ⟨"Who", 9, 1, false, "", "", 16⟩ rfl
  rw [e0] at f0
  rw [e1] at f1
  dsimp only at f0 f1
  rw [cells9] at f0 f1
  have hd : d = .agg (xs.map (·.1)) := by injection hx
  have hws : ∀ (i : Nat) (t : TypeId) (y : DataW H × List MemPlace), [9, 9][i]? = some t → xs[i]? = some y → ∀ n ∈ y.1.weights Try.prog t, n ≤ reachBytes := fun i t y ht hy n hn => by
    refine hw n ?_
    rw [hd]
    simp only [DataW.weights, Try.underlying24]
    exact DataW.weights_mem_each (j := i) (t := t) (d := y.1) ht (by rw [List.getElem?_map, hy]; rfl) n hn
  obtain ⟨s0, c0, hs0, _⟩ := DataW.trod_string Try.underlying9 f0
  obtain ⟨s1, c1, hs1, _⟩ := DataW.trod_string Try.underlying9 f1
  have h0 : x0.1 = .lit (.string s0.data.toList) := by rw [hs0]
  have h1 : x1.1 = .lit (.string s1.data.toList) := by rw [hs1]
  refine ⟨(s0.data.toList, s1.data.toList), ?_, str_le (P := Try.prog) (t := 9) h0 (hws 0 _ _ rfl e0), str_le (P := Try.prog) (t := 9) h1 (hws 1 _ _ rfl e1)⟩
  congr 1
  apply Array.toList_inj.1
  have hcs : cs.toList = (cs.toList.drop 0).take 1 ++ (cs.toList.drop 1).take 1 := by
    have h1 : cs.toList.length = 2 := by simpa [Value.cells] using hcl
    match hq : cs.toList, h1 with
    | [a, b], _ => rfl
  rw [hcs]
  have c0' : (cs.toList.drop 0).take 1 = [.string s0] := by simpa [Value.cells] using c0
  have c1' : (cs.toList.drop 1).take 1 = [.string s1] := by simpa [Value.cells] using c1
  rw [c0', c1', ← str_of2, ← str_of2]
  rfl
end
end Go.Proofs.Ytamjellnmlgbeaa
