/- Classes, rules, an envelope as parameters, with their sizes. Conditions: none. -/
import Derived.Test.YtokaifnpmhkkpaaFlOpen
import Derived.Test.YtokaifnpmhkkpaaRtTx
import Derived.Test.YtokaifnpmhkkpaaRtCheck
import Derived.SizedLaws
import Derived.Handed
import Derived.Deep.Slices
import Derived.Deep.SlicePairs
import Derived.ChangeArms
namespace Go.Proofs.Ytokaifnpmhkkpaa
set_option maxRecDepth 100000
open Go.ChangeShapes Go.WideShapes Go.ChangeAt Go.RowKit Go
section
variable {H : Type} {enc : TypeId × Value → H}
/-- a plain row's contract, each argument's sizes at hand. -/
theorem wrap6 {a : Assume} {C : Checked} {os : Os} {f : FuncId} {fn : Func} {s : ChangeSpec} {conds : List PathCond} {apart fresh handsOn again : Bool}
    (own : ownKnob C.prog.godebug = none) (started : os.Started) (noInit : C.prog.inits.idxOf? f = none) (hfn : C.prog.funcs[f]? = some fn)
    (witness : ∃ (w : World) (tape : Tape) (i : Input), w.os = os ∧ (w.forCall tape i).Shaped C.prog ∧ i.vars = [] ∧ Input.okWide C.prog (w.forCall tape i) .any w.heap.size f i ∧
      s.pre6 enc C.prog fn conds apart (w.forCall tape i).memory i.args ∧ a.holds C.prog (lone (Frame.enter C.prog f i.args .normal) [] (w.forCall tape i)))
    (contract : ∀ (W : World) (base : Nat) (args : Array Value) (ds gs : List (DataW H)) (before : List MemPlace),
      (∀ (j : Nat) t v, fn.params[j]? = some t → args[j]? = some v → Value.okWide C.prog W .any base t v) →
      DataW.Whole enc C.prog fn.params.toList s.vars apart W args.toList ds gs before →
      (∀ (j : Nat) t d, fn.params.toList[j]? = some t → ds[j]? = some d → ∀ n ∈ d.weights C.prog t, n ≤ reachBytes) →
      Calls C.prog f args W fun e W' => ∃ v, e = .returned v ∧ s.post enc C.prog fn apart fresh handsOn again W args v W') :
    ReturnsInHanded a C os f .any (s.pre6 enc C.prog fn conds apart) (s.post enc C.prog fn apart fresh handsOn again) := by
  refine returnsInHanded_of_calls own started noInit witness ?_
  intro w tape i _ _ _ hok hpre _
  obtain ⟨_, _, _, g, hg, _, _, _, _, hval⟩ := hok
  obtain rfl : g = fn := Option.some.inj (hg.symm.trans hfn)
  obtain ⟨⟨ds, gs, before, hw, _⟩, hz⟩ := hpre
  have hsz := hz.weights hw
  have hlen : ∀ (j : Nat) t d, g.params.toList[j]? = some t → ds[j]? = some d → ∀ n ∈ d.weights C.prog t, n ≤ reachBytes := fun j t d h1 h2 n hn => by
    have hj1 : j < g.params.toList.length := (List.getElem?_eq_some_iff.1 h1).1
    have hj2 : j < ds.length := (List.getElem?_eq_some_iff.1 h2).1
    have h1' : (g.params.toList ++ (OpenSpec.ofChange s).bare.plain.varTypes C.prog)[j]? = some t := by rw [List.getElem?_append_left hj1]; exact h1
    have h2' : (ds ++ gs)[j]? = some d := by rw [List.getElem?_append_left hj2]; exact h2
    have := List.all_eq_true.1 hsz _ (DataW.weights_mem_each h1' h2' n hn)
    simpa using this
  refine (contract (w.forCall tape i) w.heap.size i.args ds gs before hval (DataW.Whole.of_heap (w' := w.forCall tape i) (by rfl) hw) hlen).mono fun e W' h => ?_
  obtain ⟨v, rfl, hp⟩ := h
  exact ChangeSpec.post_blind hp
theorem str_of2 (s : ByteArray) : s = str s.data.toList := by simp [str]
theorem weights_all {P : Program} {e : TypeId} : ∀ {l : List (DataW H)} {d : DataW H} {n : Nat}, d ∈ l → n ∈ d.weights P e → n ∈ DataW.weightsAll P e l
  | x :: l, d, n, hd, hn => by
    simp only [DataW.weightsAll, List.mem_append]
    rcases List.mem_cons.1 hd with rfl | hd
    · exact .inl hn
    · exact .inr (weights_all hd hn)
/-- a string within: its size. -/
theorem str_le {P : Program} {t : TypeId} {d : DataW H} {s : ByteArray} (hd : d = .lit (.string s.data.toList)) (hw : ∀ n ∈ d.weights P t, n ≤ reachBytes) : s.data.toList.length ≤ 140737488355328 := by
  have := hw s.data.toList.length (by rw [hd]; simp [DataW.weights])
  have hr := reachBytes_lt
  omega
set_option maxRecDepth 100000 in
theorem open_cl {W : World} {v : Value} {d : DataW H} {p : List MemPlace} (hv : Value.okWide Try.prog W .any 0 22 v) (h : DataW.Trod enc Try.prog W 0 (fun _ => true) true 22 v d p) (hw : ∀ n ∈ d.weights Try.prog 22, n ≤ reachBytes) :
    ∃ A c l, v = .slice A (List.length (α := Rt.C) l) c ∧ Rt.Prs W W.heap.size A (Rt.cvC l) ∧ Rt.OkC l := by
  obtain ⟨a0, len0, cap0, rfl⟩ := okWide_slice Try.underlying22 hv
  obtain ⟨fuel, hf⟩ := h
  rcases Deep.open_slice_pairs Try.underlying22 Try.underlying34 (by kernel_rfl) rfl rfl (by kernel_rfl) (by kernel_rfl) hf with ⟨hcs, _⟩ | ⟨x, l, c, m, n, V0, V1, D0, D1, P0, P1, hcs, _, hl, hm, hmm, hx, hel⟩
  · simp [Value.cells] at hcs
    obtain ⟨rfl, rfl, rfl⟩ := hcs
    exact ⟨none, 0, [], rfl, .inl rfl, fun c hc => by cases hc⟩
  · simp [Value.cells] at hcs
    obtain ⟨rfl, rfl, rfl⟩ := hcs
    have hmc : m = cap0 := by simpa using hmm
    have hd : d = .slice ((List.range len0).map fun i => .agg [D0 i, D1 i]) ((List.range (m - len0)).map fun j => .agg [D0 (len0 + j), D1 (len0 + j)]) := by injection hx
    have hall : ∀ i, ∃ f : Rt.C, i < len0 → (W.cell? (x.add (i * 2)) = some (.string (str f.1)) ∧ W.cell? (x.add (i * 2 + 1)) = some (.int .i64 f.2)) ∧ f.1.length ≤ 140737488355328 ∧ Rt.I64 f.2 := fun i => by
      by_cases hi : i < len0
      · obtain ⟨c0, c1, t0, t1⟩ := hel i (by omega)
        obtain ⟨s0, e0, hD, _⟩ := DataW.trod_string Try.underlying9 t0
        obtain ⟨z1, e1, _, hwz⟩ := DataW.trod_int Try.underlying2 t1
        injection e0 with e0 _
        injection e1 with e1 _
        have hD0 : D0 i = .lit (.string s0.data.toList) := by injection hD
        refine ⟨(s0.data.toList, z1), fun _ => ⟨?_, str_le (P := Try.prog) (t := 9) hD0 (fun n hn => hw n ?_), ?_⟩⟩
        · rw [c0, c1, e0, e1, ← str_of2]
          exact ⟨rfl, rfl⟩
        · rw [hd]
          simp only [DataW.weights, Try.underlying22, List.mem_cons, List.mem_append]
          refine .inr (.inl (weights_all (d := .agg [D0 i, D1 i]) (List.mem_map.2 ⟨i, List.mem_range.2 hi, rfl⟩) ?_))
          simp only [DataW.weights, Try.underlying34]
          exact DataW.weights_mem_each (j := 0) (t := 9) (d := D0 i) rfl rfl n hn
        · have h1 : (decide (IntKind.i64.min ≤ z1) && decide (z1 ≤ IntKind.i64.max)) = true := hwz
          rw [Bool.and_eq_true, decide_eq_true_eq, decide_eq_true_eq] at h1
          have h2 : IntKind.i64.min = -9223372036854775808 := by decide
          have h3 : IntKind.i64.max = 9223372036854775807 := by decide
          unfold Rt.I64
          dsimp only
          omega
      · exact ⟨([], 0), fun h => absurd h hi⟩
    obtain ⟨F, hF⟩ := Classical.skolem.1 hall
    refine ⟨some x, cap0, (List.range len0).map F, by simp, Rt.prs_of (fun i p hi => ?_), fun c hc => ?_⟩
    · have hi' : i < len0 := by
        have := (List.getElem?_eq_some_iff.1 hi).1
        simpa [Rt.cvC] using this
      have : p = (.string (str (F i).1), .int .i64 (F i).2) := by
        have h2 : (Rt.cvC ((List.range len0).map F))[i]? = some (.string (str (F i).1), .int .i64 (F i).2) := by simp [Rt.cvC, hi']
        rw [h2] at hi
        injection hi with hi
        exact hi.symm
      subst this
      exact (hF i hi').1
    · obtain ⟨i, hi, rfl⟩ := List.mem_map.1 hc
      exact (hF i (List.mem_range.1 hi)).2
set_option maxRecDepth 100000 in
theorem open_rl {W : World} {v : Value} {d : DataW H} {p : List MemPlace} (hv : Value.okWide Try.prog W .any 0 23 v) (h : DataW.Trod enc Try.prog W 0 (fun _ => true) true 23 v d p) (hw : ∀ n ∈ d.weights Try.prog 23, n ≤ reachBytes) :
    ∃ A c l, v = .slice A (List.length (α := Rt.R) l) c ∧ Rt.Prs W W.heap.size A (Rt.cvR l) ∧ Rt.OkR l := by
  obtain ⟨a0, len0, cap0, rfl⟩ := okWide_slice Try.underlying23 hv
  obtain ⟨fuel, hf⟩ := h
  rcases Deep.open_slice_pairs Try.underlying23 Try.underlying50 (by kernel_rfl) rfl rfl (by kernel_rfl) (by kernel_rfl) hf with ⟨hcs, _⟩ | ⟨x, l, c, m, n, V0, V1, D0, D1, P0, P1, hcs, _, hl, hm, hmm, hx, hel⟩
  · simp [Value.cells] at hcs
    obtain ⟨rfl, rfl, rfl⟩ := hcs
    exact ⟨none, 0, [], rfl, .inl rfl, fun c hc => by cases hc⟩
  · simp [Value.cells] at hcs
    obtain ⟨rfl, rfl, rfl⟩ := hcs
    have hmc : m = cap0 := by simpa using hmm
    have hd : d = .slice ((List.range len0).map fun i => .agg [D0 i, D1 i]) ((List.range (m - len0)).map fun j => .agg [D0 (len0 + j), D1 (len0 + j)]) := by injection hx
    have hall : ∀ i, ∃ f : Rt.R, i < len0 → (W.cell? (x.add (i * 2)) = some (.string (str f.1)) ∧ W.cell? (x.add (i * 2 + 1)) = some (.string (str f.2))) ∧ f.1.length ≤ 140737488355328 ∧ f.2.length ≤ 140737488355328 := fun i => by
      by_cases hi : i < len0
      · obtain ⟨c0, c1, t0, t1⟩ := hel i (by omega)
        obtain ⟨s0, e0, hD, _⟩ := DataW.trod_string Try.underlying9 t0
        obtain ⟨s1, e1, hE, _⟩ := DataW.trod_string Try.underlying9 t1
        injection e0 with e0 _
        injection e1 with e1 _
        have hD0 : D0 i = .lit (.string s0.data.toList) := by injection hD
        have hD1 : D1 i = .lit (.string s1.data.toList) := by injection hE
        have hmem : ∀ n ∈ DataW.weights Try.prog 50 (.agg [D0 i, D1 i]), n ≤ reachBytes := fun n hn => hw n (by
          rw [hd]
          simp only [DataW.weights, Try.underlying23, List.mem_cons, List.mem_append]
          exact .inr (.inl (weights_all (d := .agg [D0 i, D1 i]) (List.mem_map.2 ⟨i, List.mem_range.2 hi, rfl⟩) hn)))
        refine ⟨(s0.data.toList, s1.data.toList), fun _ => ⟨?_, str_le (P := Try.prog) (t := 9) hD0 (fun n hn => hmem n ?_), str_le (P := Try.prog) (t := 9) hD1 (fun n hn => hmem n ?_)⟩⟩
        · rw [c0, c1, e0, e1, ← str_of2, ← str_of2]
          exact ⟨rfl, rfl⟩
        · simp only [DataW.weights, Try.underlying50]
          exact DataW.weights_mem_each (j := 0) (t := 9) (d := D0 i) rfl rfl n hn
        · simp only [DataW.weights, Try.underlying50]
          exact DataW.weights_mem_each (j := 1) (t := 9) (d := D1 i) rfl rfl n hn
      · exact ⟨([], []), fun h => absurd h hi⟩
    obtain ⟨F, hF⟩ := Classical.skolem.1 hall
    refine ⟨some x, cap0, (List.range len0).map F, by simp, Rt.prs_of (fun i p hi => ?_), fun c hc => ?_⟩
    · have hi' : i < len0 := by
        have := (List.getElem?_eq_some_iff.1 hi).1
        simpa [Rt.cvR] using this
      have : p = (.string (str (F i).1), .string (str (F i).2)) := by
        have h2 : (Rt.cvR ((List.range len0).map F))[i]? = some (.string (str (F i).1), .string (str (F i).2)) := by simp [Rt.cvR, hi']
        rw [h2] at hi
        injection hi with hi
        exact hi.symm
      subst this
      exact (hF i hi').1
    · obtain ⟨i, hi, rfl⟩ := List.mem_map.1 hc
      exact (hF i (List.mem_range.1 hi)).2
end
end Go.Proofs.Ytokaifnpmhkkpaa
