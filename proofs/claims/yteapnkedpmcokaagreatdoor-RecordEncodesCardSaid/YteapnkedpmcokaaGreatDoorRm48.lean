/- EnOpen. Conditions: as stated at each. -/
import Derived.Test.YteapnkedpmcokaaGreatDoorRm03
import Derived.Test.YteapnkedpmcokaaGreatDoorRm22
import Derived.SizedLaws
import Derived.HandedShaped
import Derived.Deep.Slices
import Derived.ChangeArms
import Derived.MakeChecks
import Derived.Stop.LaidErr
/- A message as a parameter; the tables out of what is laid. Conditions: none. -/
namespace Go.Proofs.YteapnkedpmcokaaGreatDoor
set_option maxRecDepth 100000
open Go.ChangeShapes Go.WideShapes Go.ChangeAt Go.RowKit Go
section
variable {H : Type} {enc : TypeId × Value → H}
theorem wrap_sized {a : Assume} {C : Checked} {os : Os} {f : FuncId} {fn : Func} {s : ChangeSpec} {conds : List PathCond} {apart fresh handsOn again : Bool} {X : World → Array Value → Prop}
    (hX : ∀ (w w' : World) (args : Array Value), w.heap = w'.heap → X w args → X w' args)
    (own : ownKnob C.prog.godebug = none) (started : os.Started) (noInit : C.prog.inits.idxOf? f = none) (hfn : C.prog.funcs[f]? = some fn)
    (witness : ∃ (w : World) (tape : Tape) (i : Input), w.os = os ∧ (w.forCall tape i).Shaped C.prog ∧ i.vars = [] ∧ Input.okWide C.prog (w.forCall tape i) .any w.heap.size f i ∧
      ((s.pre enc C.prog fn conds apart (w.forCall tape i).memory i.args ∧ X (w.forCall tape i).memory i.args) ∧ sizedMet enc C.prog fn (OpenSpec.ofChange s) apart (w.forCall tape i).memory i.args) ∧ a.holds C.prog (lone (Frame.enter C.prog f i.args .normal) [] (w.forCall tape i)))
    (contract : ∀ (W : World) (base : Nat) (args : Array Value) (ds gs : List (DataW H)) (before : List MemPlace),
      (∀ (j : Nat) t v, fn.params[j]? = some t → args[j]? = some v → Value.okWide C.prog W .any base t v) →
      DataW.Whole enc C.prog fn.params.toList s.vars apart W args.toList ds gs before → X W args → W.ShapedOpen C.prog →
      (∀ (j : Nat) t d, fn.params.toList[j]? = some t → ds[j]? = some d → ∀ n ∈ d.weights C.prog t, n ≤ reachBytes) →
      Calls C.prog f args W fun e W' => ∃ v, e = .returned v ∧ s.post enc C.prog fn apart fresh handsOn again W args v W') :
    ReturnsInHanded a C os f .any (fun w args => (s.pre enc C.prog fn conds apart w args ∧ X w args) ∧ sizedMet enc C.prog fn (OpenSpec.ofChange s) apart w args) (s.post enc C.prog fn apart fresh handsOn again) := by
  refine returnsInHanded_of_calls own started noInit witness ?_
  intro w tape i _ hsh _ hok hpre _
  obtain ⟨_, _, _, g, hg, _, _, _, _, hval⟩ := hok
  obtain rfl : g = fn := Option.some.inj (hg.symm.trans hfn)
  obtain ⟨⟨⟨ds, gs, before, hw, _⟩, hx⟩, hz⟩ := hpre
  have hsz := hz.weights hw
  have hlen : ∀ (j : Nat) t d, g.params.toList[j]? = some t → ds[j]? = some d → ∀ n ∈ d.weights C.prog t, n ≤ reachBytes := fun j t d h1 h2 n hn => by
    have hj1 : j < g.params.toList.length := (List.getElem?_eq_some_iff.1 h1).1
    have hj2 : j < ds.length := (List.getElem?_eq_some_iff.1 h2).1
    have h1' : (g.params.toList ++ (OpenSpec.ofChange s).bare.plain.varTypes C.prog)[j]? = some t := by rw [List.getElem?_append_left hj1]; exact h1
    have h2' : (ds ++ gs)[j]? = some d := by rw [List.getElem?_append_left hj2]; exact h2
    have := List.all_eq_true.1 hsz _ (DataW.weights_mem_each h1' h2' n hn)
    simpa using this
  refine (contract (w.forCall tape i) w.heap.size i.args ds gs before hval (DataW.Whole.of_heap (w' := w.forCall tape i) (by rfl) hw) (hX _ _ _ (by rfl) hx) hsh hlen).mono fun e W' h => ?_
  obtain ⟨v, rfl, hp⟩ := h
  exact ChangeSpec.post_blind hp
set_option maxRecDepth 100000 in
theorem open_bn {W : World} {v : Value} {d : DataW H} {p : List MemPlace} (hv : Value.okWide Tryz.prog W .any 0 25 v) (h : DataW.Trod enc Tryz.prog W 0 (fun _ => true) true 25 v d p) :
    ∃ A c l, v = .slice A l.length c ∧ Bts W W.heap.size A l ∧ l.length ≤ c ∧ c ≤ maxLen ∧ (A = none → c = 0) := by
  obtain ⟨a0, len0, cap0, rfl⟩ := okWide_slice Tryz.underlying25 hv
  obtain ⟨fuel, hf⟩ := h
  rcases open_ints Tryz.underlying25 Tryz.underlying5 (by kernel_rfl) hf with ⟨hcs, _⟩ | ⟨x, l, c, zs, hcs, _, hl, hm, hz, _, hcell, hwz⟩
  · simp [Value.cells] at hcs
    obtain ⟨rfl, rfl, rfl⟩ := hcs
    exact ⟨none, 0, [], rfl, Cs.nil, by simp, by unfold maxLen; omega, fun _ => rfl⟩
  · simp [Value.cells] at hcs
    obtain ⟨rfl, rfl, rfl⟩ := hcs
    have hz' : zs.length = cap0 := by simpa using hz
    obtain ⟨l, rfl, hb⟩ := bytes_of (len := len0) (by omega) (fun i hi => hcell i (by omega)) hwz
    exact ⟨_, _, l, rfl, hb, hl, hm, fun e => by cases e⟩
theorem wf_64 {n : Int} (h : (Lit.int .i64 n).wf = true) : -9223372036854775808 ≤ n ∧ n < 9223372036854775808 := by
  have h1 : (decide (IntKind.i64.min ≤ n) && decide (n ≤ IntKind.i64.max)) = true := h
  rw [Bool.and_eq_true, decide_eq_true_eq, decide_eq_true_eq] at h1
  have h2 : IntKind.i64.min = -9223372036854775808 := by decide
  have h3 : IntKind.i64.max = 9223372036854775807 := by decide
  omega
theorem str_of (s : ByteArray) : s = str s.data.toList := by simp [str]
theorem weights_all {P : Program} {e : TypeId} : ∀ {l : List (DataW H)} {d : DataW H} {n : Nat}, d ∈ l → n ∈ d.weights P e → n ∈ DataW.weightsAll P e l
  | x :: l, d, n, hd, hn => by
    simp only [DataW.weightsAll, List.mem_append]
    rcases List.mem_cons.1 hd with rfl | hd
    · exact .inl hn
    · exact .inr (weights_all hd hn)
theorem cells9 : Tryz.prog.cellsOf 9 = 1 := by kernel_rfl
set_option maxRecDepth 100000 in
theorem txs_trod {W : World} {m : Nat} {cs : List Value} {x : DataW H × List MemPlace} (h : DataW.trod enc Tryz.prog W 0 (fun _ => true) true m 22 cs = some x) (hw : ∀ n ∈ x.1.weights Tryz.prog 22, n ≤ reachBytes) :
    ∃ A c ps, cs = [.slice A (List.length (α := List UInt8) ps) c] ∧ En.Tx W W.heap.size A ps ∧ ps.length ≤ c ∧ c ≤ maxLen ∧ ∀ p ∈ ps, p.length ≤ 140737488355328 := by
  rcases Deep.open_slice Tryz.underlying22 h with ⟨hcs, _⟩ | ⟨a, len, c, m, n, D, Pl, hcs, _, hl, hm, hmm, hx, hel⟩
  · exact ⟨none, 0, [], hcs, Cs.nil, Nat.le_refl _, Nat.zero_le _, fun p hp => by cases hp⟩
  · have hmc : m = c := by simpa using hmm
    have hall : ∀ i, ∃ p : List UInt8, i < len → W.cell? (a.add i) = some (.string (str p)) ∧ p.length ≤ 140737488355328 := fun i => by
      by_cases hi : i < len
      · obtain ⟨cs', h1, h2⟩ := hel i (by omega)
        rw [cells9, Nat.mul_one] at h1
        obtain ⟨_, hlen, hcell⟩ := World.cells?_some h1
        obtain ⟨s, rfl, hD, _⟩ := DataW.trod_string Tryz.underlying9 h2
        refine ⟨s.data.toList, fun _ => ⟨?_, ?_⟩⟩
        · rw [← str_of]
          have := hcell 0 (by omega)
          rw [add_0] at this
          simpa using this
        · have hDi : D i = .lit (.string s.data.toList) := by injection hD
          have hmem : s.data.toList.length ∈ x.1.weights Tryz.prog 22 := by
            rw [hx]
            simp only [DataW.weights, Tryz.underlying22, List.mem_cons, List.mem_append]
            refine .inr (.inl (weights_all (d := D i) (List.mem_map.2 ⟨i, List.mem_range.2 hi, rfl⟩) ?_))
            rw [hDi]
            simp [DataW.weights]
          have := hw _ hmem
          have hr := reachBytes_lt
          omega
      · exact ⟨[], fun h => absurd h hi⟩
    obtain ⟨F, hF⟩ := Classical.skolem.1 hall
    refine ⟨some a, c, (List.range len).map F, by rw [hcs]; simp, fun j u hj => ?_, by simpa using hl, hm, fun p hp => ?_⟩
    · have hj' : j < len := by
        have := (List.getElem?_eq_some_iff.1 hj).1
        simpa [Pa.tv] using this
      have hu : u = .string (str (F j)) := by
        have : (Pa.tv ((List.range len).map F))[j]? = some (.string (str (F j))) := by simp [Pa.tv, hj']
        rw [this] at hj
        injection hj with hj
        exact hj.symm
      subst hu
      refine ⟨a, rfl, ?_, (hF j hj').1⟩
      have := World.block_lt_of_cell? W _ (hF j hj').1
      rwa [blk_add] at this
    · obtain ⟨i, hi, rfl⟩ := List.mem_map.1 hp
      exact (hF i (List.mem_range.1 hi)).2
set_option maxRecDepth 100000 in
/-- a message's envelope. -/
theorem env_trod {W : World} {m : Nat} {cs : List Value} {x : DataW H × List MemPlace} (hf : DataW.trod enc Tryz.prog W 0 (fun _ => true) true m 24 cs = some x) (hw : ∀ n ∈ x.1.weights Tryz.prog 24, n ≤ reachBytes) :
    ∃ fr ps v A c, cs = [.string (str fr), .slice A (List.length (α := List UInt8) ps) c, .int .i64 v] ∧ En.Tx W W.heap.size A ps ∧ ps.length ≤ c ∧ c ≤ maxLen ∧ (∀ p ∈ ps, p.length ≤ 140737488355328) ∧ fr.length ≤ 140737488355328 ∧ -9223372036854775808 ≤ v ∧ v < 9223372036854775808 := by
  obtain ⟨xs, m', _, hx, hcl, hxl, hall⟩ := DataW.trod_struct Tryz.underlying24 hf
  have hc28 : Tryz.prog.cellsOf 24 = 3 := by kernel_rfl
  have hc26 : Tryz.prog.cellsOf 22 = 1 := by kernel_rfl
  have hc2 : Tryz.prog.cellsOf 2 = 1 := by kernel_rfl
  rw [hc28] at hcl
  have hxl' : xs.length = 3 := hxl.trans (by kernel_rfl)
  have at_ : ∀ i, i < 3 → ∃ x, xs[i]? = some x := fun i hi => ⟨xs[i]'(by omega), List.getElem?_eq_getElem (by omega)⟩
  obtain ⟨x0, e0⟩ := at_ 0 (by omega)
  obtain ⟨x1, e1⟩ := at_ 1 (by omega)
  obtain ⟨x2, e2⟩ := at_ 2 (by omega)
  have f0 := hall 0 ⟨"From", 9, 0, false, "", "", 0⟩ rfl
  have f1 := hall 1 ⟨"To", 22, 1, false, "", "", 16⟩ rfl
  have f2 := hall 2 ⟨"At", 2, 2, false, "", "", 40⟩ rfl
  rw [e0] at f0
  rw [e1] at f1
  rw [e2] at f2
  dsimp only at f0 f1 f2
  rw [cells9] at f0
  rw [hc26] at f1
  rw [hc2] at f2
  have hd : x.1 = .agg (xs.map (·.1)) := by rw [hx]
  have hws : ∀ (i : Nat) (t : TypeId) (y : DataW H × List MemPlace), [9, 22, 2][i]? = some t → xs[i]? = some y → ∀ n ∈ y.1.weights Tryz.prog t, n ≤ reachBytes := fun i t y ht hy n hn => by
    refine hw n ?_
    rw [hd]
    simp only [DataW.weights, Tryz.underlying24]
    exact DataW.weights_mem_each (j := i) (t := t) (d := y.1) ht (by rw [List.getElem?_map, hy]; rfl) n hn
  obtain ⟨s0, c0, hs0, _⟩ := DataW.trod_string Tryz.underlying9 f0
  obtain ⟨A1, k1, ps, c1, htx, hl1, hm1, hps⟩ := txs_trod f1 (hws 1 _ _ rfl e1)
  obtain ⟨z2, c2, _, hwz⟩ := DataW.trod_int Tryz.underlying2 f2
  have hz := wf_64 hwz
  have hsz : s0.data.toList.length ≤ 140737488355328 := by
    have h1 : x0.1 = .lit (.string s0.data.toList) := by rw [hs0]
    have := hws 0 _ _ rfl e0 s0.data.toList.length (by rw [h1]; simp [DataW.weights])
    have hr := reachBytes_lt
    omega
  refine ⟨s0.data.toList, ps, z2, A1, k1, ?_, htx, hl1, hm1, hps, hsz, hz.1, hz.2⟩
  have hcs : cs = (cs.drop 0).take 1 ++ ((cs.drop 1).take 1 ++ (cs.drop 2).take 1) := by
    match cs, hcl with
    | [a, b, c], _ => rfl
  rw [hcs, c0, c1, c2, ← str_of]
  rfl
set_option maxRecDepth 100000 in
/-- a parameter that is a message. -/
theorem open_msg {W : World} {v : Value} {d : DataW H} {p : List MemPlace} (hv : Value.okWide Tryz.prog W .any 0 27 v) (h : DataW.Trod enc Tryz.prog W 0 (fun _ => true) true 27 v d p) (hw : ∀ n ∈ d.weights Tryz.prog 27, n ≤ reachBytes) :
    ∃ m : En.M, En.MsgAt W W.heap.size v m ∧ En.InM m := by
  obtain ⟨cs, rfl⟩ : ∃ cs, v = .agg cs := by
    simp only [Value.okWide, Tryz.underlying27] at hv
    obtain ⟨cs, h1, _⟩ := hv
    exact ⟨cs, h1⟩
  obtain ⟨fuel, hf⟩ := h
  obtain ⟨xs, m', _, hx, hcl, hxl, hall⟩ := DataW.trod_struct Tryz.underlying27 hf
  have hc32 : Tryz.prog.cellsOf 27 = 6 := by kernel_rfl
  have hc30 : Tryz.prog.cellsOf 24 = 3 := by kernel_rfl
  have hc22 : Tryz.prog.cellsOf 25 = 1 := by kernel_rfl
  have hc2 : Tryz.prog.cellsOf 2 = 1 := by kernel_rfl
  rw [hc32] at hcl
  have hxl' : xs.length = 4 := hxl.trans (by kernel_rfl)
  have at_ : ∀ i, i < 4 → ∃ x, xs[i]? = some x := fun i hi => ⟨xs[i]'(by omega), List.getElem?_eq_getElem (by omega)⟩
  obtain ⟨x0, e0⟩ := at_ 0 (by omega)
  obtain ⟨x1, e1⟩ := at_ 1 (by omega)
  obtain ⟨x2, e2⟩ := at_ 2 (by omega)
  obtain ⟨x3, e3⟩ := at_ 3 (by omega)
  have f0 := hall 0 ⟨"ID", 2, 0, false, "", "", 0⟩ rfl
  have f1 := hall 1 ⟨"Class", 9, 1, false, "", "", 8⟩ rfl
  have f2 := hall 2 ⟨"Env", 24, 2, false, "", "", 24⟩ rfl
  have f3 := hall 3 ⟨"Body", 25, 5, false, "", "", 72⟩ rfl
  rw [e0] at f0
  rw [e1] at f1
  rw [e2] at f2
  rw [e3] at f3
  dsimp only at f0 f1 f2 f3
  rw [hc2] at f0
  rw [cells9] at f1
  rw [hc30] at f2
  rw [hc22] at f3
  have hd : d = .agg (xs.map (·.1)) := by injection hx
  have hws : ∀ (i : Nat) (t : TypeId) (y : DataW H × List MemPlace), [2, 9, 24, 25][i]? = some t → xs[i]? = some y → ∀ n ∈ y.1.weights Tryz.prog t, n ≤ reachBytes := fun i t y ht hy n hn => by
    refine hw n ?_
    rw [hd]
    simp only [DataW.weights, Tryz.underlying27]
    exact DataW.weights_mem_each (j := i) (t := t) (d := y.1) ht (by rw [List.getElem?_map, hy]; rfl) n hn
  obtain ⟨z0, c0, _, hwz⟩ := DataW.trod_int Tryz.underlying2 f0
  have hz := wf_64 hwz
  obtain ⟨s1, c1, hs1, _⟩ := DataW.trod_string Tryz.underlying9 f1
  have hsz : s1.data.toList.length ≤ 140737488355328 := by
    have h1 : x1.1 = .lit (.string s1.data.toList) := by rw [hs1]
    have := hws 1 _ _ rfl e1 s1.data.toList.length (by rw [h1]; simp [DataW.weights])
    have hr := reachBytes_lt
    omega
  obtain ⟨fr, ps, t, A2, k2, c2, htx, hl2, hm2, hps, hfl, ht0, ht1⟩ := env_trod f2 (hws 2 _ _ rfl e2)
  have h3 : ∃ A c l, ((Value.agg cs).cells.toList.drop 5).take 1 = [Value.slice A (List.length (α := UInt8) l) c] ∧ Bts W W.heap.size A l ∧ l.length ≤ c ∧ c ≤ maxLen ∧ (A = none → c = 0) := by
    rcases open_ints Tryz.underlying25 Tryz.underlying5 (by kernel_rfl) f3 with ⟨hcs, _⟩ | ⟨x, l, c, zs, hcs, _, hl, hm, hz, _, hcell, hwz⟩
    · exact ⟨none, 0, [], hcs, Cs.nil, by simp, by unfold maxLen; omega, fun _ => rfl⟩
    · have hz' : zs.length = c := by simpa using hz
      obtain ⟨ll, rfl, hb⟩ := bytes_of (len := l) (by omega) (fun i hi => hcell i (by omega)) hwz
      exact ⟨_, _, ll, hcs, hb, hl, hm, fun e => by cases e⟩
  obtain ⟨A3, k3, body, c3, hb3, hl3, hm3, hA3⟩ := h3
  refine ⟨⟨z0, s1.data.toList, fr, ps, t, body⟩, ⟨A2, k2, A3, k3, ?_, htx, hl2, hm2, hb3, hl3, hm3, trivial⟩, ⟨hsz, hfl, fun k => ?_, ht0, ht1, hz.1, hz.2⟩⟩
  · congr 1
    apply Array.toList_inj.1
    have hcs : cs.toList = (cs.toList.drop 0).take 1 ++ ((cs.toList.drop 1).take 1 ++ ((cs.toList.drop 2).take 3 ++ (cs.toList.drop 5).take 1)) := by
      have h1 : cs.toList.length = 6 := by simpa [Value.cells] using hcl
      match hq : cs.toList, h1 with
      | [a, b, c, d, e, f], _ => rfl
    rw [hcs]
    have c0' : (cs.toList.drop 0).take 1 = [.int .i64 z0] := by simpa [Value.cells] using c0
    have c1' : (cs.toList.drop 1).take 1 = [.string s1] := by simpa [Value.cells] using c1
    have c2' : (cs.toList.drop 2).take 3 = [.string (str fr), .slice A2 ps.length k2, .int .i64 t] := by simpa [Value.cells] using c2
    have c3' : (cs.toList.drop 5).take 1 = [.slice A3 body.length k3] := by simpa [Value.cells] using c3
    rw [c0', c1', c2', c3', ← str_of]
    rfl
  · rcases Nat.lt_or_ge k ps.length with h | h
    · exact hps _ (by simp [List.getD, h])
    · simp [List.getD, List.getElem?_eq_none h]
end
end Go.Proofs.YteapnkedpmcokaaGreatDoor
