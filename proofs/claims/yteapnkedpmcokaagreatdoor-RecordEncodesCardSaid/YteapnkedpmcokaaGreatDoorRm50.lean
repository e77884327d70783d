/- RcOpen. Conditions: as stated at each. -/
import Derived.Test.YteapnkedpmcokaaGreatDoorRm47
import Derived.Test.YteapnkedpmcokaaGreatDoorRm48
import Derived.Test.YteapnkedpmcokaaGreatDoorRm49
import Derived.Test.YteapnkedpmcokaaGreatDoorRows
import Derived.MakeChecks
/- A record as a parameter. Conditions: none. -/
namespace Go.Proofs.YteapnkedpmcokaaGreatDoor
set_option maxRecDepth 100000
open Go.ChangeShapes Go.WideShapes Go.ChangeAt Go.RowKit
section
variable {H : Type} {enc : TypeId × Value → H}
set_option maxRecDepth 100000 in
theorem msg_trod {W : World} {m : Nat} {cs : List Value} {x : DataW H × List MemPlace} (hf : DataW.trod enc Tryz.prog W 0 (fun _ => true) true m 27 cs = some x) (hw : ∀ n ∈ x.1.weights Tryz.prog 27, n ≤ reachBytes) :
    ∃ (mm : En.M) (v1 v2 : Value), cs = Rc.mc mm v1 v2 ∧ En.MsgAt W W.heap.size (.agg (Rc.mc mm v1 v2).toArray) mm ∧ En.InM mm := by
  obtain ⟨xs, m', _, hx, hcl, hxl, hall⟩ := DataW.trod_struct Tryz.underlying27 hf
  have hc32 : Tryz.prog.cellsOf 27 = 6 := by kernel_rfl
  have hc30 : Tryz.prog.cellsOf 24 = 3 := by kernel_rfl
  have hc22 : Tryz.prog.cellsOf 25 = 1 := by kernel_rfl
  have hc2 : Tryz.prog.cellsOf 2 = 1 := by kernel_rfl
  rw [hc32] at hcl
  have hxl' : xs.length = 4 := hxl.trans (by kernel_rfl)
  have at_ : ∀ i, i < 4 → ∃ x, xs[i]? = some x := fun i hi => ⟨xs[i]'(by omega), List.getElem?_eq_getElem (by omega)⟩
  obtain ⟨x0, e0⟩ := at_ 0 (by omega)
  obtain ⟨x1, e1⟩ := at_ 1 (by omega)
  obtain ⟨x2, e2⟩ := at_ 2 (by omega)
  obtain ⟨x3, e3⟩ := at_ 3 (by omega)
  have f0 := hall 0 ⟨"ID", 2, 0, false, "", "", 0⟩ rfl
  have f1 := hall 1 ⟨"Class", 9, 1, false, "", "", 8⟩ rfl
  have f2 := hall 2 ⟨"Env", 24, 2, false, "", "", 24⟩ rfl
  have f3 := hall 3 ⟨"Body", 25, 5, false, "", "", 72⟩ rfl
  rw [e0] at f0
  rw [e1] at f1
  rw [e2] at f2
  rw [e3] at f3
  dsimp only at f0 f1 f2 f3
  rw [hc2] at f0
  rw [cells9] at f1
  rw [hc30] at f2
  rw [hc22] at f3
  have hd : x.1 = .agg (xs.map (·.1)) := by rw [hx]
  have hws : ∀ (i : Nat) (t : TypeId) (y : DataW H × List MemPlace), [2, 9, 24, 25][i]? = some t → xs[i]? = some y → ∀ n ∈ y.1.weights Tryz.prog t, n ≤ reachBytes := fun i t y ht hy n hn => by
    refine hw n ?_
    rw [hd]
    simp only [DataW.weights, Tryz.underlying27]
    exact DataW.weights_mem_each (j := i) (t := t) (d := y.1) ht (by rw [List.getElem?_map, hy]; rfl) n hn
  obtain ⟨z0, c0, _, hwz⟩ := DataW.trod_int Tryz.underlying2 f0
  have hz := wf_64 hwz
  obtain ⟨s1, c1, hs1, _⟩ := DataW.trod_string Tryz.underlying9 f1
  have hsz : s1.data.toList.length ≤ 140737488355328 := by
    have h1 : x1.1 = .lit (.string s1.data.toList) := by rw [hs1]
    have := hws 1 _ _ rfl e1 s1.data.toList.length (by rw [h1]; simp [DataW.weights])
    have hr := reachBytes_lt
    omega
  obtain ⟨fr, ps, t, A2, k2, c2, htx, hl2, hm2, hps, hfl, ht0, ht1⟩ := env_trod f2 (hws 2 _ _ rfl e2)
  have h3 : ∃ A c l, (cs.drop 5).take 1 = [Value.slice A (List.length (α := UInt8) l) c] ∧ Bts W W.heap.size A l ∧ l.length ≤ c ∧ c ≤ maxLen ∧ (A = none → c = 0) := by
    rcases open_ints Tryz.underlying25 Tryz.underlying5 (by kernel_rfl) f3 with ⟨hcs, _⟩ | ⟨x, l, c, zs, hcs, _, hl, hm, hz, _, hcell, hwz⟩
    · exact ⟨none, 0, [], hcs, Cs.nil, by simp, by unfold maxLen; omega, fun _ => rfl⟩
    · have hz' : zs.length = c := by simpa using hz
      obtain ⟨ll, rfl, hb⟩ := bytes_of (len := l) (by omega) (fun i hi => hcell i (by omega)) hwz
      exact ⟨_, _, ll, hcs, hb, hl, hm, fun e => by cases e⟩
  obtain ⟨A3, k3, body, c3, hb3, hl3, hm3, hA3⟩ := h3
  refine ⟨⟨z0, s1.data.toList, fr, ps, t, body⟩, .slice A2 ps.length k2, .slice A3 body.length k3, ?_, ⟨A2, k2, A3, k3, rfl, htx, hl2, hm2, hb3, hl3, hm3, trivial⟩, ⟨hsz, hfl, fun k => ?_, ht0, ht1, hz.1, hz.2⟩⟩
  · have hcs : cs = (cs.drop 0).take 1 ++ ((cs.drop 1).take 1 ++ ((cs.drop 2).take 3 ++ (cs.drop 5).take 1)) := by
      match cs, hcl with
      | [a, b, c, d, e, f], _ => rfl
    rw [hcs, c0, c1, c2, c3]
    rw [str_of s1]
    simp [Rc.mc, str]
  · rcases Nat.lt_or_ge k ps.length with h | h
    · exact hps _ (by simp [List.getD, h])
    · simp [List.getD, List.getElem?_eq_none h]
theorem str_le9 {d : DataW H} {s : ByteArray} (hd : d = .lit (.string s.data.toList)) (hw : ∀ n ∈ d.weights Tryz.prog 9, n ≤ reachBytes) : s.data.toList.length ≤ 140737488355328 := by
  have h1 := hw s.data.toList.length (by rw [hd]; simp [DataW.weights])
  have hr := reachBytes_lt
  omega
theorem hold_trod {W : World} {m : Nat} {cs : List Value} {x : DataW H × List MemPlace} (hf : DataW.trod enc Tryz.prog W 0 (fun _ => true) true m 34 cs = some x) (hw : ∀ n ∈ x.1.weights Tryz.prog 34, n ≤ reachBytes) :
    ∃ a c : List UInt8, cs = Rc.hc a c ∧ a.length ≤ 140737488355328 ∧ c.length ≤ 140737488355328 := by
  obtain ⟨xs, m', _, hx, hcl, hxl, hall⟩ := DataW.trod_struct Tryz.underlying34 hf
  have hc28 : Tryz.prog.cellsOf 34 = 2 := by kernel_rfl
  rw [hc28] at hcl
  have hxl' : xs.length = 2 := hxl.trans (by kernel_rfl)
  have at_ : ∀ i, i < 2 → ∃ x, xs[i]? = some x := fun i hi => ⟨xs[i]'(by omega), List.getElem?_eq_getElem (by omega)⟩
  obtain ⟨x0, e0⟩ := at_ 0 (by omega)
  obtain ⟨x1, e1⟩ := at_ 1 (by omega)
  have f0 := hall 0 ⟨"Name", 9, 0, false, "", "", 0⟩ rfl
  have f1 := hall 1 ⟨"Who", 9, 1, false, "", "", 16⟩ rfl
  rw [e0] at f0
  rw [e1] at f1
  dsimp only at f0 f1
  rw [cells9] at f0 f1
  have hd : x.1 = .agg (xs.map (·.1)) := by rw [hx]
  have hws : ∀ (i : Nat) (t : TypeId) (y : DataW H × List MemPlace), [9, 9][i]? = some t → xs[i]? = some y → ∀ n ∈ y.1.weights Tryz.prog t, n ≤ reachBytes := fun i t y ht hy n hn => by
    refine hw n ?_
    rw [hd]
    simp only [DataW.weights, Tryz.underlying34]
    exact DataW.weights_mem_each (j := i) (t := t) (d := y.1) ht (by rw [List.getElem?_map, hy]; rfl) n hn
  obtain ⟨s0, c0, hs0, _⟩ := DataW.trod_string Tryz.underlying9 f0
  obtain ⟨s1, c1, hs1, _⟩ := DataW.trod_string Tryz.underlying9 f1
  refine ⟨s0.data.toList, s1.data.toList, ?_, str_le9 (by rw [hs0]) (hws 0 _ _ rfl e0), str_le9 (by rw [hs1]) (hws 1 _ _ rfl e1)⟩
  have hcs : cs = (cs.drop 0).take 1 ++ (cs.drop 1).take 1 := by
    match cs, hcl with
    | [a, b], _ => rfl
  rw [hcs, c0, c1]
  unfold Rc.hc
  rw [← str_of, ← str_of]
  rfl
theorem purged_trod {W : World} {m : Nat} {cs : List Value} {x : DataW H × List MemPlace} (hf : DataW.trod enc Tryz.prog W 0 (fun _ => true) true m 30 cs = some x) :
    ∃ (i t : Int) (lf : List UInt8), cs = Rc.pc i t lf ∧ lf.length = 32 ∧ -9223372036854775808 ≤ i ∧ i < 9223372036854775808 ∧ -9223372036854775808 ≤ t ∧ t < 9223372036854775808 := by
  obtain ⟨xs, m', _, hx, hcl, hxl, hall⟩ := DataW.trod_struct Tryz.underlying30 hf
  have hc34 : Tryz.prog.cellsOf 30 = 34 := by kernel_rfl
  have hc26 : Tryz.prog.cellsOf 28 = 32 := by kernel_rfl
  have hc2 : Tryz.prog.cellsOf 2 = 1 := by kernel_rfl
  rw [hc34] at hcl
  have hxl' : xs.length = 3 := hxl.trans (by kernel_rfl)
  have at_ : ∀ i, i < 3 → ∃ x, xs[i]? = some x := fun i hi => ⟨xs[i]'(by omega), List.getElem?_eq_getElem (by omega)⟩
  obtain ⟨x0, e0⟩ := at_ 0 (by omega)
  obtain ⟨x1, e1⟩ := at_ 1 (by omega)
  obtain ⟨x2, e2⟩ := at_ 2 (by omega)
  have f0 := hall 0 ⟨"ID", 2, 0, false, "", "", 0⟩ rfl
  have f1 := hall 1 ⟨"Leaf", 28, 1, false, "", "", 8⟩ rfl
  have f2 := hall 2 ⟨"At", 2, 33, false, "", "", 40⟩ rfl
  rw [e0] at f0
  rw [e1] at f1
  rw [e2] at f2
  dsimp only at f0 f1 f2
  rw [hc2] at f0 f2
  rw [hc26] at f1
  obtain ⟨z0, c0, _, w0⟩ := DataW.trod_int Tryz.underlying2 f0
  obtain ⟨lf, k1, c1⟩ := sum_trod f1
  obtain ⟨z2, c2, _, w2⟩ := DataW.trod_int Tryz.underlying2 f2
  have h0 := wf_64 w0
  have h2 := wf_64 w2
  refine ⟨z0, z2, lf, ?_, k1, h0.1, h0.2, h2.1, h2.2⟩
  have hcs : cs = (cs.drop 0).take 1 ++ ((cs.drop 1).take 32 ++ (cs.drop 33).take 1) := by
    have h1 : (cs.drop 33).take 1 = cs.drop 33 := List.take_of_length_le (by rw [List.length_drop, hcl]; omega)
    rw [h1, show cs.drop 33 = (cs.drop 1).drop 32 by rw [List.drop_drop], List.take_append_drop, List.drop_zero, List.take_append_drop]
  rw [hcs, c0, c1, c2]
  rfl
set_option maxRecDepth 100000 in
/-- a parameter that is a record. -/
theorem open_rec {W : World} {v : Value} {d : DataW H} {p : List MemPlace} (hv : Value.okWide Tryz.prog W .any 0 36 v) (h : DataW.Trod enc Tryz.prog W 0 (fun _ => true) true 36 v d p) (hw : ∀ n ∈ d.weights Tryz.prog 36, n ≤ reachBytes) :
    ∃ (X : List Value) (r : Rc.R), v = .agg X.toArray ∧ Rc.RecAt W W.heap.size X r ∧ Rc.InR r := by
  obtain ⟨cs, rfl⟩ : ∃ cs, v = .agg cs := by
    simp only [Value.okWide, Tryz.underlying36] at hv
    obtain ⟨cs, h1, _⟩ := hv
    exact ⟨cs, h1⟩
  obtain ⟨fuel, hf⟩ := h
  obtain ⟨xs, m', _, hx, hcl, hxl, hall⟩ := DataW.trod_struct Tryz.underlying36 hf
  have hcR : Tryz.prog.cellsOf 36 = 109 := by kernel_rfl
  have hcM : Tryz.prog.cellsOf 27 = 6 := by kernel_rfl
  have hcP : Tryz.prog.cellsOf 30 = 34 := by kernel_rfl
  have hcS : Tryz.prog.cellsOf 32 = 66 := by kernel_rfl
  have hcH : Tryz.prog.cellsOf 34 = 2 := by kernel_rfl
  have hcI : Tryz.prog.cellsOf 3 = 1 := by kernel_rfl
  rw [hcR] at hcl
  have hxl' : xs.length = 5 := hxl.trans (by kernel_rfl)
  have at_ : ∀ i, i < 5 → ∃ x, xs[i]? = some x := fun i hi => ⟨xs[i]'(by omega), List.getElem?_eq_getElem (by omega)⟩
  obtain ⟨x0, e0⟩ := at_ 0 (by omega)
  obtain ⟨x1, e1⟩ := at_ 1 (by omega)
  obtain ⟨x2, e2⟩ := at_ 2 (by omega)
  obtain ⟨x3, e3⟩ := at_ 3 (by omega)
  obtain ⟨x4, e4⟩ := at_ 4 (by omega)
  have f0 := hall 0 ⟨"Kind", 3, 0, false, "", "", 0⟩ rfl
  have f1 := hall 1 ⟨"Msg", 27, 1, false, "", "", 8⟩ rfl
  have f2 := hall 2 ⟨"Purged", 30, 7, false, "", "", 104⟩ rfl
  have f3 := hall 3 ⟨"Seal", 32, 41, false, "", "", 152⟩ rfl
  have f4 := hall 4 ⟨"Hold", 34, 107, false, "", "", 232⟩ rfl
  rw [e0] at f0
  rw [e1] at f1
  rw [e2] at f2
  rw [e3] at f3
  rw [e4] at f4
  dsimp only at f0 f1 f2 f3 f4
  rw [hcI] at f0
  rw [hcM] at f1
  rw [hcP] at f2
  rw [hcS] at f3
  rw [hcH] at f4
  have hd : d = .agg (xs.map (·.1)) := by injection hx
  have hws : ∀ (i : Nat) (t : TypeId) (y : DataW H × List MemPlace), [3, 27, 30, 32, 34][i]? = some t → xs[i]? = some y → ∀ n ∈ y.1.weights Tryz.prog t, n ≤ reachBytes := fun i t y ht hy n hn => by
    refine hw n ?_
    rw [hd]
    simp only [DataW.weights, Tryz.underlying36]
    exact DataW.weights_mem_each (j := i) (t := t) (d := y.1) ht (by rw [List.getElem?_map, hy]; rfl) n hn
  obtain ⟨z0, c0, _, _⟩ := DataW.trod_int Tryz.underlying3 f0
  obtain ⟨mm, v1, v2, c1, hM, hIM⟩ := msg_trod f1 (hws 1 _ _ rfl e1)
  obtain ⟨i, t, lf, c2, k2, i0, i1, t0, t1⟩ := purged_trod f2
  obtain ⟨s, k3, c3⟩ := seal_trod f3
  obtain ⟨a, c, c4, ha, hc⟩ := hold_trod f4 (hws 4 _ _ rfl e4)
  refine ⟨cs.toList, ⟨z0, mm, i, t, lf, s, a, c⟩, by simp, ⟨v1, v2, ?_, hM, ⟨k2, k3⟩⟩, ⟨hIM, ha, hc, i0, i1, t0, t1⟩⟩
  have hl : cs.toList.length = 109 := by simpa [Value.cells] using hcl
  have hcs : cs.toList = (cs.toList.drop 0).take 1 ++ ((cs.toList.drop 1).take 6 ++ ((cs.toList.drop 7).take 34 ++ ((cs.toList.drop 41).take 66 ++ (cs.toList.drop 107).take 2))) := by
    generalize cs.toList = q at *
    have h1 : (q.drop 107).take 2 = q.drop 107 := List.take_of_length_le (by rw [List.length_drop, hl]; omega)
    rw [h1, show q.drop 107 = (q.drop 41).drop 66 by rw [List.drop_drop], List.take_append_drop, show q.drop 41 = (q.drop 7).drop 34 by rw [List.drop_drop], List.take_append_drop, show q.drop 7 = (q.drop 1).drop 6 by rw [List.drop_drop], List.take_append_drop, List.drop_zero, List.take_append_drop]
  have c0' : (cs.toList.drop 0).take 1 = [.int .i64 z0] := by simpa [Value.cells] using c0
  have c1' : (cs.toList.drop 1).take 6 = Rc.mc mm v1 v2 := by simpa [Value.cells] using c1
  have c2' : (cs.toList.drop 7).take 34 = Rc.pc i t lf := by simpa [Value.cells] using c2
  have c3' : (cs.toList.drop 41).take 66 = sc s := by simpa [Value.cells] using c3
  have c4' : (cs.toList.drop 107).take 2 = Rc.hc a c := by simpa [Value.cells] using c4
  rw [hcs, c0', c1', c2', c3', c4']
  rfl
end
theorem glt16 {W : World} (h : laidMetH Tryz.prog [("math/bits.deBruijn32tab", Rows.laid_math_bits_deBruijn32tab), ("math/bits.deBruijn64tab", Rows.laid_math_bits_deBruijn64tab), ("internal/strconv.uint64pow10", Rows.laid_internal_strconv_uint64pow10)] W) : En.GlT W := by
  rw [Go.MakeChecks.laidMetH_plain _ _ _ (by kernel_rfl)] at h
  exact Lib.tabIs_of_head (k := .u64) (zs := Lib.pow10Tab) (g := 2) (t := 124) (e := 90) (n := 20) (by kernel_rfl) (by kernel_rfl) Tryz.underlying124 Tryz.underlying90 (by kernel_rfl) (by kernel_rfl) h.tail.tail
end Go.Proofs.YteapnkedpmcokaaGreatDoor
