/- Letters as a parameter; the tables out of what is laid. Conditions: none. -/
import Derived.Test.YtamekflgidfnfaaGreatDoorFlOpen
import Derived.Test.YtamekflgidfnfaaGreatDoorMbLts
import Derived.SizedLaws
import Derived.Deep.Slices
import Derived.MakeChecks
import Derived.Stop.LaidErr
namespace Go.Proofs.YtamekflgidfnfaaGreatDoor
set_option maxRecDepth 100000
open Go.ChangeShapes Go.WideShapes Go.ChangeAt Go.RowKit
section
variable {H : Type} {enc : TypeId × Value → H}
theorem wrap_both {a : Assume} {C : Checked} {os : Os} {f : FuncId} {fn : Func} {s : ChangeSpec} {conds : List PathCond} {apart fresh handsOn again : Bool} {X : World → Array Value → Prop}
    (hX : ∀ (w w' : World) (args : Array Value), w.heap = w'.heap → X w args → X w' args)
    (own : ownKnob C.prog.godebug = none) (started : os.Started) (noInit : C.prog.inits.idxOf? f = none) (hfn : C.prog.funcs[f]? = some fn)
    (witness : ∃ (w : World) (tape : Tape) (i : Input), w.os = os ∧ (w.forCall tape i).Shaped C.prog ∧ i.vars = [] ∧ Input.okWide C.prog (w.forCall tape i) .any w.heap.size f i ∧
      ((s.pre enc C.prog fn conds apart (w.forCall tape i).memory i.args ∧ X (w.forCall tape i).memory i.args) ∧ sizedMet enc C.prog fn (OpenSpec.ofChange s) apart (w.forCall tape i).memory i.args) ∧ a.holds C.prog (lone (Frame.enter C.prog f i.args .normal) [] (w.forCall tape i)))
    (contract : ∀ (W : World) (base : Nat) (args : Array Value) (ds gs : List (DataW H)) (before : List MemPlace),
      (∀ (j : Nat) t v, fn.params[j]? = some t → args[j]? = some v → Value.okWide C.prog W .any base t v) →
      DataW.Whole enc C.prog fn.params.toList s.vars apart W args.toList ds gs before → X W args → W.ShapedOpen C.prog →
      Calls C.prog f args W fun e W' => ∃ v, e = .returned v ∧ s.post enc C.prog fn apart fresh handsOn again W args v W') :
    ReturnsInHanded a C os f .any (fun w args => (s.pre enc C.prog fn conds apart w args ∧ X w args) ∧ sizedMet enc C.prog fn (OpenSpec.ofChange s) apart w args) (s.post enc C.prog fn apart fresh handsOn again) := by
  refine returnsInHanded_of_calls own started noInit witness ?_
  intro w tape i _ hsh _ hok hpre _
  obtain ⟨_, _, _, g, hg, _, _, _, _, hval⟩ := hok
  obtain rfl : g = fn := Option.some.inj (hg.symm.trans hfn)
  obtain ⟨⟨⟨ds, gs, before, hw, _⟩, hx⟩, _⟩ := hpre
  refine (contract (w.forCall tape i) w.heap.size i.args ds gs before hval (DataW.Whole.of_heap (w' := w.forCall tape i) (by rfl) hw) (hX _ _ _ (by rfl) hx) hsh).mono fun e W' h => ?_
  obtain ⟨v, rfl, hp⟩ := h
  exact ChangeSpec.post_blind hp
set_option maxRecDepth 100000 in
theorem open_bn {W : World} {v : Value} {d : DataW H} {p : List MemPlace} (hv : Value.okWide Tryz.prog W .any 0 22 v) (h : DataW.Trod enc Tryz.prog W 0 (fun _ => true) true 22 v d p) :
    ∃ A c l, v = .slice A l.length c ∧ Bts W W.heap.size A l ∧ l.length ≤ c ∧ c ≤ maxLen ∧ (A = none → c = 0) := by
  obtain ⟨a0, len0, cap0, rfl⟩ := okWide_slice Tryz.underlying22 hv
  obtain ⟨fuel, hf⟩ := h
  rcases open_ints Tryz.underlying22 Tryz.underlying5 (by kernel_rfl) hf with ⟨hcs, _⟩ | ⟨x, l, c, zs, hcs, _, hl, hm, hz, _, hcell, hwz⟩
  · simp [Value.cells] at hcs
    obtain ⟨rfl, rfl, rfl⟩ := hcs
    exact ⟨none, 0, [], rfl, Cs.nil, by simp, by unfold maxLen; omega, fun _ => rfl⟩
  · simp [Value.cells] at hcs
    obtain ⟨rfl, rfl, rfl⟩ := hcs
    have hz' : zs.length = cap0 := by simpa using hz
    obtain ⟨l, rfl, hb⟩ := bytes_of (len := len0) (by omega) (fun i hi => hcell i (by omega)) hwz
    exact ⟨_, _, l, rfl, hb, hl, hm, fun e => by cases e⟩
theorem str_of (s : ByteArray) : s = str s.data.toList := by simp [str]
theorem cells38 : Tryz.prog.cellsOf 43 = 3 := by kernel_rfl
theorem cells9 : Tryz.prog.cellsOf 9 = 1 := by kernel_rfl
theorem cells2 : Tryz.prog.cellsOf 2 = 1 := by kernel_rfl
theorem cells22 : Tryz.prog.cellsOf 22 = 1 := by kernel_rfl
/-- where the k-th cell of an address lies, if there is one at its beginning. -/
theorem plain_at {W : World} {a : Addr} {v : Value} (h : W.cell? (a.add (0 * 3)) = some v) : a = ⟨a.block, a.off, none⟩ := by
  rw [Nat.zero_mul, add_0] at h
  obtain ⟨b, o, s⟩ := a
  obtain rfl : s = none := World.cell?_spot h
  rfl
theorem wf_64 {n : Int} (h : (Lit.int .i64 n).wf = true) : -9223372036854775808 ≤ n ∧ n < 9223372036854775808 := by
  have h1 : (decide (IntKind.i64.min ≤ n) && decide (n ≤ IntKind.i64.max)) = true := h
  rw [Bool.and_eq_true, decide_eq_true_eq, decide_eq_true_eq] at h1
  have h2 : IntKind.i64.min = -9223372036854775808 := by decide
  have h3 : IntKind.i64.max = 9223372036854775807 := by decide
  omega
set_option maxRecDepth 100000 in
theorem open_ls {W : World} {v : Value} {d : DataW H} {p : List MemPlace} (hv : Value.okWide Tryz.prog W .any 0 24 v) (h : DataW.Trod enc Tryz.prog W 0 (fun _ => true) true 24 v d p) :
    ∃ A c ls, v = .slice A (List.length (α := Mb.Lt) ls) c ∧ (Mb.Ls W W.heap.size A ls ∧ ∀ x ∈ ls, -9223372036854775808 ≤ x.2.1 ∧ x.2.1 < 9223372036854775808) ∧ ls.length ≤ c ∧ c ≤ maxLen := by
  obtain ⟨a0, len0, cap0, rfl⟩ := okWide_slice Tryz.underlying24 hv
  obtain ⟨fuel, hf⟩ := h
  rcases Deep.open_slice Tryz.underlying24 hf with ⟨hcs, _⟩ | ⟨x, l, c, m, n, D, Pl, hcs, _, hl, hm, hmm, _, hel⟩
  · simp [Value.cells] at hcs
    obtain ⟨rfl, rfl, rfl⟩ := hcs
    exact ⟨none, 0, [], rfl, ⟨fun k hk => absurd hk (Nat.not_lt_zero _), fun x hx => by cases hx⟩, Nat.le_refl _, by unfold maxLen; omega⟩
  · simp [Value.cells] at hcs
    obtain ⟨rfl, rfl, rfl⟩ := hcs
    have hmc : m = cap0 := by simpa using hmm
    have hall : ∀ i, ∃ f : Mb.Lt, i < len0 → W.cell? (x.add (i * 3)) = some (.string (str f.1)) ∧ W.cell? (x.add (i * 3 + 1)) = some (.int .i64 f.2.1) ∧ (∃ A c, W.cell? (x.add (i * 3 + 2)) = some (.slice A f.2.2.length c) ∧ f.2.2.length ≤ c ∧ c ≤ maxLen ∧ (A = none → c = 0) ∧ Bts W W.heap.size A f.2.2) ∧ -9223372036854775808 ≤ f.2.1 ∧ f.2.1 < 9223372036854775808 := fun i => by
      by_cases hi : i < len0
      · obtain ⟨cs', h1, h2⟩ := hel i (by omega)
        rw [cells38] at h1
        obtain ⟨_, hlen, hcell⟩ := World.cells?_some h1
        obtain ⟨xs, k, hk, _, _, hxl, hfd⟩ := DataW.trod_struct Tryz.underlying43 h2
        match cs', hlen with
        | [v0, v1, v2], _ =>
          have e0 := hcell 0 (by omega)
          have e1 := hcell 1 (by omega)
          have e2 := hcell 2 (by omega)
          rw [add_twice] at e0 e1 e2
          have hx3 : xs.length = 3 := by simpa using hxl
          match xs, hx3 with
          | [y0, y1, y2], _ =>
            have g0 := hfd 0 _ rfl
            have g1 := hfd 1 _ rfl
            have g2 := hfd 2 _ rfl
            simp [cells9] at g0
            simp [cells2] at g1
            simp [cells22] at g2
            obtain ⟨s0, q0, _, _⟩ := DataW.trod_string Tryz.underlying9 g0
            obtain ⟨z1, q1, _, hw1⟩ := DataW.trod_int Tryz.underlying2 g1
            injection q0 with q0 _
            injection q1 with q1 _
            subst q0
            subst q1
            have hwz := wf_64 hw1
            rcases open_ints Tryz.underlying22 Tryz.underlying5 (by kernel_rfl) g2 with ⟨q2, _⟩ | ⟨a2, l2, c2, zs, q2, _, hl2, hm2, hz2, _, hcell2, hwz2⟩
            · injection q2 with q2 _
              subst q2
              exact ⟨(s0.data.toList, z1, []), fun _ => ⟨by rw [← str_of]; simpa using e0, by simpa using e1, ⟨none, 0, by simpa using e2, Nat.le_refl _, Nat.zero_le _, fun _ => rfl, Cs.nil⟩, hwz⟩⟩
            · injection q2 with q2 _
              subst q2
              have hz' : zs.length = c2 := by simpa using hz2
              obtain ⟨lb, rfl, hb⟩ := bytes_of (len := l2) (by omega) (fun i hi => hcell2 i (by omega)) hwz2
              exact ⟨(s0.data.toList, z1, lb), fun _ => ⟨by rw [← str_of]; simpa using e0, by simpa using e1, ⟨some a2, c2, by simpa using e2, hl2, hm2, (fun e => by cases e), hb⟩, hwz⟩⟩
      · exact ⟨Mb.d0, fun h => absurd h hi⟩
    obtain ⟨F, hF⟩ := Classical.skolem.1 hall
    refine ⟨some x, cap0, (List.range len0).map F, by simp, ⟨fun i hi => ?_, fun y hy => ?_⟩, by simpa using hl, hm⟩
    · have hi' : i < len0 := by simpa using hi
      have he : ((List.range len0).map F).getD i Mb.d0 = F i := by simp [List.getD, hi']
      obtain ⟨c0, c1, ⟨A, cc, c2, rest⟩, _⟩ := hF i hi'
      have hp := plain_at (hF 0 (by omega)).1
      rw [he]
      refine ⟨x.block, x.off, congrArg some hp, ?_, ?_, ?_, A, cc, ?_, rest⟩
      · have := World.block_lt_of_cell? W _ c0
        rwa [blk_add] at this
      · rw [hp, Mb.add_at] at c0
        exact c0
      · rw [hp, Mb.add_at] at c1
        rw [Nat.add_assoc]
        exact c1
      · rw [hp, Mb.add_at] at c2
        rw [Nat.add_assoc]
        exact c2
    · obtain ⟨i, hi, rfl⟩ := List.mem_map.1 hy
      exact (hF i (List.mem_range.1 hi)).2.2.2
end
end Go.Proofs.YtamekflgidfnfaaGreatDoor
