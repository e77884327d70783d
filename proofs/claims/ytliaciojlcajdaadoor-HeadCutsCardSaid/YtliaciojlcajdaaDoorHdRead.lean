/- head.reader.read: the range over lines. Conditions: as stated at each. -/
import Derived.Test.YtliaciojlcajdaaDoorHdIter
import Derived.Test.YtliaciojlcajdaaDoorRgFunc
namespace Go.Proofs.YtliaciojlcajdaaDoor
set_option maxRecDepth 100000
namespace Hd
open Go.RowKit Go.Shelf Go Go.Proofs.YtliaciojlcajdaaDoor.Pa
attribute [local go_sem] Oper.semAt_some
/-- all rows of cells stay. -/
def KC (w w' : World) : Prop := w.heap.size ≤ w'.heap.size ∧ ∀ (k : Nat) (cs : Array Value) (t : TypeId) (fr : Nat × Nat), w.heap[k]? = some (.cells cs t fr) → w'.heap[k]? = some (.cells cs t fr)
theorem KC.of_below {w w' : World} (h : Below w.heap.size w w') : KC w w' := ⟨h.size, fun k _ _ _ hk => (h.block k (Array.getElem?_eq_some_iff.1 hk).1).trans hk⟩
theorem KC.of_grown {w w' : World} (h : w.grownBy w' none) : KC w w' := ⟨h.size, fun k _ _ _ hk => (h.block k (Array.getElem?_eq_some_iff.1 hk).1 (fun e => by cases e)).trans hk⟩
theorem KC.of_put {w : World} {l : Nat} {o o' : Obj} (hl : w.heap[l]? = some o) (ho : o.isCells = false) : KC w (w.putObj l o') := ⟨by simp, fun k _ _ _ hk => by
  by_cases e : k = l
  · subst e
    rw [hk] at hl
    injection hl with hl
    subst hl
    cases ho
  · rw [World.putObj_heap_other e]
    exact hk⟩
theorem own_kc {w w' : World} {N n sz : Nat} {e : TypeId} {v : Value} {xs : List Value} (h : w.ownsRow N e sz v n xs) (hk : KC w w') : w'.ownsRow N e sz v n xs := by
  refine ⟨h.1, ?_⟩
  rcases h.2 with hn | ⟨g, cap, cur, rfl, hn, hh, rest⟩
  · exact .inl hn
  · exact .inr ⟨g, cap, cur, rfl, hn, hk.2 _ _ _ _ hh, rest⟩
theorem Rd.kc {w w' : World} {N R : Nat} {fs : List F} {sz : Int} (h : Rd w N R fs sz) (hk : KC w w') : Rd w' N R fs sz := by
  obtain ⟨v, gs, M, hR, hNR, hgs, hown, hb⟩ := h
  exact ⟨v, gs, M, hk.2 _ _ _ _ hR, hNR, hgs, own_kc hown hk, hb.le, Nat.le_trans hb.le' hk.1, fun g hg => own_kc (hb.own g hg) hk, hb.low, fun g hg => own_kc (hb.last g hg) hk⟩
/-- the size is set. -/
theorem Rd.size {w : World} {N R : Nat} {fs : List F} {sz : Int} (h : Rd w N R fs sz) (x : Int) : Rd (w.setCell ⟨R, 1, none⟩ (.int .i64 x)) N R fs x := by
  obtain ⟨v, gs, M, hR, hNR, hgs, hown, hb⟩ := h
  have h5 : ∀ {K : Nat} {u : Value} {l : List UInt8}, Own5 w K u l → Own5 (w.setCell ⟨R, 1, none⟩ (.int .i64 x)) K u l := fun {K u l} hu => own_same hu fun b hb => Below.heap_setCell _ _ _ _ (fun e => own_blk hu hR (by decide) (by rw [hb, e]))
  refine ⟨v, gs, M, ?_, hNR, hgs, own_same hown fun b hb => Below.heap_setCell _ _ _ _ (fun e => own_blk hown hR (by decide) (by rw [hb, e])), hb.le, by have := hb.le'; simpa using this, fun g hg => h5 (hb.own g hg), hb.low, fun g hg => h5 (hb.last g hg)⟩
  exact hR.put 1 (.int .i64 x)
theorem Rd.len {w : World} {N R : Nat} {fs : List F} {sz : Int} (h : Rd w N R fs sz) : ∃ A c, BlkIs w R 50 #[.slice A fs.length c, .int .i64 sz] ∧ N ≤ R := by
  obtain ⟨v, gs, M, hR, hNR, hgs, hown, hb⟩ := h
  obtain ⟨A, c, rfl, _, _⟩ := own_slice2 hown
  rw [gv_length] at hR
  have : gs.length = fs.length := by rw [← hgs]; simp
  rw [this] at hR
  exact ⟨A, c, hR, hNR⟩
theorem Keep.set {w : World} {R : Nat} {cs : Array Value} (h : BlkIs w R 50 cs) (i : Nat) (u : Value) : Keep w (w.setCell ⟨R, i, none⟩ u) := fun k o hk ho => by
  refine (Below.heap_setCell _ _ _ _ (fun e => ?_)).trans hk
  have e' : k = R := e
  subst e'
  unfold BlkIs at h
  rw [hk] at h
  injection h with h
  exact (ho _ _ _ h).2.2 rfl
theorem parts_any {w : World} {B : Nat} {A : Option Addr} {s : List UInt8} (h : Bts w B A s) (hB : B ≤ w.heap.size) (c : Nat) (hc : s.length ≤ c) (hm : c ≤ maxLen) (hA : A = none → c = 0) (hl : s.length ≤ 1000000) :
    Calls Tryd.prog 36 #[.slice A s.length c] w fun e w' => ∃ nm A' n' c', e = .returned (.tuple #[.string nm, .slice A' n' c', .bool (fieldB s)]) ∧ (fieldB s = true → nm = str (Pa.ahead 58 s) ∧ n' = (Pa.behind 58 s).length ∧ Bts w' B A' (Pa.behind 58 s) ∧ A' ≠ none) ∧ Below w.heap.size w w' := by
  cases hh : has 58 s with
  | true =>
    refine (parts_yes h hB c hc hm hA hl hh).mono ?_
    rintro e w' ⟨A', c', rfl, h1, h2, h3⟩
    refine ⟨_, A', _, c', ?_, fun _ => ⟨rfl, rfl, h1, h2⟩, h3⟩
    unfold fieldB
    rw [hh]
    rfl
  | false =>
    refine (parts_no h hB c hc hA hl hh).mono ?_
    rintro e w' ⟨rfl, h3⟩
    have hf : fieldB s = false := by unfold fieldB; rw [hh]; rfl
    exact ⟨_, _, _, _, by rw [hf], (fun e => by rw [hf] at e; cases e), h3⟩
/-- between two rounds: these fields are read, this is left. -/
def RdI (w : World) (N R nb : Nat) (bl : Nat) (res : Option (List F × List UInt8)) (rest : List UInt8) (X : World) : Prop :=
  ∃ fs k, Run fs rest res ∧ k + rest.length = bl ∧ Rd X N R fs (k : Nat) ∧ Boxed X nb 59 (.pointer (some ⟨R, 0, none⟩)) ∧ Below N w X ∧ Keep w X ∧ ∀ f ∈ fs, f.2.length ≤ k
def RdX (w : World) (N R : Nat) (bl : Nat) (res : Option (List F × List UInt8)) (X : World) : Prop :=
  ∃ fs r k, res = some (fs, r) ∧ k + r.length = bl ∧ Rd X N R fs (k : Nat) ∧ Below N w X ∧ Keep w X
def RdP (w : World) (N : Nat) (res : Option (List F × List UInt8)) (ch : List PanicEntry) (X : World) : Prop :=
  res = none ∧ Ending.panicked ch = bad 80 ∧ Below N w X ∧ Keep w X
def Rp (w : World) (N R : Nat) (bl : Nat) (res : Option (List F × List UInt8)) (e : Ending) (X : World) : Prop :=
  (e = .returned (.tuple #[]) ∧ RdX w N R bl res X) ∨ (e = bad 80 ∧ res = none ∧ Below N w X ∧ Keep w X)
theorem below_put {N : Nat} {w X : World} (h : Below N w X) {l : Nat} {o o' : Obj} (hl : X.heap[l]? = some o) (hN : N ≤ l) : Below N w (X.putObj l o') := by
  have hlt := (Array.getElem?_eq_some_iff.1 hl).1
  exact h.trans ⟨rfl, rfl, rfl, by simp, fun i hi => World.putObj_heap_other (by omega)⟩
theorem keep_put {w X : World} (h : Keep w X) {l : Nat} {o' : Obj} (hB : w.heap.size ≤ l) : Keep w (X.putObj l o') := fun k o hk ho => (World.putObj_heap_other (by have := (Array.getElem?_eq_some_iff.1 hk).1; omega)).trans (h k o hk ho)
theorem keep_grown {w X Y : World} (h : Keep w X) (hg : X.grownBy Y none) : Keep w Y := fun k o hk ho => (hg.block k (Array.getElem?_eq_some_iff.1 (h k o hk ho)).1 (fun e => by cases e)).trans (h k o hk ho)
theorem boxed_put {X : World} {nb : Nat} {t : TypeId} {v : Value} (h : Boxed X nb t v) {l : Nat} {o o' : Obj} (hl : X.heap[l]? = some o) (ho : o.isCells = false) : Boxed (X.putObj l o') nb t v := (KC.of_put hl ho).2 _ _ _ _ h
set_option maxHeartbeats 3200000 in
theorem read_in {w : World} {N R : Nat} (h : Rd w N R [] 0) (hNw : N ≤ w.heap.size) (hN0 : 0 < N) {A : Option Addr} {b : List UInt8} (hb : Bts w N A b) (c : Nat) (hc : b.length ≤ c) (hm : c ≤ maxLen) (hA : A = none → c = 0) (hl : b.length ≤ 1000000) (hG : Gl w)
    (res : Option (List F × List UInt8)) (hrun : Run [] b res) (hres : ∀ gs r, res = some (gs, r) → gs.length ≤ 1000 ∧ b.length - r.length ≤ 100000) :
    CallsIn Fence.wide 9 Tryd.prog 23 #[.pointer (some ⟨R, 0, none⟩), .slice A b.length c] w (Rp w N R b.length res) := by
  refine calls_of_wpF Tryd.func23 rfl ?_
  simp only [Tryd.ntmps23, List.size_toArray, List.length_cons, List.length_nil, Nat.reduceAdd, Nat.reduceSub, Array.replicate_succ, Array.replicate_zero, List.push_toArray, List.append_toArray, List.nil_append, List.cons_append]
  refine wpF_seq (n := 9) ?_
  gi_wp2_with fail
  refine wpF_seq (n := 9) ?_
  gi_wp2_with fail
  refine ⟨trivial, ?_⟩
  refine (callsIn_wide.2 (lines_any _ _ _ _)).mono ?_
  rintro e w' ⟨rfl, rfl⟩
  gi_wp2_with fail
  refine wpF_block ?_
  have k1 := (Boxed.new w 59 (.pointer (some ⟨R, 0, none⟩))).alloc (.cells #[.slice A b.length c] 22)
  have k2 : Boxed ((w.alloc (.cells #[.pointer (some ⟨R, 0, none⟩)] 59)).alloc (.cells #[.slice A b.length c] 22)) (w.heap.size + 1) 22 (.slice A b.length c) := by
    have := Boxed.new (w.alloc (.cells #[.pointer (some ⟨R, 0, none⟩)] 59)) 22 (.slice A b.length c)
    rwa [World.size_alloc] at this
  have kB : Below w.heap.size w ((w.alloc (.cells #[.pointer (some ⟨R, 0, none⟩)] 59)).alloc (.cells #[.slice A b.length c] 22)) := ((Below.refl _ w).alloc (Nat.le_refl _) _).alloc (by simp) _
  have kz : ((w.alloc (.cells #[.pointer (some ⟨R, 0, none⟩)] 59)).alloc (.cells #[.slice A b.length c] 22)).heap.size = w.heap.size + 2 := by simp
  have hRd := h.kc (KC.of_below kB)
  have hb3 := hb.below (kB.mono hNw)
  have hG3 := hG.below kB (by omega)
  generalize ((w.alloc (.cells #[.pointer (some ⟨R, 0, none⟩)] 59)).alloc (.cells #[.slice A b.length c] 22)) = w3 at *
  generalize hbn : b.length = bn at *
  have HBN := Lib.hid hbn
  refine wpF_rangeJ (n := 9) Tryd.func23 (S := List UInt8) (α := Option Addr × Nat × List UInt8) (gf := 46) (lb := #[.pointer (some ⟨w.heap.size + 1, 0, none⟩)]) rfl (enters_of Tryd.func46 (by kernel_rfl) rfl)
    (fun x => #[.slice x.1 x.2.2.length x.2.1]) (fun _ => rfl) N (by omega)
    (fun rest x r' W1 => cut2 rest = some (x.2.2, r') ∧ Bts W1 N x.1 x.2.2 ∧ x.2.2.length ≤ x.2.1 ∧ x.2.1 ≤ maxLen ∧ (x.1 = none → x.2.1 = 0) ∧ x.2.2.length ≤ 1000000) (fun r => cut2 r = none) b
    ?seq (RdI w3 N R w.heap.size bn res) (RdX w3 N R bn res) (RdP w3 N res) ?hI ?hIp ?hXp ?hst ?h0
    (fun x => { tmps := #[.pointer (some ⟨R, 0, none⟩), .slice A bn c, .pointer (some ⟨w.heap.size, 0, none⟩), undef, .slice x.1 x.2.2.length x.2.1, undef, undef, undef, .slice A bn c, .func (.func 46) #[] #[.pointer (some ⟨w.heap.size + 1, 0, none⟩)], .slice x.1 x.2.2.length x.2.1, undef, undef, undef, undef, undef, undef, undef, undef, undef, undef, undef, undef, undef, undef, undef, undef, undef, undef, undef, undef, undef, undef, undef, undef, undef, undef, undef, undef, undef, undef, undef, undef, undef, undef, undef, undef, undef, undef, undef, undef, undef, undef, undef, undef, undef], defers := [] }) ?assign ?body ?done ?stop ?pan
  case seq =>
    intro lp J Jx Jp W hW hJ hY h0
    have := lines_seq 9 (by omega) w3 (w.heap.size + 1) N c A b (by rw [HBN.out]; exact k2) (by omega) hN0 hb3 (by rw [HBN.out]; exact hc) hm hA (by rw [HBN.out]; exact hl) hG3 lp J Jx Jp W hW hJ
      (fun rest s r As cs W1 hj hcut h1 h2 h3 h4 h5 _ => hY rest (As, cs, s) r W1 hj ⟨hcut, h1, h2, h3, h4, h5⟩) h0
    exact this
  case hI =>
    rintro r W W' ⟨fs, k, h1, h2, h3, h4, h5, h7, h6⟩ hg
    exact ⟨fs, k, h1, h2, h3.kc (KC.of_grown hg), h4.kept hg (by simp), h5.grown hg (by have := h5.size; omega) (fun k e => by cases e), keep_grown h7 hg, h6⟩
  case hIp =>
    rintro r W l o o' ⟨fs, k, h1, h2, h3, h4, h5, h7, h6⟩ hB hl ho
    exact ⟨fs, k, h1, h2, h3.kc (KC.of_put hl ho), boxed_put h4 hl ho, below_put h5 hl (by omega), keep_put h7 hB, h6⟩
  case hXp =>
    rintro W l o o' ⟨fs, r, k, h1, h2, h3, h4, h5⟩ hB hl ho
    exact ⟨fs, r, k, h1, h2, h3.kc (KC.of_put hl ho), below_put h4 hl (by omega), keep_put h5 hB⟩
  case hst =>
    rintro r x r' W l o o' ⟨h1, h2, h3⟩ hB hl ho
    exact ⟨h1, h2.below (below_put (Below.refl N W) hl (by omega)), h3⟩
  case h0 => exact ⟨[], 0, hrun, by omega, hRd, k1, Below.refl _ _, (fun _ _ h _ => h), by simp⟩
  case assign =>
    intro lp x X K' hK'
    gi_wp2
    exact hK'
  case body =>
    rintro lp rest ⟨As, cs, s⟩ r' W ⟨fs, k, hr, hk, hRW, hbox, hbel, hkeep, hfl⟩ ⟨hcut, hbts, hsc, hcm, hAs, hsl⟩
    dsimp only at hcut hbts hsc hcm hAs hsl ⊢
    have hNW : N ≤ W.heap.size := by have := hbel.size; omega
    have KZ := Lib.hid kz
    clear kz
    have hlen := cut2_len hcut
    have HP := Lib.hid (parts_any hbts hNW cs hsc hcm hAs hsl)
    generalize hsn : s.length = n at *
    have HSN := Lib.hid hsn
    clear hsn
    gi_wp2_with fail
    refine ⟨trivial, CallsIn.inRound lp (callsIn_wide.2 (HP.out.mono ?_))⟩
    rintro e w1 ⟨nm, A1, n1, c1, rfl, hp1, hb1⟩
    have hR1 := hRW.kc (KC.of_below hb1)
    have hbox1 : Boxed w1 w.heap.size 59 (.pointer (some ⟨R, 0, none⟩)) := (hb1.block _ hbox.lt).trans hbox
    have hbel1 : Below N w3 w1 := hbel.trans (hb1.mono hNW)
    have hkf1 : KeepsFrom w3.heap.size W w1 := ⟨hb1.size, fun i o _ hi _ => (hb1.block i (Array.getElem?_eq_some_iff.1 hi).1).trans hi⟩
    have hbts1 : Bts w1 N As s := hbts.below (hb1.mono hNW)
    have hNB := hb1.mono hNW
    have hkeep1 : Keep w3 w1 := hkeep.trans (Keep.of_below hb1)
    clear hkeep
    have HCUT := Lib.hid hcut
    have HFL := Lib.hid hfl
    have HK := Lib.hid hk
    have hkb : k ≤ 1000000 := by omega
    have hnb : n ≤ 1000000 := hsl
    rcases hr.inv with ⟨e, _⟩ | ⟨r0, e, hres0⟩ | ⟨x, y, r0, e, hcase⟩
    · rw [hcut] at e; cases e
    · rw [hcut] at e
      injection e with e
      injection e with e1 e2
      subst e2
      have hn0 : n = 0 := by rw [← HSN.out, e1]; rfl
      have hz : ((n : Int) == 0) = true := by rw [hn0]; rfl
      have hf0 : fieldB s = false := by rw [e1]; decide
      have hrs := hres fs r' hres0
      have hfin : ∀ X a, Rd X N R fs ((k : Int) + ((n : Int) + 2)) → Boxed X w.heap.size 59 (.pointer (some ⟨R, 0, none⟩)) → Below N w3 X → KeepsFrom w3.heap.size W X → Below N W X → Keep w3 X → BodyG w3.heap.size N (RdI w3 N R w.heap.size bn res) (RdX w3 N R bn res) (RdP w3 N res) r' W .ret a X := fun X a g1 g2 g3 g4 g5 g6 =>
        ⟨g4, fs, r', k + n + 2, hres0, by omega, by rw [show ((k + n + 2 : Nat) : Int) = (k : Int) + ((n : Int) + 2) by omega]; exact g1, g3, g6⟩
      have HFIN := Lib.hid hfin
      have HB := Lib.hid (show (fs.length : Int) ≤ 1000 ∧ (k : Int) + ((n : Int) + 2) ≤ 100000 by constructor <;> omega)
      rw [hf0]
      clear hp1 hf0 hfin hrs hres0 e1 hn0 hcut hfl hk hr hRW hbox hbel hbts hbts1 hlen HP
      obtain ⟨A9, c9, hR9, hNR⟩ := hR1.len
      have x1 := hbox1.cell
      have x2 := (hR9.cell 1).trans (rfl : _ = some (Value.int .i64 (k : Nat)))
      have x3 := hR9.froz 1
      have HR1 := Lib.hid hR1
      have HR9 := Lib.hid hR9
      have HX := Lib.hid (And.intro hbox1 (And.intro hbel1 (And.intro hkf1 (And.intro hNB hkeep1))))
      clear hR1 hR9 hbox1 hbel1 hkf1 hNB hkeep1
      gi_wp2_with fail
      obtain ⟨w9, hw9⟩ : ∃ w9, w9 = w1.setCell ⟨R, 1, none⟩ (.int .i64 ((k : Int) + ((n : Int) + 2))) := ⟨_, rfl⟩
      have hR9 : Rd w9 N R fs ((k : Int) + ((n : Int) + 2)) := by rw [hw9]; exact HR1.out.size _
      have hne : w.heap.size ≠ R := fun e => by
        have h1 := HX.out.1
        have h2 := HR9.out
        unfold Boxed at h1
        unfold BlkIs at h2
        rw [e, h2] at h1
        injection h1 with h1
        injection h1 with h1 _
        have := congrArg Array.size h1
        simp at this
      have hbox9 : Boxed w9 w.heap.size 59 (.pointer (some ⟨R, 0, none⟩)) := by rw [hw9]; exact (Below.heap_setCell _ _ _ _ hne).trans HX.out.1
      have hbel9 : Below N w3 w9 := by rw [hw9]; exact HX.out.2.1.setCell hNR _
      have hkf9 : KeepsFrom w3.heap.size W w9 := by rw [hw9]; exact HX.out.2.2.1.trans ((KeepsOthers.setCell _ _ _).from _)
      have hnb9 : Below N W w9 := by rw [hw9]; exact HX.out.2.2.2.1.setCell hNR _
      have hkp9 : Keep w3 w9 := by rw [hw9]; exact HX.out.2.2.2.2.trans (Keep.set HR9.out _ _)
      obtain ⟨A8, c8, hR8, _⟩ := hR9.len
      have HX9 := Lib.hid (And.intro hR9 (And.intro hbox9 (And.intro hbel9 (And.intro hkf9 (And.intro hnb9 hkp9)))))
      have y1 : w9.cell? ⟨w.heap.size, 0, none⟩ = some (.pointer (some ⟨R, 0, none⟩)) := hbox9.cell
      have y2 := (hR8.cell 0).trans (rfl : _ = some (Value.slice A8 fs.length c8))
      have y3 := (hR8.cell 1).trans (rfl : _ = some (Value.int .i64 ((k : Int) + ((n : Int) + 2))))
      have HB0 := Lib.hid (fun w => bound_ok (fs.length : Nat) ((k : Int) + ((n : Int) + 2)) w HB.out.1 HB.out.2)
      have HW9 := Lib.hid hw9
      clear x1 x2 x3 hR9 hbox9 hbel9 hkf9 hnb9 hkp9 hR8 hne hw9 hb1
      rw [← HW9.out]
      refine regionIn_held_drew (S := (fun X => X.cell? ⟨w.heap.size, 0, none⟩ = some (.pointer (some ⟨R, 0, none⟩)) ∧ X.cell? ⟨R, 0, none⟩ = some (.slice A8 fs.length c8) ∧ X.cell? ⟨R, 1, none⟩ = some (.int .i64 ((k : Int) + ((n : Int) + 2))))) (Wide.round _ _ _) (by kernel_rfl) (by kernel_rfl) (⟨y1, y2, y3⟩) (fun hHeld => ?_)
      refine wpAnyH_take (i := 0) (v := .pointer (some ⟨R, 0, none⟩)) rfl (by kernel_rfl) (by kernel_rfl) (by kernel_rfl) (fun _ _ _ h => h) (Or.inl ⟨by rfl, fun w hS => by obtain ⟨s1, s2, s3⟩ := hS; (first | (go_simp; done) | (go_simp; with_reducible rfl))⟩) hHeld ?_
      try simp only [Act.put, List.getElem_toArray, List.getElem_cons_zero, List.setIfInBounds_toArray, List.set_cons_zero, List.set_cons_succ]
      refine wpAnyH_take (i := 1) (v := .pointer (some ⟨R, 0, none⟩)) rfl (by kernel_rfl) (by kernel_rfl) (by kernel_rfl) (fun _ _ _ h => h) (Or.inl ⟨by rfl, fun w hS => by first | (go_simp; done) | (go_simp; with_reducible rfl)⟩) hHeld ?_
      try simp only [Act.put, List.getElem_toArray, List.getElem_cons_zero, List.getElem_cons_succ, List.setIfInBounds_toArray, List.set_cons_zero, List.set_cons_succ]
      refine wpAnyH_take (i := 2) (v := .pointer (some ⟨R, 0, none⟩)) rfl (by kernel_rfl) (by kernel_rfl) (by kernel_rfl) (fun _ _ _ h => h) (Or.inl ⟨by rfl, fun w hS => by first | (go_simp; done) | (go_simp; with_reducible rfl)⟩) hHeld ?_
      try simp only [Act.put, List.getElem_toArray, List.getElem_cons_zero, List.getElem_cons_succ, List.setIfInBounds_toArray, List.set_cons_zero, List.set_cons_succ]
      refine wpAnyH_take (i := 3) (v := .slice A8 fs.length c8) rfl (by kernel_rfl) (by kernel_rfl) (by kernel_rfl) (fun _ _ _ h => h) (Or.inl ⟨by rfl, fun w hS => by obtain ⟨s1, s2, s3⟩ := hS; (first | (go_simp; done) | (go_simp; with_reducible rfl))⟩) hHeld ?_
      try simp only [Act.put, List.getElem_toArray, List.getElem_cons_zero, List.getElem_cons_succ, List.setIfInBounds_toArray, List.set_cons_zero, List.set_cons_succ]
      refine wpAnyH_take (i := 4) (v := .int .i64 fs.length) rfl (by kernel_rfl) (by kernel_rfl) (by kernel_rfl) (fun _ _ _ h => h) (Or.inl ⟨by rfl, fun w hS => by first | (go_simp; done) | (go_simp; with_reducible rfl)⟩) hHeld ?_
      try simp only [Act.put, List.getElem_toArray, List.getElem_cons_zero, List.getElem_cons_succ, List.setIfInBounds_toArray, List.set_cons_zero, List.set_cons_succ]
      refine wpAnyH_take (i := 5) (v := .pointer (some ⟨R, 0, none⟩)) rfl (by kernel_rfl) (by kernel_rfl) (by kernel_rfl) (fun _ _ _ h => h) (Or.inl ⟨by rfl, fun w hS => by obtain ⟨s1, s2, s3⟩ := hS; (first | (go_simp; done) | (go_simp; with_reducible rfl))⟩) hHeld ?_
      try simp only [Act.put, List.getElem_toArray, List.getElem_cons_zero, List.getElem_cons_succ, List.setIfInBounds_toArray, List.set_cons_zero, List.set_cons_succ]
      refine wpAnyH_take (i := 6) (v := .pointer (some ⟨R, 0, none⟩)) rfl (by kernel_rfl) (by kernel_rfl) (by kernel_rfl) (fun _ _ _ h => h) (Or.inl ⟨by rfl, fun w hS => by first | (go_simp; done) | (go_simp; with_reducible rfl)⟩) hHeld ?_
      try simp only [Act.put, List.getElem_toArray, List.getElem_cons_zero, List.getElem_cons_succ, List.setIfInBounds_toArray, List.set_cons_zero, List.set_cons_succ]
      refine wpAnyH_take (i := 7) (v := .pointer (some ⟨R, 1, none⟩)) rfl (by kernel_rfl) (by kernel_rfl) (by kernel_rfl) (fun _ _ _ h => h) (Or.inl ⟨by rfl, fun w hS => by first | (go_simp; done) | (go_simp; with_reducible rfl)⟩) hHeld ?_
      try simp only [Act.put, List.getElem_toArray, List.getElem_cons_zero, List.getElem_cons_succ, List.setIfInBounds_toArray, List.set_cons_zero, List.set_cons_succ]
      refine wpAnyH_take (i := 8) (v := .int .i64 ((k : Int) + ((n : Int) + 2))) rfl (by kernel_rfl) (by kernel_rfl) (by kernel_rfl) (fun _ _ _ h => h) (Or.inl ⟨by rfl, fun w hS => by obtain ⟨s1, s2, s3⟩ := hS; (first | (go_simp; done) | (go_simp; with_reducible rfl))⟩) hHeld ?_
      try simp only [Act.put, List.getElem_toArray, List.getElem_cons_zero, List.getElem_cons_succ, List.setIfInBounds_toArray, List.set_cons_zero, List.set_cons_succ]
      refine wpAnyH_ready (rs := [9]) (by kernel_rfl) (by simp) ?_
      refine AllReadyH.cons rfl (fun K hK => ?_) AllReadyH.nil
      go_simp
      go_wp2_with ((refine (HB0.out _).mono ?_; rintro e w' ⟨rfl, rfl⟩))
      refine hK.out _ _ ?_ (fun hHeld => ?_)
      · exact ⟨y1, y2, y3⟩
      clear hK K
      try simp only [Act.put, List.getElem_toArray, List.getElem_cons_zero, List.getElem_cons_succ, List.setIfInBounds_toArray, List.set_cons_zero, List.set_cons_succ]
      refine wpAnyH_done (by kernel_rfl) (NormalAt.mk ?_) _
      have hfd : Below w9.heap.size w9 w9.drew := (Below.refl _ _).drew
      gi_wp2_with fail
      refine HFIN.out _ _ (HX9.out.1.kc (KC.of_below hfd)) HX9.out.2.1 (HX9.out.2.2.1.trans ((Below.refl _ w9).drew)) (HX9.out.2.2.2.1.trans ⟨hfd.size, fun i o _ hi _ => hi⟩) (HX9.out.2.2.2.2.1.trans ((Below.refl _ w9).drew)) (HX9.out.2.2.2.2.2.trans (Keep.of_below hfd))
    · rw [hcut] at e
      injection e with e
      injection e with e1 e2
      subst e2
      have hn1 : 1 ≤ n := by rw [← HSN.out, e1]; simp
      have hz : ((n : Int) == 0) = false := by rw [beq_eq_false_iff_ne]; omega
      have HFO : Hid (Calls Tryd.prog 37 #[.slice As n cs] w1 fun e w' => e = .returned (.bool (blankB x)) ∧ w1 = w') := Lib.hid (by
        have h1 := hbts1
        rw [e1] at h1
        have := folded_any h1 cs (by rw [← e1, HSN.out]; exact hsl) (by rw [← e1, HSN.out]; exact hsc)
        rw [← e1, HSN.out] at this
        exact this)
      rcases hcase with ⟨hbl, hfs0, hrs⟩ | ⟨hbl, hfs0, hrs⟩ | ⟨hbl, hfb, hrs⟩ | ⟨hbl, hfb, hrs⟩
      · subst hfs0
        rw [hbl] at HFO
        obtain ⟨A9, c9, hR9, _⟩ := hR1.len
        have HBAD := Lib.hid (bad_empty w1 R (k : Nat) (.slice As n cs) A9 c9 hR9)
        have x1 := hbox1.cell
        have HF := Lib.hid (And.intro hkf1 (And.intro hrs (And.intro hbel1 hkeep1)))
        clear hp1 hrs e1 hn1 hcut hfl hk hr hRW hbox hbel hbts hbts1 hlen HP hR1 hR9 hbox1 hbel1 hkf1 hNB hkeep1 hb1
        gi_wp2_with fail
        refine ⟨trivial, CallsIn.inRound lp (callsIn_wide.2 (HFO.out.mono ?_))⟩
        rintro e w' ⟨rfl, rfl⟩
        gi_wp2_with fail
        refine ⟨trivial, CallsIn.inRound lp (callsIn_wide.2 (HBAD.out.mono ?_))⟩
        rintro e w' ⟨rfl, rfl⟩
        unfold bad
        exact ⟨rfl, HF.out.1, HF.out.2.1, rfl, HF.out.2.2⟩
      · rw [hbl] at HFO
        obtain ⟨fs0, f, rfl⟩ : ∃ fs0 f, fs = fs0 ++ [f] := by
          rcases List.eq_nil_or_concat fs with h | ⟨l, x, h⟩
          · exact absurd h hfs0
          · exact ⟨l, x, by simpa using h⟩
        have hfl2 := hfl f (by simp)
        obtain ⟨fin, r9, hres9, hfl9, hk9⟩ : ∃ fin r9, res = some (fin, r9) ∧ fs0.length + 1 ≤ 1000 ∧ k + n + 2 ≤ 100000 := by
          cases hres' : res with
          | none =>
            rw [hres'] at hrs
            exact absurd hrs.none_nil (goOnL_ne _ hfs0)
          | some p =>
            obtain ⟨fin, r9⟩ := p
            rw [hres'] at hrs
            have f1 := hrs.facts
            rw [goOnL_length] at f1
            have f2 := hres fin r9 hres'
            simp at f1
            exact ⟨fin, r9, rfl, by omega, by omega⟩
        have HGO := Lib.hid (goOn_any hR1 (c := cs) hbts1 (by rw [HSN.out]; exact hsl) (by omega) (by omega))
        rw [HSN.out] at HGO
        have x1 := hbox1.cell
        have hrs2 : Run (fs0 ++ [(f.1, f.2 ++ s)]) r' res := by rw [← goOnL_snoc, e1]; exact hrs
        have hfl3 : ∀ g ∈ fs0 ++ [(f.1, f.2 ++ s)], g.2.length ≤ k + n + 2 := by
          intro g hg
          rcases List.mem_append.1 hg with hg | hg
          · have := hfl g (List.mem_append_left _ hg); omega
          · rw [List.mem_singleton] at hg
            rw [hg, List.length_append, HSN.out]
            omega
        have hfin : ∀ X a, Rd X N R (fs0 ++ [(f.1, f.2 ++ s)]) ((k : Int) + ((n : Int) + 2)) → Boxed X w.heap.size 59 (.pointer (some ⟨R, 0, none⟩)) → Below N w3 X → KeepsFrom w3.heap.size W X → Below N W X → Keep w3 X → BodyG w3.heap.size N (RdI w3 N R w.heap.size bn res) (RdX w3 N R bn res) (RdP w3 N res) r' W .normal a X := fun X a g1 g2 g3 g4 g5 g6 =>
          ⟨g4, g5, _, k + n + 2, hrs2, by omega, by rw [show ((k + n + 2 : Nat) : Int) = (k : Int) + ((n : Int) + 2) by omega]; exact g1, g2, g3, g6, hfl3⟩
        have HFIN := Lib.hid hfin
        have hlz : (fs0 ++ [(f.1, f.2 ++ s)]).length = fs0.length + 1 := by simp
        have HB := Lib.hid (show ((fs0 ++ [(f.1, f.2 ++ s)]).length : Int) ≤ 1000 ∧ (k : Int) + ((n : Int) + 2) ≤ 100000 by constructor <;> omega)
        have HX1 := Lib.hid (And.intro hbox1 (And.intro hbel1 (And.intro hkf1 (And.intro hNB hkeep1))))
        clear hp1 hrs e1 hn1 hcut hfl hk hr hRW hbox hbel hbts hbts1 hlen HP hR1 hbox1 hbel1 hkf1 hNB hkeep1 hb1 hfs0 hfl2 hres9 hfl9 hk9 hrs2 hfl3 hfin hlz
        gi_wp2_with fail
        refine ⟨trivial, CallsIn.inRound lp (callsIn_wide.2 (HFO.out.mono ?_))⟩
        rintro e w' ⟨rfl, rfl⟩
        gi_wp2_with fail
        refine ⟨trivial, CallsIn.inRound lp (callsIn_wide.2 (HGO.out.mono ?_))⟩
        rintro e w2 ⟨rfl, hR12, hbN, hkp⟩
        have hbox12 : Boxed w2 w.heap.size 59 (.pointer (some ⟨R, 0, none⟩)) := hkp _ _ HX1.out.1 (fun cs t fr e => by injection e with _ e _; subst e; decide)
        have hbel12 : Below N w3 w2 := HX1.out.2.1.trans hbN
        have hkf12 : KeepsFrom w3.heap.size W w2 := HX1.out.2.2.1.trans ⟨hbN.size, fun i o _ hi ho => hkp i o hi (fun cs t fr e => by subst e; cases ho)⟩
        have hNB2 : Below N W w2 := HX1.out.2.2.2.1.trans hbN
        have hkeep12 : Keep w3 w2 := HX1.out.2.2.2.2.trans hkp
        clear hkp hbN x1 HX1
        generalize fs0 ++ [(f.1, f.2 ++ s)] = fz at *
        obtain ⟨A9, c9, hR9, hNR⟩ := hR12.len
        have x1 := hbox12.cell
        have x2 := (hR9.cell 1).trans (rfl : _ = some (Value.int .i64 (k : Nat)))
        have x3 := hR9.froz 1
        have HR1 := Lib.hid hR12
        have HR9 := Lib.hid hR9
        have HX := Lib.hid (And.intro hbox12 (And.intro hbel12 (And.intro hkf12 (And.intro hNB2 hkeep12))))
        clear hR12 hR9 hbox12 hbel12 hkf12 hNB2 hkeep12
        gi_wp2_with fail
        obtain ⟨w9, hw9⟩ : ∃ w9, w9 = w2.setCell ⟨R, 1, none⟩ (.int .i64 ((k : Int) + ((n : Int) + 2))) := ⟨_, rfl⟩
        have hR9 : Rd w9 N R fz ((k : Int) + ((n : Int) + 2)) := by rw [hw9]; exact HR1.out.size _
        have hne : w.heap.size ≠ R := fun e => by
          have h1 := HX.out.1
          have h2 := HR9.out
          unfold Boxed at h1
          unfold BlkIs at h2
          rw [e, h2] at h1
          injection h1 with h1
          injection h1 with h1 _
          have := congrArg Array.size h1
          simp at this
        have hbox9 : Boxed w9 w.heap.size 59 (.pointer (some ⟨R, 0, none⟩)) := by rw [hw9]; exact (Below.heap_setCell _ _ _ _ hne).trans HX.out.1
        have hbel9 : Below N w3 w9 := by rw [hw9]; exact HX.out.2.1.setCell hNR _
        have hkf9 : KeepsFrom w3.heap.size W w9 := by rw [hw9]; exact HX.out.2.2.1.trans ((KeepsOthers.setCell _ _ _).from _)
        have hnb9 : Below N W w9 := by rw [hw9]; exact HX.out.2.2.2.1.setCell hNR _
        have hkp9 : Keep w3 w9 := by rw [hw9]; exact HX.out.2.2.2.2.trans (Keep.set HR9.out _ _)
        obtain ⟨A8, c8, hR8, _⟩ := hR9.len
        have HX9 := Lib.hid (And.intro hR9 (And.intro hbox9 (And.intro hbel9 (And.intro hkf9 (And.intro hnb9 hkp9)))))
        have y1 : w9.cell? ⟨w.heap.size, 0, none⟩ = some (.pointer (some ⟨R, 0, none⟩)) := hbox9.cell
        have y2 := (hR8.cell 0).trans (rfl : _ = some (Value.slice A8 fz.length c8))
        have y3 := (hR8.cell 1).trans (rfl : _ = some (Value.int .i64 ((k : Int) + ((n : Int) + 2))))
        have HB0 := Lib.hid (fun w => bound_ok (fz.length : Nat) ((k : Int) + ((n : Int) + 2)) w HB.out.1 HB.out.2)
        have HW9 := Lib.hid hw9
        clear x1 x2 x3 hR9 hbox9 hbel9 hkf9 hnb9 hkp9 hR8 hne hw9
        rw [← HW9.out]
        refine regionIn_held_drew (S := (fun X => X.cell? ⟨w.heap.size, 0, none⟩ = some (.pointer (some ⟨R, 0, none⟩)) ∧ X.cell? ⟨R, 0, none⟩ = some (.slice A8 fz.length c8) ∧ X.cell? ⟨R, 1, none⟩ = some (.int .i64 ((k : Int) + ((n : Int) + 2))))) (Wide.round _ _ _) (by kernel_rfl) (by kernel_rfl) (⟨y1, y2, y3⟩) (fun hHeld => ?_)
        refine wpAnyH_take (i := 0) (v := .pointer (some ⟨R, 0, none⟩)) rfl (by kernel_rfl) (by kernel_rfl) (by kernel_rfl) (fun _ _ _ h => h) (Or.inl ⟨by rfl, fun w hS => by obtain ⟨s1, s2, s3⟩ := hS; (first | (go_simp; done) | (go_simp; with_reducible rfl))⟩) hHeld ?_
        try simp only [Act.put, List.getElem_toArray, List.getElem_cons_zero, List.setIfInBounds_toArray, List.set_cons_zero, List.set_cons_succ]
        refine wpAnyH_take (i := 1) (v := .pointer (some ⟨R, 0, none⟩)) rfl (by kernel_rfl) (by kernel_rfl) (by kernel_rfl) (fun _ _ _ h => h) (Or.inl ⟨by rfl, fun w hS => by first | (go_simp; done) | (go_simp; with_reducible rfl)⟩) hHeld ?_
        try simp only [Act.put, List.getElem_toArray, List.getElem_cons_zero, List.getElem_cons_succ, List.setIfInBounds_toArray, List.set_cons_zero, List.set_cons_succ]
        refine wpAnyH_take (i := 2) (v := .pointer (some ⟨R, 0, none⟩)) rfl (by kernel_rfl) (by kernel_rfl) (by kernel_rfl) (fun _ _ _ h => h) (Or.inl ⟨by rfl, fun w hS => by first | (go_simp; done) | (go_simp; with_reducible rfl)⟩) hHeld ?_
        try simp only [Act.put, List.getElem_toArray, List.getElem_cons_zero, List.getElem_cons_succ, List.setIfInBounds_toArray, List.set_cons_zero, List.set_cons_succ]
        refine wpAnyH_take (i := 3) (v := .slice A8 fz.length c8) rfl (by kernel_rfl) (by kernel_rfl) (by kernel_rfl) (fun _ _ _ h => h) (Or.inl ⟨by rfl, fun w hS => by obtain ⟨s1, s2, s3⟩ := hS; (first | (go_simp; done) | (go_simp; with_reducible rfl))⟩) hHeld ?_
        try simp only [Act.put, List.getElem_toArray, List.getElem_cons_zero, List.getElem_cons_succ, List.setIfInBounds_toArray, List.set_cons_zero, List.set_cons_succ]
        refine wpAnyH_take (i := 4) (v := .int .i64 fz.length) rfl (by kernel_rfl) (by kernel_rfl) (by kernel_rfl) (fun _ _ _ h => h) (Or.inl ⟨by rfl, fun w hS => by first | (go_simp; done) | (go_simp; with_reducible rfl)⟩) hHeld ?_
        try simp only [Act.put, List.getElem_toArray, List.getElem_cons_zero, List.getElem_cons_succ, List.setIfInBounds_toArray, List.set_cons_zero, List.set_cons_succ]
        refine wpAnyH_take (i := 5) (v := .pointer (some ⟨R, 0, none⟩)) rfl (by kernel_rfl) (by kernel_rfl) (by kernel_rfl) (fun _ _ _ h => h) (Or.inl ⟨by rfl, fun w hS => by obtain ⟨s1, s2, s3⟩ := hS; (first | (go_simp; done) | (go_simp; with_reducible rfl))⟩) hHeld ?_
        try simp only [Act.put, List.getElem_toArray, List.getElem_cons_zero, List.getElem_cons_succ, List.setIfInBounds_toArray, List.set_cons_zero, List.set_cons_succ]
        refine wpAnyH_take (i := 6) (v := .pointer (some ⟨R, 0, none⟩)) rfl (by kernel_rfl) (by kernel_rfl) (by kernel_rfl) (fun _ _ _ h => h) (Or.inl ⟨by rfl, fun w hS => by first | (go_simp; done) | (go_simp; with_reducible rfl)⟩) hHeld ?_
        try simp only [Act.put, List.getElem_toArray, List.getElem_cons_zero, List.getElem_cons_succ, List.setIfInBounds_toArray, List.set_cons_zero, List.set_cons_succ]
        refine wpAnyH_take (i := 7) (v := .pointer (some ⟨R, 1, none⟩)) rfl (by kernel_rfl) (by kernel_rfl) (by kernel_rfl) (fun _ _ _ h => h) (Or.inl ⟨by rfl, fun w hS => by first | (go_simp; done) | (go_simp; with_reducible rfl)⟩) hHeld ?_
        try simp only [Act.put, List.getElem_toArray, List.getElem_cons_zero, List.getElem_cons_succ, List.setIfInBounds_toArray, List.set_cons_zero, List.set_cons_succ]
        refine wpAnyH_take (i := 8) (v := .int .i64 ((k : Int) + ((n : Int) + 2))) rfl (by kernel_rfl) (by kernel_rfl) (by kernel_rfl) (fun _ _ _ h => h) (Or.inl ⟨by rfl, fun w hS => by obtain ⟨s1, s2, s3⟩ := hS; (first | (go_simp; done) | (go_simp; with_reducible rfl))⟩) hHeld ?_
        try simp only [Act.put, List.getElem_toArray, List.getElem_cons_zero, List.getElem_cons_succ, List.setIfInBounds_toArray, List.set_cons_zero, List.set_cons_succ]
        refine wpAnyH_ready (rs := [9]) (by kernel_rfl) (by simp) ?_
        refine AllReadyH.cons rfl (fun K hK => ?_) AllReadyH.nil
        go_simp
        go_wp2_with ((refine (HB0.out _).mono ?_; rintro e w' ⟨rfl, rfl⟩))
        refine hK.out _ _ ?_ (fun hHeld => ?_)
        · exact ⟨y1, y2, y3⟩
        clear hK K
        try simp only [Act.put, List.getElem_toArray, List.getElem_cons_zero, List.getElem_cons_succ, List.setIfInBounds_toArray, List.set_cons_zero, List.set_cons_succ]
        refine wpAnyH_done (by kernel_rfl) (NormalAt.mk ?_) _
        have hfd : Below w9.heap.size w9 w9.drew := (Below.refl _ _).drew
        gi_wp2_with fail
        refine HFIN.out _ _ (HX9.out.1.kc (KC.of_below hfd)) HX9.out.2.1 (HX9.out.2.2.1.trans ((Below.refl _ w9).drew)) (HX9.out.2.2.2.1.trans ⟨hfd.size, fun i o _ hi _ => hi⟩) (HX9.out.2.2.2.2.1.trans ((Below.refl _ w9).drew)) (HX9.out.2.2.2.2.2.trans (Keep.of_below hfd))
      · rw [hbl] at HFO
        rw [← e1] at hfb
        rw [hfb] at hp1 ⊢
        obtain ⟨hnm, hn1', hb2, hA1⟩ := hp1 rfl
        obtain ⟨fin, r9, hres9, hfl9, hk9⟩ : ∃ fin r9, res = some (fin, r9) ∧ fs.length + 1 ≤ 1000 ∧ k + n + 2 ≤ 100000 := by
          cases hres' : res with
          | none =>
            rw [hres'] at hrs
            exact absurd hrs.none_nil (by simp)
          | some p =>
            obtain ⟨fin, r9⟩ := p
            rw [hres'] at hrs
            have f1 := hrs.facts
            have f2 := hres fin r9 hres'
            simp at f1
            exact ⟨fin, r9, rfl, by omega, by omega⟩
        have hbnl : (Pa.behind 58 s).length ≤ n := by
          rw [← HSN.out]
          rcases Decidable.em ((58 : UInt8) ∈ s) with h | h
          · have := Pa.behind_len h; omega
          · rw [(Pa.ahead_no h).2]; simp
        subst hnm hn1'
        have HBE := Lib.hid (begin_any hR1 (Nat.le_trans hNW hb1.size) (Pa.ahead 58 s) (c := c1) hb2 (by omega) hA1 (by omega))
        have x1 := hbox1.cell
        have hrs2 : Run (fs ++ [(Pa.ahead 58 s, Pa.behind 58 s)]) r' res := by rw [e1]; exact hrs
        have hfl3 : ∀ g ∈ fs ++ [(Pa.ahead 58 s, Pa.behind 58 s)], g.2.length ≤ k + n + 2 := by
          intro g hg
          rcases List.mem_append.1 hg with hg | hg
          · have := hfl g hg; omega
          · rw [List.mem_singleton] at hg
            rw [hg]
            show (Pa.behind 58 s).length ≤ _
            omega
        have hfin : ∀ X a, Rd X N R (fs ++ [(Pa.ahead 58 s, Pa.behind 58 s)]) ((k : Int) + ((n : Int) + 2)) → Boxed X w.heap.size 59 (.pointer (some ⟨R, 0, none⟩)) → Below N w3 X → KeepsFrom w3.heap.size W X → Below N W X → Keep w3 X → BodyG w3.heap.size N (RdI w3 N R w.heap.size bn res) (RdX w3 N R bn res) (RdP w3 N res) r' W .normal a X := fun X a g1 g2 g3 g4 g5 g6 =>
          ⟨g4, g5, _, k + n + 2, hrs2, by omega, by rw [show ((k + n + 2 : Nat) : Int) = (k : Int) + ((n : Int) + 2) by omega]; exact g1, g2, g3, g6, hfl3⟩
        have HFIN := Lib.hid hfin
        have hlz : (fs ++ [(Pa.ahead 58 s, Pa.behind 58 s)]).length = fs.length + 1 := by simp
        have HB := Lib.hid (show ((fs ++ [(Pa.ahead 58 s, Pa.behind 58 s)]).length : Int) ≤ 1000 ∧ (k : Int) + ((n : Int) + 2) ≤ 100000 by constructor <;> omega)
        have HX1 := Lib.hid (And.intro hbox1 (And.intro hbel1 (And.intro hkf1 (And.intro hNB hkeep1))))
        clear hp1 hrs e1 hn1 hcut hfl hk hr hRW hbox hbel hbts hbts1 hlen HP hR1 hbox1 hbel1 hkf1 hNB hkeep1 hb1 hb2 hA1 hres9 hfl9 hk9 hrs2 hfl3 hfin hlz hfb hbnl
        gi_wp2_with fail
        refine ⟨trivial, CallsIn.inRound lp (callsIn_wide.2 (HFO.out.mono ?_))⟩
        rintro e w' ⟨rfl, rfl⟩
        gi_wp2_with fail
        refine ⟨trivial, CallsIn.inRound lp (callsIn_wide.2 (HBE.out.mono ?_))⟩
        rintro e w2 ⟨rfl, hR12, hbN, hkp⟩
        have hbox12 : Boxed w2 w.heap.size 59 (.pointer (some ⟨R, 0, none⟩)) := hkp _ _ HX1.out.1 (fun cs t fr e => by injection e with _ e _; subst e; decide)
        have hbel12 : Below N w3 w2 := HX1.out.2.1.trans hbN
        have hkf12 : KeepsFrom w3.heap.size W w2 := HX1.out.2.2.1.trans ⟨hbN.size, fun i o _ hi ho => hkp i o hi (fun cs t fr e => by subst e; cases ho)⟩
        have hNB2 : Below N W w2 := HX1.out.2.2.2.1.trans hbN
        have hkeep12 : Keep w3 w2 := HX1.out.2.2.2.2.trans hkp
        clear hkp hbN x1 HX1
        generalize fs ++ [(Pa.ahead 58 s, Pa.behind 58 s)] = fz at *
        obtain ⟨A9, c9, hR9, hNR⟩ := hR12.len
        have x1 := hbox12.cell
        have x2 := (hR9.cell 1).trans (rfl : _ = some (Value.int .i64 (k : Nat)))
        have x3 := hR9.froz 1
        have HR1 := Lib.hid hR12
        have HR9 := Lib.hid hR9
        have HX := Lib.hid (And.intro hbox12 (And.intro hbel12 (And.intro hkf12 (And.intro hNB2 hkeep12))))
        clear hR12 hR9 hbox12 hbel12 hkf12 hNB2 hkeep12
        gi_wp2_with fail
        obtain ⟨w9, hw9⟩ : ∃ w9, w9 = w2.setCell ⟨R, 1, none⟩ (.int .i64 ((k : Int) + ((n : Int) + 2))) := ⟨_, rfl⟩
        have hR9 : Rd w9 N R fz ((k : Int) + ((n : Int) + 2)) := by rw [hw9]; exact HR1.out.size _
        have hne : w.heap.size ≠ R := fun e => by
          have h1 := HX.out.1
          have h2 := HR9.out
          unfold Boxed at h1
          unfold BlkIs at h2
          rw [e, h2] at h1
          injection h1 with h1
          injection h1 with h1 _
          have := congrArg Array.size h1
          simp at this
        have hbox9 : Boxed w9 w.heap.size 59 (.pointer (some ⟨R, 0, none⟩)) := by rw [hw9]; exact (Below.heap_setCell _ _ _ _ hne).trans HX.out.1
        have hbel9 : Below N w3 w9 := by rw [hw9]; exact HX.out.2.1.setCell hNR _
        have hkf9 : KeepsFrom w3.heap.size W w9 := by rw [hw9]; exact HX.out.2.2.1.trans ((KeepsOthers.setCell _ _ _).from _)
        have hnb9 : Below N W w9 := by rw [hw9]; exact HX.out.2.2.2.1.setCell hNR _
        have hkp9 : Keep w3 w9 := by rw [hw9]; exact HX.out.2.2.2.2.trans (Keep.set HR9.out _ _)
        obtain ⟨A8, c8, hR8, _⟩ := hR9.len
        have HX9 := Lib.hid (And.intro hR9 (And.intro hbox9 (And.intro hbel9 (And.intro hkf9 (And.intro hnb9 hkp9)))))
        have y1 : w9.cell? ⟨w.heap.size, 0, none⟩ = some (.pointer (some ⟨R, 0, none⟩)) := hbox9.cell
        have y2 := (hR8.cell 0).trans (rfl : _ = some (Value.slice A8 fz.length c8))
        have y3 := (hR8.cell 1).trans (rfl : _ = some (Value.int .i64 ((k : Int) + ((n : Int) + 2))))
        have HB0 := Lib.hid (fun w => bound_ok (fz.length : Nat) ((k : Int) + ((n : Int) + 2)) w HB.out.1 HB.out.2)
        have HW9 := Lib.hid hw9
        clear x1 x2 x3 hR9 hbox9 hbel9 hkf9 hnb9 hkp9 hR8 hne hw9
        rw [← HW9.out]
        refine regionIn_held_drew (S := (fun X => X.cell? ⟨w.heap.size, 0, none⟩ = some (.pointer (some ⟨R, 0, none⟩)) ∧ X.cell? ⟨R, 0, none⟩ = some (.slice A8 fz.length c8) ∧ X.cell? ⟨R, 1, none⟩ = some (.int .i64 ((k : Int) + ((n : Int) + 2))))) (Wide.round _ _ _) (by kernel_rfl) (by kernel_rfl) (⟨y1, y2, y3⟩) (fun hHeld => ?_)
        refine wpAnyH_take (i := 0) (v := .pointer (some ⟨R, 0, none⟩)) rfl (by kernel_rfl) (by kernel_rfl) (by kernel_rfl) (fun _ _ _ h => h) (Or.inl ⟨by rfl, fun w hS => by obtain ⟨s1, s2, s3⟩ := hS; (first | (go_simp; done) | (go_simp; with_reducible rfl))⟩) hHeld ?_
        try simp only [Act.put, List.getElem_toArray, List.getElem_cons_zero, List.setIfInBounds_toArray, List.set_cons_zero, List.set_cons_succ]
        refine wpAnyH_take (i := 1) (v := .pointer (some ⟨R, 0, none⟩)) rfl (by kernel_rfl) (by kernel_rfl) (by kernel_rfl) (fun _ _ _ h => h) (Or.inl ⟨by rfl, fun w hS => by first | (go_simp; done) | (go_simp; with_reducible rfl)⟩) hHeld ?_
        try simp only [Act.put, List.getElem_toArray, List.getElem_cons_zero, List.getElem_cons_succ, List.setIfInBounds_toArray, List.set_cons_zero, List.set_cons_succ]
        refine wpAnyH_take (i := 2) (v := .pointer (some ⟨R, 0, none⟩)) rfl (by kernel_rfl) (by kernel_rfl) (by kernel_rfl) (fun _ _ _ h => h) (Or.inl ⟨by rfl, fun w hS => by first | (go_simp; done) | (go_simp; with_reducible rfl)⟩) hHeld ?_
        try simp only [Act.put, List.getElem_toArray, List.getElem_cons_zero, List.getElem_cons_succ, List.setIfInBounds_toArray, List.set_cons_zero, List.set_cons_succ]
        refine wpAnyH_take (i := 3) (v := .slice A8 fz.length c8) rfl (by kernel_rfl) (by kernel_rfl) (by kernel_rfl) (fun _ _ _ h => h) (Or.inl ⟨by rfl, fun w hS => by obtain ⟨s1, s2, s3⟩ := hS; (first | (go_simp; done) | (go_simp; with_reducible rfl))⟩) hHeld ?_
        try simp only [Act.put, List.getElem_toArray, List.getElem_cons_zero, List.getElem_cons_succ, List.setIfInBounds_toArray, List.set_cons_zero, List.set_cons_succ]
        refine wpAnyH_take (i := 4) (v := .int .i64 fz.length) rfl (by kernel_rfl) (by kernel_rfl) (by kernel_rfl) (fun _ _ _ h => h) (Or.inl ⟨by rfl, fun w hS => by first | (go_simp; done) | (go_simp; with_reducible rfl)⟩) hHeld ?_
        try simp only [Act.put, List.getElem_toArray, List.getElem_cons_zero, List.getElem_cons_succ, List.setIfInBounds_toArray, List.set_cons_zero, List.set_cons_succ]
        refine wpAnyH_take (i := 5) (v := .pointer (some ⟨R, 0, none⟩)) rfl (by kernel_rfl) (by kernel_rfl) (by kernel_rfl) (fun _ _ _ h => h) (Or.inl ⟨by rfl, fun w hS => by obtain ⟨s1, s2, s3⟩ := hS; (first | (go_simp; done) | (go_simp; with_reducible rfl))⟩) hHeld ?_
        try simp only [Act.put, List.getElem_toArray, List.getElem_cons_zero, List.getElem_cons_succ, List.setIfInBounds_toArray, List.set_cons_zero, List.set_cons_succ]
        refine wpAnyH_take (i := 6) (v := .pointer (some ⟨R, 0, none⟩)) rfl (by kernel_rfl) (by kernel_rfl) (by kernel_rfl) (fun _ _ _ h => h) (Or.inl ⟨by rfl, fun w hS => by first | (go_simp; done) | (go_simp; with_reducible rfl)⟩) hHeld ?_
        try simp only [Act.put, List.getElem_toArray, List.getElem_cons_zero, List.getElem_cons_succ, List.setIfInBounds_toArray, List.set_cons_zero, List.set_cons_succ]
        refine wpAnyH_take (i := 7) (v := .pointer (some ⟨R, 1, none⟩)) rfl (by kernel_rfl) (by kernel_rfl) (by kernel_rfl) (fun _ _ _ h => h) (Or.inl ⟨by rfl, fun w hS => by first | (go_simp; done) | (go_simp; with_reducible rfl)⟩) hHeld ?_
        try simp only [Act.put, List.getElem_toArray, List.getElem_cons_zero, List.getElem_cons_succ, List.setIfInBounds_toArray, List.set_cons_zero, List.set_cons_succ]
        refine wpAnyH_take (i := 8) (v := .int .i64 ((k : Int) + ((n : Int) + 2))) rfl (by kernel_rfl) (by kernel_rfl) (by kernel_rfl) (fun _ _ _ h => h) (Or.inl ⟨by rfl, fun w hS => by obtain ⟨s1, s2, s3⟩ := hS; (first | (go_simp; done) | (go_simp; with_reducible rfl))⟩) hHeld ?_
        try simp only [Act.put, List.getElem_toArray, List.getElem_cons_zero, List.getElem_cons_succ, List.setIfInBounds_toArray, List.set_cons_zero, List.set_cons_succ]
        refine wpAnyH_ready (rs := [9]) (by kernel_rfl) (by simp) ?_
        refine AllReadyH.cons rfl (fun K hK => ?_) AllReadyH.nil
        go_simp
        go_wp2_with ((refine (HB0.out _).mono ?_; rintro e w' ⟨rfl, rfl⟩))
        refine hK.out _ _ ?_ (fun hHeld => ?_)
        · exact ⟨y1, y2, y3⟩
        clear hK K
        try simp only [Act.put, List.getElem_toArray, List.getElem_cons_zero, List.getElem_cons_succ, List.setIfInBounds_toArray, List.set_cons_zero, List.set_cons_succ]
        refine wpAnyH_done (by kernel_rfl) (NormalAt.mk ?_) _
        have hfd : Below w9.heap.size w9 w9.drew := (Below.refl _ _).drew
        gi_wp2_with fail
        refine HFIN.out _ _ (HX9.out.1.kc (KC.of_below hfd)) HX9.out.2.1 (HX9.out.2.2.1.trans ((Below.refl _ w9).drew)) (HX9.out.2.2.2.1.trans ⟨hfd.size, fun i o _ hi _ => hi⟩) (HX9.out.2.2.2.2.1.trans ((Below.refl _ w9).drew)) (HX9.out.2.2.2.2.2.trans (Keep.of_below hfd))
      · rw [hbl] at HFO
        rw [← e1] at hfb
        rw [hfb]
        have hfin : ∀ a, BodyG w3.heap.size N (RdI w3 N R w.heap.size bn res) (RdX w3 N R bn res) (RdP w3 N res) r' W .ret a w1 := fun a => ⟨hkf1, fs, rest, k, hrs, hk, hR1, hbel1, hkeep1⟩
        have HFIN := Lib.hid hfin
        clear hp1 hrs e1 hn1 hcut hfl hk hr hRW hbox hbel hbts hbts1 hlen HP hR1 hbox1 hbel1 hkf1 hNB hkeep1 hb1 hfb hfin
        gi_wp2_with fail
        refine ⟨trivial, CallsIn.inRound lp (callsIn_wide.2 (HFO.out.mono ?_))⟩
        rintro e w' ⟨rfl, rfl⟩
        gi_wp2_with fail
        exact HFIN.out _
  case done =>
    rintro D r W hD hfin ⟨fs, k, h1, h2, h3, h4, h5, h7, h6⟩ hd
    have hrs : res = some (fs, r) := by
      rcases h1.inv with ⟨_, e⟩ | ⟨r', e, _⟩ | ⟨x, y, z, e, _⟩
      · exact e
      · rw [hfin] at e; cases e
      · rw [hfin] at e; cases e
    refine ⟨by simp, .inl ⟨_, _, rfl, run_takeDeferred hd, ?_⟩⟩
    refine ⟨.tuple #[], by simp [results, Tryd.results23, go_sem], .inl ⟨rfl, fs, r, k, hrs, h2, h3.kc (KC.of_put hd rfl), below_put ((kB.mono hNw).trans h5) hd (by omega), (Keep.of_below kB).trans (keep_put h7 hD)⟩⟩
  case stop =>
    rintro D W hD ⟨fs, r, k, h1, h2, h3, h4, h5⟩ hd
    refine ⟨by simp, .inl ⟨_, _, rfl, run_takeDeferred hd, ?_⟩⟩
    refine ⟨.tuple #[], by simp [results, Tryd.results23, go_sem], .inl ⟨rfl, fs, r, k, h1, h2, h3.kc (KC.of_put hd rfl), below_put ((kB.mono hNw).trans h4) hd (by omega), (Keep.of_below kB).trans (keep_put h5 hD)⟩⟩
  case pan =>
    rintro D ch W hD ⟨h1, h2, h3, h4⟩ hd
    refine ⟨by simp, .inl ⟨_, _, rfl, run_takeDeferred hd, ?_⟩⟩
    exact .inr ⟨h2, h1, below_put ((kB.mono hNw).trans h3) hd (by omega), (Keep.of_below kB).trans (keep_put h4 hD)⟩
end Hd
end Go.Proofs.YtliaciojlcajdaaDoor
