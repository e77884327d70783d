/- RgFuncK SlFiles. Conditions: as stated at each. -/
import Derived.Test.YtfjmplkncopffaaGreatDoorWm26
import Derived.Test.YtfjmplkncopffaaGreatDoorWm25
import Derived.Test.YtfjmplkncopffaaGreatDoorWm20
/- The range over a function whose round may panic, with any frame of the rounds. Conditions: as stated at each. -/
namespace Go.Proofs.YtfjmplkncopffaaGreatDoor
set_option maxRecDepth 100000
open Go.RowKit Go
section
variable {P : Program} {f : FuncId} {n : Nat}
/-- what a round's yield comes to: on, out, or a panic. -/
def YdK {S : Type} (J : S → World → Prop) (Jx : World → Prop) (Jp : List PanicEntry → World → Prop) (Kp : World → World → Prop) (r : S) (W1 : World) (e : Ending) (W' : World) : Prop :=
  (e = .returned (.bool true) ∧ J r W' ∧ Kp W1 W') ∨ (e = .returned (.bool false) ∧ Jx W') ∨ (∃ ch, e = .panicked ch ∧ Jp ch W')
/-- what the iterator comes to. -/
def LnK {S : Type} (fin : S → Prop) (J : S → World → Prop) (Jx : World → Prop) (Jp : List PanicEntry → World → Prop) (e : Ending) (W' : World) : Prop :=
  ((∃ v, e = .returned v) ∧ ((∃ r, fin r ∧ J r W') ∨ Jx W')) ∨ (∃ ch, e = .panicked ch ∧ Jp ch W')
/-- how a round's body may be left. -/
def BodyK {S : Type} (B : Nat) (Kp : World → World → Prop) (I : S → World → Prop) (Ix : World → Prop) (Ip : List PanicEntry → World → Prop) (r : S) (W : World) : Exit → Act → World → Prop
  | .normal, _, W' => KeepsFrom B W W' ∧ Kp W W' ∧ I r W'
  | .ret, _, W' => KeepsFrom B W W' ∧ Ix W'
  | .panic ch, a, W' => a.defers = [] ∧ KeepsFrom B W W' ∧ Ip ch W'
  | _, _, _ => False
/-- a range over an iterator that tells its elements one by one: 'step r x r' W': at r the next one is x, and r' is left. -/
theorem wpF_rangeK {fnc : Func} (hfn : P.funcs[f]? = some fnc) {S α : Type} {g : Operand} {ps : Array Tmp} {assign body : Code} {Q : Exit → Act → World → Prop} {a : Act} {w : World} {gf : Nat} {lb : Array Value}
    (hg : a.eval g = .func (.func gf) #[] lb) (eg : ∀ args w, (callFunc gf args).run P w = .ok (.enter gf args) w)
    (enc : α → Array Value) (hps : ∀ x, (enc x).size = ps.size) (Kp : World → World → Prop) (hKt : ∀ {A B C : World}, Kp A B → Kp B C → Kp A C) (hKb : ∀ (W : World) (l : Nat) (o o' : Obj), w.heap.size ≤ l → W.heap[l]? = some o → o.isCells = false → o.isWalk = false → Kp W (W.putObj l o')) (step : S → α → S → World → Prop) (fin : S → Prop) (s0 : S)
    (hseq : ∀ (lp : Nat) (J : S → World → Prop) (Jx : World → Prop) (Jp : List PanicEntry → World → Prop) (W : World), Below w.heap.size w W → (∀ r W W', J r W → W.grownBy W' none → J r W') →
      (∀ r x r' W1, J r W1 → step r x r' W1 → YieldAt Fence.wide (n - 1) P lp (enc x) W1 (YdK J Jx Jp Kp r' W1)) → J s0 W → CallsIn Fence.wide n P gf (#[.func (.yield lp) #[] #[]] ++ lb) W (LnK fin J Jx Jp))
    (I : S → World → Prop) (Ix : World → Prop) (Ip : List PanicEntry → World → Prop)
    (hI : ∀ r W W', I r W → W.grownBy W' none → I r W')
    (hIp : ∀ r W l o o', I r W → w.heap.size ≤ l → W.heap[l]? = some o → o.isCells = false → I r (W.putObj l o'))
    (hXp : ∀ W l o o', Ix W → w.heap.size ≤ l → W.heap[l]? = some o → o.isCells = false → Ix (W.putObj l o'))
    (hst : ∀ r x r' W l o o', step r x r' W → w.heap.size ≤ l → W.heap[l]? = some o → o.isCells = false → step r x r' (W.putObj l o'))
    (h0 : I s0 w) (a₁ : α → Act)
    (hassign : ∀ (l : Nat) (x : α) (W : World) (K : Act → World → Prop), K (a₁ x) W →
      assign.wpIn (Fence.wide.inRound l) (n - 1) P (Exit.then K (fun _ _ _ => False)) { tmps := (ps.zip (enc x)).foldl (fun t (p, v) => t.setIfInBounds p v) a.tmps, defers := [] } W)
    (hbody : ∀ (l : Nat) (r : S) (x : α) (r' : S) (W : World), I r W → step r x r' W → body.wpIn (Fence.wide.inRound l) (n - 1) P (BodyK w.heap.size Kp I Ix Ip r' W) (a₁ x) W)
    (hdone : ∀ (D : Nat) (r : S) (W : World), w.heap.size ≤ D → fin r → I r W → W.heap[D]? = some (.deferred (some [])) → Q .normal { a with defers := { target := .collected D, args := #[] } :: a.defers } W)
    (hstop : ∀ (D : Nat) (W : World), w.heap.size ≤ D → Ix W → W.heap[D]? = some (.deferred (some [])) → Q .ret { a with defers := { target := .collected D, args := #[] } :: a.defers } W)
    (hpan : ∀ (D : Nat) (ch : List PanicEntry) (W : World), w.heap.size ≤ D → Ip ch W → W.heap[D]? = some (.deferred (some [])) → Q (.panic ch) { a with defers := { target := .collected D, args := #[] } :: a.defers } W) :
    WpF P f (.rangeFunc g ps assign body) Q a w := by
  refine wpF_range (n := n) hg eg fun W1 hW1 => ?_
  obtain ⟨rec, hrec⟩ : ∃ rec : LoopState → Option Code → Loop, rec = fun st pe => { state := st, pending := pe, fn := f, tmps := a.tmps, params := ps, assign, body, defers := w.heap.size } := ⟨_, rfl⟩
  have e1 : W1 = (w.alloc (.deferred (some []))).alloc (.loop (rec .ready none)) := by rw [hW1, hrec]
  clear hW1
  have hL1 : W1.heap[w.heap.size + 1]? = some (.loop (rec .ready none)) := by
    rw [e1]; have := World.alloc_heap_new (w.alloc (.deferred (some []))) (.loop (rec .ready none)); rwa [World.size_alloc] at this
  have hD1 : W1.heap[w.heap.size]? = some (.deferred (some [])) := by
    rw [e1]; exact (Below.heap_alloc _ _ _ (by simp)).trans (World.alloc_heap_new w _)
  have hI1 : I s0 W1 := by
    rw [e1]; exact hI _ _ _ (hI _ _ _ h0 (World.grownBy_alloc w _ none)) (World.grownBy_alloc _ _ none)
  have hB1 : Below w.heap.size w W1 := by
    rw [e1]; exact ((Below.refl _ w).alloc (Nat.le_refl _) _).alloc (by simp) _
  refine (hseq (w.heap.size + 1) (fun r W => I r W ∧ W.heap[w.heap.size + 1]? = some (.loop (rec .ready none)) ∧ W.heap[w.heap.size]? = some (.deferred (some [])))
    (fun W => Ix W ∧ W.heap[w.heap.size + 1]? = some (.loop (rec .done (some .ret))) ∧ W.heap[w.heap.size]? = some (.deferred (some [])))
    (fun ch W => Ip ch W ∧ W.heap[w.heap.size]? = some (.deferred (some []))) W1 hB1
    (fun r W W' ⟨h1, h2, h3⟩ hgr => ⟨hI r W W' h1 hgr, (hgr.block _ (Array.getElem?_eq_some_iff.1 h2).1 (fun e => by cases e)).trans h2, (hgr.block _ (Array.getElem?_eq_some_iff.1 h3).1 (fun e => by cases e)).trans h3⟩) ?_ ⟨hI1, hL1, hD1⟩).mono ?_
  · rintro r x r' W ⟨hi, hl, hd⟩ hs
    have hlt : w.heap.size + 1 < W.heap.size := (Array.getElem?_eq_some_iff.1 hl).1
    have hy := run_yield (P := P) (args := enc x) hl (by rw [hrec]; exact hps x)
    rw [hrec] at hy
    refine ⟨f, _, assign, body, hy, roundIn_pan hfn (hassign _ x W _ ⟨_, run_beginRound hl (by rw [hrec]), ?_⟩)⟩
    have hl2 : (W.putObj (w.heap.size + 1) (.loop { rec .ready none with state := .busy })).heap[w.heap.size + 1]? = some (.loop { rec .ready none with state := .busy }) := World.putObj_heap_same hlt
    have hd2 : (W.putObj (w.heap.size + 1) (.loop { rec .ready none with state := .busy })).heap[w.heap.size]? = some (.deferred (some [])) := (World.putObj_heap_other (by omega)).trans hd
    have hb2 : Kp W (W.putObj (w.heap.size + 1) (.loop { rec .ready none with state := .busy })) := hKb _ _ _ _ (by omega) hl rfl rfl
    refine wpIn_mono (hbody _ r x r' _ (hIp r _ _ _ _ hi (by omega) hl rfl) (hst r x r' _ _ _ _ hs (by omega) hl rfl)) ?_
    have fin3 : ∀ (jump : Option Code) (W3 : World), KeepsFrom w.heap.size (W.putObj (w.heap.size + 1) (.loop { rec .ready none with state := .busy })) W3 →
        (Instr.endRound (w.heap.size + 1) jump).run P W3 = .ok (.bool jump.isNone) (W3.putObj (w.heap.size + 1) (.loop (rec (if jump.isNone then .ready else .done) jump))) ∧
        W3.heap[w.heap.size + 1]? = some (.loop { rec .ready none with state := .busy }) ∧
        (W3.putObj (w.heap.size + 1) (.loop (rec (if jump.isNone then .ready else .done) jump))).heap[w.heap.size + 1]? = some (.loop (rec (if jump.isNone then .ready else .done) jump)) ∧
        (W3.putObj (w.heap.size + 1) (.loop (rec (if jump.isNone then .ready else .done) jump))).heap[w.heap.size]? = some (.deferred (some [])) := fun jump W3 hk3 => by
      have hl3 := hk3.same _ _ (by omega) hl2 rfl
      have := run_endRound (P := P) jump hl3
      rw [hrec] at this ⊢
      exact ⟨this, by rw [hrec] at hl3; exact hl3, World.putObj_heap_same (Array.getElem?_eq_some_iff.1 hl3).1, (World.putObj_heap_other (by omega)).trans (hk3.same _ _ (Nat.le_refl _) hd2 rfl)⟩
    rintro e a3 W3 hp
    cases e with
    | normal =>
      obtain ⟨hk3, hb3, hi3⟩ := hp
      obtain ⟨hr, hl3, hl4, hd4⟩ := fin3 none W3 hk3
      exact ⟨_, _, hr, Or.inl ⟨rfl, ⟨hIp _ _ _ _ _ hi3 (by omega) hl3 rfl, hl4, hd4⟩, hKt (hKt hb2 hb3) (hKb _ _ _ _ (by omega) hl3 rfl rfl)⟩⟩
    | ret =>
      obtain ⟨hk3, hx3⟩ := hp
      obtain ⟨hr, hl3, hl4, hd4⟩ := fin3 (some .ret) W3 hk3
      exact ⟨_, _, hr, Or.inr (Or.inl ⟨rfl, hXp _ _ _ _ hx3 (by omega) hl3 rfl, hl4, hd4⟩)⟩
    | panic ch =>
      obtain ⟨hdf, hk3, hp3⟩ := hp
      exact ⟨hdf, Or.inr (Or.inr ⟨ch, rfl, hp3, hk3.same _ _ (Nat.le_refl _) hd2 rfl⟩)⟩
    | exit id => exact hp.elim
    | goto t => exact hp.elim
    | outgrown => exact hp.elim
  · rintro e W2 (⟨⟨v, rfl⟩, (⟨r, hf, hi, hl, hd⟩ | ⟨hx, hl, hd⟩)⟩ | ⟨ch, rfl, hp, hd⟩)
    · exact ⟨none, _, by have := run_endLoop (P := P) hl (by rw [hrec]; simp); rw [hrec] at this; exact this, hdone _ r _ (Nat.le_refl _) hf (hIp _ _ _ _ _ hi (by omega) hl rfl) ((World.putObj_heap_other (by omega)).trans hd)⟩
    · exact ⟨some .ret, _, by have := run_endLoop (P := P) hl (by rw [hrec]; simp); rw [hrec] at this; exact this, wpIn_ret (hstop _ _ (Nat.le_refl _) (hXp _ _ _ _ hx (by omega) hl rfl) ((World.putObj_heap_other (by omega)).trans hd))⟩
    · exact hpan _ ch _ (Nat.le_refl _) hp hd
end
end Go.Proofs.YtfjmplkncopffaaGreatDoor
/- The iterator over a log's files, over names of segments. Conditions: as stated at each. -/
namespace Go.Proofs.YtfjmplkncopffaaGreatDoor
open Go.RowKit Go.Shelf Go Go.Maps
attribute [local go_sem] Oper.semAt_some
theorem names_are {nm : ByteArray} {F : Files} {ns : List ByteArray} {m : Nat} (h : NamesOf F ns) (hF : ∀ t, F t ≠ none ↔ ∃ j, 1 ≤ j ∧ j ≤ m ∧ t = fileN nm j) (hm : m ≤ 999999) : ns = segNames nm m := by
  have hnd : (segNames nm m).Nodup := by
    refine List.pairwise_map.2 ?_
    refine (List.pairwise_lt_range (n := m)).imp_of_mem fun {a b} ha hb hab e => ?_
    have := fileN_inj (by have := List.mem_range.1 ha; omega) (by have := List.mem_range.1 hb; omega) e
    omega
  have hpw : (segNames nm m).Pairwise (fun a b => a.data.toList ≤ b.data.toList) := by
    refine List.pairwise_map.2 ?_
    exact (List.pairwise_lt_range (n := m)).imp_of_mem fun {a b} ha hb hab => fileN_le (by omega) (by have := List.mem_range.1 hb; omega)
  refine List.Perm.eq_of_pairwise (le := fun a b => a.data.toList ≤ b.data.toList) (fun a b _ _ h1 h2 => ?_) h.2.2.1 hpw ?_
  · have := List.le_antisymm h1 h2
    rw [← toBA_list a, ← toBA_list b, this]
  · refine (List.perm_ext_iff_of_nodup h.1 hnd).2 fun t => ?_
    rw [h.2.1 t, hF t]
    unfold segNames
    rw [List.mem_map]
    constructor
    · rintro ⟨j, h1, h2, h3⟩
      exact ⟨j - 1, List.mem_range.2 (by omega), by rw [h3, show j - 1 + 1 = j by omega]⟩
    · rintro ⟨j, h1, h2⟩
      have := List.mem_range.1 h1
      exact ⟨j + 1, by omega, by omega, h2.symm⟩
theorem segNames_length (nm : ByteArray) (m : Nat) : (segNames nm m).length = m := by simp [segNames]
theorem segNames_get (nm : ByteArray) {m i : Nat} (h : i < m) : (segNames nm m)[i]? = some (fileN nm (i + 1)) := by
  simp [segNames, h]
/-- the blocks of p that hold cells lie as they lay. -/
def Sm (p : Nat → Prop) (X Y : World) : Prop := X.heap.size ≤ Y.heap.size ∧ ∀ k o, p k → X.heap[k]? = some o → o.isCells = true → Y.heap[k]? = some o
theorem Sm.refl (p : Nat → Prop) (X : World) : Sm p X X := ⟨Nat.le_refl _, fun _ _ _ h _ => h⟩
theorem Sm.trans {p : Nat → Prop} {X Y Z : World} (h : Sm p X Y) (h' : Sm p Y Z) : Sm p X Z := ⟨Nat.le_trans h.1 h'.1, fun k o hk hv hc => h'.2 k o hk (h.2 k o hk hv hc) hc⟩
theorem Sm.of_below {p : Nat → Prop} {X Y : World} (h : Below X.heap.size X Y) : Sm p X Y := ⟨h.size, fun k _ _ hv _ => (h.block k (Array.getElem?_eq_some_iff.1 hv).1).trans hv⟩
theorem Sm.blk {p : Nat → Prop} {X Y : World} (h : Sm p X Y) {g : Nat} {t : TypeId} {cs : Array Value} (hg : BlkIs X g t cs) (hp : p g) : BlkIs Y g t cs := h.2 g _ hp hg rfl
theorem Sm.of_tn {p q : Nat → Prop} {X Y : World} (h : Tn q X Y) (hpq : ∀ k, p k → ¬ q k) : Sm p X Y := ⟨h.size, fun k _ hk hv _ => (h.block k (Array.getElem?_eq_some_iff.1 hv).1 (hpq k hk)).trans hv⟩
theorem Sm.put {p : Nat → Prop} {X : World} {l : Nat} {o : Obj} (hl : X.heap[l]? = some o) (ho : o.isCells = false) (o' : Obj) : Sm p X (X.putObj l o') := by
  refine ⟨by simp, fun k u _ hv hc => ?_⟩
  refine (World.putObj_heap_other (fun e => ?_)).trans hv
  subst e
  rw [hl] at hv
  injection hv with hv
  rw [hv, hc] at ho
  cases ho
theorem Sm.cell {p : Nat → Prop} {X Y : World} (h : Sm p X Y) {a : Addr} {v : Value} (ha : p a.block) (hc : X.cell? a = some v) : Y.cell? a = some v := by
  have hc' := hc
  unfold World.cell? at hc
  split at hc
  · rename_i c1 c2 c3 ho
    have := h.2 a.block _ ha ho rfl
    rw [← hc']
    unfold World.cell?
    rw [this, ho]
  · cases hc
/-- the log lies there, whatever its last segment is. -/
def LogN (L Dk : Nat) (nm : ByteArray) (sz : Int) (G : Nat) (X : World) : Prop := ∃ last, LogB X L Dk nm sz G last false
/-- what a round keeps. -/
def KpL (p : Nat → Prop) (L Dk : Nat) (nm : ByteArray) (sz : Int) (G : Nat) (X Y : World) : Prop := Sm p X Y ∧ (LogN L Dk nm sz G X → LogN L Dk nm sz G Y)
theorem KpL.trans {p : Nat → Prop} {L Dk : Nat} {nm : ByteArray} {sz : Int} {G : Nat} {X Y Z : World} (h : KpL p L Dk nm sz G X Y) (h' : KpL p L Dk nm sz G Y Z) : KpL p L Dk nm sz G X Z := ⟨h.1.trans h'.1, fun a => h'.2 (h.2 a)⟩
theorem KpL.of_below {p : Nat → Prop} {L Dk : Nat} {nm : ByteArray} {sz : Int} {G : Nat} {X Y : World} (h : Below X.heap.size X Y) : KpL p L Dk nm sz G X Y := ⟨Sm.of_below h, fun ⟨l, hl⟩ => ⟨l, (h.block _ hl.lt).trans hl⟩⟩
def stepL (on : Bool) (m : Nat) (r x r' : Nat) (_ : World) : Prop := on = true ∧ r < m ∧ x = r + 1 ∧ r' = r + 1
def finL (on : Bool) (m : Nat) (r : Nat) : Prop := on = true → r = m
def encI (x : Nat) : Array Value := #[.int .i64 x]
def beL (on : Bool) : ByteArray := if on then ⟨#[]⟩ else spareB
/-- what holds behind i names. -/
def JO (J : Nat → World → Prop) (on : Bool) (i : Nat) (X : World) : Prop := J (if on then i else 0) X
set_option maxRecDepth 100000 in
set_option maxHeartbeats 1600000 in
theorem files_seq (n : Nat) (hn : 1 ≤ n) (on : Bool) (m : Nat) (w : World) (B0 B1 L Dk G k : Nat) (N : Nat) (Ft : Nat → Prop) (F : Files) (rm x lf : Int) (nm : ByteArray) (sz : Int) (g : List (Nat × Nat)) (p : Nat → Prop)
    (h0 : BlkIs w B0 32 #[.pointer (some ⟨L, 0, none⟩)]) (h1 : BlkIs w B1 9 #[.string (beL on)]) (h : LogS w N Ft Dk k F rm x lf false L G nm sz g false) (hk : k ≤ 1000000) (hnm : nm.size ≤ 1000000)
    (hF : ∀ t, F t ≠ none ↔ ∃ j, 1 ≤ j ∧ j ≤ m ∧ t = fileN nm j) (hm : m ≤ 999999) (hp0 : p B0) (hp1 : p B1) (hpn : ∀ k, w.heap.size ≤ k → p k)
    (lp : Nat) (J : Nat → World → Prop) (Jx : World → Prop) (Jp : List PanicEntry → World → Prop) (W : World) (hW : Below w.heap.size w W) (hJ : ∀ r W W', J r W → W.grownBy W' none → J r W')
    (hY : ∀ r x r' W1, J r W1 → stepL on m r x r' W1 → YieldAt Fence.wide (n - 1) Tryz.prog lp (encI x) W1 (YdK J Jx Jp (KpL p L Dk nm sz G) r' W1)) (h00 : J 0 W) :
    CallsIn Fence.wide n Tryz.prog 73 (#[.func (.yield lp) #[] #[]] ++ #[.pointer (some ⟨B0, 0, none⟩), .pointer (some ⟨B1, 0, none⟩)]) W (LnK (finL on m) J Jx Jp) := by
  refine callsIn_of_wp Tryz.func73 rfl trivial ?_ rfl
  have hl := h.below hW
  have c0 := (hW.cell (p := ⟨B0, 0, none⟩) h0.lt).trans (h0.cell 0)
  have cL := BlkIs.cell hl.2.1 0
  have b0W : BlkIs W B0 32 #[.pointer (some ⟨L, 0, none⟩)] := (hW.block _ h0.lt).trans h0
  have b1W : BlkIs W B1 9 #[.string (beL on)] := (hW.block _ h1.lt).trans h1
  have HNA := Lib.hid (names_any W N Ft Dk k F rm x lf hl.1 hk)
  have hLN : LogN L Dk nm sz G W := ⟨_, hl.2.1⟩
  have hwW := hW.size
  simp only [Tryz.ntmps73, List.size_toArray, List.length_cons, List.length_nil, Nat.reduceAdd, Nat.reduceSub, Array.replicate_succ, Array.replicate_zero, List.push_toArray, List.append_toArray, List.nil_append, List.cons_append]
  gi_wp2_with fail
  refine ⟨trivial, ?_⟩
  refine (callsIn_wide.2 HNA.out).mono ?_
  rintro e w1 ⟨A, cc, ns, rfl, hrow, hno, hnl, hb1⟩
  have hns := names_are hno hF hm
  subst hns
  rw [segNames_length] at hrow ⊢
  have HJ1 := Lib.hid (hJ _ _ _ h00 (Below.grownNone hb1))
  have HL1 := Lib.hid ((KpL.of_below (p := p) hb1).2 hLN)
  have HS1 := Lib.hid (show BlkIs w1 B0 32 #[.pointer (some ⟨L, 0, none⟩)] ∧ BlkIs w1 B1 9 #[.string (beL on)] from ⟨(hb1.block _ b0W.lt).trans b0W, (hb1.block _ b1W.lt).trans b1W⟩)
  have HROW := Lib.hid hrow
  clear hrow hno hl h h00 hLN
  gi_wp2_with fail
  gi_loopw [13] (fun v wr => ∃ i : Nat, i ≤ m ∧ v = .int .i64 i ∧ JO J on i wr ∧ Sm p w1 wr ∧ LogN L Dk nm sz G wr) (fun v _ => m - (intOf v).toNat)
  case atStart => exact ⟨0, Nat.zero_le _, rfl, (by unfold JO; cases on <;> exact HJ1.out), Sm.refl _ _, HL1.out⟩
  case round =>
    obtain ⟨i, hi, rfl, hj, hsm, hln⟩ := hrel
    have HJ2 := Lib.hid hj
    have HSM := Lib.hid hsm
    have HLN := Lib.hid hln
    by_cases hlt : i < m
    · have hlt2 : (i : Int) < (m : Int) := by omega
      obtain ⟨gr, cap, hv, hgN, hglt⟩ := HROW.out.form (by omega)
      injection hv with hv1 hv2 hv3
      subst hv1
      subst hv3
      have hcell : wr.cell? ⟨gr, i, none⟩ = some (.string (fileN nm (i + 1))) := by
        have h1 := HROW.out.cells (g := gr) rfl i (.string (fileN nm (i + 1))) (by rw [List.getElem?_map, segNames_get nm hlt]; rfl)
        have h2 : w1.cell? ⟨gr, i, none⟩ = some (.string (fileN nm (i + 1))) := by
          have e : (⟨gr, 0, none⟩ : Addr).add i = ⟨gr, i, none⟩ := by unfold Addr.add; split <;> simp_all
          rwa [e] at h1
        exact HSM.out.cell (a := ⟨gr, i, none⟩) (hpn gr (by omega)) h2
      have x0 := (HSM.out.blk HS1.out.1 hp0).cell 0
      have x1 := (HSM.out.blk HS1.out.2 hp1).cell 0
      obtain ⟨la, hla⟩ := HLN.out
      have HNU := Lib.hid (number_any wr L Dk nm sz G la false hla hnm (i + 1) (by omega) (beL on) (by cases on; exact .inr rfl; exact .inl rfl))
      clear hj hsm hln hla
      generalize hbe : beL on = be at *
      gi_wp2_with fail
      refine ⟨trivial, ?_⟩
      refine (callsIn_wide.2 HNU.out).mono ?_
      rintro e w2 ⟨rfl, hb2⟩
      have HJ3 : Hid (JO J on i w2) := Lib.hid (hJ _ _ _ HJ2.out (Below.grownNone hb2))
      have HK2 := Lib.hid (KpL.of_below (p := p) (L := L) (Dk := Dk) (nm := nm) (sz := sz) (G := G) hb2)
      clear hb2
      cases on with
      | false =>
        have hne : ¬ be = ⟨#[]⟩ := by rw [← hbe]; decide
        rw [if_neg hne]
        gi_wp2_with fail
        refine ⟨(fun f h => by cases h), ?_⟩
        gi_wp2_with fail
        go_roundw
        case rel =>
          exact ⟨i + 1, by omega, by go_num, (show JO J false (i + 1) w2 from HJ3.out), HSM.out.trans HK2.out.1, HK2.out.2 HLN.out⟩
        case measure => simp [intOf]; omega
      | true =>
        have hne : be = ⟨#[]⟩ := by rw [← hbe]; rfl
        rw [if_pos hne]
        have z0 : (0 : Int) < ((i + 1 : Nat) : Int) := by omega
        obtain ⟨fn, tmps, assign, body, hy, hR⟩ := hY i (i + 1) (i + 1) w2 HJ3.out ⟨rfl, hlt, rfl, rfl⟩
        dsimp only [encI] at hy
        rw [show ((i + 1 : Nat) : Int) = (i : Int) + 1 by omega] at hy z0
        gi_wp2_with fail
        refine hR.mono ?_
        rintro e W3 (⟨rfl, hJ4, hK4⟩ | ⟨rfl, hx⟩ | ⟨ch, rfl, hpn⟩)
        · have HJ4 := Lib.hid hJ4
          have HK4 := Lib.hid (HK2.out.trans hK4)
          clear hJ4 hR hy hK4
          gi_wp2_with fail
          go_roundw
          case rel => exact ⟨i + 1, by omega, by go_num, (show JO J true (i + 1) W3 from HJ4.out), HSM.out.trans HK4.out.1, HK4.out.2 HLN.out⟩
          case measure => simp [intOf]; omega
        · gi_wp2_with fail
          go_end0
          exact .inl ⟨⟨_, rfl⟩, .inr hx⟩
        · exact ⟨rfl, .inr ⟨ch, rfl, hpn⟩⟩
    · have hlt2 : ¬ (i : Int) < (m : Int) := by omega
      gi_wp2_with fail
      go_end0
      refine .inl ⟨⟨_, rfl⟩, .inl ⟨_, ?_, HJ2.out⟩⟩
      intro hon
      rw [if_pos hon]
      omega
end Go.Proofs.YtfjmplkncopffaaGreatDoor
