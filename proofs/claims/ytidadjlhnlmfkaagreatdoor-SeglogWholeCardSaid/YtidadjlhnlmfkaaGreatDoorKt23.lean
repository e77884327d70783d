/- RgFuncK SlFiles DkRemove DkRename DkRenS DkDelS. Conditions: as stated at each. -/
import Derived.Test.YtidadjlhnlmfkaaGreatDoorKt22
import Derived.Test.YtidadjlhnlmfkaaGreatDoorKt16
import Derived.Test.YtidadjlhnlmfkaaGreatDoorKt19
import Derived.Test.YtidadjlhnlmfkaaGreatDoorKt21
import Derived.Test.YtidadjlhnlmfkaaGreatDoorKt11
/- The range over a function whose round may panic, with any frame of the rounds. Conditions: as stated at each. -/
namespace Go.Proofs.YtidadjlhnlmfkaaGreatDoor
set_option maxRecDepth 100000
open Go.RowKit Go
section
variable {P : Program} {f : FuncId} {n : Nat}
/-- what a round's yield comes to: on, out, or a panic. -/
def YdK {S : Type} (J : S → World → Prop) (Jx : World → Prop) (Jp : List PanicEntry → World → Prop) (Kp : World → World → Prop) (r : S) (W1 : World) (e : Ending) (W' : World) : Prop :=
  (e = .returned (.bool true) ∧ J r W' ∧ Kp W1 W') ∨ (e = .returned (.bool false) ∧ Jx W') ∨ (∃ ch, e = .panicked ch ∧ Jp ch W')
/-- what the iterator comes to. -/
def LnK {S : Type} (fin : S → Prop) (J : S → World → Prop) (Jx : World → Prop) (Jp : List PanicEntry → World → Prop) (e : Ending) (W' : World) : Prop :=
  ((∃ v, e = .returned v) ∧ ((∃ r, fin r ∧ J r W') ∨ Jx W')) ∨ (∃ ch, e = .panicked ch ∧ Jp ch W')
/-- how a round's body may be left. -/
def BodyK {S : Type} (B : Nat) (Kp : World → World → Prop) (I : S → World → Prop) (Ix : World → Prop) (Ip : List PanicEntry → World → Prop) (r : S) (W : World) : Exit → Act → World → Prop
  | .normal, _, W' => KeepsFrom B W W' ∧ Kp W W' ∧ I r W'
  | .ret, _, W' => KeepsFrom B W W' ∧ Ix W'
  | .panic ch, a, W' => a.defers = [] ∧ KeepsFrom B W W' ∧ Ip ch W'
  | _, _, _ => False
/-- a range over an iterator that tells its elements one by one: 'step r x r' W': at r the next one is x, and r' is left. -/
theorem wpF_rangeK {fnc : Func} (hfn : P.funcs[f]? = some fnc) {S α : Type} {g : Operand} {ps : Array Tmp} {assign body : Code} {Q : Exit → Act → World → Prop} {a : Act} {w : World} {gf : Nat} {lb : Array Value}
    (hg : a.eval g = .func (.func gf) #[] lb) (eg : ∀ args w, (callFunc gf args).run P w = .ok (.enter gf args) w)
    (enc : α → Array Value) (hps : ∀ x, (enc x).size = ps.size) (Kp : World → World → Prop) (hKt : ∀ {A B C : World}, Kp A B → Kp B C → Kp A C) (hKb : ∀ (W : World) (l : Nat) (o o' : Obj), w.heap.size ≤ l → W.heap[l]? = some o → o.isCells = false → o.isWalk = false → Kp W (W.putObj l o')) (step : S → α → S → World → Prop) (fin : S → Prop) (s0 : S)
    (hseq : ∀ (lp : Nat) (J : S → World → Prop) (Jx : World → Prop) (Jp : List PanicEntry → World → Prop) (W : World), Below w.heap.size w W → (∀ r W W', J r W → W.grownBy W' none → J r W') →
      (∀ r x r' W1, J r W1 → step r x r' W1 → YieldAt Fence.wide (n - 1) P lp (enc x) W1 (YdK J Jx Jp Kp r' W1)) → J s0 W → CallsIn Fence.wide n P gf (#[.func (.yield lp) #[] #[]] ++ lb) W (LnK fin J Jx Jp))
    (I : S → World → Prop) (Ix : World → Prop) (Ip : List PanicEntry → World → Prop)
    (hI : ∀ r W W', I r W → W.grownBy W' none → I r W')
    (hIp : ∀ r W l o o', I r W → w.heap.size ≤ l → W.heap[l]? = some o → o.isCells = false → I r (W.putObj l o'))
    (hXp : ∀ W l o o', Ix W → w.heap.size ≤ l → W.heap[l]? = some o → o.isCells = false → Ix (W.putObj l o'))
    (hst : ∀ r x r' W l o o', step r x r' W → w.heap.size ≤ l → W.heap[l]? = some o → o.isCells = false → step r x r' (W.putObj l o'))
    (h0 : I s0 w) (a₁ : α → Act)
    (hassign : ∀ (l : Nat) (x : α) (W : World) (K : Act → World → Prop), K (a₁ x) W →
      assign.wpIn (Fence.wide.inRound l) (n - 1) P (Exit.then K (fun _ _ _ => False)) { tmps := (ps.zip (enc x)).foldl (fun t (p, v) => t.setIfInBounds p v) a.tmps, defers := [] } W)
    (hbody : ∀ (l : Nat) (r : S) (x : α) (r' : S) (W : World), I r W → step r x r' W → body.wpIn (Fence.wide.inRound l) (n - 1) P (BodyK w.heap.size Kp I Ix Ip r' W) (a₁ x) W)
    (hdone : ∀ (D : Nat) (r : S) (W : World), w.heap.size ≤ D → fin r → I r W → W.heap[D]? = some (.deferred (some [])) → Q .normal { a with defers := { target := .collected D, args := #[] } :: a.defers } W)
    (hstop : ∀ (D : Nat) (W : World), w.heap.size ≤ D → Ix W → W.heap[D]? = some (.deferred (some [])) → Q .ret { a with defers := { target := .collected D, args := #[] } :: a.defers } W)
    (hpan : ∀ (D : Nat) (ch : List PanicEntry) (W : World), w.heap.size ≤ D → Ip ch W → W.heap[D]? = some (.deferred (some [])) → Q (.panic ch) { a with defers := { target := .collected D, args := #[] } :: a.defers } W) :
    WpF P f (.rangeFunc g ps assign body) Q a w := by
  refine wpF_range (n := n) hg eg fun W1 hW1 => ?_
  obtain ⟨rec, hrec⟩ : ∃ rec : LoopState → Option Code → Loop, rec = fun st pe => { state := st, pending := pe, fn := f, tmps := a.tmps, params := ps, assign, body, defers := w.heap.size } := ⟨_, rfl⟩
  have e1 : W1 = (w.alloc (.deferred (some []))).alloc (.loop (rec .ready none)) := by rw [hW1, hrec]
  clear hW1
  have hL1 : W1.heap[w.heap.size + 1]? = some (.loop (rec .ready none)) := by
    rw [e1]; have := World.alloc_heap_new (w.alloc (.deferred (some []))) (.loop (rec .ready none)); rwa [World.size_alloc] at this
  have hD1 : W1.heap[w.heap.size]? = some (.deferred (some [])) := by
    rw [e1]; exact (Below.heap_alloc _ _ _ (by simp)).trans (World.alloc_heap_new w _)
  have hI1 : I s0 W1 := by
    rw [e1]; exact hI _ _ _ (hI _ _ _ h0 (World.grownBy_alloc w _ none)) (World.grownBy_alloc _ _ none)
  have hB1 : Below w.heap.size w W1 := by
    rw [e1]; exact ((Below.refl _ w).alloc (Nat.le_refl _) _).alloc (by simp) _
  refine (hseq (w.heap.size + 1) (fun r W => I r W ∧ W.heap[w.heap.size + 1]? = some (.loop (rec .ready none)) ∧ W.heap[w.heap.size]? = some (.deferred (some [])))
    (fun W => Ix W ∧ W.heap[w.heap.size + 1]? = some (.loop (rec .done (some .ret))) ∧ W.heap[w.heap.size]? = some (.deferred (some [])))
    (fun ch W => Ip ch W ∧ W.heap[w.heap.size]? = some (.deferred (some []))) W1 hB1
    (fun r W W' ⟨h1, h2, h3⟩ hgr => ⟨hI r W W' h1 hgr, (hgr.block _ (Array.getElem?_eq_some_iff.1 h2).1 (fun e => by cases e)).trans h2, (hgr.block _ (Array.getElem?_eq_some_iff.1 h3).1 (fun e => by cases e)).trans h3⟩) ?_ ⟨hI1, hL1, hD1⟩).mono ?_
  · rintro r x r' W ⟨hi, hl, hd⟩ hs
    have hlt : w.heap.size + 1 < W.heap.size := (Array.getElem?_eq_some_iff.1 hl).1
    have hy := run_yield (P := P) (args := enc x) hl (by rw [hrec]; exact hps x)
    rw [hrec] at hy
    refine ⟨f, _, assign, body, hy, roundIn_pan hfn (hassign _ x W _ ⟨_, run_beginRound hl (by rw [hrec]), ?_⟩)⟩
    have hl2 : (W.putObj (w.heap.size + 1) (.loop { rec .ready none with state := .busy })).heap[w.heap.size + 1]? = some (.loop { rec .ready none with state := .busy }) := World.putObj_heap_same hlt
    have hd2 : (W.putObj (w.heap.size + 1) (.loop { rec .ready none with state := .busy })).heap[w.heap.size]? = some (.deferred (some [])) := (World.putObj_heap_other (by omega)).trans hd
    have hb2 : Kp W (W.putObj (w.heap.size + 1) (.loop { rec .ready none with state := .busy })) := hKb _ _ _ _ (by omega) hl rfl rfl
    refine wpIn_mono (hbody _ r x r' _ (hIp r _ _ _ _ hi (by omega) hl rfl) (hst r x r' _ _ _ _ hs (by omega) hl rfl)) ?_
    have fin3 : ∀ (jump : Option Code) (W3 : World), KeepsFrom w.heap.size (W.putObj (w.heap.size + 1) (.loop { rec .ready none with state := .busy })) W3 →
        (Instr.endRound (w.heap.size + 1) jump).run P W3 = .ok (.bool jump.isNone) (W3.putObj (w.heap.size + 1) (.loop (rec (if jump.isNone then .ready else .done) jump))) ∧
        W3.heap[w.heap.size + 1]? = some (.loop { rec .ready none with state := .busy }) ∧
        (W3.putObj (w.heap.size + 1) (.loop (rec (if jump.isNone then .ready else .done) jump))).heap[w.heap.size + 1]? = some (.loop (rec (if jump.isNone then .ready else .done) jump)) ∧
        (W3.putObj (w.heap.size + 1) (.loop (rec (if jump.isNone then .ready else .done) jump))).heap[w.heap.size]? = some (.deferred (some [])) := fun jump W3 hk3 => by
      have hl3 := hk3.same _ _ (by omega) hl2 rfl
      have := run_endRound (P := P) jump hl3
      rw [hrec] at this ⊢
      exact ⟨this, by rw [hrec] at hl3; exact hl3, World.putObj_heap_same (Array.getElem?_eq_some_iff.1 hl3).1, (World.putObj_heap_other (by omega)).trans (hk3.same _ _ (Nat.le_refl _) hd2 rfl)⟩
    rintro e a3 W3 hp
    cases e with
    | normal =>
      obtain ⟨hk3, hb3, hi3⟩ := hp
      obtain ⟨hr, hl3, hl4, hd4⟩ := fin3 none W3 hk3
      exact ⟨_, _, hr, Or.inl ⟨rfl, ⟨hIp _ _ _ _ _ hi3 (by omega) hl3 rfl, hl4, hd4⟩, hKt (hKt hb2 hb3) (hKb _ _ _ _ (by omega) hl3 rfl rfl)⟩⟩
    | ret =>
      obtain ⟨hk3, hx3⟩ := hp
      obtain ⟨hr, hl3, hl4, hd4⟩ := fin3 (some .ret) W3 hk3
      exact ⟨_, _, hr, Or.inr (Or.inl ⟨rfl, hXp _ _ _ _ hx3 (by omega) hl3 rfl, hl4, hd4⟩)⟩
    | panic ch =>
      obtain ⟨hdf, hk3, hp3⟩ := hp
      exact ⟨hdf, Or.inr (Or.inr ⟨ch, rfl, hp3, hk3.same _ _ (Nat.le_refl _) hd2 rfl⟩)⟩
    | exit id => exact hp.elim
    | goto t => exact hp.elim
    | outgrown => exact hp.elim
  · rintro e W2 (⟨⟨v, rfl⟩, (⟨r, hf, hi, hl, hd⟩ | ⟨hx, hl, hd⟩)⟩ | ⟨ch, rfl, hp, hd⟩)
    · exact ⟨none, _, by have := run_endLoop (P := P) hl (by rw [hrec]; simp); rw [hrec] at this; exact this, hdone _ r _ (Nat.le_refl _) hf (hIp _ _ _ _ _ hi (by omega) hl rfl) ((World.putObj_heap_other (by omega)).trans hd)⟩
    · exact ⟨some .ret, _, by have := run_endLoop (P := P) hl (by rw [hrec]; simp); rw [hrec] at this; exact this, wpIn_ret (hstop _ _ (Nat.le_refl _) (hXp _ _ _ _ hx (by omega) hl rfl) ((World.putObj_heap_other (by omega)).trans hd))⟩
    · exact hpan _ ch _ (Nat.le_refl _) hp hd
end
end Go.Proofs.YtidadjlhnlmfkaaGreatDoor
/- The iterator over a log's files, over names of segments. Conditions: as stated at each. -/
namespace Go.Proofs.YtidadjlhnlmfkaaGreatDoor
open Go.RowKit Go.Shelf Go Go.Maps
attribute [local go_sem] Oper.semAt_some
theorem names_are {nm : ByteArray} {F : Files} {ns : List ByteArray} {m : Nat} (h : NamesOf F ns) (hF : ∀ t, F t ≠ none ↔ ∃ j, 1 ≤ j ∧ j ≤ m ∧ t = fileN nm j) (hm : m ≤ 999999) : ns = segNames nm m := by
  have hnd : (segNames nm m).Nodup := by
    refine List.pairwise_map.2 ?_
    refine (List.pairwise_lt_range (n := m)).imp_of_mem fun {a b} ha hb hab e => ?_
    have := fileN_inj (by have := List.mem_range.1 ha; omega) (by have := List.mem_range.1 hb; omega) e
    omega
  have hpw : (segNames nm m).Pairwise (fun a b => a.data.toList ≤ b.data.toList) := by
    refine List.pairwise_map.2 ?_
    exact (List.pairwise_lt_range (n := m)).imp_of_mem fun {a b} ha hb hab => fileN_le (by omega) (by have := List.mem_range.1 hb; omega)
  refine List.Perm.eq_of_pairwise (le := fun a b => a.data.toList ≤ b.data.toList) (fun a b _ _ h1 h2 => ?_) h.2.2.1 hpw ?_
  · have := List.le_antisymm h1 h2
    rw [← toBA_list a, ← toBA_list b, this]
  · refine (List.perm_ext_iff_of_nodup h.1 hnd).2 fun t => ?_
    rw [h.2.1 t, hF t]
    unfold segNames
    rw [List.mem_map]
    constructor
    · rintro ⟨j, h1, h2, h3⟩
      exact ⟨j - 1, List.mem_range.2 (by omega), by rw [h3, show j - 1 + 1 = j by omega]⟩
    · rintro ⟨j, h1, h2⟩
      have := List.mem_range.1 h1
      exact ⟨j + 1, by omega, by omega, h2.symm⟩
theorem segNames_length (nm : ByteArray) (m : Nat) : (segNames nm m).length = m := by simp [segNames]
theorem segNames_get (nm : ByteArray) {m i : Nat} (h : i < m) : (segNames nm m)[i]? = some (fileN nm (i + 1)) := by
  simp [segNames, h]
/-- the blocks of p that hold cells lie as they lay. -/
def Sm (p : Nat → Prop) (X Y : World) : Prop := X.heap.size ≤ Y.heap.size ∧ ∀ k o, p k → X.heap[k]? = some o → o.isCells = true → Y.heap[k]? = some o
theorem Sm.refl (p : Nat → Prop) (X : World) : Sm p X X := ⟨Nat.le_refl _, fun _ _ _ h _ => h⟩
theorem Sm.trans {p : Nat → Prop} {X Y Z : World} (h : Sm p X Y) (h' : Sm p Y Z) : Sm p X Z := ⟨Nat.le_trans h.1 h'.1, fun k o hk hv hc => h'.2 k o hk (h.2 k o hk hv hc) hc⟩
theorem Sm.of_below {p : Nat → Prop} {X Y : World} (h : Below X.heap.size X Y) : Sm p X Y := ⟨h.size, fun k _ _ hv _ => (h.block k (Array.getElem?_eq_some_iff.1 hv).1).trans hv⟩
theorem Sm.blk {p : Nat → Prop} {X Y : World} (h : Sm p X Y) {g : Nat} {t : TypeId} {cs : Array Value} (hg : BlkIs X g t cs) (hp : p g) : BlkIs Y g t cs := h.2 g _ hp hg rfl
theorem Sm.of_tn {p q : Nat → Prop} {X Y : World} (h : Tn q X Y) (hpq : ∀ k, p k → ¬ q k) : Sm p X Y := ⟨h.size, fun k _ hk hv _ => (h.block k (Array.getElem?_eq_some_iff.1 hv).1 (hpq k hk)).trans hv⟩
theorem Sm.put {p : Nat → Prop} {X : World} {l : Nat} {o : Obj} (hl : X.heap[l]? = some o) (ho : o.isCells = false) (o' : Obj) : Sm p X (X.putObj l o') := by
  refine ⟨by simp, fun k u _ hv hc => ?_⟩
  refine (World.putObj_heap_other (fun e => ?_)).trans hv
  subst e
  rw [hl] at hv
  injection hv with hv
  rw [hv, hc] at ho
  cases ho
theorem Sm.cell {p : Nat → Prop} {X Y : World} (h : Sm p X Y) {a : Addr} {v : Value} (ha : p a.block) (hc : X.cell? a = some v) : Y.cell? a = some v := by
  have hc' := hc
  unfold World.cell? at hc
  split at hc
  · rename_i c1 c2 c3 ho
    have := h.2 a.block _ ha ho rfl
    rw [← hc']
    unfold World.cell?
    rw [this, ho]
  · cases hc
/-- the log lies there, whatever its last segment is. -/
def LogN (L Dk : Nat) (nm : ByteArray) (sz : Int) (G : Nat) (X : World) : Prop := ∃ last, LogB X L Dk nm sz G last false
/-- what a round keeps. -/
def KpL (p : Nat → Prop) (L Dk : Nat) (nm : ByteArray) (sz : Int) (G : Nat) (X Y : World) : Prop := Sm p X Y ∧ (LogN L Dk nm sz G X → LogN L Dk nm sz G Y)
theorem KpL.trans {p : Nat → Prop} {L Dk : Nat} {nm : ByteArray} {sz : Int} {G : Nat} {X Y Z : World} (h : KpL p L Dk nm sz G X Y) (h' : KpL p L Dk nm sz G Y Z) : KpL p L Dk nm sz G X Z := ⟨h.1.trans h'.1, fun a => h'.2 (h.2 a)⟩
theorem KpL.of_below {p : Nat → Prop} {L Dk : Nat} {nm : ByteArray} {sz : Int} {G : Nat} {X Y : World} (h : Below X.heap.size X Y) : KpL p L Dk nm sz G X Y := ⟨Sm.of_below h, fun ⟨l, hl⟩ => ⟨l, (h.block _ hl.lt).trans hl⟩⟩
def stepL (on : Bool) (m : Nat) (r x r' : Nat) (_ : World) : Prop := on = true ∧ r < m ∧ x = r + 1 ∧ r' = r + 1
def finL (on : Bool) (m : Nat) (r : Nat) : Prop := on = true → r = m
def encI (x : Nat) : Array Value := #[.int .i64 x]
def beL (on : Bool) : ByteArray := if on then ⟨#[]⟩ else spareB
/-- what holds behind i names. -/
def JO (J : Nat → World → Prop) (on : Bool) (i : Nat) (X : World) : Prop := J (if on then i else 0) X
set_option maxRecDepth 100000 in
set_option maxHeartbeats 1600000 in
theorem files_seq (n : Nat) (hn : 1 ≤ n) (on : Bool) (m : Nat) (w : World) (B0 B1 L Dk G k : Nat) (N : Nat) (Ft : Nat → Prop) (F : Files) (rm x lf : Int) (nm : ByteArray) (sz : Int) (g : List (Nat × Nat)) (p : Nat → Prop)
    (h0 : BlkIs w B0 32 #[.pointer (some ⟨L, 0, none⟩)]) (h1 : BlkIs w B1 9 #[.string (beL on)]) (h : LogS w N Ft Dk k F rm x lf false L G nm sz g false) (hk : k ≤ 1000000) (hnm : nm.size ≤ 1000000)
    (hF : ∀ t, F t ≠ none ↔ ∃ j, 1 ≤ j ∧ j ≤ m ∧ t = fileN nm j) (hm : m ≤ 999999) (hp0 : p B0) (hp1 : p B1) (hpn : ∀ k, w.heap.size ≤ k → p k)
    (lp : Nat) (J : Nat → World → Prop) (Jx : World → Prop) (Jp : List PanicEntry → World → Prop) (W : World) (hW : Below w.heap.size w W) (hJ : ∀ r W W', J r W → W.grownBy W' none → J r W')
    (hY : ∀ r x r' W1, J r W1 → stepL on m r x r' W1 → YieldAt Fence.wide (n - 1) Tryz.prog lp (encI x) W1 (YdK J Jx Jp (KpL p L Dk nm sz G) r' W1)) (h00 : J 0 W) :
    CallsIn Fence.wide n Tryz.prog 74 (#[.func (.yield lp) #[] #[]] ++ #[.pointer (some ⟨B0, 0, none⟩), .pointer (some ⟨B1, 0, none⟩)]) W (LnK (finL on m) J Jx Jp) := by
  refine callsIn_of_wp Tryz.func74 rfl trivial ?_ rfl
  have hl := h.below hW
  have c0 := (hW.cell (p := ⟨B0, 0, none⟩) h0.lt).trans (h0.cell 0)
  have cL := BlkIs.cell hl.2.1 0
  have b0W : BlkIs W B0 32 #[.pointer (some ⟨L, 0, none⟩)] := (hW.block _ h0.lt).trans h0
  have b1W : BlkIs W B1 9 #[.string (beL on)] := (hW.block _ h1.lt).trans h1
  have HNA := Lib.hid (names_any W N Ft Dk k F rm x lf hl.1 hk)
  have hLN : LogN L Dk nm sz G W := ⟨_, hl.2.1⟩
  have hwW := hW.size
  simp only [Tryz.ntmps74, List.size_toArray, List.length_cons, List.length_nil, Nat.reduceAdd, Nat.reduceSub, Array.replicate_succ, Array.replicate_zero, List.push_toArray, List.append_toArray, List.nil_append, List.cons_append]
  gi_wp2_with fail
  refine ⟨trivial, ?_⟩
  refine (callsIn_wide.2 HNA.out).mono ?_
  rintro e w1 ⟨A, cc, ns, rfl, hrow, hno, hnl, hb1⟩
  have hns := names_are hno hF hm
  subst hns
  rw [segNames_length] at hrow ⊢
  have HJ1 := Lib.hid (hJ _ _ _ h00 (Below.grownNone hb1))
  have HL1 := Lib.hid ((KpL.of_below (p := p) hb1).2 hLN)
  have HS1 := Lib.hid (show BlkIs w1 B0 32 #[.pointer (some ⟨L, 0, none⟩)] ∧ BlkIs w1 B1 9 #[.string (beL on)] from ⟨(hb1.block _ b0W.lt).trans b0W, (hb1.block _ b1W.lt).trans b1W⟩)
  have HROW := Lib.hid hrow
  clear hrow hno hl h h00 hLN
  gi_wp2_with fail
  gi_loopw [13] (fun v wr => ∃ i : Nat, i ≤ m ∧ v = .int .i64 i ∧ JO J on i wr ∧ Sm p w1 wr ∧ LogN L Dk nm sz G wr) (fun v _ => m - (intOf v).toNat)
  case atStart => exact ⟨0, Nat.zero_le _, rfl, (by unfold JO; cases on <;> exact HJ1.out), Sm.refl _ _, HL1.out⟩
  case round =>
    obtain ⟨i, hi, rfl, hj, hsm, hln⟩ := hrel
    have HJ2 := Lib.hid hj
    have HSM := Lib.hid hsm
    have HLN := Lib.hid hln
    by_cases hlt : i < m
    · have hlt2 : (i : Int) < (m : Int) := by omega
      obtain ⟨gr, cap, hv, hgN, hglt⟩ := HROW.out.form (by omega)
      injection hv with hv1 hv2 hv3
      subst hv1
      subst hv3
      have hcell : wr.cell? ⟨gr, i, none⟩ = some (.string (fileN nm (i + 1))) := by
        have h1 := HROW.out.cells (g := gr) rfl i (.string (fileN nm (i + 1))) (by rw [List.getElem?_map, segNames_get nm hlt]; rfl)
        have h2 : w1.cell? ⟨gr, i, none⟩ = some (.string (fileN nm (i + 1))) := by
          have e : (⟨gr, 0, none⟩ : Addr).add i = ⟨gr, i, none⟩ := by unfold Addr.add; split <;> simp_all
          rwa [e] at h1
        exact HSM.out.cell (a := ⟨gr, i, none⟩) (hpn gr (by omega)) h2
      have x0 := (HSM.out.blk HS1.out.1 hp0).cell 0
      have x1 := (HSM.out.blk HS1.out.2 hp1).cell 0
      obtain ⟨la, hla⟩ := HLN.out
      have HNU := Lib.hid (number_any wr L Dk nm sz G la false hla hnm (i + 1) (by omega) (beL on) (by cases on; exact .inr rfl; exact .inl rfl))
      clear hj hsm hln hla
      generalize hbe : beL on = be at *
      gi_wp2_with fail
      refine ⟨trivial, ?_⟩
      refine (callsIn_wide.2 HNU.out).mono ?_
      rintro e w2 ⟨rfl, hb2⟩
      have HJ3 : Hid (JO J on i w2) := Lib.hid (hJ _ _ _ HJ2.out (Below.grownNone hb2))
      have HK2 := Lib.hid (KpL.of_below (p := p) (L := L) (Dk := Dk) (nm := nm) (sz := sz) (G := G) hb2)
      clear hb2
      cases on with
      | false =>
        have hne : ¬ be = ⟨#[]⟩ := by rw [← hbe]; decide
        rw [if_neg hne]
        gi_wp2_with fail
        refine ⟨(fun f h => by cases h), ?_⟩
        gi_wp2_with fail
        go_roundw
        case rel =>
          exact ⟨i + 1, by omega, by go_num, (show JO J false (i + 1) w2 from HJ3.out), HSM.out.trans HK2.out.1, HK2.out.2 HLN.out⟩
        case measure => simp [intOf]; omega
      | true =>
        have hne : be = ⟨#[]⟩ := by rw [← hbe]; rfl
        rw [if_pos hne]
        have z0 : (0 : Int) < ((i + 1 : Nat) : Int) := by omega
        obtain ⟨fn, tmps, assign, body, hy, hR⟩ := hY i (i + 1) (i + 1) w2 HJ3.out ⟨rfl, hlt, rfl, rfl⟩
        dsimp only [encI] at hy
        rw [show ((i + 1 : Nat) : Int) = (i : Int) + 1 by omega] at hy z0
        gi_wp2_with fail
        refine hR.mono ?_
        rintro e W3 (⟨rfl, hJ4, hK4⟩ | ⟨rfl, hx⟩ | ⟨ch, rfl, hpn⟩)
        · have HJ4 := Lib.hid hJ4
          have HK4 := Lib.hid (HK2.out.trans hK4)
          clear hJ4 hR hy hK4
          gi_wp2_with fail
          go_roundw
          case rel => exact ⟨i + 1, by omega, by go_num, (show JO J true (i + 1) W3 from HJ4.out), HSM.out.trans HK4.out.1, HK4.out.2 HLN.out⟩
          case measure => simp [intOf]; omega
        · gi_wp2_with fail
          go_end0
          exact .inl ⟨⟨_, rfl⟩, .inr hx⟩
        · exact ⟨rfl, .inr ⟨ch, rfl, hpn⟩⟩
    · have hlt2 : ¬ (i : Int) < (m : Int) := by omega
      gi_wp2_with fail
      go_end0
      refine .inl ⟨⟨_, rfl⟩, .inl ⟨_, ?_, HJ2.out⟩⟩
      intro hon
      rw [if_pos hon]
      omega
end Go.Proofs.YtidadjlhnlmfkaaGreatDoor
/- (*disk.Disk).remove, and Rename's closure. Conditions: as stated at each. -/
namespace Go.Proofs.YtidadjlhnlmfkaaGreatDoor
open Go.RowKit Go.Shelf Go
def RemPost (W : World) (Dk M k : Nat) (D : DataW Value) (s : ByteArray) (r l b : Value) (x : Int) (w' : World) : Prop :=
  BlkIs w' Dk 55 #[.map (some M), r, .int .i64 x, l, b] ∧ MapIs w' M k (D.del (kOf s)) ∧ Tn (fun i => i = Dk ∨ i = M) W w'
set_option maxRecDepth 20000 in
set_option maxHeartbeats 800000 in
theorem remove_any (W : World) (Dk M k : Nat) (D : DataW Value) (s : ByteArray) (r l b : Value) (x : Int) (n0 : Nat)
    (hD : BlkIs W Dk 55 #[.map (some M), r, .int .i64 x, l, b]) (hM : MapIs W M k D) (ho : OldIs D s n0) (hs : s.size ≤ maxLen) (hx : 0 ≤ x) (hx2 : x ≤ 1000000000000) (hn0 : n0 ≤ 1000000000000) :
    Calls Tryz.prog 78 #[.pointer (some ⟨Dk, 0, none⟩), .string s] W fun e w' => e = .returned (.tuple #[]) ∧ RemPost W Dk M k D s r l b (x - n0) w' := by
  have hne : M ≠ Dk := Held.not_blk hM hD
  obtain ⟨a0, c0', z0, hlook⟩ := look_old ho hs
  have HL := Lib.hid hlook
  clear hlook ho
  have hfd : ∀ w (v u : Value), (Instr.field 71 (.agg #[v, u]) 0).run Tryz.prog w = .ok v w := fun _ _ _ => by kernel_rfl
  go_enter Tryz.func78, Tryz.ntmps78
  go_wp2_with fail
  refine still_tail 15 (by kernel_rfl) (by kernel_rfl) (fun W1 hk1 => ?_)
  have hT1 := (Tn.refl (fun i => i = Dk ∨ i = M) W).alk hk1
  have hD2 := hk1.blk hD
  have hM2 := Held.same hM (congrArg (·[M]?) hk1.1)
  have c0 := hD2.cell 0
  have c2 := hD2.cell 2
  have f2 := hD2.froz 2
  have hl := HL.out W1 M k hM2
  simp only [List.take_succ_cons, List.take_zero, List.drop_succ_cons, List.drop_zero]
  repeat still_step
  refine wpStill_nil ?_
  go_wp2_with fail
  have hD3 : BlkIs (W1.setCell ⟨Dk, 2, none⟩ (.int .i64 (x - n0))) Dk 55 #[.map (some M), r, .int .i64 (x - n0), l, b] := by
    have := hD2.put 2 (.int .i64 (x - n0))
    simpa using this
  have hM3 := Held.same hM2 (Below.heap_setCell W1 ⟨Dk, 2, none⟩ (.int .i64 (x - n0)) M hne)
  have hT3 := hT1.setCell (x := ⟨Dk, 2, none⟩) (.inl (.inl rfl)) (.int .i64 (x - n0))
  obtain ⟨W5, hrun, hM5, hg5⟩ := held_del hM3 Tryz.underlying9 Tryz.underlying53 hs 0
  have hD5 := hD3.grown hg5 (fun e => hne (by injection e))
  have hT5 := hT3.grown hg5 (fun g e => .inl (.inr (by injection e with e; exact e.symm)))
  rw [hrun]
  clear hT1 hD2 hM2 c0 c2 f2 hl hrun hM3 hD3 hT3
  go_wp2_with fail
  go_end0
  exact ⟨rfl, hD5, hM5, hT5⟩
/-- Rename's closure: the file goes from one name to another. -/
theorem ren_any (W : World) (Dk M k : Nat) (D : DataW Value) (s s2 : ByteArray) (r l b : Value) (x : Int) (n0 n2 : Nat) (a : Option Addr) (n c : Nat) (z : Int) (B1 B2 B3 B4 : Nat)
    (hD : BlkIs W Dk 55 #[.map (some M), r, .int .i64 x, l, b]) (hM : MapIs W M k D) (ho : OldIs D s n0) (ho2 : OldIs (D.del (kOf s)) s2 n2) (hs : s.size ≤ maxLen) (hs2 : s2.size ≤ maxLen) (hk : k < maxLen) (hx : (n0 : Int) ≤ x) (hx2 : x ≤ 1000000000000) (hn0 : n0 ≤ 1000000000000) (hn2 : n2 ≤ 1000000000000) (hn : n ≤ 1000000000000)
    (b1 : BlkIs W B1 30 #[.pointer (some ⟨Dk, 0, none⟩)]) (b2 : BlkIs W B2 9 #[.string s]) (b3 : BlkIs W B3 9 #[.string s2]) (b4 : BlkIs W B4 71 #[.slice a n c, .int .i64 z]) :
    Calls Tryz.prog 92 #[.pointer (some ⟨B1, 0, none⟩), .pointer (some ⟨B2, 0, none⟩), .pointer (some ⟨B3, 0, none⟩), .pointer (some ⟨B4, 0, none⟩)] W fun e w' => e = .returned (.tuple #[]) ∧
      BlkIs w' Dk 55 #[.map (some M), r, .int .i64 (x - n0 + (n - n2)), l, b] ∧ MapIs w' M (k + 1) ((D.del (kOf s)).put (kOf s2) (.held (.agg #[.slice a n c, .int .i64 z]))) ∧ Tn (fun i => i = Dk ∨ i = M) W w' := by
  have ne : ∀ {B : Nat} {t : TypeId} {cs : Array Value}, BlkIs W B t cs → t ≠ 55 → ¬ (B = Dk ∨ B = M) := fun {B t cs} hb ht e => by
    rcases e with rfl | rfl
    · unfold BlkIs at hb hD
      rw [hb] at hD
      injection hD with hD
      injection hD with _ hD
      exact ht hD
    · exact Held.not_blk hM hb rfl
  have hr := Lib.hid (remove_any W Dk M k D s r l b x n0 hD hM ho hs (by omega) hx2 hn0)
  have p1 := b1.cell 0
  have p2 := b2.cell 0
  go_enter Tryz.func92, Tryz.ntmps92
  go_wp2_with fail
  refine hr.out.mono ?_
  rintro e w1 ⟨rfl, hD1, hM1, hT1⟩
  have c1 := (b1.tn hT1 (ne b1 (by decide))).cell 0
  have c3 := (b3.tn hT1 (ne b3 (by decide))).cell 0
  have c4 := (b4.tn hT1 (ne b4 (by decide))).cell 0
  have c5 := (b4.tn hT1 (ne b4 (by decide))).cell 1
  have hp := Lib.hid (put_any w1 Dk M k _ s2 r l b (x - n0) n2 a n c z hD1 hM1 ho2 hs2 hk (by omega) (by omega) hn hn2)
  have HT := Lib.hid hT1
  clear hD1 hM1 hT1 p1 p2
  go_wp2_with fail
  refine hp.out.mono ?_
  rintro e w2 ⟨rfl, hD2, hM2, hT2⟩
  have HD := Lib.hid hD2
  have HM := Lib.hid hM2
  have HT2 := Lib.hid (HT.out.trans hT2)
  clear hD2 hM2 hT2
  go_wp2_with fail
  go_end0
  exact ⟨rfl, HD.out, HM.out, HT2.out⟩
end Go.Proofs.YtidadjlhnlmfkaaGreatDoor
/- (*disk.Disk).Rename where the file is there and the power does not fail. Conditions: as stated at each. -/
namespace Go.Proofs.YtidadjlhnlmfkaaGreatDoor
open Go.RowKit Go.Shelf Go
theorem Strs.two {w : World} {g : Nat} {s s2 : ByteArray} (h : BlkIs w g 9 #[.string s, .string s2]) (hs : s.size ≤ maxLen) (hs2 : s2.size ≤ maxLen) : Strs w (some ⟨g, 0, none⟩) [s, s2] := fun k t hk => by
  rcases k with _ | _ | k
  · cases hk
    exact ⟨hs, _, rfl, h.cell 0⟩
  · cases hk
    exact ⟨hs2, _, rfl, h.cell 1⟩
  · simp at hk
set_option maxRecDepth 20000 in
set_option maxHeartbeats 1600000 in
theorem rename_zero (W : World) (Dk M k : Nat) (D : DataW Value) (s s2 : ByteArray) (r : Value) (x lf : Int) (a : Option Addr) (n c n2 : Nat) (z : Int)
    (hD : BlkIs W Dk 55 #[.map (some M), r, .int .i64 x, .int .i64 lf, .bool false]) (hM : MapIs W M k D) (hs : s.size ≤ maxLen) (hs2 : s2.size ≤ maxLen) (hb : nameB s = true) (hb2 : nameB s2 = true) (ho : at_ D s = some (.agg #[.slice a n c, .int .i64 z])) (ho2 : OldIs (D.del (kOf s)) s2 n2)
    (hk : k < maxLen) (hx : (n : Int) ≤ x) (hx2 : x ≤ 1000000000000) (hn : n ≤ 1000000000000) (hn2 : n2 ≤ 1000000000000) (hlf : ¬ 1 ≤ lf) :
    Calls Tryz.prog 72 #[.pointer (some ⟨Dk, 0, none⟩), .string s, .string s2] W fun e w' => e = .returned (.int .i64 0) ∧
      BlkIs w' Dk 55 #[.map (some M), r, .int .i64 (x - n + (n - n2)), .int .i64 lf, .bool false] ∧ MapIs w' M (k + 1) ((D.del (kOf s)).put (kOf s2) (.held (.agg #[.slice a n c, .int .i64 z]))) ∧ Tn (fun i => i = Dk ∨ i = M) W w' := by
  have hx0 : ∀ w (v u : Value), (Instr.extract (.tuple #[v, u]) 0).run Tryz.prog w = .ok v w := fun _ _ _ => by kernel_rfl
  have hx1 : ∀ w (v u : Value), (Instr.extract (.tuple #[v, u]) 1).run Tryz.prog w = .ok u w := fun _ _ _ => by kernel_rfl
  have hen : ∀ args w, (callFunc 92 args).run Tryz.prog w = .ok (.enter 92 args) w := enters_of Tryz.func92 (by kernel_rfl) rfl
  obtain ⟨k0, k1, k2, k3, _⟩ := four_new W 30 9 9 9 #[.pointer (some ⟨Dk, 0, none⟩)] #[.string s] #[.string s2] #[.string s, .string s2] (fun i => i = Dk ∨ i = M)
  have kB := four_below W 30 9 9 9 #[.pointer (some ⟨Dk, 0, none⟩)] #[.string s] #[.string s2] #[.string s, .string s2]
  go_enter Tryz.func72, Tryz.ntmps72
  go_wp2_with fail
  generalize ((((W.alloc (Obj.cells #[Value.pointer (some ⟨Dk, 0, none⟩)] 30)).alloc (Obj.cells #[Value.string s] 9)).alloc (Obj.cells #[Value.string s2] 9)).alloc (Obj.cells #[Value.string s, Value.string s2] 9)) = W3 at *
  have kD : BlkIs W3 Dk 55 _ := (kB.block Dk hD.lt).trans hD
  have kM : MapIs W3 M k D := Held.same hM (kB.block M (Held.lt hM))
  refine (find_some W3 Dk M k 2 D _ s [s2] _ _ _ a n c z kD kM (Strs.two k3 hs hs2) (fun ad e => by cases e; exact k3.lt) (by unfold maxLen; simp) (by simp [hb, hb2]) ho).mono ?_
  rintro e W4 ⟨rfl, hb4⟩
  have jB := kB.trans (hb4.mono kB.size)
  have k'D : BlkIs W4 Dk 55 _ := (hb4.block Dk kD.lt).trans kD
  have jD := k'D.alloc (.cells #[.slice a n c, .int .i64 z] 71)
  have k'0 : BlkIs W4 _ 30 _ := (hb4.block _ k0.lt).trans k0
  have j0 := k'0.alloc (.cells #[.slice a n c, .int .i64 z] 71)
  have k'1 : BlkIs W4 _ 9 _ := (hb4.block _ k1.lt).trans k1
  have j1 := k'1.alloc (.cells #[.slice a n c, .int .i64 z] 71)
  have k'2 : BlkIs W4 _ 9 _ := (hb4.block _ k2.lt).trans k2
  have j2 := k'2.alloc (.cells #[.slice a n c, .int .i64 z] 71)
  have jF := BlkIs.new W4 71 #[.slice a n c, .int .i64 z]
  have q0 := j0.cell 0
  go_wp2_with fail
  have jB5 := jB.alloc jB.size (.cells #[.slice a n c, .int .i64 z] 71)
  have jM : MapIs (W4.alloc (.cells #[.slice a n c, .int .i64 z] 71)) M k D := Held.same hM (jB5.block M (Held.lt hM))
  have jT : Tn (fun i => i = Dk ∨ i = M) W (W4.alloc (.cells #[.slice a n c, .int .i64 z] 71)) := Tn.of_below jB5
  clear kB kD kM hb4 jB k'D k'0 k'1 k'2 k0 k1 k2 k3 q0 jB5
  generalize W4.alloc (.cells #[.slice a n c, .int .i64 z] 71) = W5 at *
  refine (change_zero 92 _ _ W5 Dk lf (by omega) (jD.cell 3) _ (hen _) (ren_any W5 Dk M k D s s2 _ _ _ x n n2 a n c z _ _ _ _ jD jM (.inr ⟨a, c, z, ho⟩) ho2 hs hs2 hk hx hx2 hn hn2 hn j0 j1 j2 jF)).mono ?_
  rintro e w' ⟨rfl, p1, p2, p3⟩
  go_wp2_with fail
  go_ret
  exact ⟨rfl, p1, p2, jT.trans p3⟩
end Go.Proofs.YtidadjlhnlmfkaaGreatDoor
/- Rename over the disk's state. Conditions: as stated at each. -/
namespace Go.Proofs.YtidadjlhnlmfkaaGreatDoor
open Go.RowKit Go.Shelf Go Go.Maps
theorem isMap_del {W : World} {M k : Nat} {D : DataW Value} {s : ByteArray} (hM : MapIs W M k D) (hs : s.size ≤ maxLen) : IsMap (D.del (kOf s)) := by
  obtain ⟨w', _, h, _⟩ := held_del hM Tryz.underlying9 Tryz.underlying53 hs 0
  exact Held.isMap h
theorem files_ren {W W' : World} {N : Nat} {Ft : Nat → Prop} {D : DataW Value} {F : Files} {Dk M k : Nat} {s s2 : ByteArray} {t : TypeId} {cs : Array Value} {bs : List UInt8} {z c : Nat} {a : Option Addr}
    (h : FilesIs W N Ft D F) (hM : MapIs W M k D) (hD : BlkIs W Dk t cs) (ht : t ≠ 5) (hs : s.size ≤ maxLen) (hf : F s = some (bs, z)) (ha : at_ D s = some (.agg #[.slice a bs.length c, .int .i64 (z : Nat)])) (hT : Tn (fun i => i = Dk ∨ i = M) W W') :
    FilesIs W' N Ft ((D.del (kOf s)).put (kOf s2) (.held (.agg #[.slice a bs.length c, .int .i64 (z : Nat)]))) ((F.upd s none).upd s2 (some (bs, z))) := by
  obtain ⟨h1, h2, h3⟩ := files_keep (Ft' := Ft) h hT (fun _ h => h) (fun v l g ho hg hp => by
    rcases hp with hp | hp
    · exact Own5.not_blk ho hD ht (by rw [hg, hp])
    · exact Own5.not_map ho hM (by rw [hg, hp]))
  have hI := isMap_del hM hs
  have hat : ∀ t', at_ ((D.del (kOf s)).put (kOf s2) (.held (.agg #[.slice a bs.length c, .int .i64 (z : Nat)]))) t' = if t' = s2 then some (.agg #[.slice a bs.length c, .int .i64 (z : Nat)]) else if t' = s then none else at_ D t' := fun t' => by
    rw [at_put hI, at_del]
  refine ⟨fun t' ht' => ?_, fun t' bs' z' ht' => ?_, fun t1 t2 v1 v2 z1 z2 hne a1 a2 => ?_⟩
  · rw [hat]
    unfold Files.upd at ht'
    by_cases e : t' = s2
    · rw [if_pos e] at ht'; cases ht'
    · rw [if_neg e] at ht' ⊢
      by_cases e2 : t' = s
      · rw [if_pos e2]
      · rw [if_neg e2] at ht' ⊢
        exact h1 t' ht'
  · rw [hat]
    unfold Files.upd at ht'
    by_cases e : t' = s2
    · rw [if_pos e] at ht' ⊢
      injection ht' with ht'
      injection ht' with e1 e2
      subst e1
      subst e2
      obtain ⟨a', c', g1, g2, g3, g4⟩ := h2 s bs z hf
      rw [ha] at g1
      injection g1 with g1
      injection g1 with g1
      have g1' := congrArg Array.toList g1
      simp at g1'
      obtain ⟨rfl, rfl⟩ := g1'
      exact ⟨a, c, rfl, g2, g3, g4⟩
    · rw [if_neg e] at ht' ⊢
      by_cases e2 : t' = s
      · rw [if_pos e2] at ht'; cases ht'
      · rw [if_neg e2] at ht' ⊢
        exact h2 t' bs' z' ht'
  · rw [hat] at a1 a2
    have inj : ∀ {v0 z0 : Value}, (some (Value.agg #[.slice a bs.length c, .int .i64 (z : Nat)]) = some (.agg #[v0, z0])) → Value.slice a bs.length c = v0 := fun e => by
      injection e with e
      injection e with e
      have e' := congrArg Array.toList e
      simp at e'
      exact e'.1
    by_cases c1 : t1 = s2
    · rw [if_pos c1] at a1
      rw [if_neg (fun e => hne (c1.trans e.symm))] at a2
      have := inj a1
      subst this
      by_cases c2 : t2 = s
      · rw [if_pos c2] at a2; cases a2
      · rw [if_neg c2] at a2
        exact h3 s t2 _ v2 _ z2 (fun e => c2 e.symm) ha a2
    · rw [if_neg c1] at a1
      by_cases c3 : t1 = s
      · rw [if_pos c3] at a1; cases a1
      · rw [if_neg c3] at a1
        by_cases c2 : t2 = s2
        · rw [if_pos c2] at a2
          have := inj a2
          subst this
          exact h3 t1 s v1 _ z1 _ c3 a1 ha
        · rw [if_neg c2] at a2
          by_cases c4 : t2 = s
          · rw [if_pos c4] at a2; cases a2
          · rw [if_neg c4] at a2
            exact h3 t1 t2 v1 v2 z1 z2 hne a1 a2
/-- Rename of a file that is there, the power on for good. -/
theorem rename_S (W : World) (N : Nat) (Ft : Nat → Prop) (Dk k : Nat) (F : Files) (s s2 : ByteArray) (rm x lf : Int) (bs : List UInt8) (z : Nat)
    (hS : DiskS W N Ft Dk k F rm x lf false) (hb : nameB s = true) (hb2 : nameB s2 = true) (hne : s2 ≠ s) (hf : F s = some (bs, z)) (hk : k < maxLen) (hx : (bs.length : Int) ≤ x) (hx2 : x ≤ 100000000) (hn2 : lenOf F s2 ≤ 100000000) (hlf : ¬ 1 ≤ lf) :
    Calls Tryz.prog 72 #[.pointer (some ⟨Dk, 0, none⟩), .string s, .string s2] W fun e w' => e = .returned (.int .i64 0) ∧ DiskS w' N (NewFt Ft W w') Dk (k + 1) ((F.upd s none).upd s2 (some (bs, z))) rm (x - lenOf F s2) lf false ∧ Tn Ft W w' := by
  obtain ⟨M, D, hD, hM, f1, f2, hF⟩ := hS
  obtain ⟨a, c, e1, e2, e3, e4⟩ := hF.2.1 s bs z hf
  obtain ⟨a2, c2, o1, _⟩ := hF.old s2
  have ho2 : OldIs (D.del (kOf s)) s2 (lenOf F s2) := by
    have h0 := o1.is
    rcases h0 with ⟨h1, h2⟩ | ⟨a', c', z', h1⟩
    · exact .inl ⟨by rw [at_del, if_neg hne]; exact h1, h2⟩
    · exact .inr ⟨a', c', z', by rw [at_del, if_neg hne]; exact h1⟩
  refine (rename_zero W Dk M k D s s2 _ x lf a bs.length c (lenOf F s2) z hD hM (nameB_size hb) (nameB_size hb2) hb hb2 e1 ho2 hk hx (by omega) (by omega) (by omega) hlf).mono ?_
  rintro e w' ⟨rfl, p1, p2, p3⟩
  rw [show x - (bs.length : Int) + ((bs.length : Int) - (lenOf F s2 : Int)) = x - (lenOf F s2 : Int) by omega] at p1
  have hFi := files_ren (s2 := s2) hF hM hD (by decide) (nameB_size hb) hf e1 p3
  refine ⟨rfl, ⟨M, _, p1, p2, .inl f1, .inl f2, hFi.1, fun t bs' z' ht => ?_, hFi.2.2⟩, p3.mono fun i _ hi => ?_⟩
  · obtain ⟨a', c', g1, g2, g3, g4⟩ := hFi.2.1 t bs' z' ht
    exact ⟨a', c', g1, g2, g3, fun g hg => .inl (g4 g hg)⟩
  · rcases hi with rfl | rfl
    · exact f1
    · exact f2
end Go.Proofs.YtidadjlhnlmfkaaGreatDoor
/- Delete over the disk's state. Conditions: as stated at each. -/
namespace Go.Proofs.YtidadjlhnlmfkaaGreatDoor
open Go.RowKit Go.Shelf Go Go.Maps
set_option maxHeartbeats 800000 in
theorem del1_any (W : World) (Dk M k B0 B1 : Nat) (D : DataW Value) (s : ByteArray) (r l b : Value) (x : Int) (n0 : Nat)
    (hD : BlkIs W Dk 55 #[.map (some M), r, .int .i64 x, l, b]) (hM : MapIs W M k D) (ho : OldIs D s n0) (hs : s.size ≤ maxLen) (hx : 0 ≤ x) (hx2 : x ≤ 1000000000000) (hn : n0 ≤ 1000000000000)
    (h0 : BlkIs W B0 30 #[.pointer (some ⟨Dk, 0, none⟩)]) (h1 : BlkIs W B1 9 #[.string s]) :
    Does 77 #[.pointer (some ⟨B0, 0, none⟩), .pointer (some ⟨B1, 0, none⟩)] W (RemPost W Dk M k D s r l b (x - n0)) := by
  have q0 := h0.cell 0
  have q1 := h1.cell 0
  have hp := remove_any W Dk M k D s r l b x n0 hD hM ho hs hx hx2 hn
  unfold Does
  go_enter Tryz.func77, Tryz.ntmps77
  go_wp2_with (go_at_call 78; refine hp.mono ?_; rintro e w' ⟨rfl, hp⟩)
  go_end0
  exact ⟨rfl, hp⟩
set_option maxRecDepth 20000 in
set_option maxHeartbeats 1600000 in
theorem delete_zero (W : World) (Dk M k : Nat) (D : DataW Value) (s : ByteArray) (r : Value) (x lf : Int) (a : Option Addr) (n c : Nat) (z : Int)
    (hD : BlkIs W Dk 55 #[.map (some M), r, .int .i64 x, .int .i64 lf, .bool false]) (hM : MapIs W M k D) (hs : s.size ≤ maxLen) (hb : nameB s = true) (ho : at_ D s = some (.agg #[.slice a n c, .int .i64 z])) (hx : 0 ≤ x) (hx2 : x ≤ 1000000000000) (hn : n ≤ 1000000000000) (hlf : ¬ 1 ≤ lf) :
    Calls Tryz.prog 53 #[.pointer (some ⟨Dk, 0, none⟩), .string s] W fun e w' => e = .returned (.int .i64 0) ∧ RemPost W Dk M k D s r (.int .i64 lf) (.bool false) (x - n) w' := by
  have hx0 : ∀ w (v u : Value), (Instr.extract (.tuple #[v, u]) 0).run Tryz.prog w = .ok v w := fun _ _ _ => by kernel_rfl
  have hx1 : ∀ w (v u : Value), (Instr.extract (.tuple #[v, u]) 1).run Tryz.prog w = .ok u w := fun _ _ _ => by kernel_rfl
  have hen : ∀ args w, (callFunc 77 args).run Tryz.prog w = .ok (.enter 77 args) w := enters_of Tryz.func77 (by kernel_rfl) rfl
  obtain ⟨k0, k1, k2, kT⟩ := three_new W 30 9 9 #[.pointer (some ⟨Dk, 0, none⟩)] #[.string s] #[.string s] (fun i => i = Dk ∨ i = M)
  have kB := three_below W 30 9 9 #[.pointer (some ⟨Dk, 0, none⟩)] #[.string s] #[.string s]
  go_enter Tryz.func53, Tryz.ntmps53
  go_wp2_with fail
  generalize (((W.alloc (Obj.cells #[Value.pointer (some ⟨Dk, 0, none⟩)] 30)).alloc (Obj.cells #[Value.string s] 9)).alloc (Obj.cells #[Value.string s] 9)) = W3 at *
  have kD : BlkIs W3 Dk 55 _ := (kB.block Dk hD.lt).trans hD
  have kM : MapIs W3 M k D := Held.same hM (kB.block M (Held.lt hM))
  refine (find_some W3 Dk M k 1 D _ s [] _ _ _ a n c z kD kM (Strs.one k2 hs) (fun ad e => by cases e; exact k2.lt) (by unfold maxLen; simp) (by simp [hb]) ho).mono ?_
  rintro e W4 ⟨rfl, hb4⟩
  have jB := kB.trans (hb4.mono kB.size)
  have k'D : BlkIs W4 Dk 55 _ := (hb4.block Dk kD.lt).trans kD
  have jD := k'D.alloc (.cells #[.slice a n c, .int .i64 z] 71)
  have k'0 : BlkIs W4 _ 30 _ := (hb4.block _ k0.lt).trans k0
  have j0 := k'0.alloc (.cells #[.slice a n c, .int .i64 z] 71)
  have k'1 : BlkIs W4 _ 9 _ := (hb4.block _ k1.lt).trans k1
  have j1 := k'1.alloc (.cells #[.slice a n c, .int .i64 z] 71)
  have q0 := j0.cell 0
  go_wp2_with fail
  have jB5 := jB.alloc jB.size (.cells #[.slice a n c, .int .i64 z] 71)
  have jM : MapIs (W4.alloc (.cells #[.slice a n c, .int .i64 z] 71)) M k D := Held.same hM (jB5.block M (Held.lt hM))
  have jT : Tn (fun i => i = Dk ∨ i = M) W (W4.alloc (.cells #[.slice a n c, .int .i64 z] 71)) := Tn.of_below jB5
  clear kB kD kM hb4 jB k'D k'0 k'1 k0 k1 k2 kT q0 jB5
  generalize W4.alloc (.cells #[.slice a n c, .int .i64 z] 71) = W5 at *
  refine (change_zero 77 _ _ W5 Dk lf (by omega) (jD.cell 3) _ (hen _) (del1_any W5 Dk M k _ _ D s _ _ _ x n jD jM (.inr ⟨a, c, z, ho⟩) hs hx hx2 hn j0 j1)).mono ?_
  rintro e w' ⟨rfl, p1, p2, p3⟩
  go_wp2_with fail
  go_ret
  exact ⟨rfl, p1, p2, jT.trans p3⟩
/-- Delete of a file that is there, the power on for good. -/
theorem delete_S (W : World) (N : Nat) (Ft : Nat → Prop) (Dk k : Nat) (F : Files) (s : ByteArray) (rm x lf : Int) (bs : List UInt8) (z : Nat)
    (hS : DiskS W N Ft Dk k F rm x lf false) (hb : nameB s = true) (hf : F s = some (bs, z)) (hx : (bs.length : Int) ≤ x) (hx2 : x ≤ 100000000) (hlf : ¬ 1 ≤ lf) :
    Calls Tryz.prog 53 #[.pointer (some ⟨Dk, 0, none⟩), .string s] W fun e w' => e = .returned (.int .i64 0) ∧ DiskS w' N (NewFt Ft W w') Dk k (F.upd s none) rm (x - bs.length) lf false ∧ Tn Ft W w' := by
  obtain ⟨M, D, hD, hM, f1, f2, hF⟩ := hS
  obtain ⟨a, c, e1, e2, e3, e4⟩ := hF.2.1 s bs z hf
  refine (delete_zero W Dk M k D s _ x lf a bs.length c z hD hM (nameB_size hb) hb e1 (by omega) (by omega) (by omega) hlf).mono ?_
  rintro e w' ⟨rfl, p1, p2, p3⟩
  have hFi := files_del (s := s) hF hM hD (by decide) p3
  refine ⟨rfl, ⟨M, _, p1, p2, .inl f1, .inl f2, hFi.1, fun t bs' z' ht => ?_, hFi.2.2⟩, p3.mono fun i _ hi => ?_⟩
  · obtain ⟨a', c', g1, g2, g3, g4⟩ := hFi.2.1 t bs' z' ht
    exact ⟨a', c', g1, g2, g3, fun g hg => .inl (g4 g hg)⟩
  · rcases hi with rfl | rfl
    · exact f1
    · exact f2
end Go.Proofs.YtidadjlhnlmfkaaGreatDoor
