/- DkApp. Conditions: as stated at each. -/
import Derived.Test.YtidadjlhnlmfkaaGreatDoorKt08
import Derived.Deep.RegionHeld3
import Derived.Deep.RegionLaw
import Derived.Deep.RegionWith
/- (*disk.Disk).Append's closure at whatever state. Conditions: as stated at each. -/
namespace Go.Proofs.YtidadjlhnlmfkaaGreatDoor
set_option maxRecDepth 100000
open Go.RowKit Go
/-- append onto a row of the call's own, and where the new one lies. -/
theorem run_app_at {P : Program} (w : World) {N : Nat} {t ty e : TypeId} {i : TypeInfo} {z : Value} {bytes : Nat} (ht : P.underlying t = some (.slice e)) (hi : P.info? e = some i) (hz : i.zero = some z)
    (hsize : i.size = 1) (hby : i.bytes = bytes) (hzs : z.cells.size = 1) {v : Value} {n : Nat} {xs : List Value} (hown : w.ownsRow N e 1 v n xs)
    {B : Nat} {A : Option Addr} {m c : Nat} {news : List Value} (hr : Cs w B A news) (hl : news.length = m) (h1 : ∀ u ∈ news, u.oneCell' = true) (h63 : n + m ≤ 1000000000) (hbytes : bytes ≤ 24) (hN : N ≤ w.heap.size) :
    ∃ v' w', (Builtin.append_ #[t, t] ty #[v, .slice A m c]).run P w = .ok v' w' ∧ w'.ownsRow N e 1 v' (n + m) (xs ++ news) ∧ w.grownBy w' v.ownBlock ∧ (v'.ownBlock = v.ownBlock ∨ v'.ownBlock = some w.heap.size) := by
  rcases A with _ | ad
  · have hn : news = [] := by
      rcases news with _ | ⟨b, l⟩
      · rfl
      · obtain ⟨ad, e, _⟩ := hr 0 _ rfl
        cases e
    subst hn
    have hm : m = 0 := by simpa using hl.symm
    subst hm
    refine ⟨v, w, ?_, by simpa using hown, ⟨rfl, rfl, rfl, Nat.le_refl _, fun _ _ _ => rfl⟩, .inl rfl⟩
    rcases hown.2 with ⟨rfl, rfl⟩ | ⟨g, cap, cur, rfl, _, _, hnc, _⟩
    · simp [Builtin.append_, run_underlying ht, sizeOf, typeInfo, hi, Builtin.lenOf, Builtin.firstCells]
    · simp [Builtin.append_, run_underlying ht, sizeOf, typeInfo, hi, Builtin.lenOf, Builtin.firstCells, hnc, storeCells]
  · have hcells : ∀ j u, news[j]? = some u → w.cell? (ad.add j) = some u := fun j u hj => by
      obtain ⟨ad', e, _, hc⟩ := hr j u hj
      injection e with e
      subst e
      exact hc
    obtain ⟨v', w', hrun, h2, h3, _, h5⟩ := run_append_own_at (P := P) w N t ty e i z 1 bytes ht hi hz hsize hby hzs (by omega) v n xs hown ad m c news (by rw [hl, Nat.mul_one]) hcells h1 (by unfold maxLen; omega)
      (Nat.le_trans (Nat.mul_le_mul h63 hbytes) (by decide)) hN
    exact ⟨v', w', hrun, h2, h3, h5⟩
theorem stepA {ops : Array Oper} {o : Oper} {a : Act} {w : World} {K : Act → World → Prop} {Q : Exit → Act → World → Prop} {E : Prop} (s x : Operand)
    (ho : o.op = .call { callee := .builtin .append, args := #[s, x], argTypes := #[26, 26] }) (hgd : o.guard = none)
    (N : Nat) (v : Value) (l m : List UInt8) (n : Nat) (hs : a.eval s = v) (hown : Own5 w N v l)
    (B : Nat) (A : Option Addr) (c : Nat) (hx : a.eval x = .slice A n c) (hl : m.length = n) (hr : Bts w B A m) (h63 : l.length + n ≤ 1000000000) (hN : N ≤ w.heap.size)
    (h : ∀ v' w', Own5 w' N v' (l ++ m) → w.grownBy w' v.ownBlock → (v'.ownBlock = v.ownBlock ∨ v'.ownBlock = some w.heap.size) → K (a.put o.dst v') w') : if Region.wanted o (yielded ops a.tmps) = true then Oper.wp Tryz.prog o a w K Q else E := by
  have hw : Region.wanted o (yielded ops a.tmps) = true := by simp [Region.wanted, hgd]
  rw [if_pos hw]
  obtain ⟨i, hi, hz, h0, h1⟩ := info_parts info5
  subst hl
  obtain ⟨v', w', hrun, h2, h3, h4⟩ := run_app_at (P := Tryz.prog) w (ty := o.type) Tryz.underlying26 hi hz h0 h1 rfl hown hr (bv_length m) (bv_one m) h63 (by decide) hN (c := c)
  unfold Oper.wp execOp
  simp only [ho, resolve, invoke, builtin, Sem.run_bind, Sem.run_pure, Result.andThen_ok, List.map_toArray, List.map_cons, List.map_nil, hs, hx, hrun]
  refine h v' w' ?_ h3 h4
  unfold Own5
  rw [List.length_append, bv_append]
  exact h2
/-- a row of bytes is no block of another type. -/
theorem Own5.not_blk {w : World} {N : Nat} {v : Value} {l : List UInt8} (h : Own5 w N v l) {g : Nat} {t : TypeId} {cs : Array Value} (hg : BlkIs w g t cs) (ht : t ≠ 5) : v.ownBlock ≠ some g := by
  rcases h.2 with ⟨rfl, _⟩ | ⟨g', cap, cur, rfl, _, hh, _⟩
  · simp [Value.ownBlock]
  · intro he
    have : g' = g := by simpa [Value.ownBlock] using he
    subst this
    unfold BlkIs at hg
    rw [hh] at hg
    injection hg with hg
    injection hg with _ h2
    exact ht h2.symm
theorem Own5.not_map {w : World} {N : Nat} {v : Value} {l : List UInt8} (h : Own5 w N v l) {M n : Nat} {D : DataW Value} (hM : MapIs w M n D) : v.ownBlock ≠ some M := by
  rcases h.2 with ⟨rfl, _⟩ | ⟨g', cap, cur, rfl, _, hh, _⟩
  · simp [Value.ownBlock]
  · intro he
    have : g' = M := by simpa [Value.ownBlock] using he
    subst this
    obtain ⟨es, clock, h1, _⟩ := hM
    rw [hh] at h1
    cases h1
theorem Own5.tn {p : Nat → Prop} {w w' : World} {N : Nat} {v : Value} {l : List UInt8} (h : Own5 w N v l) (k : Tn p w w') (hp : ∀ g, v.ownBlock = some g → ¬ p g) : Own5 w' N v l := by
  refine ⟨h.1, ?_⟩
  rcases h.2 with hn | ⟨g, cap, cur, rfl, hb, hgg, rest⟩
  · exact .inl hn
  · refine .inr ⟨g, cap, cur, rfl, hb, ?_, rest⟩
    rw [k.block g (Array.getElem?_eq_some_iff.1 hgg).1 (hp g rfl)]
    exact hgg
/-- by that name stands this slice and number, or nothing. -/
def OldV (D : DataW Value) (s : ByteArray) (a : Option Addr) (n c : Nat) (z : Int) : Prop :=
  (at_ D s = none ∧ a = none ∧ n = 0 ∧ c = 0 ∧ z = 0) ∨ at_ D s = some (.agg #[.slice a n c, .int .i64 z])
theorem OldV.is {D : DataW Value} {s : ByteArray} {a : Option Addr} {n c : Nat} {z : Int} (h : OldV D s a n c z) : OldIs D s n := by
  rcases h with ⟨h, _, h2, _⟩ | h
  · exact .inl ⟨h, h2⟩
  · exact .inr ⟨a, c, z, h⟩
theorem OldV.look {D : DataW Value} {s : ByteArray} {a : Option Addr} {n c : Nat} {z : Int} (h : OldV D s a n c z) (hs : s.size ≤ maxLen) {w : World} {M k : Nat} (hM : MapIs w M k D) :
    (Instr.lookup 53 (.map (some M)) (.string s) false).run Tryz.prog w = .ok (.agg #[.slice a n c, .int .i64 z]) w := by
  rcases h with ⟨h, rfl, rfl, rfl, rfl⟩ | h
  · rw [held_look hM Tryz.underlying9 Tryz.underlying53 hs (zero58 w) false, h]; rfl
  · rw [held_look hM Tryz.underlying9 Tryz.underlying53 hs (zero58 w) false, h]; rfl
/-- behind an append: the file's slice owns the bytes, old and new; where it lies. -/
def AppPost (W : World) (N Dk M k : Nat) (D : DataW Value) (s : ByteArray) (r l b : Value) (x z : Int) (row : Option Nat) (bs : List UInt8) (w' : World) : Prop :=
  ∃ v, BlkIs w' Dk 55 #[.map (some M), r, .int .i64 x, l, b] ∧ MapIs w' M (k + 1) (D.put (kOf s) (.held (.agg #[v, .int .i64 z]))) ∧ Own5 w' N v bs ∧ (v.ownBlock = row ∨ ∃ g, v.ownBlock = some g ∧ W.heap.size ≤ g) ∧ Tn (fun i => i = Dk ∨ i = M ∨ row = some i) W w'
set_option maxRecDepth 20000 in
set_option maxHeartbeats 1600000 in
theorem app1_any (W : World) (N Dk M k B0 B1 B2 : Nat) (D : DataW Value) (s : ByteArray) (r l b : Value) (x : Int) (a0 : Option Addr) (n0 c0 : Nat) (z : Int) (bs : List UInt8) (A : Option Addr) (B cap : Nat) (news : List UInt8)
    (hD : BlkIs W Dk 55 #[.map (some M), r, .int .i64 x, l, b]) (hM : MapIs W M k D) (hf : OldV D s a0 n0 c0 z) (hs : s.size ≤ maxLen) (hk : k < maxLen) (hx : 0 ≤ x) (hx2 : x ≤ 100000000) (hbs : bs.length = n0) (hn0 : n0 ≤ 100000000) (hm : news.length ≤ 100000000)
    (h0 : BlkIs W B0 30 #[.pointer (some ⟨Dk, 0, none⟩)]) (h1 : BlkIs W B1 9 #[.string s]) (h2 : BlkIs W B2 26 #[.slice A news.length cap])
    (hown : Own5 W N (.slice a0 n0 c0) bs) (hN : N ≤ W.heap.size) (hS : Bts W B A news) (hB : B ≤ W.heap.size) :
    Calls Tryz.prog 57 #[.pointer (some ⟨B0, 0, none⟩), .pointer (some ⟨B1, 0, none⟩), .pointer (some ⟨B2, 0, none⟩)] W fun e w' => e = .returned (.tuple #[]) ∧ AppPost W N Dk M k D s r l b (x + news.length) z (Value.slice a0 n0 c0).ownBlock (bs ++ news) w' := by
  have dlt := hD.lt
  have mlt := Held.lt hM
  have l0 := h0.lt
  have l1 := h1.lt
  have l2 := h2.lt
  have q0 := h0.cell 0
  have q1 := h1.cell 0
  have d0 := hD.cell 0
  have hl := hf.look hs hM
  have hl1 := fun o => hf.look hs (w := W.alloc o) (Held.same hM (Below.heap_alloc W o M mlt))
  have hl0 := hf.look hs (w := W.drew) hM
  have hl2 := fun o => hf.look hs (w := (W.alloc o).drew) (Held.same hM (Below.heap_alloc W o M mlt))
  go_enter Tryz.func57, Tryz.ntmps57
  go_wp2_with fail
  go_region
  go_wp2_with fail
  have hal := (Below.refl W.heap.size W).alloc (Nat.le_refl _) (Obj.cells #[Value.slice a0 n0 c0, Value.int IntKind.i64 z] 71)
  have hT2 := ((Tn.refl (fun i => i = Dk ∨ i = M ∨ (Value.slice a0 n0 c0).ownBlock = some i) W).alloc (Obj.cells #[Value.slice a0 n0 c0, Value.int IntKind.i64 z] 71)).alk (c := (W.alloc (Obj.cells #[Value.slice a0 n0 c0, Value.int IntKind.i64 z] 71)).drew) ⟨rfl, rfl, rfl, rfl⟩
  have hD2 : BlkIs (W.alloc (Obj.cells #[Value.slice a0 n0 c0, Value.int IntKind.i64 z] 71)).drew Dk 55 _ := hD.alloc (Obj.cells #[Value.slice a0 n0 c0, Value.int IntKind.i64 z] 71)
  have hF2 : BlkIs (W.alloc (Obj.cells #[Value.slice a0 n0 c0, Value.int IntKind.i64 z] 71)).drew W.heap.size 71 _ := BlkIs.new W 71 #[Value.slice a0 n0 c0, Value.int IntKind.i64 z]
  have hM2 : MapIs (W.alloc (Obj.cells #[Value.slice a0 n0 c0, Value.int IntKind.i64 z] 71)).drew M k D := Held.same hM (Below.heap_alloc W (Obj.cells #[Value.slice a0 n0 c0, Value.int IntKind.i64 z] 71) M mlt)
  have h02 : BlkIs (W.alloc (Obj.cells #[Value.slice a0 n0 c0, Value.int IntKind.i64 z] 71)).drew B0 30 _ := h0.alloc (Obj.cells #[Value.slice a0 n0 c0, Value.int IntKind.i64 z] 71)
  have h12 : BlkIs (W.alloc (Obj.cells #[Value.slice a0 n0 c0, Value.int IntKind.i64 z] 71)).drew B1 9 _ := h1.alloc (Obj.cells #[Value.slice a0 n0 c0, Value.int IntKind.i64 z] 71)
  have h22 : BlkIs (W.alloc (Obj.cells #[Value.slice a0 n0 c0, Value.int IntKind.i64 z] 71)).drew B2 26 _ := h2.alloc (Obj.cells #[Value.slice a0 n0 c0, Value.int IntKind.i64 z] 71)
  have hown2 : Own5 (W.alloc (Obj.cells #[Value.slice a0 n0 c0, Value.int IntKind.i64 z] 71)).drew N (.slice a0 n0 c0) bs := own_kept hown hal.drew (Nat.le_refl _)
  have hS2 : Bts (W.alloc (Obj.cells #[Value.slice a0 n0 c0, Value.int IntKind.i64 z] 71)).drew B A news := hS.below (hal.mono hB).drew
  clear hl hl0 hl1 hl2 q0 q1 d0 hal
  generalize (W.alloc (Obj.cells #[Value.slice a0 n0 c0, Value.int IntKind.i64 z] 71)).drew = Wc at *
  have hNc : N ≤ Wc.drew.heap.size := Nat.le_trans hN hT2.size
  have hown3 : Own5 Wc.drew N (.slice a0 n0 c0) bs := hown2
  have hS3 : Bts Wc.drew B A news := hS2
  have q0 := h02.cell 0
  have q1 := h12.cell 0
  have q2 := h22.cell 0
  have r0 := hF2.cell 0
  have r1 := hF2.cell 1
  have n0' := hown2.not_blk h02 (by decide)
  have n1' := hown2.not_blk h12 (by decide)
  have n2' := hown2.not_blk h22 (by decide)
  have nF' := hown2.not_blk hF2 (by decide)
  have nD' := hown2.not_blk hD2 (by decide)
  have nM' := hown2.not_map hM2
  have hDM : ¬ M = Dk := Held.not_blk hM2 hD2
  have neD : ∀ {g : Nat} {t : TypeId} {cs : Array Value}, BlkIs Wc g t cs → t ≠ 55 → ¬ g = Dk := fun hg ht e => by
    subst e
    unfold BlkIs at hg hD2
    rw [hg] at hD2
    injection hD2 with h
    injection h with _ h
    exact ht h
  have e0 : ¬ (B0 = Dk ∨ B0 = M) := fun e => e.elim (neD h02 (by decide)) (fun e => Held.not_blk hM2 h02 e.symm)
  have e1 : ¬ (B1 = Dk ∨ B1 = M) := fun e => e.elim (neD h12 (by decide)) (fun e => Held.not_blk hM2 h12 e.symm)
  have e2 : ¬ (B2 = Dk ∨ B2 = M) := fun e => e.elim (neD h22 (by decide)) (fun e => Held.not_blk hM2 h22 e.symm)
  have eF : ¬ (W.heap.size = Dk ∨ W.heap.size = M) := fun e => e.elim (neD hF2 (by decide)) (fun e => Held.not_blk hM2 hF2 e.symm)
  have hdr : Tn (fun _ => False) Wc Wc.drew := (Tn.refl _ Wc).alk ⟨rfl, rfl, rfl, rfl⟩
  have H0 : BlkIs Wc.drew B0 30 _ := h02
  have H1 : BlkIs Wc.drew B1 9 _ := h12
  have H2 : BlkIs Wc.drew B2 26 _ := h22
  have HF : BlkIs Wc.drew W.heap.size 71 _ := hF2
  have HD : BlkIs Wc.drew Dk 55 _ := hD2
  have HM : MapIs Wc.drew M k D := hM2
  go_region_held3 (fun w' => w'.cell? ⟨B0, 0, none⟩ = some (.pointer (some ⟨Dk, 0, none⟩)) ∧ w'.cell? ⟨B1, 0, none⟩ = some (.string s) ∧ w'.cell? ⟨B2, 0, none⟩ = some (.slice A news.length cap) ∧ w'.cell? ⟨W.heap.size, 0, none⟩ = some (.slice a0 n0 c0) ∧ w'.cell? ⟨W.heap.size, 1, none⟩ = some (.int .i64 z))
    (first
      | go_keep
      | exact ⟨(H0.grown hg3 n0').cell 0, (H1.grown hg3 n1').cell 0, (H2.grown hg3 n2').cell 0, (HF.grown hg3 nF').cell 0, (HF.grown hg3 nF').cell 1⟩
      | exact ⟨((H0.grown hg3 n0').tn hp.2.2 e0).cell 0, ((H1.grown hg3 n1').tn hp.2.2 e1).cell 0, ((H2.grown hg3 n2').tn hp.2.2 e2).cell 0, ((HF.grown hg3 nF').tn hp.2.2 eF).cell 0, ((HF.grown hg3 nF').tn hp.2.2 eF).cell 1⟩)
    (first
      | (refine stepA _ _ (by rfl) (by rfl) N (.slice a0 n0 c0) bs news news.length (by rfl) hown3 B A cap (by rfl) rfl hS3 (by omega) hNc ?_; intro v w1 hown4 hg3 hat3; obtain ⟨Av, cv, rfl, _⟩ := own_slice hown4; have hD3 := HD.grown hg3 nD'; have hM3 := Held.same HM (hg3.block M (Held.lt HM) (fun e => nM' e.symm)); have hl4 : (bs ++ news).length = n0 + news.length := by rw [List.length_append, hbs])
      | (go_at_call 34; refine (put_any w1 Dk M k D s r l b x n0 Av _ cv z hD3 hM3 hf.is hs hk hx (by omega) (by omega) (by omega)).mono ?_; rintro e w2 ⟨rfl, hp⟩))
  go_wp2_with fail
  go_end0
  obtain ⟨p1, p2, p3⟩ := hp
  have o4 := hown4.tn p3 (fun g hg e => e.elim (fun e => hown4.not_blk hD3 (by decide) (by rw [hg, e])) (fun e => hown4.not_map hM3 (by rw [hg, e])))
  have hsz : W.heap.size ≤ Wc.drew.heap.size := hT2.size
  rw [hl4] at o4 hat3
  have hx3 : x + (((n0 + news.length : Nat) : Int) - (n0 : Nat)) = x + (news.length : Nat) := by omega
  refine ⟨rfl, _, ?_, p2, o4, ?_, (hT2.trans (hdr.mono (fun _ _ h => h.elim))).trans ((Tn.refl _ Wc.drew).grown hg3 (fun g e => .inl (.inr (.inr e))) |>.trans (p3.mono (fun i _ h => h.elim .inl (fun h => .inr (.inl h)))))⟩
  · rw [← hx3]; exact p1
  · rcases hat3 with h | h
    · exact .inl h
    · exact .inr ⟨_, h, hsz⟩
end Go.Proofs.YtidadjlhnlmfkaaGreatDoor
