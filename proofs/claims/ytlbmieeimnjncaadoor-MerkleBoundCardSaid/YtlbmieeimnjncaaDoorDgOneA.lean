/- The contract of the document's turn over one block: the words. Conditions: as stated at each. -/
import Derived.Test.YtlbmieeimnjncaaDoorDgWordR
namespace Go.Proofs.YtlbmieeimnjncaaDoor
set_option maxRecDepth 100000
open Go.RowKit Go
theorem info37 : (Tryd.prog.info? 58).map (fun i => (i.zero, i.size, i.bytes)) = some (some (.int .u32 0), 1, 4) := by kernel_rfl
/-- words behind words. -/
theorem app37 {w : World} {ops : Array Oper} {rest : List Oper} {o : Oper} {a : Act} {Q : Exit → Act → World → Prop} (s x : Operand)
    (ho : o.op = .call { callee := .builtin .append, args := #[s, x], argTypes := #[57, 57] }) (hgd : o.guard = none)
    (N : Nat) (v : Value) (n : Nat) (l m : List Nat) (hs : a.eval s = v) (hown : w.ownsRow N 58 1 v n (wv l))
    (B : Nat) (A : Option Addr) (k c : Nat) (hx : a.eval x = .slice A k c) (hr : Cs w B A (wv m)) (hm : m.length = k) (h63 : n + k ≤ 1000000000) (hN : N ≤ w.heap.size)
    (h : ∀ v' w', w'.ownsRow N 58 1 v' (n + k) (wv (l ++ m)) → w.grownBy w' v.ownBlock → wpList Tryd.prog ops Q rest (a.put o.dst v') w') : wpList Tryd.prog ops Q (o :: rest) a w := by
  obtain ⟨i, hi, hz, h0, h1⟩ := info_parts info37
  refine wpList_plain hgd fun _ hK => wp_app s x ho Tryd.underlying57 hi hz h0 h1 rfl hs hown hx hr (by rw [wv_length, hm]) (wv_one m) h63 (by decide) hN fun v' w' h2 h3 => hK _ _ (h v' w' ?_ h3)
  rw [wv_append]
  exact h2
theorem step37 {w : World} {ops : Array Oper} {o : Oper} {a : Act} {K : Act → World → Prop} {Q : Exit → Act → World → Prop} {E : Prop} (s x : Operand)
    (ho : o.op = .call { callee := .builtin .append, args := #[s, x], argTypes := #[57, 57] }) (hgd : o.guard = none)
    (N : Nat) (v : Value) (n : Nat) (l m : List Nat) (hs : a.eval s = v) (hown : w.ownsRow N 58 1 v n (wv l))
    (B : Nat) (A : Option Addr) (k c : Nat) (hx : a.eval x = .slice A k c) (hr : Cs w B A (wv m)) (hm : m.length = k) (h63 : n + k ≤ 1000000000) (hN : N ≤ w.heap.size)
    (h : ∀ v' w', w'.ownsRow N 58 1 v' (n + k) (wv (l ++ m)) → w.grownBy w' v.ownBlock → K (a.put o.dst v') w') : if Region.wanted o (yielded ops a.tmps) = true then Oper.wp Tryd.prog o a w K Q else E := by
  have hw : Region.wanted o (yielded ops a.tmps) = true := by simp [Region.wanted, hgd]
  rw [if_pos hw]
  obtain ⟨i, hi, hz, h0, h1⟩ := info_parts info37
  refine wp_app s x ho Tryd.underlying57 hi hz h0 h1 rfl hs hown hx hr (by rw [wv_length, hm]) (wv_one m) h63 (by decide) hN fun v' w' h2 h3 => h v' w' ?_ h3
  rw [wv_append]
  exact h2
/-- append onto a row of the call's own: the row's cells that there were stand as they were, wherever the row lies behind it. -/
theorem run_keep {P : Program} (w : World) {N : Nat} {t ty e : TypeId} {i : TypeInfo} {z : Value} (ht : P.underlying t = some (.slice e)) (hi : P.info? e = some i) (hz : i.zero = some z)
    (hsize : i.size = 1) (hby : i.bytes ≤ 24) (hzs : z.cells.size = 1) {g cap n : Nat} {xs : List Value} (hown : w.ownsRow N e 1 (.slice (some ⟨g, 0, none⟩) n cap) n xs)
    {ad : Addr} {m c : Nat} {news : List Value} (hl : news.length = m) (hnews : ∀ j u, news[j]? = some u → w.cell? (ad.add j) = some u) (h1 : ∀ u ∈ news, u.oneCell' = true) (h63 : n + m ≤ 1000000000) (hN : N ≤ w.heap.size) :
    ∃ v' w', (Builtin.append_ #[t, t] ty #[.slice (some ⟨g, 0, none⟩) n cap, .slice (some ad) m c]).run P w = .ok v' w' ∧ w'.ownsRow N e 1 v' (n + m) (xs ++ news) ∧ w.grownBy w' (some g) ∧
      ∀ j u, xs[j]? = some u → w'.cell? ⟨g, j, none⟩ = some u := by
  have hbytes : (n + m) * i.bytes ≤ 140737488355328 := Nat.le_trans (Nat.mul_le_mul h63 hby) (by decide)
  obtain ⟨v', w', hrun, h2, h3, _⟩ := run_append_own_at (P := P) w N t ty e i z 1 i.bytes ht hi hz hsize rfl hzs (by omega) _ n xs hown ad m c news (by rw [hl, Nat.mul_one]) hnews h1 (by unfold maxLen; omega) hbytes hN
  refine ⟨v', w', hrun, h2, h3, ?_⟩
  have hx : xs.length = n := by have := hown.1; omega
  rcases hown.2 with ⟨hv, _⟩ | ⟨g', cap', cur, hv, _, hg, hnc, hcm, hcs, htake⟩
  · cases hv
  · injection hv with hv1 _ hv3
    injection hv1 with hv1
    injection hv1 with hv1
    subst hv1
    subst hv3
    have hcell : ∀ j u, xs[j]? = some u → w.cell? ⟨g, j, none⟩ = some u := fun j u hj => by
      have := hown.cells (g := g) rfl j u hj
      rwa [Addr.add_mid, Nat.zero_add] at this
    by_cases hroom : n + m ≤ cap
    · have hr := run_append_room (P := P) w t ty e i ht hi g n cap cur hg ad m c news (by rw [hl, hsize, Nat.mul_one]) hnews h1 hroom (by rw [hsize, Nat.mul_one, hl]; omega)
      rw [hrun] at hr
      injection hr with _ hr
      subst hr
      intro j u hj
      have hjn : j < n := by rw [← hx]; exact (List.getElem?_eq_some_iff.1 hj).1
      rw [cell_of_row _ g j _ e (0, 0) (setRow_heap w g cur _ e _ hg)]
      have hcur : cur.toList[j]? = some u := by
        have := hcell j u hj
        rw [cell_of_row w g j cur e (0, 0) hg] at this
        simpa using this
      rw [List.getElem?_toArray, List.append_assoc, List.getElem?_append_left (by rw [List.length_take, Array.length_toList, hsize]; omega), List.getElem?_take, if_pos (by rw [hsize]; omega)]
      exact hcur
    · have holds : ∀ j u, xs[j]? = some u → w.cell? ((⟨g, 0, none⟩ : Addr).add j) = some u := hown.cells (g := g) rfl
      have hr := run_append_grow (P := P) w t ty e i z ht hi hz ⟨g, 0, none⟩ n cap xs (by rw [hx, hsize, Nat.mul_one]) holds ad m c news (by rw [hl, hsize, Nat.mul_one]) hnews (by omega) (by omega) (growslice_fits (by omega) hbytes)
      rw [hrun] at hr
      injection hr with _ hr
      subst hr
      intro j u hj
      have hlt : g < w.heap.size := (Array.getElem?_eq_some_iff.1 hg).1
      rw [World.cell?_alloc_lt _ _ _ hlt]
      exact hcell j u hj
theorem step37k {w : World} {ops : Array Oper} {o : Oper} {a : Act} {K : Act → World → Prop} {Q : Exit → Act → World → Prop} {E : Prop} (s x : Operand)
    (ho : o.op = .call { callee := .builtin .append, args := #[s, x], argTypes := #[57, 57] }) (hgd : o.guard = none)
    (N : Nat) (g cap n : Nat) (l m : List Nat) (hs : a.eval s = .slice (some ⟨g, 0, none⟩) n cap) (hown : w.ownsRow N 58 1 (.slice (some ⟨g, 0, none⟩) n cap) n (wv l))
    (ad : Addr) (k c : Nat) (hx : a.eval x = .slice (some ad) k c) (hr : ∀ j u, (wv m)[j]? = some u → w.cell? (ad.add j) = some u) (hm : m.length = k) (h63 : n + k ≤ 1000000000) (hN : N ≤ w.heap.size)
    (h : ∀ v' w', w'.ownsRow N 58 1 v' (n + k) (wv (l ++ m)) → w.grownBy w' (some g) → (∀ j u, (wv l)[j]? = some u → w'.cell? ⟨g, j, none⟩ = some u) → K (a.put o.dst v') w') : if Region.wanted o (yielded ops a.tmps) = true then Oper.wp Tryd.prog o a w K Q else E := by
  have hw : Region.wanted o (yielded ops a.tmps) = true := by simp [Region.wanted, hgd]
  rw [if_pos hw]
  obtain ⟨i, hi, hz, h0, h1⟩ := info_parts info37
  obtain ⟨v', w', hrun, h2, h3, h4⟩ := run_keep (P := Tryd.prog) w (ty := o.type) Tryd.underlying57 hi hz h0 (by omega) rfl hown (by rw [wv_length, hm]) hr (wv_one m) h63 hN (c := c)
  unfold Oper.wp execOp
  simp only [ho, resolve, invoke, builtin, Sem.run_bind, Sem.run_pure, Result.andThen_ok, List.map_toArray, List.map_cons, List.map_nil, hs, hx, hrun]
  exact h v' w' (by rw [wv_append]; exact h2) h3 h4
/-- what stands in loop 1: the words so far. -/
structure OneW (N : Nat) (W wr : World) (blk : List UInt8) (A2 : Addr) (v : Value) (k : Nat) : Prop where
  own : wr.ownsRow N 58 1 v k (wv (wl blk k))
  below : Below N W wr
  b : Bts wr N (some A2) blk
theorem OneW.alk {N : Nat} {W wr w1 : World} {blk : List UInt8} {A2 : Addr} {v : Value} {k : Nat} (h : OneW N W wr blk A2 v k) (a : Alk wr w1) : OneW N W w1 blk A2 v k :=
  ⟨own_kept h.own (a.below wr.heap.size) (Nat.le_refl _), h.below.trans (a.below _), h.b.below (a.below _)⟩
theorem cs_new37 (w : World) (l : List Nat) (C : Array Value) (h : C.toList = wv l) : Cs (w.alloc (.cells C 58)) (w.heap.size + 1) (some ⟨w.heap.size, 0, none⟩) (wv l) := fun j u hj =>
  ⟨_, rfl, by simp, World.news_of_block (heap_alloc_new w _) j u (by rw [h]; exact hj)⟩
theorem OneW.own2 {N : Nat} {W wr : World} {blk : List UInt8} {A2 : Addr} {v : Value} {k : Nat} (h : OneW N W wr blk A2 v k) (C : Array Value) : (wr.alloc (.cells C 58)).ownsRow N 58 1 v k (wv (wl blk k)) :=
  own_kept h.own ((Below.refl wr.heap.size wr).alloc (Nat.le_refl _) _) (Nat.le_refl _)
theorem OneW.more {N : Nat} {W wr w1 : World} {blk : List UInt8} {A2 : Addr} {v : Value} {k : Nat} (h : OneW N W wr blk A2 v k) (hN : N ≤ wr.heap.size) (b : Below wr.heap.size wr w1) : OneW N W w1 blk A2 v k :=
  ⟨own_kept h.own b (Nat.le_refl _), h.below.trans (b.mono hN), h.b.below (b.mono hN)⟩
theorem OneW.grow {W wr w2 : World} {blk : List UInt8} {A2 : Addr} {v v2 : Value} {k : Nat} {C : Array Value} (h : OneW W.heap.size W wr blk A2 v k) (h2 : Bts W W.heap.size (some A2) blk) (ho : w2.ownsRow W.heap.size 58 1 v2 (k + 1) (wv (wl blk k ++ [nextW blk (wl blk k)])))
    (hg : (wr.alloc (.cells C 58)).grownBy w2 v.ownBlock) : OneW W.heap.size W w2 blk A2 v2 (k + 1) := by
  have hb : Below W.heap.size W w2 := grown_below (h.below.alloc h.below.size _) (Nat.le_refl _) (h.own2 C) hg
  exact ⟨ho, hb, h2.below hb⟩
theorem rr2 (x : Nat) (w : World) (m : Nat) (hx : x < 4294967296) : Calls Tryd.prog 31 #[.int .u32 x, .int .i64 2] (w.drewN m) fun e w'' => e = .returned (.int .u32 (rotr 2 x : Nat)) ∧ ∃ k, w'' = w.drewN k := quiet_q (fun w => rright_any x 2 w hx (by decide) (by decide)) w m
theorem rr6 (x : Nat) (w : World) (m : Nat) (hx : x < 4294967296) : Calls Tryd.prog 31 #[.int .u32 x, .int .i64 6] (w.drewN m) fun e w'' => e = .returned (.int .u32 (rotr 6 x : Nat)) ∧ ∃ k, w'' = w.drewN k := quiet_q (fun w => rright_any x 6 w hx (by decide) (by decide)) w m
theorem rr7 (x : Nat) (w : World) (m : Nat) (hx : x < 4294967296) : Calls Tryd.prog 31 #[.int .u32 x, .int .i64 7] (w.drewN m) fun e w'' => e = .returned (.int .u32 (rotr 7 x : Nat)) ∧ ∃ k, w'' = w.drewN k := quiet_q (fun w => rright_any x 7 w hx (by decide) (by decide)) w m
theorem rr11 (x : Nat) (w : World) (m : Nat) (hx : x < 4294967296) : Calls Tryd.prog 31 #[.int .u32 x, .int .i64 11] (w.drewN m) fun e w'' => e = .returned (.int .u32 (rotr 11 x : Nat)) ∧ ∃ k, w'' = w.drewN k := quiet_q (fun w => rright_any x 11 w hx (by decide) (by decide)) w m
theorem rr13 (x : Nat) (w : World) (m : Nat) (hx : x < 4294967296) : Calls Tryd.prog 31 #[.int .u32 x, .int .i64 13] (w.drewN m) fun e w'' => e = .returned (.int .u32 (rotr 13 x : Nat)) ∧ ∃ k, w'' = w.drewN k := quiet_q (fun w => rright_any x 13 w hx (by decide) (by decide)) w m
theorem rr17 (x : Nat) (w : World) (m : Nat) (hx : x < 4294967296) : Calls Tryd.prog 31 #[.int .u32 x, .int .i64 17] (w.drewN m) fun e w'' => e = .returned (.int .u32 (rotr 17 x : Nat)) ∧ ∃ k, w'' = w.drewN k := quiet_q (fun w => rright_any x 17 w hx (by decide) (by decide)) w m
theorem rr18 (x : Nat) (w : World) (m : Nat) (hx : x < 4294967296) : Calls Tryd.prog 31 #[.int .u32 x, .int .i64 18] (w.drewN m) fun e w'' => e = .returned (.int .u32 (rotr 18 x : Nat)) ∧ ∃ k, w'' = w.drewN k := quiet_q (fun w => rright_any x 18 w hx (by decide) (by decide)) w m
theorem rr19 (x : Nat) (w : World) (m : Nat) (hx : x < 4294967296) : Calls Tryd.prog 31 #[.int .u32 x, .int .i64 19] (w.drewN m) fun e w'' => e = .returned (.int .u32 (rotr 19 x : Nat)) ∧ ∃ k, w'' = w.drewN k := quiet_q (fun w => rright_any x 19 w hx (by decide) (by decide)) w m
theorem rr22 (x : Nat) (w : World) (m : Nat) (hx : x < 4294967296) : Calls Tryd.prog 31 #[.int .u32 x, .int .i64 22] (w.drewN m) fun e w'' => e = .returned (.int .u32 (rotr 22 x : Nat)) ∧ ∃ k, w'' = w.drewN k := quiet_q (fun w => rright_any x 22 w hx (by decide) (by decide)) w m
theorem rr25 (x : Nat) (w : World) (m : Nat) (hx : x < 4294967296) : Calls Tryd.prog 31 #[.int .u32 x, .int .i64 25] (w.drewN m) fun e w'' => e = .returned (.int .u32 (rotr 25 x : Nat)) ∧ ∃ k, w'' = w.drewN k := quiet_q (fun w => rright_any x 25 w hx (by decide) (by decide)) w m
theorem sh3_val (i j k d x : Nat) (hx : x < 4294967296) (hd : 2 ^ k = d) : bits .xor .u32 (bits .xor .u32 (rotr i x : Nat) (rotr j x : Nat)) ((x : Int) / (d : Int)) = ((sh3 i j k x : Nat) : Int) := by
  subst hd
  rw [show (x : Int) / ((2 ^ k : Nat) : Int) = ((x / 2 ^ k : Nat) : Int) from by simp, u32_xor_nat _ _ (rotr_lt _ hx) (rotr_lt _ hx), u32_xor_nat _ _ (xor_lt' (rotr_lt _ hx) (rotr_lt _ hx)) (Nat.lt_of_le_of_lt (Nat.div_le_self _ _) hx)]
  rfl
theorem rot3_val (i j k x : Nat) (hx : x < 4294967296) : bits .xor .u32 (bits .xor .u32 (rotr i x : Nat) (rotr j x : Nat)) (rotr k x : Nat) = ((rot3 i j k x : Nat) : Int) := by
  rw [u32_xor_nat _ _ (rotr_lt _ hx) (rotr_lt _ hx), u32_xor_nat _ _ (xor_lt' (rotr_lt _ hx) (rotr_lt _ hx)) (rotr_lt _ hx)]
  rfl
theorem OneW.cell {N : Nat} {W wr : World} {blk : List UInt8} {A2 : Addr} {g cap k : Nat} (h : OneW N W wr blk A2 (.slice (some ⟨g, 0, none⟩) k cap) k) {j x : Nat} (hj : j < k) (hx : (wl blk k).getD j 0 = x) : wr.cell? ⟨g, j, none⟩ = some (.int .u32 (x : Int)) := by
  have := h.own.cells (g := g) rfl j _ (wv_get (wl blk k) j (by rw [wl_length]; exact hj))
  rw [Addr.add_mid, Nat.zero_add, hx] at this
  exact this
theorem add_val (a b : Nat) : IntKind.u32.wrap ((a : Int) + (b : Int)) = ((add32 a b : Nat) : Int) := by rw [IntKind.wrap_u32]; unfold add32; omega
end Go.Proofs.YtlbmieeimnjncaaDoor
