/- A log's Sync, Segments and Records where no error comes. Conditions: as stated at each. -/
import Derived.Test.YtidadjlhnlmfkaaGreatDoorSlOpen
import Derived.Test.YtidadjlhnlmfkaaGreatDoorFlAll
namespace Go.Proofs.YtidadjlhnlmfkaaGreatDoor
open Go.RowKit Go.Shelf Go Go.Maps
set_option maxRecDepth 20000 in
set_option maxHeartbeats 1600000 in
theorem sync_L (W : World) (N : Nat) (Ft : Nat → Prop) (Dk k : Nat) (F : Files) (rm x lf : Int) (L G : Nat) (nm : ByteArray) (sz : Int) (g : List (Nat × Nat)) (bs : List UInt8) (z : Nat)
    (h : LogS W N Ft Dk k F rm x lf false L G nm sz g false) (hlow : Low W Ft) (hl : g.length ≤ 999999) (hn : nmOk nm) (hf : F (fileN nm g.length) = some (bs, z)) (hbs : bs.length ≤ 100000000) (hk : k < maxLen) (hx : 0 ≤ x) (hx2 : x ≤ 100000000) (hlf : lf ≤ 9223372036854775807) (h1 : lf ≠ 1) :
    Calls Tryz.prog 11 #[.pointer (some ⟨L, 0, none⟩)] W fun e w' => e = .returned (.int .i64 0) ∧ LgPost W N Ft Dk (k + 1) (F.upd (fileN nm g.length) (some (bs, bs.length))) rm x (lfA lf) false L G nm sz g false w' := by
  have hmf : ∀ (fn : Fn) (first cap : Array Value) (w : World), (Instr.makeFunc fn first cap).run Tryz.prog w = .ok (.func fn first cap) w := fun _ _ _ _ => rfl
  have hen : ∀ args w, (callFunc 31 args).run Tryz.prog w = .ok (.enter 31 args) w := enters_of Tryz.func31 (by kernel_rfl) rfl
  have B5 : Below W.heap.size W (W.alloc (.cells #[.int .i64 0] 33)) := (Below.refl _ W).alloc (Nat.le_refl _) _
  have n5 := BlkIs.new W 33 #[.int .i64 0]
  have hs := lsync_ok _ N Ft Dk k F rm x lf L G nm sz g bs z (h.below B5) hl hn hf hbs hk hx hx2 hlf h1
  have hlL := h.ltL
  have hlG := h.ltG
  have hcall := Lib.hid (call_m 31 (.pointer (some ⟨L, 0, none⟩)) W L Dk nm sz G g.length (fun y w' => y = 0 ∧ LgPost (W.alloc (.cells #[.int .i64 0] 33)) N Ft Dk (k + 1) (F.upd (fileN nm g.length) (some (bs, bs.length))) rm x (lfA lf) false L G nm sz g false w') h.2.1 (hen _) (fun w' hq => absurd hq.1 (by decide)) (hs.mono (by
    rintro e w' ⟨rfl, hq⟩
    refine ⟨n5.tn hq.2 (fun e => ?_), .inl ⟨rfl, rfl, hq⟩⟩
    rcases e with e | e | e
    · have := hlow _ e
      omega
    · omega
    · omega)))
  clear hs
  go_enter Tryz.func11, Tryz.ntmps11
  go_wp2_with fail
  refine hcall.out.mono ?_
  rintro e w' ⟨y, rfl, ⟨_, rfl, hq⟩ | ⟨rfl, w1, ⟨hy, _⟩, _⟩⟩
  · have HQ := Lib.hid hq
    clear hq hcall
    go_wp2_with fail
    go_ret
    exact ⟨rfl, LgPost.of_below h B5 HQ.out⟩
  · exact absurd hy (by decide)
set_option maxRecDepth 20000 in
set_option maxHeartbeats 1600000 in
theorem segs1_any (W : World) (N : Nat) (Ft : Nat → Prop) (Dk k : Nat) (F : Files) (rm x lf : Int) (L G : Nat) (nm : ByteArray) (sz : Int) (g : List (Nat × Nat)) (B1 B3 : Nat)
    (h : LogS W N Ft Dk k F rm x lf false L G nm sz g false) (hl : g.length ≤ 999999) (h1 : BlkIs W B1 32 #[.pointer (some ⟨L, 0, none⟩)]) (h3 : BlkIs W B3 23 #[.slice none 0 0]) :
    Calls Tryz.prog 36 #[.pointer (some ⟨B1, 0, none⟩), .pointer (some ⟨B3, 0, none⟩)] W fun e w' => e = .returned (.tuple #[]) ∧ ∃ A c, BlkIs w' B3 23 #[.slice A g.length c] ∧ w'.ownsRow W.heap.size 3 1 (.slice A g.length c) g.length ((nums g.length).map (Value.int .i64)) ∧ Tn (fun i => i = B3) W w' := by
  have c1 := h1.cell 0
  go_enter Tryz.func36, Tryz.ntmps36
  go_wp2_with (go_at_call 37; refine (look_up _ L Dk nm sz G _ false h.2.1 h.1).mono ?_; rintro e w' ⟨rfl, rfl⟩)
  refine (numbers_L W L Dk nm sz G k _ false g h.2.1 h.2.2.1 (by omega)).mono ?_
  rintro e w1 ⟨V, sv, rfl, hV, hc, hI, hb1⟩
  have hco := Lib.hid (collect_I w1 V sv (nums g.length) (by rw [nums_length]; omega) hV hc hI)
  go_wp2_with fail
  refine hco.out.mono ?_
  rintro e w2 ⟨v, rfl, hrow, hb2⟩
  rw [nums_length] at hrow
  obtain ⟨A, c, rfl, _, _⟩ := own_slice hrow
  have hb := hb1.trans (hb2.mono hb1.size)
  have k3 : BlkIs w2 B3 23 _ := (hb.block B3 h3.lt).trans h3
  have c3 := k3.cell 0
  have f3 := k3.froz 0
  have z1 := hb1.size
  have HR := Lib.hid hrow
  clear hrow hco
  go_wp2_with fail
  go_end0
  have hT := (Tn.of_below (p := fun i => i = B3) hb).setCell (x := ⟨B3, 0, none⟩) (.inl rfl) (.slice A g.length c)
  have k4 := k3.put 0 (.slice A g.length c)
  refine ⟨rfl, A, c, by simpa using k4, own_more (World.ownsRow.kept HR.out (grownBy_setCell' w2 B3 _) (.inr (fun e => ?_))) z1, hT⟩
  rcases HR.out.2 with ⟨h, _⟩ | ⟨gb, cap, cur, h, hb', hh, _⟩
  · rw [h] at e
    simp [Value.ownBlock] at e
  · rw [h] at e
    have e : gb = B3 := by simpa [Value.ownBlock] using e
    subst e
    unfold BlkIs at k3
    rw [hh] at k3
    cases k3
set_option maxRecDepth 20000 in
set_option maxHeartbeats 1600000 in
theorem segments_L (W : World) (N : Nat) (Ft : Nat → Prop) (Dk k : Nat) (F : Files) (rm x lf : Int) (L G : Nat) (nm : ByteArray) (sz : Int) (g : List (Nat × Nat))
    (h : LogS W N Ft Dk k F rm x lf false L G nm sz g false) (hl : g.length ≤ 999999) :
    Calls Tryz.prog 14 #[.pointer (some ⟨L, 0, none⟩)] W fun e w' => ∃ A c, e = .returned (.slice A g.length c) ∧ w'.ownsRow W.heap.size 3 1 (.slice A g.length c) g.length ((nums g.length).map (Value.int .i64)) ∧ Below W.heap.size W w' := by
  have hmf : ∀ (fn : Fn) (first cap : Array Value) (w : World), (Instr.makeFunc fn first cap).run Tryz.prog w = .ok (.func fn first cap) w := fun _ _ _ _ => rfl
  have hen : ∀ args w, (callFunc 36 args).run Tryz.prog w = .ok (.enter 36 args) w := enters_of Tryz.func36 (by kernel_rfl) rfl
  obtain ⟨m0, m1, m2, _⟩ := three_new W 32 23 33 #[.pointer (some ⟨L, 0, none⟩)] #[.slice none 0 0] #[.int .i64 0] (fun _ => False)
  have mB := three_below W 32 23 33 #[.pointer (some ⟨L, 0, none⟩)] #[.slice none 0 0] #[.int .i64 0]
  have B2 : Below W.heap.size W ((W.alloc (.cells #[.pointer (some ⟨L, 0, none⟩)] 32)).alloc (.cells #[.slice none 0 0] 23)) := ((Below.refl _ W).alloc (Nat.le_refl _) _).alloc (by simp) _
  have zz : ((W.alloc (.cells #[.pointer (some ⟨L, 0, none⟩)] 32)).alloc (.cells #[.slice none 0 0] 23)).heap.size = W.heap.size + 1 + 1 := by simp
  have hs := segs1_any _ N Ft Dk k F rm x lf L G nm sz g _ _ (h.below mB) hl m0 m1
  have hL2 : LogB _ L Dk nm sz G g.length false := (B2.block L h.ltL).trans h.2.1
  have hcall := Lib.hid (call_c 36 _ _ L Dk nm sz G g.length (fun y w' => y = 0 ∧ ∃ A c, BlkIs w' (W.heap.size + 1) 23 #[.slice A g.length c] ∧ w'.ownsRow W.heap.size 3 1 (.slice A g.length c) g.length ((nums g.length).map (Value.int .i64)) ∧ Below W.heap.size W w') hL2 (hen _) (fun w' hq => absurd hq.1 (by decide)) (hs.mono (by
    rintro e w' ⟨rfl, A, c, q1, q2, q3⟩
    refine ⟨?_, .inl ⟨rfl, rfl, A, c, q1, own_more q2 mB.size, mB.trans (q3.below (by have := mB.size; omega) (fun i hi e => by omega))⟩⟩
    rw [zz]
    exact m2.tn q3 (by omega))))
  clear hs
  go_enter Tryz.func14, Tryz.ntmps14
  go_wp2_with fail
  refine hcall.out.mono ?_
  rintro e w' ⟨y, rfl, ⟨_, rfl, A, c, q1, q2, q3⟩ | ⟨rfl, w1, ⟨hy, _⟩, _⟩⟩
  · have c1 := q1.cell 0
    have Q2 := Lib.hid q2
    clear q2 hcall
    go_wp2_with fail
    go_ret
    exact ⟨A, c, rfl, Q2.out, q3⟩
  · exact absurd hy (by decide)
set_option maxRecDepth 20000 in
set_option maxHeartbeats 1600000 in
theorem recs1_any (W : World) (N : Nat) (Ft : Nat → Prop) (Dk k : Nat) (F : Files) (rm x lf : Int) (L G : Nat) (nm : ByteArray) (sz : Int) (g : List (Nat × Nat)) (B2 B3 B5 j c z : Nat) (bs : List UInt8) (sf : Nat)
    (h : LogS W N Ft Dk k F rm x lf false L G nm sz g false) (hl : g.length ≤ 999999) (hn : nmOk nm) (hj : g[j]? = some (c, z)) (hf : F (fileN nm (j + 1)) = some (bs, sf)) (hbs : bs.length ≤ 100000000)
    (h2 : BlkIs W B2 32 #[.pointer (some ⟨L, 0, none⟩)]) (h3 : BlkIs W B3 3 #[.int .i64 ((j : Int) + 1)]) (h5 : BlkIs W B5 22 #[.slice none 0 0]) :
    Calls Tryz.prog 40 #[.pointer (some ⟨B2, 0, none⟩), .pointer (some ⟨B3, 0, none⟩), .pointer (some ⟨B5, 0, none⟩)] W fun e w' => e = .returned (.tuple #[]) ∧ ∃ A c, BlkIs w' B5 22 #[.slice A (recs bs).length c] ∧ OwnR w' W.heap.size (.slice A (recs bs).length c) (recs bs) ∧ Tn (fun i => i = B5) W w' := by
  have c2 := h2.cell 0
  have c3 := h3.cell 0
  have hx0 : ∀ w (v u : Value), (Instr.extract (.tuple #[v, u]) 0).run Tryz.prog w = .ok v w := fun _ _ _ => by kernel_rfl
  have hx1 : ∀ w (v u : Value), (Instr.extract (.tuple #[v, u]) 1).run Tryz.prog w = .ok u w := fun _ _ _ => by kernel_rfl
  have hjl := (List.getElem?_eq_some_iff.1 hj).1
  go_enter Tryz.func40, Tryz.ntmps40
  go_wp2_with fail
  refine (find_there _ L Dk nm sz G k _ g j c z false h.2.1 h.2.2.1 (by omega) hj).mono ?_
  rintro e w1 ⟨rfl, hb1⟩
  have c2' := (hb1.cell (p := ⟨B2, 0, none⟩) h2.lt).trans c2
  have c3' := (hb1.cell (p := ⟨B3, 0, none⟩) h3.lt).trans c3
  have h1 := h.below hb1
  have hrd := Lib.hid (read_there w1 N Ft Dk k F rm x lf L G nm sz _ false (j + 1) bs sf h1.1 h1.2.1 (by omega) hn hf hbs)
  go_wp2_with fail
  refine hrd.out.mono ?_
  rintro e w2 ⟨v, rfl, ho, hb2⟩
  obtain ⟨A, cc, rfl, ho1, ho2⟩ := own_slice ho
  have hall := Lib.hid (all_any A cc bs w2 (Own5.bts ho) ho1 ho2 hbs)
  clear ho hrd
  go_wp2_with fail
  refine hall.out.mono ?_
  rintro e w3 ⟨v2, rfl, ho3, hb3⟩
  obtain ⟨A3, cc3, rfl, _, _⟩ := ho3.slice
  have hb : Below W.heap.size W w3 := (hb1.trans (hb2.mono hb1.size)).trans (hb3.mono (hb1.trans (hb2.mono hb1.size)).size)
  have k5 : BlkIs w3 B5 22 _ := (hb.block B5 h5.lt).trans h5
  have c5 := k5.cell 0
  have f5 := k5.froz 0
  have z2 : W.heap.size ≤ w2.heap.size := (hb1.trans (hb2.mono hb1.size)).size
  have HO := Lib.hid ho3
  clear ho3 hall
  go_wp2_with fail
  go_end0
  have hT := (Tn.of_below (p := fun i => i = B5) hb).setCell (x := ⟨B5, 0, none⟩) (.inl rfl) (.slice A3 (recs bs).length cc3)
  have k6 := k5.put 0 (.slice A3 (recs bs).length cc3)
  have bx : Boxed w3 B5 22 (.slice none 0 0) := k5
  exact ⟨rfl, A3, cc3, by simpa using k6, (OwnR.set HO.out bx (by decide) (by decide)).more z2, hT⟩
set_option maxRecDepth 20000 in
set_option maxHeartbeats 1600000 in
theorem records_L (W : World) (N : Nat) (Ft : Nat → Prop) (Dk k : Nat) (F : Files) (rm x lf : Int) (L G : Nat) (nm : ByteArray) (sz : Int) (g : List (Nat × Nat)) (j c z : Nat) (bs : List UInt8) (sf : Nat)
    (h : LogS W N Ft Dk k F rm x lf false L G nm sz g false) (hl : g.length ≤ 999999) (hn : nmOk nm) (hj : g[j]? = some (c, z)) (hf : F (fileN nm (j + 1)) = some (bs, sf)) (hbs : bs.length ≤ 100000000) :
    Calls Tryz.prog 15 #[.pointer (some ⟨L, 0, none⟩), .int .i64 ((j : Int) + 1)] W fun e w' => ∃ A c, e = .returned (.slice A (recs bs).length c) ∧ OwnR w' W.heap.size (.slice A (recs bs).length c) (recs bs) ∧ Below W.heap.size W w' := by
  have hmf : ∀ (fn : Fn) (first cap : Array Value) (w : World), (Instr.makeFunc fn first cap).run Tryz.prog w = .ok (.func fn first cap) w := fun _ _ _ _ => rfl
  have hen : ∀ args w, (callFunc 40 args).run Tryz.prog w = .ok (.enter 40 args) w := enters_of Tryz.func40 (by kernel_rfl) rfl
  obtain ⟨m0, m1, m2, m3, _⟩ := four_new W 32 3 22 33 #[.pointer (some ⟨L, 0, none⟩)] #[.int .i64 ((j : Int) + 1)] #[.slice none 0 0] #[.int .i64 0] (fun _ => False)
  have mB := four_below W 32 3 22 33 #[.pointer (some ⟨L, 0, none⟩)] #[.int .i64 ((j : Int) + 1)] #[.slice none 0 0] #[.int .i64 0]
  have B3 := three_below W 32 3 22 #[.pointer (some ⟨L, 0, none⟩)] #[.int .i64 ((j : Int) + 1)] #[.slice none 0 0]
  have zz : (((W.alloc (.cells #[.pointer (some ⟨L, 0, none⟩)] 32)).alloc (.cells #[.int .i64 ((j : Int) + 1)] 3)).alloc (.cells #[.slice none 0 0] 22)).heap.size = W.heap.size + 1 + 1 + 1 := by simp
  have hs := recs1_any _ N Ft Dk k F rm x lf L G nm sz g _ _ _ j c z bs sf (h.below mB) hl hn hj hf hbs m0 m1 m2
  have hL2 : LogB _ L Dk nm sz G g.length false := (B3.block L h.ltL).trans h.2.1
  have hcall := Lib.hid (call_c 40 _ _ L Dk nm sz G g.length (fun y w' => y = 0 ∧ ∃ A c, BlkIs w' (W.heap.size + 1 + 1) 22 #[.slice A (recs bs).length c] ∧ OwnR w' W.heap.size (.slice A (recs bs).length c) (recs bs) ∧ Below W.heap.size W w') hL2 (hen _) (fun w' hq => absurd hq.1 (by decide)) (hs.mono (by
    rintro e w' ⟨rfl, A, c, q1, q2, q3⟩
    refine ⟨?_, .inl ⟨rfl, rfl, A, c, q1, q2.more mB.size, mB.trans (q3.below (by have := mB.size; omega) (fun i hi e => by omega))⟩⟩
    rw [zz]
    exact m3.tn q3 (by omega))))
  clear hs
  go_enter Tryz.func15, Tryz.ntmps15
  go_wp2_with fail
  refine hcall.out.mono ?_
  rintro e w' ⟨y, rfl, ⟨_, rfl, A, c, q1, q2, q3⟩ | ⟨rfl, w1, ⟨hy, _⟩, _⟩⟩
  · have c1 := q1.cell 0
    have Q2 := Lib.hid q2
    clear q2 hcall
    go_wp2_with fail
    go_ret
    exact ⟨A, c, rfl, Q2.out, q3⟩
  · exact absurd hy (by decide)
end Go.Proofs.YtidadjlhnlmfkaaGreatDoor
