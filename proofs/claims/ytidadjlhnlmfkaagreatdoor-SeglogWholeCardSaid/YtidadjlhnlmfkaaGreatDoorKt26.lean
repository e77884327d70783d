/- SlOpenS SlRead SlAbs. Conditions: as stated at each. -/
import Derived.Test.YtidadjlhnlmfkaaGreatDoorKt25
import Derived.Test.YtidadjlhnlmfkaaGreatDoorKt06
/- seglog.Open over a disk with files. Conditions: as stated at each. -/
namespace Go.Proofs.YtidadjlhnlmfkaaGreatDoor
open Go.RowKit Go.Shelf Go Go.Maps
/-- what load leaves of the files: the last one's is what is whole of it. -/
def Cut1 (nm : ByteArray) (bl : List (List UInt8)) (F F' : Files) : Prop := (∀ t, t ≠ fileN nm bl.length → F' t = F t) ∧ ∃ z, F' (fileN nm bl.length) = some (datB (lastB bl bl.length), z)
/-- behind Open: a log with the segments that the files hold. -/
def OpenQ (W : World) (N : Nat) (Ft : Nat → Prop) (Dk k : Nat) (F : Files) (rm x lf : Int) (nm : ByteArray) (sz : Int) (bl : List (List UInt8)) (e : Ending) (w' : World) : Prop :=
  ∃ L G Ft' F', Cut1 nm bl F F' ∧ e = .returned (.tuple #[.pointer (some ⟨L, 0, none⟩), .int .i64 0]) ∧ LogS w' N Ft' Dk (k + bl.length + 4) F' rm (x - (lastB bl bl.length).length + (datB (lastB bl bl.length)).length) lf false L G nm sz (gOf bl) false ∧
    Low w' Ft' ∧ (∀ i, i < W.heap.size → Ft' i → Ft i) ∧ W.heap.size ≤ L ∧ W.heap.size ≤ G ∧ Tn Ft W w'
set_option maxRecDepth 20000 in
set_option maxHeartbeats 2000000 in
theorem open_S (W : World) (N : Nat) (Ft : Nat → Prop) (Dk k : Nat) (F : Files) (rm x lf : Int) (nm : ByteArray) (sz : Int) (bl : List (List UInt8))
    (hS : DiskS W N Ft Dk k F rm x lf false) (hlow : Low W Ft) (hN : N ≤ W.heap.size) (hF : ∀ t, F t ≠ none ↔ ∃ j, 1 ≤ j ∧ j ≤ bl.length ∧ t = fileN nm j)
    (hB : ∀ j b, bl[j]? = some b → (∃ z, F (fileN nm (j + 1)) = some (b, z)) ∧ b.length ≤ 1000000 ∧ took (recs b) ≤ b.length ∧ (j + 1 < bl.length → b.length = took (recs b)))
    (h1m : 1 ≤ bl.length) (hm : bl.length ≤ 100000) (hn : nmOk nm) (hsz : 1 ≤ sz) (hk : k ≤ 100000) (hx : 0 ≤ x) (hx2 : x ≤ 10000000) (hr : x + 1000000 ≤ rm) (hlf : lf = 0 ∨ (lastB bl bl.length).length = took (recs (lastB bl bl.length))) :
    Calls Tryz.prog 9 #[.pointer (some ⟨Dk, 0, none⟩), .string nm, .int .i64 sz] W fun e w' => OpenQ W N Ft Dk k F rm x lf nm sz bl e w' := by
  have hmm := @run_makeMap Tryz.prog
  have hmf : ∀ (fn : Fn) (first cap : Array Value) (w : World), (Instr.makeFunc fn first cap).run Tryz.prog w = .ok (.func fn first cap) w := fun _ _ _ _ => rfl
  have hen : ∀ args w, (callFunc 23 args).run Tryz.prog w = .ok (.enter 23 args) w := enters_of Tryz.func23 (by kernel_rfl) rfl
  have hn6 : nm.size ≤ 1000000 := by have := hn.1; omega
  have hfile : ∀ w, Calls Tryz.prog 19 #[.string nm, .int .i64 1] w fun e w' => e = .returned (.string (fileN nm 1)) ∧ Below w.heap.size w w' := fun w => file_any w nm 1 (by omega) hn6
  have hs1 := fileN_size nm 1
  have hs2 : (fileN nm 1 ++ spareB).size = nm.size + 11 := by rw [ByteArray.size_append, hs1]; rfl
  have hnm1 : ∀ w, Calls Tryz.prog 21 #[.string (fileN nm 1)] w fun e w' => e = .returned (.bool true) ∧ w = w' := fun w => by
    have := diskName_any (fileN nm 1) w (by unfold maxLen; omega)
    rwa [nameB_fileN hn 1] at this
  have hnm2 : ∀ w, Calls Tryz.prog 21 #[.string (fileN nm 1 ++ spareB)] w fun e w' => e = .returned (.bool true) ∧ w = w' := fun w => by
    have := diskName_any (fileN nm 1 ++ spareB) w (by unfold maxLen; omega)
    rwa [nameB_spare hn 1] at this
  have hcat : ¬ 9223372036854775807 < (fileN nm 1).size + 4 := by omega
  have hd := down_S W N Ft Dk k F rm x lf false hS
  unfold spareB at hnm2
  clear hs1 hs2
  have HFF := Lib.hid (And.intro hF hB)
  go_enter Tryz.func9, Tryz.ntmps9
  have hfileB := hfile
  go_wp2_with (first
    | (go_at_call 20; refine hd.mono ?_; rintro e w' ⟨rfl, rfl⟩)
    | (go_at_call 19; refine (hfile _).mono ?_; clear hfile; rintro e w1 ⟨rfl, hb1⟩)
    | (go_at_call 19; refine (hfileB _).mono ?_; clear hfileB; rintro e w2 ⟨rfl, hb2⟩)
    | (go_at_call 21; refine (hnm1 _).mono ?_; clear hnm1; rintro e w' ⟨rfl, rfl⟩)
    | (go_at_call 21; refine (hnm2 _).mono ?_; clear hnm2; rintro e w' ⟨rfl, rfl⟩))
  have B2 : Below W.heap.size W w2 := hb1.trans (hb2.mono hb1.size)
  have z2 := B2.size
  have hL0 := BlkIs.new (w2.alloc (.map #[] 0)) 59 #[.pointer (some ⟨Dk, 0, none⟩), .string nm, .int .i64 sz, .map (some w2.heap.size), .int .i64 0, .bool false]
  rw [World.size_alloc] at hL0
  have hM0 : Held ((w2.alloc (.map #[] 0)).alloc (.cells #[.pointer (some ⟨Dk, 0, none⟩), .string nm, .int .i64 sz, .map (some w2.heap.size), .int .i64 0, .bool false] 59)) Tryz.prog 3 w2.heap.size 0 (.map []) := World.ownsMap.alloc (World.ownsMap_made w2 Tryz.prog 3 rh) _
  have B4 : Below W.heap.size W ((w2.alloc (.map #[] 0)).alloc (.cells #[.pointer (some ⟨Dk, 0, none⟩), .string nm, .int .i64 sz, .map (some w2.heap.size), .int .i64 0, .bool false] 59)) := (B2.alloc z2 _).alloc (by simp; omega) _
  have z4 : ((w2.alloc (.map #[] 0)).alloc (.cells #[.pointer (some ⟨Dk, 0, none⟩), .string nm, .int .i64 sz, .map (some w2.heap.size), .int .i64 0, .bool false] 59)).heap.size = w2.heap.size + 2 := by simp
  generalize ((w2.alloc (.map #[] 0)).alloc (.cells #[.pointer (some ⟨Dk, 0, none⟩), .string nm, .int .i64 sz, .map (some w2.heap.size), .int .i64 0, .bool false] 59)) = W4 at *
  have hLog : LogS W4 N Ft Dk k F rm x lf false (w2.heap.size + 1) w2.heap.size nm sz [] false :=
    ⟨hS.below B4, hL0, ⟨_, World.ownsMap.mono hM0 (Nat.zero_le _), segD_nil⟩, fun e => by have := hlow _ e; omega, fun e => by have := hlow _ e; omega⟩
  have B5 : Below W4.heap.size W4 (W4.alloc (.cells #[.int .i64 0] 33)) := (Below.refl _ W4).alloc (Nat.le_refl _) _
  have n5 := BlkIs.new W4 33 #[.int .i64 0]
  have hload := callsIn_wide.1 (load_S (W4.alloc (.cells #[.int .i64 0] 33)) N Ft Dk k F rm x lf (w2.heap.size + 1) w2.heap.size nm sz bl (hLog.below B5) (hlow.up (by have := B4.size; have := B5.size; omega)) (by have := B4.size; have := B5.size; omega) hF hB h1m hm hn hk hx hx2 hr hlf)
  have hcall := Lib.hid (call_m 23 (.pointer (some ⟨w2.heap.size + 1, 0, none⟩)) W4 (w2.heap.size + 1) Dk nm sz w2.heap.size 0 (fun y w' => y = 0 ∧ ∃ F', Cut1 nm bl F F' ∧ LgPost (W4.alloc (.cells #[.int .i64 0] 33)) N Ft Dk (k + bl.length + 4) F' rm (x - (lastB bl bl.length).length + (datB (lastB bl bl.length)).length) lf false (w2.heap.size + 1) w2.heap.size nm sz (gOf bl) false w') hL0 (hen _) (fun w' hq => absurd hq.1 (by decide)) (hload.mono (by
    rintro e w' ⟨rfl, F', hc1, hc2, hq⟩
    refine ⟨n5.tn hq.2 (fun e => ?_), .inl ⟨rfl, rfl, F', ⟨hc1, hc2⟩, hq⟩⟩
    rcases e with e | e | e
    · have := hlow _ e
      omega
    · omega
    · omega)))
  clear hload
  refine hcall.out.mono ?_
  rintro e w' ⟨y, rfl, ⟨_, rfl, F', hcut, hq⟩ | ⟨rfl, w1, ⟨hy, _⟩, _⟩⟩
  · have HQ := Lib.hid hq
    have HCUT := Lib.hid hcut
    clear hcut
    clear hq hcall
    go_wp2_with fail
    go_ret2
    have hs5 := B5.size
    refine ⟨_, _, NewFt Ft (W4.alloc (.cells #[.int .i64 0] 33)) w', F', HCUT.out, rfl, HQ.out.1, (hlow.up (by omega)).new HQ.out.2.size, fun i hi e => e.elim id (fun e => by omega), by omega, by omega, ?_⟩
    refine Tn.from_new (B4.trans (B5.mono B4.size)) HQ.out.2 (fun i hi e => ?_)
    rcases e with e | rfl | rfl
    · exact e
    · omega
    · omega
  · exact absurd hy (by decide)
end Go.Proofs.YtidadjlhnlmfkaaGreatDoor
/- A log's Sync, Segments and Records where no error comes. Conditions: as stated at each. -/
namespace Go.Proofs.YtidadjlhnlmfkaaGreatDoor
open Go.RowKit Go.Shelf Go Go.Maps
set_option maxRecDepth 20000 in
set_option maxHeartbeats 1600000 in
theorem sync_L (W : World) (N : Nat) (Ft : Nat → Prop) (Dk k : Nat) (F : Files) (rm x lf : Int) (L G : Nat) (nm : ByteArray) (sz : Int) (g : List (Nat × Nat)) (bs : List UInt8) (z : Nat)
    (h : LogS W N Ft Dk k F rm x lf false L G nm sz g false) (hlow : Low W Ft) (hl : g.length ≤ 999999) (hn : nmOk nm) (hf : F (fileN nm g.length) = some (bs, z)) (hbs : bs.length ≤ 100000000) (hk : k < maxLen) (hx : 0 ≤ x) (hx2 : x ≤ 100000000) (hlf : lf ≤ 9223372036854775807) (h1 : lf ≠ 1) :
    Calls Tryz.prog 11 #[.pointer (some ⟨L, 0, none⟩)] W fun e w' => e = .returned (.int .i64 0) ∧ LgPost W N Ft Dk (k + 1) (F.upd (fileN nm g.length) (some (bs, bs.length))) rm x (lfA lf) false L G nm sz g false w' := by
  have hmf : ∀ (fn : Fn) (first cap : Array Value) (w : World), (Instr.makeFunc fn first cap).run Tryz.prog w = .ok (.func fn first cap) w := fun _ _ _ _ => rfl
  have hen : ∀ args w, (callFunc 31 args).run Tryz.prog w = .ok (.enter 31 args) w := enters_of Tryz.func31 (by kernel_rfl) rfl
  have B5 : Below W.heap.size W (W.alloc (.cells #[.int .i64 0] 33)) := (Below.refl _ W).alloc (Nat.le_refl _) _
  have n5 := BlkIs.new W 33 #[.int .i64 0]
  have hs := lsync_ok _ N Ft Dk k F rm x lf L G nm sz g bs z (h.below B5) hl hn hf hbs hk hx hx2 hlf h1
  have hlL := h.ltL
  have hlG := h.ltG
  have hcall := Lib.hid (call_m 31 (.pointer (some ⟨L, 0, none⟩)) W L Dk nm sz G g.length (fun y w' => y = 0 ∧ LgPost (W.alloc (.cells #[.int .i64 0] 33)) N Ft Dk (k + 1) (F.upd (fileN nm g.length) (some (bs, bs.length))) rm x (lfA lf) false L G nm sz g false w') h.2.1 (hen _) (fun w' hq => absurd hq.1 (by decide)) (hs.mono (by
    rintro e w' ⟨rfl, hq⟩
    refine ⟨n5.tn hq.2 (fun e => ?_), .inl ⟨rfl, rfl, hq⟩⟩
    rcases e with e | e | e
    · have := hlow _ e
      omega
    · omega
    · omega)))
  clear hs
  go_enter Tryz.func11, Tryz.ntmps11
  go_wp2_with fail
  refine hcall.out.mono ?_
  rintro e w' ⟨y, rfl, ⟨_, rfl, hq⟩ | ⟨rfl, w1, ⟨hy, _⟩, _⟩⟩
  · have HQ := Lib.hid hq
    clear hq hcall
    go_wp2_with fail
    go_ret
    exact ⟨rfl, LgPost.of_below h B5 HQ.out⟩
  · exact absurd hy (by decide)
set_option maxRecDepth 20000 in
set_option maxHeartbeats 1600000 in
theorem segs1_any (W : World) (N : Nat) (Ft : Nat → Prop) (Dk k : Nat) (F : Files) (rm x lf : Int) (L G : Nat) (nm : ByteArray) (sz : Int) (g : List (Nat × Nat)) (B1 B3 : Nat)
    (h : LogS W N Ft Dk k F rm x lf false L G nm sz g false) (hl : g.length ≤ 999999) (h1 : BlkIs W B1 32 #[.pointer (some ⟨L, 0, none⟩)]) (h3 : BlkIs W B3 23 #[.slice none 0 0]) :
    Calls Tryz.prog 36 #[.pointer (some ⟨B1, 0, none⟩), .pointer (some ⟨B3, 0, none⟩)] W fun e w' => e = .returned (.tuple #[]) ∧ ∃ A c, BlkIs w' B3 23 #[.slice A g.length c] ∧ w'.ownsRow W.heap.size 3 1 (.slice A g.length c) g.length ((nums g.length).map (Value.int .i64)) ∧ Tn (fun i => i = B3) W w' := by
  have c1 := h1.cell 0
  go_enter Tryz.func36, Tryz.ntmps36
  go_wp2_with (go_at_call 37; refine (look_up _ L Dk nm sz G _ false h.2.1 h.1).mono ?_; rintro e w' ⟨rfl, rfl⟩)
  refine (numbers_L W L Dk nm sz G k _ false g h.2.1 h.2.2.1 (by omega)).mono ?_
  rintro e w1 ⟨V, sv, rfl, hV, hc, hI, hb1⟩
  have hco := Lib.hid (collect_I w1 V sv (nums g.length) (by rw [nums_length]; omega) hV hc hI)
  go_wp2_with fail
  refine hco.out.mono ?_
  rintro e w2 ⟨v, rfl, hrow, hb2⟩
  rw [nums_length] at hrow
  obtain ⟨A, c, rfl, _, _⟩ := own_slice hrow
  have hb := hb1.trans (hb2.mono hb1.size)
  have k3 : BlkIs w2 B3 23 _ := (hb.block B3 h3.lt).trans h3
  have c3 := k3.cell 0
  have f3 := k3.froz 0
  have z1 := hb1.size
  have HR := Lib.hid hrow
  clear hrow hco
  go_wp2_with fail
  go_end0
  have hT := (Tn.of_below (p := fun i => i = B3) hb).setCell (x := ⟨B3, 0, none⟩) (.inl rfl) (.slice A g.length c)
  have k4 := k3.put 0 (.slice A g.length c)
  refine ⟨rfl, A, c, by simpa using k4, own_more (World.ownsRow.kept HR.out (grownBy_setCell' w2 B3 _) (.inr (fun e => ?_))) z1, hT⟩
  rcases HR.out.2 with ⟨h, _⟩ | ⟨gb, cap, cur, h, hb', hh, _⟩
  · rw [h] at e
    simp [Value.ownBlock] at e
  · rw [h] at e
    have e : gb = B3 := by simpa [Value.ownBlock] using e
    subst e
    unfold BlkIs at k3
    rw [hh] at k3
    cases k3
set_option maxRecDepth 20000 in
set_option maxHeartbeats 1600000 in
theorem segments_L (W : World) (N : Nat) (Ft : Nat → Prop) (Dk k : Nat) (F : Files) (rm x lf : Int) (L G : Nat) (nm : ByteArray) (sz : Int) (g : List (Nat × Nat))
    (h : LogS W N Ft Dk k F rm x lf false L G nm sz g false) (hl : g.length ≤ 999999) :
    Calls Tryz.prog 14 #[.pointer (some ⟨L, 0, none⟩)] W fun e w' => ∃ A c, e = .returned (.slice A g.length c) ∧ w'.ownsRow W.heap.size 3 1 (.slice A g.length c) g.length ((nums g.length).map (Value.int .i64)) ∧ Below W.heap.size W w' := by
  have hmf : ∀ (fn : Fn) (first cap : Array Value) (w : World), (Instr.makeFunc fn first cap).run Tryz.prog w = .ok (.func fn first cap) w := fun _ _ _ _ => rfl
  have hen : ∀ args w, (callFunc 36 args).run Tryz.prog w = .ok (.enter 36 args) w := enters_of Tryz.func36 (by kernel_rfl) rfl
  obtain ⟨m0, m1, m2, _⟩ := three_new W 32 23 33 #[.pointer (some ⟨L, 0, none⟩)] #[.slice none 0 0] #[.int .i64 0] (fun _ => False)
  have mB := three_below W 32 23 33 #[.pointer (some ⟨L, 0, none⟩)] #[.slice none 0 0] #[.int .i64 0]
  have B2 : Below W.heap.size W ((W.alloc (.cells #[.pointer (some ⟨L, 0, none⟩)] 32)).alloc (.cells #[.slice none 0 0] 23)) := ((Below.refl _ W).alloc (Nat.le_refl _) _).alloc (by simp) _
  have zz : ((W.alloc (.cells #[.pointer (some ⟨L, 0, none⟩)] 32)).alloc (.cells #[.slice none 0 0] 23)).heap.size = W.heap.size + 1 + 1 := by simp
  have hs := segs1_any _ N Ft Dk k F rm x lf L G nm sz g _ _ (h.below mB) hl m0 m1
  have hL2 : LogB _ L Dk nm sz G g.length false := (B2.block L h.ltL).trans h.2.1
  have hcall := Lib.hid (call_c 36 _ _ L Dk nm sz G g.length (fun y w' => y = 0 ∧ ∃ A c, BlkIs w' (W.heap.size + 1) 23 #[.slice A g.length c] ∧ w'.ownsRow W.heap.size 3 1 (.slice A g.length c) g.length ((nums g.length).map (Value.int .i64)) ∧ Below W.heap.size W w') hL2 (hen _) (fun w' hq => absurd hq.1 (by decide)) (hs.mono (by
    rintro e w' ⟨rfl, A, c, q1, q2, q3⟩
    refine ⟨?_, .inl ⟨rfl, rfl, A, c, q1, own_more q2 mB.size, mB.trans (q3.below (by have := mB.size; omega) (fun i hi e => by omega))⟩⟩
    rw [zz]
    exact m2.tn q3 (by omega))))
  clear hs
  go_enter Tryz.func14, Tryz.ntmps14
  go_wp2_with fail
  refine hcall.out.mono ?_
  rintro e w' ⟨y, rfl, ⟨_, rfl, A, c, q1, q2, q3⟩ | ⟨rfl, w1, ⟨hy, _⟩, _⟩⟩
  · have c1 := q1.cell 0
    have Q2 := Lib.hid q2
    clear q2 hcall
    go_wp2_with fail
    go_ret
    exact ⟨A, c, rfl, Q2.out, q3⟩
  · exact absurd hy (by decide)
set_option maxRecDepth 20000 in
set_option maxHeartbeats 1600000 in
theorem recs1_any (W : World) (N : Nat) (Ft : Nat → Prop) (Dk k : Nat) (F : Files) (rm x lf : Int) (L G : Nat) (nm : ByteArray) (sz : Int) (g : List (Nat × Nat)) (B2 B3 B5 j c z : Nat) (bs : List UInt8) (sf : Nat)
    (h : LogS W N Ft Dk k F rm x lf false L G nm sz g false) (hl : g.length ≤ 999999) (hn : nmOk nm) (hj : g[j]? = some (c, z)) (hf : F (fileN nm (j + 1)) = some (bs, sf)) (hbs : bs.length ≤ 100000000)
    (h2 : BlkIs W B2 32 #[.pointer (some ⟨L, 0, none⟩)]) (h3 : BlkIs W B3 3 #[.int .i64 ((j : Int) + 1)]) (h5 : BlkIs W B5 22 #[.slice none 0 0]) :
    Calls Tryz.prog 40 #[.pointer (some ⟨B2, 0, none⟩), .pointer (some ⟨B3, 0, none⟩), .pointer (some ⟨B5, 0, none⟩)] W fun e w' => e = .returned (.tuple #[]) ∧ ∃ A c, BlkIs w' B5 22 #[.slice A (recs bs).length c] ∧ OwnR w' W.heap.size (.slice A (recs bs).length c) (recs bs) ∧ Tn (fun i => i = B5) W w' := by
  have c2 := h2.cell 0
  have c3 := h3.cell 0
  have hx0 : ∀ w (v u : Value), (Instr.extract (.tuple #[v, u]) 0).run Tryz.prog w = .ok v w := fun _ _ _ => by kernel_rfl
  have hx1 : ∀ w (v u : Value), (Instr.extract (.tuple #[v, u]) 1).run Tryz.prog w = .ok u w := fun _ _ _ => by kernel_rfl
  have hjl := (List.getElem?_eq_some_iff.1 hj).1
  go_enter Tryz.func40, Tryz.ntmps40
  go_wp2_with fail
  refine (find_there _ L Dk nm sz G k _ g j c z false h.2.1 h.2.2.1 (by omega) hj).mono ?_
  rintro e w1 ⟨rfl, hb1⟩
  have c2' := (hb1.cell (p := ⟨B2, 0, none⟩) h2.lt).trans c2
  have c3' := (hb1.cell (p := ⟨B3, 0, none⟩) h3.lt).trans c3
  have h1 := h.below hb1
  have hrd := Lib.hid (read_there w1 N Ft Dk k F rm x lf L G nm sz _ false (j + 1) bs sf h1.1 h1.2.1 (by omega) hn hf hbs)
  go_wp2_with fail
  refine hrd.out.mono ?_
  rintro e w2 ⟨v, rfl, ho, hb2⟩
  obtain ⟨A, cc, rfl, ho1, ho2⟩ := own_slice ho
  have hall := Lib.hid (all_any A cc bs w2 (Own5.bts ho) ho1 ho2 hbs)
  clear ho hrd
  go_wp2_with fail
  refine hall.out.mono ?_
  rintro e w3 ⟨v2, rfl, ho3, hb3⟩
  obtain ⟨A3, cc3, rfl, _, _⟩ := ho3.slice
  have hb : Below W.heap.size W w3 := (hb1.trans (hb2.mono hb1.size)).trans (hb3.mono (hb1.trans (hb2.mono hb1.size)).size)
  have k5 : BlkIs w3 B5 22 _ := (hb.block B5 h5.lt).trans h5
  have c5 := k5.cell 0
  have f5 := k5.froz 0
  have z2 : W.heap.size ≤ w2.heap.size := (hb1.trans (hb2.mono hb1.size)).size
  have HO := Lib.hid ho3
  clear ho3 hall
  go_wp2_with fail
  go_end0
  have hT := (Tn.of_below (p := fun i => i = B5) hb).setCell (x := ⟨B5, 0, none⟩) (.inl rfl) (.slice A3 (recs bs).length cc3)
  have k6 := k5.put 0 (.slice A3 (recs bs).length cc3)
  have bx : Boxed w3 B5 22 (.slice none 0 0) := k5
  exact ⟨rfl, A3, cc3, by simpa using k6, (OwnR.set HO.out bx (by decide) (by decide)).more z2, hT⟩
set_option maxRecDepth 20000 in
set_option maxHeartbeats 1600000 in
theorem records_L (W : World) (N : Nat) (Ft : Nat → Prop) (Dk k : Nat) (F : Files) (rm x lf : Int) (L G : Nat) (nm : ByteArray) (sz : Int) (g : List (Nat × Nat)) (j c z : Nat) (bs : List UInt8) (sf : Nat)
    (h : LogS W N Ft Dk k F rm x lf false L G nm sz g false) (hl : g.length ≤ 999999) (hn : nmOk nm) (hj : g[j]? = some (c, z)) (hf : F (fileN nm (j + 1)) = some (bs, sf)) (hbs : bs.length ≤ 100000000) :
    Calls Tryz.prog 15 #[.pointer (some ⟨L, 0, none⟩), .int .i64 ((j : Int) + 1)] W fun e w' => ∃ A c, e = .returned (.slice A (recs bs).length c) ∧ OwnR w' W.heap.size (.slice A (recs bs).length c) (recs bs) ∧ Below W.heap.size W w' := by
  have hmf : ∀ (fn : Fn) (first cap : Array Value) (w : World), (Instr.makeFunc fn first cap).run Tryz.prog w = .ok (.func fn first cap) w := fun _ _ _ _ => rfl
  have hen : ∀ args w, (callFunc 40 args).run Tryz.prog w = .ok (.enter 40 args) w := enters_of Tryz.func40 (by kernel_rfl) rfl
  obtain ⟨m0, m1, m2, m3, _⟩ := four_new W 32 3 22 33 #[.pointer (some ⟨L, 0, none⟩)] #[.int .i64 ((j : Int) + 1)] #[.slice none 0 0] #[.int .i64 0] (fun _ => False)
  have mB := four_below W 32 3 22 33 #[.pointer (some ⟨L, 0, none⟩)] #[.int .i64 ((j : Int) + 1)] #[.slice none 0 0] #[.int .i64 0]
  have B3 := three_below W 32 3 22 #[.pointer (some ⟨L, 0, none⟩)] #[.int .i64 ((j : Int) + 1)] #[.slice none 0 0]
  have zz : (((W.alloc (.cells #[.pointer (some ⟨L, 0, none⟩)] 32)).alloc (.cells #[.int .i64 ((j : Int) + 1)] 3)).alloc (.cells #[.slice none 0 0] 22)).heap.size = W.heap.size + 1 + 1 + 1 := by simp
  have hs := recs1_any _ N Ft Dk k F rm x lf L G nm sz g _ _ _ j c z bs sf (h.below mB) hl hn hj hf hbs m0 m1 m2
  have hL2 : LogB _ L Dk nm sz G g.length false := (B3.block L h.ltL).trans h.2.1
  have hcall := Lib.hid (call_c 40 _ _ L Dk nm sz G g.length (fun y w' => y = 0 ∧ ∃ A c, BlkIs w' (W.heap.size + 1 + 1) 22 #[.slice A (recs bs).length c] ∧ OwnR w' W.heap.size (.slice A (recs bs).length c) (recs bs) ∧ Below W.heap.size W w') hL2 (hen _) (fun w' hq => absurd hq.1 (by decide)) (hs.mono (by
    rintro e w' ⟨rfl, A, c, q1, q2, q3⟩
    refine ⟨?_, .inl ⟨rfl, rfl, A, c, q1, q2.more mB.size, mB.trans (q3.below (by have := mB.size; omega) (fun i hi e => by omega))⟩⟩
    rw [zz]
    exact m3.tn q3 (by omega))))
  clear hs
  go_enter Tryz.func15, Tryz.ntmps15
  go_wp2_with fail
  refine hcall.out.mono ?_
  rintro e w' ⟨y, rfl, ⟨_, rfl, A, c, q1, q2, q3⟩ | ⟨rfl, w1, ⟨hy, _⟩, _⟩⟩
  · have c1 := q1.cell 0
    have Q2 := Lib.hid q2
    clear q2 hcall
    go_wp2_with fail
    go_ret
    exact ⟨A, c, rfl, Q2.out, q3⟩
  · exact absurd hy (by decide)
end Go.Proofs.YtidadjlhnlmfkaaGreatDoor
/- A log as lists of records; Append over it. Conditions: as stated at each. -/
namespace Go.Proofs.YtidadjlhnlmfkaaGreatDoor
open Go.RowKit Go.Shelf Go Go.Maps
abbrev Segs := List (List (List UInt8))
def gS (S : Segs) : List (Nat × Nat) := S.map fun s => (s.length, took s)
theorem gS_length (S : Segs) : (gS S).length = S.length := by simp [gS]
theorem gS_snoc (S0 : Segs) (s : List (List UInt8)) : gS (S0 ++ [s]) = gS S0 ++ [(s.length, took s)] := by simp [gS]
theorem gS_get {S : Segs} {j : Nat} {s : List (List UInt8)} (h : S[j]? = some s) : (gS S)[j]? = some (s.length, took s) := by simp [gS, h]
/-- the segments' files. -/
def FileOK (nm : ByteArray) (F : Files) (S : Segs) : Prop :=
  (∀ (j : Nat) s, S[j]? = some s → ∃ sf, F (fileN nm (j + 1)) = some (wr s, sf)) ∧ ∀ k, S.length < k → k ≤ 999999 → F (fileN nm k) = none
theorem fileOK_last {nm : ByteArray} {F : Files} {S0 : Segs} {s t : List (List UInt8)} (h : FileOK nm F (S0 ++ [s])) (hl : S0.length < 999999) (bs : List UInt8) (sf : Nat) (hb : bs = wr t) : FileOK nm (F.upd (fileN nm (S0.length + 1)) (some (bs, sf))) (S0 ++ [t]) := by
  refine ⟨fun j u hj => ?_, fun k hk hk2 => ?_⟩
  · have hjl := (List.getElem?_eq_some_iff.1 hj).1
    simp at hjl
    unfold Files.upd
    by_cases e : j = S0.length
    · subst e
      simp at hj
      rw [if_pos rfl, hb, hj]
      exact ⟨_, rfl⟩
    · rw [if_neg (fun e2 => e (by have := fileN_inj (by omega) (by omega) e2; omega))]
      refine h.1 j u ?_
      rw [List.getElem?_append_left (by omega)] at hj ⊢
      exact hj
  · simp at hk
    unfold Files.upd
    rw [if_neg (fun e2 => by have := fileN_inj (by omega) (by omega) e2; omega)]
    exact h.2 k (by simp; omega) hk2
theorem fileOK_new {nm : ByteArray} {F : Files} {S : Segs} (h : FileOK nm F S) (hl : S.length < 999999) (t : List (List UInt8)) (bs : List UInt8) (sf : Nat) (hb : bs = wr t) : FileOK nm (F.upd (fileN nm (S.length + 1)) (some (bs, sf))) (S ++ [t]) := by
  refine ⟨fun j u hj => ?_, fun k hk hk2 => ?_⟩
  · have hjl := (List.getElem?_eq_some_iff.1 hj).1
    simp at hjl
    unfold Files.upd
    by_cases e : j = S.length
    · subst e
      simp at hj
      rw [if_pos rfl, hb, hj]
      exact ⟨_, rfl⟩
    · rw [if_neg (fun e2 => e (by have := fileN_inj (by omega) (by omega) e2; omega))]
      refine h.1 j u ?_
      rw [List.getElem?_append_left (by omega)] at hj
      exact hj
  · simp at hk
    unfold Files.upd
    rw [if_neg (fun e2 => by have := fileN_inj (by omega) (by omega) e2; omega)]
    exact h.2 k (by omega) hk2
theorem took_len : ∀ s : List (List UInt8), s.length ≤ took s
  | [] => Nat.le_refl _
  | a :: t => by
    have := took_len t
    rw [took_cons]
    simp
    omega
/-- a log on a disk whose power does not fail, its segments being S. -/
def AbsS (W : World) (N : Nat) (Ft : Nat → Prop) (Dk k : Nat) (rm x : Int) (L G : Nat) (nm : ByteArray) (sz : Int) (S : Segs) : Prop :=
  ∃ F, LogS W N Ft Dk k F rm x 0 false L G nm sz (gS S) false ∧ FileOK nm F S
/-- a record more: in the last segment, or in a new one. -/
def addL (sz : Int) (S0 : Segs) (s : List (List UInt8)) (r : List UInt8) : Segs := if (took s : Int) < sz then S0 ++ [s ++ [r]] else S0 ++ [s] ++ [[r]]
theorem lfA_0 : lfA 0 = 0 := rfl
set_option maxHeartbeats 800000 in
theorem append_A (W : World) (N : Nat) (Ft : Nat → Prop) (Dk k : Nat) (rm x : Int) (L G : Nat) (nm : ByteArray) (sz : Int) (S0 : Segs) (s : List (List UInt8)) (A : Option Addr) (cp : Nat) (r : List UInt8)
    (h : AbsS W N Ft Dk k rm x L G nm sz (S0 ++ [s])) (hlow : Low W Ft) (hl : S0.length + 2 < 999999) (hn : nmOk nm) (ht : took s ≤ 1000000) (hk : k + 5 < maxLen) (hx : 0 ≤ x) (hx2 : x ≤ 100000000) (hm : r.length ≤ 1000000) (hr : x + (8 + r.length : Nat) ≤ rm) (hr2 : rm ≤ 1000000000000)
    (hN : N ≤ W.heap.size) (hA : Bts W W.heap.size A r) (hcp : r.length ≤ cp) (hcm : cp ≤ maxLen) :
    Calls Tryz.prog 10 #[.pointer (some ⟨L, 0, none⟩), .slice A r.length cp] W fun e w' =>
      e = .returned (.tuple #[if (took s : Int) < sz then .agg #[.int .i64 ((S0.length : Int) + 1), .int .i64 s.length] else .agg #[.int .i64 ((S0.length : Int) + 1 + 1), .int .i64 0], .int .i64 0]) ∧
      AbsS w' N (NewFt Ft W w') Dk (k + 5) rm (x + (8 + r.length : Nat)) L G nm sz (addL sz S0 s r) ∧ Tn (OwnL Ft L G) W w' := by
  obtain ⟨F, hL, hF⟩ := h
  rw [gS_snoc] at hL
  obtain ⟨sf, hf⟩ := hF.1 S0.length s (by simp)
  have hsl := took_len s
  have hrl := rec1_length r
  have hwl : (wr s).length ≤ 1000000 := by rw [wr_length]; exact ht
  refine (append_L W N Ft Dk k F rm x 0 L G nm sz (gS S0) s.length (took s) (wr s) sf A cp r hL hlow (by rw [gS_length]; omega) hn (by rw [gS_length]; exact hf) (by omega) hk hx hx2 hm (by rw [hrl]; exact hr) hr2 (by omega) hN hA hcp hcm (by omega) (by omega) ⟨by omega, fun _ => ⟨by omega, by omega, by rw [gS_length]; exact hF.2 _ (by simp) (by omega)⟩⟩).mono ?_
  rintro e w' ⟨kt, Fl, lft, gt, ct, zt, bst, sft, hR, rfl, hp⟩
  rw [hrl] at hp
  unfold addL
  rcases hR with ⟨hz, rfl, rfl, rfl, rfl, rfl, rfl, rfl, rfl⟩ | ⟨hz, rfl, rfl, rfl, rfl, rfl, rfl, rfl, rfl⟩
  · rw [if_pos hz, if_pos hz]
    rw [gS_length] at hp
    refine ⟨by rw [gS_length], ⟨_, ?_, fileOK_last hF (by omega) (wr s ++ rec1 r) sft ?_⟩, hp.2⟩
    · rw [gS_snoc]
      have e1 : (s ++ [r]).length = s.length + 1 := by simp
      have e2 : took (s ++ [r]) = took s + (8 + r.length) := by rw [took_append]; simp [took]
      rw [e1, e2]
      exact hp.1.more (fun _ h => h) (by omega) hp.1.2.2.2.1 hp.1.2.2.2.2
    · rw [wr_append, wr_one]
  · rw [if_neg (by omega), if_neg (by omega)]
    have eg : (gS S0 ++ [(s.length, took s)]).length = S0.length + 1 := by simp [gS_length]
    rw [eg, gS_length] at hp
    refine ⟨by rw [eg]; rfl, ⟨((F.upd (fileN nm (S0.length + 1)) (some (wr s, (wr s).length))).upd (fileN nm (S0.length + 2)) (some ([], 0))).upd (fileN nm (S0.length + 1 + 1)) (some ([] ++ rec1 r, 0)), ?_, ?_⟩, hp.2⟩
    · rw [gS_snoc, gS_snoc]
      have e2 : took [r] = 0 + (8 + r.length) := by simp [took]
      rw [show ([r] : List (List UInt8)).length = 0 + 1 from rfl, e2]
      exact hp.1.more (fun _ h => h) (by omega) hp.1.2.2.2.1 hp.1.2.2.2.2
    · have f1 := fileOK_last hF (by omega) (wr s) (wr s).length rfl (t := s)
      have f2 := fileOK_new f1 (by simp; omega) [] [] 0 rfl
      have e3 : (S0 ++ [s]).length = S0.length + 1 := by simp
      rw [e3] at f2
      have f3 := fileOK_last f2 (by simp; omega) ([] ++ rec1 r) 0 (t := [r]) (by simp [wr])
      rw [e3] at f3
      exact f3
end Go.Proofs.YtidadjlhnlmfkaaGreatDoor
