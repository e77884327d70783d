/- DkAppend DkSync DkSync2 DkRead. Conditions: as stated at each. -/
import Derived.Test.YtidadjlhnlmfkaaGreatDoorKt09
import Derived.Shelf.Abstract
import Derived.Test.YtidadjlhnlmfkaaGreatDoorKt05
/- (*disk.Disk).Append at whatever state. Conditions: as stated at each. -/
namespace Go.Proofs.YtidadjlhnlmfkaaGreatDoor
set_option maxRecDepth 100000
open Go.RowKit Go.Shelf Go
section
variable (W : World) (t0 t1 t2 t3 : TypeId) (c0 c1 c2 c3 : Array Value)
theorem four_new (p : Nat → Prop) : BlkIs ((((W.alloc (.cells c0 t0)).alloc (.cells c1 t1)).alloc (.cells c2 t2)).alloc (.cells c3 t3)) W.heap.size t0 c0 ∧ BlkIs ((((W.alloc (.cells c0 t0)).alloc (.cells c1 t1)).alloc (.cells c2 t2)).alloc (.cells c3 t3)) (W.heap.size + 1) t1 c1 ∧
    BlkIs ((((W.alloc (.cells c0 t0)).alloc (.cells c1 t1)).alloc (.cells c2 t2)).alloc (.cells c3 t3)) (W.heap.size + 1 + 1) t2 c2 ∧ BlkIs ((((W.alloc (.cells c0 t0)).alloc (.cells c1 t1)).alloc (.cells c2 t2)).alloc (.cells c3 t3)) (W.heap.size + 1 + 1 + 1) t3 c3 ∧
    Tn p W ((((W.alloc (.cells c0 t0)).alloc (.cells c1 t1)).alloc (.cells c2 t2)).alloc (.cells c3 t3)) := by
  have a1 := BlkIs.new (W.alloc (.cells c0 t0)) t1 c1
  have a2 := BlkIs.new ((W.alloc (.cells c0 t0)).alloc (.cells c1 t1)) t2 c2
  have a3 := BlkIs.new (((W.alloc (.cells c0 t0)).alloc (.cells c1 t1)).alloc (.cells c2 t2)) t3 c3
  simp only [World.size_alloc] at a1 a2 a3
  exact ⟨(((BlkIs.new W t0 c0).alloc _).alloc _).alloc _, (a1.alloc _).alloc _, a2.alloc _, a3, ((((Tn.refl p W).alloc _).alloc _).alloc _).alloc _⟩
theorem four_below : Below W.heap.size W ((((W.alloc (.cells c0 t0)).alloc (.cells c1 t1)).alloc (.cells c2 t2)).alloc (.cells c3 t3)) :=
  ((((Below.refl _ W).alloc (Nat.le_refl _) _).alloc (by simp) _).alloc (by simp; omega) _).alloc (by simp; omega) _
end
/-- bytes stay where a number of another kind is written. -/
theorem Bts.num {w : World} {B : Nat} {A : Option Addr} {l : List UInt8} {p : Addr} {x : Int} {v : Value} (h : Bts w B A l) (hc : w.cell? p = some (.int .i64 x)) : Bts (w.setCell p v) B A l := fun k u hk => by
  obtain ⟨ad, h1, h2, h3⟩ := h k u hk
  refine ⟨ad, h1, h2, ?_⟩
  refine (World.cell?_setCell_other (w := w) (a := p) (b := ad.add k) (v := v) (h := fun he => ?_)).trans h3
  · rw [← he, hc] at h3
    injection h3 with h3
    have hm := List.mem_of_getElem? hk
    unfold bv at hm
    rw [List.mem_map] at hm
    obtain ⟨b, _, hb⟩ := hm
    rw [← h3] at hb
    injection hb with hb _
    cases hb
theorem Strs.one {w : World} {g : Nat} {s : ByteArray} (h : BlkIs w g 9 #[.string s]) (hs : s.size ≤ maxLen) : Strs w (some ⟨g, 0, none⟩) [s] := fun k s' hk => by
  rcases k with _ | k
  · obtain rfl : s = s' := by simpa using hk
    exact ⟨hs, _, rfl, h.cell 0⟩
  · simp at hk
set_option maxHeartbeats 1600000 in
/-- no power, or no name: nothing but new blocks. -/
theorem append_down (W : World) (Dk M : Nat) (s : ByteArray) (v : Value) (r x l : Value) (hD : BlkIs W Dk 55 #[.map (some M), r, x, l, .bool true]) (hv : ∃ A n c, v = .slice A n c) :
    Calls Tryz.prog 29 #[.pointer (some ⟨Dk, 0, none⟩), .string s, v] W fun e w' => e = .returned (.int .i64 10) ∧ Below W.heap.size W w' := by
  obtain ⟨A, n, c, rfl⟩ := hv
  have kB := four_below W 30 9 26 9 #[Value.pointer (some ⟨Dk, 0, none⟩)] #[Value.string s] #[Value.slice A n c] #[Value.string s]
  go_enter Tryz.func29, Tryz.ntmps29
  go_wp2_with fail
  generalize ((((W.alloc (Obj.cells #[Value.pointer (some ⟨Dk, 0, none⟩)] 30)).alloc (Obj.cells #[Value.string s] 9)).alloc (Obj.cells #[Value.slice A n c] 26)).alloc (Obj.cells #[Value.string s] 9)) = W4 at *
  have kD : BlkIs W4 Dk 55 _ := (kB.block Dk hD.lt).trans hD
  refine (refuse_down W4 Dk M _ (kD.cell 0) (kD.cell 4)).mono ?_
  rintro e w' ⟨rfl, rfl⟩
  go_wp2_with fail
  go_ret
  exact ⟨rfl, kB⟩
set_option maxHeartbeats 1600000 in
theorem append_bad (W : World) (Dk M : Nat) (s : ByteArray) (v : Value) (r x l : Value) (hD : BlkIs W Dk 55 #[.map (some M), r, x, l, .bool false]) (hv : ∃ A n c, v = .slice A n c) (hs : s.size ≤ maxLen) (hb : nameB s = false) :
    Calls Tryz.prog 29 #[.pointer (some ⟨Dk, 0, none⟩), .string s, v] W fun e w' => e = .returned (.int .i64 12) ∧ Below W.heap.size W w' := by
  obtain ⟨A, n, c, rfl⟩ := hv
  have kB := four_below W 30 9 26 9 #[Value.pointer (some ⟨Dk, 0, none⟩)] #[Value.string s] #[Value.slice A n c] #[Value.string s]
  obtain ⟨_, _, _, k3, _⟩ := four_new W 30 9 26 9 #[Value.pointer (some ⟨Dk, 0, none⟩)] #[Value.string s] #[Value.slice A n c] #[Value.string s] (fun _ => False)
  go_enter Tryz.func29, Tryz.ntmps29
  go_wp2_with fail
  generalize ((((W.alloc (Obj.cells #[Value.pointer (some ⟨Dk, 0, none⟩)] 30)).alloc (Obj.cells #[Value.string s] 9)).alloc (Obj.cells #[Value.slice A n c] 26)).alloc (Obj.cells #[Value.string s] 9)) = W4 at *
  have kD : BlkIs W4 Dk 55 _ := (kB.block Dk hD.lt).trans hD
  have hr := refuse_up W4 Dk M 1 _ [s] (Strs.one k3 hs) (by unfold maxLen; simp) (kD.cell 0) (kD.cell 4)
  rw [refN_no (by simp [hb])] at hr
  refine hr.mono ?_
  rintro e w' ⟨rfl, rfl⟩
  go_wp2_with fail
  go_ret
  exact ⟨rfl, kB⟩
set_option maxHeartbeats 1600000 in
theorem append_full (W : World) (Dk M : Nat) (s : ByteArray) (A : Option Addr) (n c : Nat) (rm x : Int) (l : Value) (hD : BlkIs W Dk 55 #[.map (some M), .int .i64 rm, .int .i64 x, l, .bool false]) (hs : s.size ≤ maxLen) (hb : nameB s = true) (hx : 0 ≤ x) (hx2 : x ≤ 1000000000000) (hn : n ≤ 1000000000000) (hf : rm < x + n) :
    Calls Tryz.prog 29 #[.pointer (some ⟨Dk, 0, none⟩), .string s, .slice A n c] W fun e w' => e = .returned (.int .i64 11) ∧ Below W.heap.size W w' := by
  have kB := four_below W 30 9 26 9 #[Value.pointer (some ⟨Dk, 0, none⟩)] #[Value.string s] #[Value.slice A n c] #[Value.string s]
  obtain ⟨k0, k1, k2, k3, _⟩ := four_new W 30 9 26 9 #[Value.pointer (some ⟨Dk, 0, none⟩)] #[Value.string s] #[Value.slice A n c] #[Value.string s] (fun _ => False)
  go_enter Tryz.func29, Tryz.ntmps29
  go_wp2_with fail
  generalize ((((W.alloc (Obj.cells #[Value.pointer (some ⟨Dk, 0, none⟩)] 30)).alloc (Obj.cells #[Value.string s] 9)).alloc (Obj.cells #[Value.slice A n c] 26)).alloc (Obj.cells #[Value.string s] 9)) = W4 at *
  have kD : BlkIs W4 Dk 55 _ := (kB.block Dk hD.lt).trans hD
  have hr := refuse_up W4 Dk M 1 _ [s] (Strs.one k3 hs) (by unfold maxLen; simp) (kD.cell 0) (kD.cell 4)
  rw [refN_yes (by simp [hb])] at hr
  refine hr.mono ?_
  rintro e w' ⟨rfl, rfl⟩
  have q0 := k0.cell 0
  have q1 := k1.cell 0
  have q2 := k2.cell 0
  have d2 := kD.cell 2
  have d1 := kD.cell 1
  go_wp2_with fail
  go_quiet (fail)
  go_wp2_with fail
  go_ret
  exact ⟨rfl, kB.trans (drewN_below W4 _ nq)⟩
set_option maxRecDepth 20000 in
set_option maxHeartbeats 1600000 in
theorem append_zero (W : World) (N Dk M k : Nat) (D : DataW Value) (s : ByteArray) (rm x lf : Int) (a0 : Option Addr) (n0 c0 : Nat) (z : Int) (bs : List UInt8) (A : Option Addr) (B c : Nat) (news : List UInt8)
    (hD : BlkIs W Dk 55 #[.map (some M), .int .i64 rm, .int .i64 x, .int .i64 lf, .bool false]) (hM : MapIs W M k D) (hf : OldV D s a0 n0 c0 z) (hs : s.size ≤ maxLen) (hb : nameB s = true) (hk : k < maxLen) (hx : 0 ≤ x) (hx2 : x ≤ 100000000) (hbs : bs.length = n0) (hn0 : n0 ≤ 100000000) (hm : news.length ≤ 100000000) (hr0 : x + news.length ≤ rm)
    (hown : Own5 W N (.slice a0 n0 c0) bs) (hN : N ≤ W.heap.size) (hS : Bts W B A news) (hB : B ≤ W.heap.size) (hlf : ¬ 1 ≤ lf) :
    Calls Tryz.prog 29 #[.pointer (some ⟨Dk, 0, none⟩), .string s, .slice A news.length c] W fun e w' => e = .returned (.int .i64 0) ∧ AppPost W N Dk M k D s (.int .i64 rm) (.int .i64 lf) (.bool false) (x + news.length) z (Value.slice a0 n0 c0).ownBlock (bs ++ news) w' := by
  have kB := four_below W 30 9 26 9 #[Value.pointer (some ⟨Dk, 0, none⟩)] #[Value.string s] #[Value.slice A news.length c] #[Value.string s]
  obtain ⟨k0, k1, k2, k3, kT⟩ := four_new W 30 9 26 9 #[Value.pointer (some ⟨Dk, 0, none⟩)] #[Value.string s] #[Value.slice A news.length c] #[Value.string s] (fun i => i = Dk ∨ i = M ∨ (Value.slice a0 n0 c0).ownBlock = some i)
  have hen : ∀ args w, (callFunc 57 args).run Tryz.prog w = .ok (.enter 57 args) w := enters_of Tryz.func57 (by kernel_rfl) rfl
  go_enter Tryz.func29, Tryz.ntmps29
  go_wp2_with fail
  generalize ((((W.alloc (Obj.cells #[Value.pointer (some ⟨Dk, 0, none⟩)] 30)).alloc (Obj.cells #[Value.string s] 9)).alloc (Obj.cells #[Value.slice A news.length c] 26)).alloc (Obj.cells #[Value.string s] 9)) = W4 at *
  have kD : BlkIs W4 Dk 55 _ := (kB.block Dk hD.lt).trans hD
  have hr := refuse_up W4 Dk M 1 _ [s] (Strs.one k3 hs) (by unfold maxLen; simp) (kD.cell 0) (kD.cell 4)
  rw [refN_yes (by simp [hb])] at hr
  refine hr.mono ?_
  rintro e w' ⟨rfl, rfl⟩
  have q0 := k0.cell 0
  have q1 := k1.cell 0
  have q2 := k2.cell 0
  have d2 := kD.cell 2
  have d1 := kD.cell 1
  go_wp2_with fail
  go_quiet (fail)
  go_wp2_with fail
  have hB5 := kB.trans (drewN_below W4 _ nq)
  have jD : BlkIs (W4.drewN nq) Dk 55 _ := kD
  have j0 : BlkIs (W4.drewN nq) _ 30 _ := k0
  have j1 : BlkIs (W4.drewN nq) _ 9 _ := k1
  have j2 : BlkIs (W4.drewN nq) _ 26 _ := k2
  have jT := kT.alk (c := W4.drewN nq) ⟨rfl, rfl, rfl, rfl⟩
  have jM : MapIs (W4.drewN nq) M k D := Held.same hM (hB5.block M (Held.lt hM))
  have jO := own_kept hown hB5 (Nat.le_refl _)
  have jS := hS.below (hB5.mono hB)
  have jz : W.heap.size ≤ (W4.drewN nq).heap.size := hB5.size
  clear q0 q1 q2 d2 d1 k0 k1 k2 k3 kT kD kB
  generalize W4.drewN nq = W5 at *
  refine (change_zero 57 _ _ W5 Dk lf (by omega) (jD.cell 3) _ (hen _) (app1_any W5 N Dk M k _ _ _ D s _ _ _ x a0 n0 c0 z bs A B c news jD jM hf hs hk hx hx2 hbs hn0 hm j0 j1 j2 jO (by omega) jS (by omega))).mono ?_
  rintro e w' ⟨rfl, v, p1, p2, p3, p4, p5⟩
  go_wp2_with fail
  go_ret
  exact ⟨rfl, v, p1, p2, p3, p4.imp id (fun ⟨g, h1, h2⟩ => ⟨g, h1, by omega⟩), jT.trans p5⟩
set_option maxRecDepth 20000 in
set_option maxHeartbeats 1600000 in
theorem append_more (W : World) (N Dk M k : Nat) (D : DataW Value) (s : ByteArray) (rm x lf : Int) (a0 : Option Addr) (n0 c0 : Nat) (z : Int) (bs : List UInt8) (A : Option Addr) (B c : Nat) (news : List UInt8)
    (hD : BlkIs W Dk 55 #[.map (some M), .int .i64 rm, .int .i64 x, .int .i64 lf, .bool false]) (hM : MapIs W M k D) (hf : OldV D s a0 n0 c0 z) (hs : s.size ≤ maxLen) (hb : nameB s = true) (hk : k < maxLen) (hx : 0 ≤ x) (hx2 : x ≤ 100000000) (hbs : bs.length = n0) (hn0 : n0 ≤ 100000000) (hm : news.length ≤ 100000000) (hr0 : x + news.length ≤ rm)
    (hown : Own5 W N (.slice a0 n0 c0) bs) (hN : N ≤ W.heap.size) (hS : Bts W B A news) (hB : B ≤ W.heap.size) (hlf : 1 < lf) (hlf2 : lf ≤ 9223372036854775807) :
    Calls Tryz.prog 29 #[.pointer (some ⟨Dk, 0, none⟩), .string s, .slice A news.length c] W fun e w' => e = .returned (.int .i64 0) ∧ AppPost W N Dk M k D s (.int .i64 rm) (.int .i64 (lf - 1)) (.bool false) (x + news.length) z (Value.slice a0 n0 c0).ownBlock (bs ++ news) w' := by
  have kB := four_below W 30 9 26 9 #[Value.pointer (some ⟨Dk, 0, none⟩)] #[Value.string s] #[Value.slice A news.length c] #[Value.string s]
  obtain ⟨k0, k1, k2, k3, kT⟩ := four_new W 30 9 26 9 #[Value.pointer (some ⟨Dk, 0, none⟩)] #[Value.string s] #[Value.slice A news.length c] #[Value.string s] (fun i => i = Dk ∨ i = M ∨ (Value.slice a0 n0 c0).ownBlock = some i)
  have hen : ∀ args w, (callFunc 57 args).run Tryz.prog w = .ok (.enter 57 args) w := enters_of Tryz.func57 (by kernel_rfl) rfl
  go_enter Tryz.func29, Tryz.ntmps29
  go_wp2_with fail
  generalize ((((W.alloc (Obj.cells #[Value.pointer (some ⟨Dk, 0, none⟩)] 30)).alloc (Obj.cells #[Value.string s] 9)).alloc (Obj.cells #[Value.slice A news.length c] 26)).alloc (Obj.cells #[Value.string s] 9)) = W4 at *
  have kD : BlkIs W4 Dk 55 _ := (kB.block Dk hD.lt).trans hD
  have hr := refuse_up W4 Dk M 1 _ [s] (Strs.one k3 hs) (by unfold maxLen; simp) (kD.cell 0) (kD.cell 4)
  rw [refN_yes (by simp [hb])] at hr
  refine hr.mono ?_
  rintro e w' ⟨rfl, rfl⟩
  have q0 := k0.cell 0
  have q1 := k1.cell 0
  have q2 := k2.cell 0
  have d2 := kD.cell 2
  have d1 := kD.cell 1
  go_wp2_with fail
  go_quiet (fail)
  go_wp2_with fail
  have hB5 := kB.trans (drewN_below W4 _ nq)
  have jD : BlkIs (W4.drewN nq) Dk 55 _ := kD
  have j0 : BlkIs (W4.drewN nq) _ 30 _ := k0
  have j1 : BlkIs (W4.drewN nq) _ 9 _ := k1
  have j2 : BlkIs (W4.drewN nq) _ 26 _ := k2
  have jT := kT.alk (c := W4.drewN nq) ⟨rfl, rfl, rfl, rfl⟩
  have jM : MapIs (W4.drewN nq) M k D := Held.same hM (hB5.block M (Held.lt hM))
  have jO := own_kept hown hB5 (Nat.le_refl _)
  have jS := hS.below (hB5.mono hB)
  have jz : W.heap.size ≤ (W4.drewN nq).heap.size := hB5.size
  clear q0 q1 q2 d2 d1 k0 k1 k2 k3 kT kD kB
  generalize W4.drewN nq = W5 at *
  have hne : ∀ {g : Nat} {t : TypeId} {cs : Array Value}, BlkIs W5 g t cs → t ≠ 55 → ¬ g = Dk := fun hg ht e => by
    subst e
    unfold BlkIs at hg jD
    rw [hg] at jD
    injection jD with h
    injection h with _ h
    exact ht h
  have iD : BlkIs (W5.setCell ⟨Dk, 3, none⟩ (.int .i64 (lf - 1))) Dk 55 #[.map (some M), .int .i64 rm, .int .i64 x, .int .i64 (lf - 1), .bool false] := by
    have := jD.put 3 (.int .i64 (lf - 1))
    simpa using this
  have i0 := j0.far (x := ⟨Dk, 3, none⟩) (hne j0 (by decide)) (.int .i64 (lf - 1))
  have i1 := j1.far (x := ⟨Dk, 3, none⟩) (hne j1 (by decide)) (.int .i64 (lf - 1))
  have i2 := j2.far (x := ⟨Dk, 3, none⟩) (hne j2 (by decide)) (.int .i64 (lf - 1))
  have iM : MapIs (W5.setCell ⟨Dk, 3, none⟩ (.int .i64 (lf - 1))) M k D := Held.same jM (Below.heap_setCell W5 ⟨Dk, 3, none⟩ _ M (Held.not_blk jM jD))
  have iT1 := (Tn.refl (fun i => i = Dk) W5).setCell (x := ⟨Dk, 3, none⟩) (.inl rfl) (.int .i64 (lf - 1))
  have iO := Own5.tn jO iT1 (fun g hg e => Own5.not_blk jO jD (by decide) (by rw [hg, e]))
  have iS : Bts (W5.setCell ⟨Dk, 3, none⟩ (.int .i64 (lf - 1))) B A news := Bts.num jS (jD.cell 3)
  have iT := jT.trans (iT1.mono (fun _ _ h => .inl h))
  have iz := iT.size
  have f3 := jD.froz 3
  have c3 := jD.cell 3
  refine (change_more 57 _ _ W5 Dk lf hlf hlf2 c3 f3 _ (hen _) (app1_any _ N Dk M k _ _ _ D s _ _ _ x a0 n0 c0 z bs A B c news iD iM hf hs hk hx hx2 hbs hn0 hm i0 i1 i2 iO (by omega) iS (by omega))).mono ?_
  rintro e w' ⟨rfl, v, p1, p2, p3, p4, p5⟩
  go_wp2_with fail
  go_ret
  exact ⟨rfl, v, p1, p2, p3, p4.imp id (fun ⟨g, h1, h2⟩ => ⟨g, h1, by omega⟩), iT.trans p5⟩
set_option maxRecDepth 20000 in
set_option maxHeartbeats 1600000 in
theorem append_last (W : World) (N Dk M k : Nat) (D : DataW Value) (s : ByteArray) (rm x : Int) (a0 : Option Addr) (n0 c0 : Nat) (z : Int) (bs : List UInt8) (A : Option Addr) (B c : Nat) (news : List UInt8)
    (hD : BlkIs W Dk 55 #[.map (some M), .int .i64 rm, .int .i64 x, .int .i64 1, .bool false]) (hM : MapIs W M k D) (hf : OldV D s a0 n0 c0 z) (hs : s.size ≤ maxLen) (hb : nameB s = true) (hk : k < maxLen) (hx : 0 ≤ x) (hx2 : x ≤ 100000000) (hbs : bs.length = n0) (hn0 : n0 ≤ 100000000) (hm : news.length ≤ 100000000) (hr0 : x + news.length ≤ rm)
    (hown : Own5 W N (.slice a0 n0 c0) bs) (hN : N ≤ W.heap.size) (hS : Bts W B A news) (hB : B ≤ W.heap.size) :
    Calls Tryz.prog 29 #[.pointer (some ⟨Dk, 0, none⟩), .string s, .slice A news.length c] W fun e w' => e = .returned (.int .i64 10) ∧ AppPost W N Dk M k D s (.int .i64 rm) (.int .i64 1) (.bool true) (x + news.length) z (Value.slice a0 n0 c0).ownBlock (bs ++ news) w' := by
  have kB := four_below W 30 9 26 9 #[Value.pointer (some ⟨Dk, 0, none⟩)] #[Value.string s] #[Value.slice A news.length c] #[Value.string s]
  obtain ⟨k0, k1, k2, k3, kT⟩ := four_new W 30 9 26 9 #[Value.pointer (some ⟨Dk, 0, none⟩)] #[Value.string s] #[Value.slice A news.length c] #[Value.string s] (fun i => i = Dk ∨ i = M ∨ (Value.slice a0 n0 c0).ownBlock = some i)
  have hen : ∀ args w, (callFunc 57 args).run Tryz.prog w = .ok (.enter 57 args) w := enters_of Tryz.func57 (by kernel_rfl) rfl
  go_enter Tryz.func29, Tryz.ntmps29
  go_wp2_with fail
  generalize ((((W.alloc (Obj.cells #[Value.pointer (some ⟨Dk, 0, none⟩)] 30)).alloc (Obj.cells #[Value.string s] 9)).alloc (Obj.cells #[Value.slice A news.length c] 26)).alloc (Obj.cells #[Value.string s] 9)) = W4 at *
  have kD : BlkIs W4 Dk 55 _ := (kB.block Dk hD.lt).trans hD
  have hr := refuse_up W4 Dk M 1 _ [s] (Strs.one k3 hs) (by unfold maxLen; simp) (kD.cell 0) (kD.cell 4)
  rw [refN_yes (by simp [hb])] at hr
  refine hr.mono ?_
  rintro e w' ⟨rfl, rfl⟩
  have q0 := k0.cell 0
  have q1 := k1.cell 0
  have q2 := k2.cell 0
  have d2 := kD.cell 2
  have d1 := kD.cell 1
  go_wp2_with fail
  go_quiet (fail)
  go_wp2_with fail
  have hB5 := kB.trans (drewN_below W4 _ nq)
  have jD : BlkIs (W4.drewN nq) Dk 55 _ := kD
  have j0 : BlkIs (W4.drewN nq) _ 30 _ := k0
  have j1 : BlkIs (W4.drewN nq) _ 9 _ := k1
  have j2 : BlkIs (W4.drewN nq) _ 26 _ := k2
  have jT := kT.alk (c := W4.drewN nq) ⟨rfl, rfl, rfl, rfl⟩
  have jM : MapIs (W4.drewN nq) M k D := Held.same hM (hB5.block M (Held.lt hM))
  have jO := own_kept hown hB5 (Nat.le_refl _)
  have jS := hS.below (hB5.mono hB)
  have jz : W.heap.size ≤ (W4.drewN nq).heap.size := hB5.size
  clear q0 q1 q2 d2 d1 k0 k1 k2 k3 kT kD kB
  generalize W4.drewN nq = W5 at *
  refine (change_last 57 _ _ W5 Dk (jD.cell 3) (AppPost W N Dk M k D s (.int .i64 rm) (.int .i64 1) (.bool true) (x + news.length) z (Value.slice a0 n0 c0).ownBlock (bs ++ news)) (hen _) ((app1_any W5 N Dk M k _ _ _ D s _ _ _ x a0 n0 c0 z bs A B c news jD jM hf hs hk hx hx2 hbs hn0 hm j0 j1 j2 jO (by omega) jS (by omega)).mono ?_)).mono ?_
  · rintro e w' ⟨rfl, v, p1, p2, p3, p4, p5⟩
    refine ⟨rfl, ⟨_, p1.cell 4⟩, p1.froz 4, v, ?_, Held.same p2 (Below.heap_setCell w' ⟨Dk, 4, none⟩ _ M (Held.not_blk p2 p1)), ?_, p4.imp id (fun ⟨g, h1, h2⟩ => ⟨g, h1, by omega⟩), (jT.trans p5).setCell (.inl (.inl rfl)) _⟩
    · have := p1.put 4 (.bool true)
      simpa using this
    · exact Own5.tn p3 ((Tn.refl (fun i => i = Dk) w').setCell (x := ⟨Dk, 4, none⟩) (.inl rfl) (.bool true)) (fun g hg e => Own5.not_blk p3 p1 (by decide) (by rw [hg, e]))
  · rintro e w' ⟨rfl, hp⟩
    go_wp2_with fail
    go_ret
    exact ⟨rfl, hp⟩
end Go.Proofs.YtidadjlhnlmfkaaGreatDoor
/- (*disk.Disk).Sync at whatever state. Conditions: as stated at each. -/
namespace Go.Proofs.YtidadjlhnlmfkaaGreatDoor
set_option maxRecDepth 100000
open Go.RowKit Go.Shelf Go
theorem blk_ne {W : World} {g g' : Nat} {t t' : TypeId} {cs cs' : Array Value} (h : BlkIs W g t cs) (h' : BlkIs W g' t' cs') (ht : t ≠ t') : g ≠ g' := by
  rintro rfl
  unfold BlkIs at h h'
  rw [h] at h'
  injection h' with h'
  injection h' with _ h'
  exact ht h'
section
variable (W : World) (t0 t1 t2 : TypeId) (c0 c1 c2 : Array Value)
theorem three_new (p : Nat → Prop) : BlkIs (((W.alloc (.cells c0 t0)).alloc (.cells c1 t1)).alloc (.cells c2 t2)) W.heap.size t0 c0 ∧ BlkIs (((W.alloc (.cells c0 t0)).alloc (.cells c1 t1)).alloc (.cells c2 t2)) (W.heap.size + 1) t1 c1 ∧
    BlkIs (((W.alloc (.cells c0 t0)).alloc (.cells c1 t1)).alloc (.cells c2 t2)) (W.heap.size + 1 + 1) t2 c2 ∧ Tn p W (((W.alloc (.cells c0 t0)).alloc (.cells c1 t1)).alloc (.cells c2 t2)) := by
  have a1 := BlkIs.new (W.alloc (.cells c0 t0)) t1 c1
  have a2 := BlkIs.new ((W.alloc (.cells c0 t0)).alloc (.cells c1 t1)) t2 c2
  simp only [World.size_alloc] at a1 a2
  exact ⟨((BlkIs.new W t0 c0).alloc _).alloc _, a1.alloc _, a2, (((Tn.refl p W).alloc _).alloc _).alloc _⟩
theorem three_below : Below W.heap.size W (((W.alloc (.cells c0 t0)).alloc (.cells c1 t1)).alloc (.cells c2 t2)) :=
  (((Below.refl _ W).alloc (Nat.le_refl _) _).alloc (by simp) _).alloc (by simp; omega) _
end
set_option maxHeartbeats 800000 in
theorem sync1_any (W : World) (Dk M k B0 B1 F : Nat) (D : DataW Value) (s : ByteArray) (r l b : Value) (x : Int) (a : Option Addr) (n c : Nat) (z : Int)
    (hD : BlkIs W Dk 55 #[.map (some M), r, .int .i64 x, l, b]) (hM : MapIs W M k D) (ho : at_ D s = some (.agg #[.slice a n c, .int .i64 z])) (hs : s.size ≤ maxLen) (hk : k < maxLen) (hx : 0 ≤ x) (hx2 : x ≤ 1000000000000) (hn : n ≤ 1000000000000)
    (h0 : BlkIs W B0 30 #[.pointer (some ⟨Dk, 0, none⟩)]) (h1 : BlkIs W B1 9 #[.string s]) (hF : BlkIs W F 71 #[.slice a n c, .int .i64 z]) :
    Does 80 #[.pointer (some ⟨B0, 0, none⟩), .pointer (some ⟨B1, 0, none⟩), .pointer (some ⟨F, 0, none⟩)] W (PutPost W Dk M k D s (.agg #[.slice a n c, .int .i64 n]) r l b x) := by
  have q0 := h0.cell 0
  have q1 := h1.cell 0
  have f0 := hF.cell 0
  have hx3 : x + ((n : Int) - (n : Int)) = x := by omega
  have hp := put_any W Dk M k D s r l b x n a n c n hD hM (.inr ⟨a, c, z, ho⟩) hs hk hx hx2 hn hn
  rw [hx3] at hp
  unfold Does
  go_enter Tryz.func80, Tryz.ntmps80
  go_wp2_with (go_at_call 34; refine hp.mono ?_; rintro e w' ⟨rfl, hp⟩)
  go_end0
  exact ⟨rfl, hp⟩
/-- behind Sync: the file's number is its length. -/
def SyncPost (W : World) (Dk M k : Nat) (D : DataW Value) (s : ByteArray) (v r l b : Value) (x : Int) (w' : World) : Prop :=
  BlkIs w' Dk 55 #[.map (some M), r, .int .i64 x, l, b] ∧ MapIs w' M (k + 1) (D.put (kOf s) (.held v)) ∧ Tn (fun i => i = Dk ∨ i = M) W w'
set_option maxRecDepth 20000 in
set_option maxHeartbeats 1600000 in
theorem sync_down (W : World) (Dk M : Nat) (s : ByteArray) (r x l : Value) (hD : BlkIs W Dk 55 #[.map (some M), r, x, l, .bool true]) :
    Calls Tryz.prog 59 #[.pointer (some ⟨Dk, 0, none⟩), .string s] W fun e w' => e = .returned (.int .i64 10) ∧ Below W.heap.size W w' := by
  have hx0 : ∀ w (v u : Value), (Instr.extract (.tuple #[v, u]) 0).run Tryz.prog w = .ok v w := fun _ _ _ => by kernel_rfl
  have hx1 : ∀ w (v u : Value), (Instr.extract (.tuple #[v, u]) 1).run Tryz.prog w = .ok u w := fun _ _ _ => by kernel_rfl
  have kB := three_below W 30 9 9 #[.pointer (some ⟨Dk, 0, none⟩)] #[.string s] #[.string s]
  go_enter Tryz.func59, Tryz.ntmps59
  go_wp2_with fail
  generalize (((W.alloc (Obj.cells #[Value.pointer (some ⟨Dk, 0, none⟩)] 30)).alloc (Obj.cells #[Value.string s] 9)).alloc (Obj.cells #[Value.string s] 9)) = W3 at *
  have kD : BlkIs W3 Dk 55 _ := (kB.block Dk hD.lt).trans hD
  refine (find_down W3 Dk M _ (kD.cell 0) (kD.cell 4) kD.lt).mono ?_
  rintro e W4 ⟨rfl, hb⟩
  unfold zeroFile
  have hB := kB.trans (hb.mono kB.size)
  go_wp2_with fail
  go_ret
  exact ⟨rfl, hB.alloc hB.size _⟩
set_option maxRecDepth 20000 in
set_option maxHeartbeats 1600000 in
theorem sync_bad (W : World) (Dk M : Nat) (s : ByteArray) (r x l : Value) (hD : BlkIs W Dk 55 #[.map (some M), r, x, l, .bool false]) (hs : s.size ≤ maxLen) (hb : nameB s = false) :
    Calls Tryz.prog 59 #[.pointer (some ⟨Dk, 0, none⟩), .string s] W fun e w' => e = .returned (.int .i64 12) ∧ Below W.heap.size W w' := by
  have hx0 : ∀ w (v u : Value), (Instr.extract (.tuple #[v, u]) 0).run Tryz.prog w = .ok v w := fun _ _ _ => by kernel_rfl
  have hx1 : ∀ w (v u : Value), (Instr.extract (.tuple #[v, u]) 1).run Tryz.prog w = .ok u w := fun _ _ _ => by kernel_rfl
  obtain ⟨k0, k1, k2, kT⟩ := three_new W 30 9 9 #[.pointer (some ⟨Dk, 0, none⟩)] #[.string s] #[.string s] (fun _ => False)
  have kB := three_below W 30 9 9 #[.pointer (some ⟨Dk, 0, none⟩)] #[.string s] #[.string s]
  go_enter Tryz.func59, Tryz.ntmps59
  go_wp2_with fail
  generalize (((W.alloc (Obj.cells #[Value.pointer (some ⟨Dk, 0, none⟩)] 30)).alloc (Obj.cells #[Value.string s] 9)).alloc (Obj.cells #[Value.string s] 9)) = W3 at *
  have kD : BlkIs W3 Dk 55 _ := (kB.block Dk hD.lt).trans hD
  refine (find_bad W3 Dk M 1 _ [s] _ _ _ kD (Strs.one k2 hs) (fun ad e => by cases e; exact k2.lt) (by unfold maxLen; simp) (by simp [hb])).mono ?_
  rintro e W4 ⟨rfl, hb4⟩
  unfold zeroFile
  have hB := kB.trans (hb4.mono kB.size)
  go_wp2_with fail
  go_ret
  exact ⟨rfl, hB.alloc hB.size _⟩
set_option maxRecDepth 20000 in
set_option maxHeartbeats 1600000 in
theorem sync_none (W : World) (Dk M k : Nat) (D : DataW Value) (s : ByteArray) (r x l : Value) (hD : BlkIs W Dk 55 #[.map (some M), r, x, l, .bool false]) (hM : MapIs W M k D) (hs : s.size ≤ maxLen) (hb : nameB s = true) (ho : at_ D s = none) :
    Calls Tryz.prog 59 #[.pointer (some ⟨Dk, 0, none⟩), .string s] W fun e w' => e = .returned (.int .i64 3) ∧ Below W.heap.size W w' := by
  have hx0 : ∀ w (v u : Value), (Instr.extract (.tuple #[v, u]) 0).run Tryz.prog w = .ok v w := fun _ _ _ => by kernel_rfl
  have hx1 : ∀ w (v u : Value), (Instr.extract (.tuple #[v, u]) 1).run Tryz.prog w = .ok u w := fun _ _ _ => by kernel_rfl
  obtain ⟨k0, k1, k2, kT⟩ := three_new W 30 9 9 #[.pointer (some ⟨Dk, 0, none⟩)] #[.string s] #[.string s] (fun _ => False)
  have kB := three_below W 30 9 9 #[.pointer (some ⟨Dk, 0, none⟩)] #[.string s] #[.string s]
  go_enter Tryz.func59, Tryz.ntmps59
  go_wp2_with fail
  generalize (((W.alloc (Obj.cells #[Value.pointer (some ⟨Dk, 0, none⟩)] 30)).alloc (Obj.cells #[Value.string s] 9)).alloc (Obj.cells #[Value.string s] 9)) = W3 at *
  have kD : BlkIs W3 Dk 55 _ := (kB.block Dk hD.lt).trans hD
  have kM : MapIs W3 M k D := Held.same hM (kB.block M (Held.lt hM))
  refine (find_none W3 Dk M k 1 D _ s [] _ _ _ kD kM (Strs.one k2 hs) (fun ad e => by cases e; exact k2.lt) (by unfold maxLen; simp) (by simp [hb]) ho).mono ?_
  rintro e W4 ⟨rfl, hb4⟩
  unfold zeroFile
  have hB := kB.trans (hb4.mono kB.size)
  go_wp2_with fail
  go_ret
  exact ⟨rfl, hB.alloc hB.size _⟩
end Go.Proofs.YtidadjlhnlmfkaaGreatDoor
/- (*disk.Disk).Sync where the file is there. Conditions: as stated at each. -/
namespace Go.Proofs.YtidadjlhnlmfkaaGreatDoor
set_option maxRecDepth 100000
open Go.RowKit Go.Shelf Go
set_option maxRecDepth 20000 in
set_option maxHeartbeats 1600000 in
theorem sync_zero (W : World) (Dk M k : Nat) (D : DataW Value) (s : ByteArray) (r : Value) (x lf : Int) (a : Option Addr) (n c : Nat) (z : Int)
    (hD : BlkIs W Dk 55 #[.map (some M), r, .int .i64 x, .int .i64 lf, .bool false]) (hM : MapIs W M k D) (hs : s.size ≤ maxLen) (hb : nameB s = true) (ho : at_ D s = some (.agg #[.slice a n c, .int .i64 z])) (hk : k < maxLen) (hx : 0 ≤ x) (hx2 : x ≤ 1000000000000) (hn : n ≤ 1000000000000) (hlf : ¬ 1 ≤ lf) :
    Calls Tryz.prog 59 #[.pointer (some ⟨Dk, 0, none⟩), .string s] W fun e w' => e = .returned (.int .i64 0) ∧ PutPost W Dk M k D s (.agg #[.slice a n c, .int .i64 n]) r (.int .i64 lf) (.bool false) x w' := by
  have hx0 : ∀ w (v u : Value), (Instr.extract (.tuple #[v, u]) 0).run Tryz.prog w = .ok v w := fun _ _ _ => by kernel_rfl
  have hx1 : ∀ w (v u : Value), (Instr.extract (.tuple #[v, u]) 1).run Tryz.prog w = .ok u w := fun _ _ _ => by kernel_rfl
  have hen : ∀ args w, (callFunc 80 args).run Tryz.prog w = .ok (.enter 80 args) w := enters_of Tryz.func80 (by kernel_rfl) rfl
  obtain ⟨k0, k1, k2, kT⟩ := three_new W 30 9 9 #[.pointer (some ⟨Dk, 0, none⟩)] #[.string s] #[.string s] (fun i => i = Dk ∨ i = M)
  have kB := three_below W 30 9 9 #[.pointer (some ⟨Dk, 0, none⟩)] #[.string s] #[.string s]
  go_enter Tryz.func59, Tryz.ntmps59
  go_wp2_with fail
  generalize (((W.alloc (Obj.cells #[Value.pointer (some ⟨Dk, 0, none⟩)] 30)).alloc (Obj.cells #[Value.string s] 9)).alloc (Obj.cells #[Value.string s] 9)) = W3 at *
  have kD : BlkIs W3 Dk 55 _ := (kB.block Dk hD.lt).trans hD
  have kM : MapIs W3 M k D := Held.same hM (kB.block M (Held.lt hM))
  refine (find_some W3 Dk M k 1 D _ s [] _ _ _ a n c z kD kM (Strs.one k2 hs) (fun ad e => by cases e; exact k2.lt) (by unfold maxLen; simp) (by simp [hb]) ho).mono ?_
  rintro e W4 ⟨rfl, hb4⟩
  have jB := kB.trans (hb4.mono kB.size)
  have k'D : BlkIs W4 Dk 55 _ := (hb4.block Dk kD.lt).trans kD
  have jD := k'D.alloc (.cells #[.slice a n c, .int .i64 z] 71)
  have k'0 : BlkIs W4 _ 30 _ := (hb4.block _ k0.lt).trans k0
  have j0 := k'0.alloc (.cells #[.slice a n c, .int .i64 z] 71)
  have k'1 : BlkIs W4 _ 9 _ := (hb4.block _ k1.lt).trans k1
  have j1 := k'1.alloc (.cells #[.slice a n c, .int .i64 z] 71)
  have jF := BlkIs.new W4 71 #[.slice a n c, .int .i64 z]
  have q0 := j0.cell 0
  go_wp2_with fail
  have jB5 := jB.alloc jB.size (.cells #[.slice a n c, .int .i64 z] 71)
  have jM : MapIs (W4.alloc (.cells #[.slice a n c, .int .i64 z] 71)) M k D := Held.same hM (jB5.block M (Held.lt hM))
  have jT : Tn (fun i => i = Dk ∨ i = M) W (W4.alloc (.cells #[.slice a n c, .int .i64 z] 71)) := Tn.of_below jB5
  clear kB kD kM hb4 jB k'D k'0 k'1 k0 k1 k2 kT q0 jB5
  generalize W4.alloc (.cells #[.slice a n c, .int .i64 z] 71) = W5 at *
  refine (change_zero 80 _ _ W5 Dk lf (by omega) (jD.cell 3) _ (hen _) (sync1_any W5 Dk M k _ _ _ D s _ _ _ x a n c z jD jM ho hs hk hx hx2 hn j0 j1 jF)).mono ?_
  rintro e w' ⟨rfl, p1, p2, p3⟩
  go_wp2_with fail
  go_ret
  exact ⟨rfl, p1, p2, jT.trans p3⟩
set_option maxRecDepth 20000 in
set_option maxHeartbeats 1600000 in
theorem sync_more (W : World) (Dk M k : Nat) (D : DataW Value) (s : ByteArray) (r : Value) (x lf : Int) (a : Option Addr) (n c : Nat) (z : Int)
    (hD : BlkIs W Dk 55 #[.map (some M), r, .int .i64 x, .int .i64 lf, .bool false]) (hM : MapIs W M k D) (hs : s.size ≤ maxLen) (hb : nameB s = true) (ho : at_ D s = some (.agg #[.slice a n c, .int .i64 z])) (hk : k < maxLen) (hx : 0 ≤ x) (hx2 : x ≤ 1000000000000) (hn : n ≤ 1000000000000) (hlf : 1 < lf) (hlf2 : lf ≤ 9223372036854775807) :
    Calls Tryz.prog 59 #[.pointer (some ⟨Dk, 0, none⟩), .string s] W fun e w' => e = .returned (.int .i64 0) ∧ PutPost W Dk M k D s (.agg #[.slice a n c, .int .i64 n]) r (.int .i64 (lf - 1)) (.bool false) x w' := by
  have hx0 : ∀ w (v u : Value), (Instr.extract (.tuple #[v, u]) 0).run Tryz.prog w = .ok v w := fun _ _ _ => by kernel_rfl
  have hx1 : ∀ w (v u : Value), (Instr.extract (.tuple #[v, u]) 1).run Tryz.prog w = .ok u w := fun _ _ _ => by kernel_rfl
  have hen : ∀ args w, (callFunc 80 args).run Tryz.prog w = .ok (.enter 80 args) w := enters_of Tryz.func80 (by kernel_rfl) rfl
  obtain ⟨k0, k1, k2, kT⟩ := three_new W 30 9 9 #[.pointer (some ⟨Dk, 0, none⟩)] #[.string s] #[.string s] (fun i => i = Dk ∨ i = M)
  have kB := three_below W 30 9 9 #[.pointer (some ⟨Dk, 0, none⟩)] #[.string s] #[.string s]
  go_enter Tryz.func59, Tryz.ntmps59
  go_wp2_with fail
  generalize (((W.alloc (Obj.cells #[Value.pointer (some ⟨Dk, 0, none⟩)] 30)).alloc (Obj.cells #[Value.string s] 9)).alloc (Obj.cells #[Value.string s] 9)) = W3 at *
  have kD : BlkIs W3 Dk 55 _ := (kB.block Dk hD.lt).trans hD
  have kM : MapIs W3 M k D := Held.same hM (kB.block M (Held.lt hM))
  refine (find_some W3 Dk M k 1 D _ s [] _ _ _ a n c z kD kM (Strs.one k2 hs) (fun ad e => by cases e; exact k2.lt) (by unfold maxLen; simp) (by simp [hb]) ho).mono ?_
  rintro e W4 ⟨rfl, hb4⟩
  have jB := kB.trans (hb4.mono kB.size)
  have k'D : BlkIs W4 Dk 55 _ := (hb4.block Dk kD.lt).trans kD
  have jD := k'D.alloc (.cells #[.slice a n c, .int .i64 z] 71)
  have k'0 : BlkIs W4 _ 30 _ := (hb4.block _ k0.lt).trans k0
  have j0 := k'0.alloc (.cells #[.slice a n c, .int .i64 z] 71)
  have k'1 : BlkIs W4 _ 9 _ := (hb4.block _ k1.lt).trans k1
  have j1 := k'1.alloc (.cells #[.slice a n c, .int .i64 z] 71)
  have jF := BlkIs.new W4 71 #[.slice a n c, .int .i64 z]
  have q0 := j0.cell 0
  go_wp2_with fail
  have jB5 := jB.alloc jB.size (.cells #[.slice a n c, .int .i64 z] 71)
  have jM : MapIs (W4.alloc (.cells #[.slice a n c, .int .i64 z] 71)) M k D := Held.same hM (jB5.block M (Held.lt hM))
  have jT : Tn (fun i => i = Dk ∨ i = M) W (W4.alloc (.cells #[.slice a n c, .int .i64 z] 71)) := Tn.of_below jB5
  clear kB kD kM hb4 jB k'D k'0 k'1 k0 k1 k2 kT q0 jB5
  generalize W4.alloc (.cells #[.slice a n c, .int .i64 z] 71) = W5 at *
  have iD : BlkIs (W5.setCell ⟨Dk, 3, none⟩ (.int .i64 (lf - 1))) Dk 55 #[.map (some M), r, .int .i64 x, .int .i64 (lf - 1), .bool false] := by
    have := jD.put 3 (.int .i64 (lf - 1))
    simpa using this
  have i0 := j0.far (x := ⟨Dk, 3, none⟩) (fun e => blk_ne j0 jD (by decide) e) (.int .i64 (lf - 1))
  have i1 := j1.far (x := ⟨Dk, 3, none⟩) (fun e => blk_ne j1 jD (by decide) e) (.int .i64 (lf - 1))
  have iF := jF.far (x := ⟨Dk, 3, none⟩) (fun e => blk_ne jF jD (by decide) e) (.int .i64 (lf - 1))
  have iM : MapIs (W5.setCell ⟨Dk, 3, none⟩ (.int .i64 (lf - 1))) M k D := Held.same jM (Below.heap_setCell W5 ⟨Dk, 3, none⟩ _ M (Held.not_blk jM jD))
  have iT := jT.setCell (x := ⟨Dk, 3, none⟩) (.inl (.inl rfl)) (.int .i64 (lf - 1))
  have f3 := jD.froz 3
  have c3 := jD.cell 3
  refine (change_more 80 _ _ W5 Dk lf hlf hlf2 c3 f3 _ (hen _) (sync1_any _ Dk M k _ _ _ D s _ _ _ x a n c z iD iM ho hs hk hx hx2 hn i0 i1 iF)).mono ?_
  rintro e w' ⟨rfl, p1, p2, p3⟩
  go_wp2_with fail
  go_ret
  exact ⟨rfl, p1, p2, iT.trans p3⟩
set_option maxRecDepth 20000 in
set_option maxHeartbeats 1600000 in
theorem sync_last (W : World) (Dk M k : Nat) (D : DataW Value) (s : ByteArray) (r : Value) (x : Int) (a : Option Addr) (n c : Nat) (z : Int)
    (hD : BlkIs W Dk 55 #[.map (some M), r, .int .i64 x, .int .i64 1, .bool false]) (hM : MapIs W M k D) (hs : s.size ≤ maxLen) (hb : nameB s = true) (ho : at_ D s = some (.agg #[.slice a n c, .int .i64 z])) :
    Calls Tryz.prog 59 #[.pointer (some ⟨Dk, 0, none⟩), .string s] W fun e w' => e = .returned (.int .i64 10) ∧ BlkIs w' Dk 55 #[.map (some M), r, .int .i64 x, .int .i64 1, .bool true] ∧ MapIs w' M k D ∧ Tn (fun i => i = Dk) W w' := by
  have hx0 : ∀ w (v u : Value), (Instr.extract (.tuple #[v, u]) 0).run Tryz.prog w = .ok v w := fun _ _ _ => by kernel_rfl
  have hx1 : ∀ w (v u : Value), (Instr.extract (.tuple #[v, u]) 1).run Tryz.prog w = .ok u w := fun _ _ _ => by kernel_rfl
  have hen : ∀ args w, (callFunc 79 args).run Tryz.prog w = .ok (.enter 79 args) w := enters_of Tryz.func79 (by kernel_rfl) rfl
  obtain ⟨k0, k1, k2, kT⟩ := three_new W 30 9 9 #[.pointer (some ⟨Dk, 0, none⟩)] #[.string s] #[.string s] (fun i => i = Dk)
  have kB := three_below W 30 9 9 #[.pointer (some ⟨Dk, 0, none⟩)] #[.string s] #[.string s]
  go_enter Tryz.func59, Tryz.ntmps59
  go_wp2_with fail
  generalize (((W.alloc (Obj.cells #[Value.pointer (some ⟨Dk, 0, none⟩)] 30)).alloc (Obj.cells #[Value.string s] 9)).alloc (Obj.cells #[Value.string s] 9)) = W3 at *
  have kD : BlkIs W3 Dk 55 _ := (kB.block Dk hD.lt).trans hD
  have kM : MapIs W3 M k D := Held.same hM (kB.block M (Held.lt hM))
  refine (find_some W3 Dk M k 1 D _ s [] _ _ _ a n c z kD kM (Strs.one k2 hs) (fun ad e => by cases e; exact k2.lt) (by unfold maxLen; simp) (by simp [hb]) ho).mono ?_
  rintro e W4 ⟨rfl, hb4⟩
  have jB := kB.trans (hb4.mono kB.size)
  have k'D : BlkIs W4 Dk 55 _ := (hb4.block Dk kD.lt).trans kD
  have jD := k'D.alloc (.cells #[.slice a n c, .int .i64 z] 71)
  have k'0 : BlkIs W4 _ 30 _ := (hb4.block _ k0.lt).trans k0
  have j0 := k'0.alloc (.cells #[.slice a n c, .int .i64 z] 71)
  have k'1 : BlkIs W4 _ 9 _ := (hb4.block _ k1.lt).trans k1
  have j1 := k'1.alloc (.cells #[.slice a n c, .int .i64 z] 71)
  have jF := BlkIs.new W4 71 #[.slice a n c, .int .i64 z]
  have q0 := j0.cell 0
  go_wp2_with fail
  have jB5 := jB.alloc jB.size (.cells #[.slice a n c, .int .i64 z] 71)
  have jM : MapIs (W4.alloc (.cells #[.slice a n c, .int .i64 z] 71)) M k D := Held.same hM (jB5.block M (Held.lt hM))
  have jT : Tn (fun i => i = Dk) W (W4.alloc (.cells #[.slice a n c, .int .i64 z] 71)) := Tn.of_below jB5
  clear kB kD kM hb4 jB k'D k'0 k'1 k0 k1 k2 kT q0 jB5
  generalize W4.alloc (.cells #[.slice a n c, .int .i64 z] 71) = W5 at *
  refine (change_last 79 _ _ W5 Dk (jD.cell 3) (fun w' => BlkIs w' Dk 55 #[.map (some M), r, .int .i64 x, .int .i64 1, .bool true] ∧ MapIs w' M k D ∧ Tn (fun i => i = Dk) W w') (hen _) ((nothing_any W5).mono ?_)).mono ?_
  · rintro e w' ⟨rfl, rfl⟩
    refine ⟨rfl, ⟨_, jD.cell 4⟩, jD.froz 4, ?_, Held.same jM (Below.heap_setCell W5 ⟨Dk, 4, none⟩ _ M (Held.not_blk jM jD)), jT.setCell (.inl rfl) _⟩
    have := jD.put 4 (.bool true)
    simpa using this
  · rintro e w' ⟨rfl, hp⟩
    go_wp2_with fail
    go_ret
    exact ⟨rfl, hp⟩
end Go.Proofs.YtidadjlhnlmfkaaGreatDoor
/- (*disk.Disk).Read and Arm at whatever state. Conditions: as stated at each. -/
namespace Go.Proofs.YtidadjlhnlmfkaaGreatDoor
set_option maxRecDepth 100000
open Go.RowKit Go.Shelf Go
/-- bytes and an error: a row of its own. -/
def ReadP (W : World) (l : List UInt8) (x : Int) (e : Ending) (w' : World) : Prop := ∃ v, e = .returned (.tuple #[v, .int .i64 x]) ∧ Own5 w' W.heap.size v l ∧ Below W.heap.size W w'
theorem Own5.base {w : World} {N M : Nat} {v : Value} {l : List UInt8} (h : Own5 w N v l) (hM : M ≤ N) : Own5 w M v l := own_more h hM
set_option maxHeartbeats 1600000 in
theorem read_down (W : World) (Dk M : Nat) (s : ByteArray) (r x l : Value) (hD : BlkIs W Dk 55 #[.map (some M), r, x, l, .bool true]) :
    Calls Tryz.prog 18 #[.pointer (some ⟨Dk, 0, none⟩), .string s] W fun e w' => ReadP W [] 10 e w' := by
  have hx0 : ∀ w (v u : Value), (Instr.extract (.tuple #[v, u]) 0).run Tryz.prog w = .ok v w := fun _ _ _ => by kernel_rfl
  have hx1 : ∀ w (v u : Value), (Instr.extract (.tuple #[v, u]) 1).run Tryz.prog w = .ok u w := fun _ _ _ => by kernel_rfl
  have kB : Below W.heap.size W (W.alloc (.cells #[.string s] 9)) := (Below.refl _ W).alloc (Nat.le_refl _) _
  go_enter Tryz.func18, Tryz.ntmps18
  go_wp2_with fail
  generalize W.alloc (.cells #[.string s] 9) = W3 at *
  have kD : BlkIs W3 Dk 55 _ := (kB.block Dk hD.lt).trans hD
  refine (find_down W3 Dk M _ (kD.cell 0) (kD.cell 4) kD.lt).mono ?_
  rintro e W4 ⟨rfl, hb4⟩
  unfold zeroFile
  have jB := kB.trans (hb4.mono kB.size)
  have jB5 := jB.alloc jB.size (.cells #[.slice none 0 0, .int .i64 0] 71)
  have jF := BlkIs.new W4 71 #[.slice none 0 0, .int .i64 0]
  have q0 := jF.cell 0
  have hcl := clone_any none W4.heap.size 0 [] (W4.alloc (.cells #[.slice none 0 0, .int .i64 0] 71)) Cs.nil (by simp) (by simp)
  go_wp2_with fail
  refine hcl.mono ?_
  rintro e w' ⟨v, rfl, p1, p2⟩
  go_wp2_with fail
  go_ret2
  exact ⟨v, rfl, p1.base jB5.size, jB5.trans (p2.mono jB5.size)⟩
set_option maxHeartbeats 1600000 in
theorem read_bad (W : World) (Dk M : Nat) (s : ByteArray) (r x l : Value) (hD : BlkIs W Dk 55 #[.map (some M), r, x, l, .bool false]) (hs : s.size ≤ maxLen) (hb : nameB s = false) :
    Calls Tryz.prog 18 #[.pointer (some ⟨Dk, 0, none⟩), .string s] W fun e w' => ReadP W [] 12 e w' := by
  have hx0 : ∀ w (v u : Value), (Instr.extract (.tuple #[v, u]) 0).run Tryz.prog w = .ok v w := fun _ _ _ => by kernel_rfl
  have hx1 : ∀ w (v u : Value), (Instr.extract (.tuple #[v, u]) 1).run Tryz.prog w = .ok u w := fun _ _ _ => by kernel_rfl
  have k2 := BlkIs.new W 9 #[.string s]
  have kB : Below W.heap.size W (W.alloc (.cells #[.string s] 9)) := (Below.refl _ W).alloc (Nat.le_refl _) _
  go_enter Tryz.func18, Tryz.ntmps18
  go_wp2_with fail
  generalize W.alloc (.cells #[.string s] 9) = W3 at *
  have kD : BlkIs W3 Dk 55 _ := (kB.block Dk hD.lt).trans hD
  refine (find_bad W3 Dk M 1 _ [s] _ _ _ kD (Strs.one k2 hs) (fun ad e => by cases e; exact k2.lt) (by unfold maxLen; simp) (by simp [hb])).mono ?_
  rintro e W4 ⟨rfl, hb4⟩
  unfold zeroFile
  have jB := kB.trans (hb4.mono kB.size)
  have jB5 := jB.alloc jB.size (.cells #[.slice none 0 0, .int .i64 0] 71)
  have jF := BlkIs.new W4 71 #[.slice none 0 0, .int .i64 0]
  have q0 := jF.cell 0
  have hcl := clone_any none W4.heap.size 0 [] (W4.alloc (.cells #[.slice none 0 0, .int .i64 0] 71)) Cs.nil (by simp) (by simp)
  go_wp2_with fail
  refine hcl.mono ?_
  rintro e w' ⟨v, rfl, p1, p2⟩
  go_wp2_with fail
  go_ret2
  exact ⟨v, rfl, p1.base jB5.size, jB5.trans (p2.mono jB5.size)⟩
set_option maxHeartbeats 1600000 in
theorem read_none (W : World) (Dk M k : Nat) (D : DataW Value) (s : ByteArray) (r x l : Value) (hD : BlkIs W Dk 55 #[.map (some M), r, x, l, .bool false]) (hM : MapIs W M k D) (hs : s.size ≤ maxLen) (hb : nameB s = true) (ho : at_ D s = none) :
    Calls Tryz.prog 18 #[.pointer (some ⟨Dk, 0, none⟩), .string s] W fun e w' => ReadP W [] 3 e w' := by
  have hx0 : ∀ w (v u : Value), (Instr.extract (.tuple #[v, u]) 0).run Tryz.prog w = .ok v w := fun _ _ _ => by kernel_rfl
  have hx1 : ∀ w (v u : Value), (Instr.extract (.tuple #[v, u]) 1).run Tryz.prog w = .ok u w := fun _ _ _ => by kernel_rfl
  have k2 := BlkIs.new W 9 #[.string s]
  have kB : Below W.heap.size W (W.alloc (.cells #[.string s] 9)) := (Below.refl _ W).alloc (Nat.le_refl _) _
  go_enter Tryz.func18, Tryz.ntmps18
  go_wp2_with fail
  generalize W.alloc (.cells #[.string s] 9) = W3 at *
  have kD : BlkIs W3 Dk 55 _ := (kB.block Dk hD.lt).trans hD
  have kM : MapIs W3 M k D := Held.same hM (kB.block M (Held.lt hM))
  refine (find_none W3 Dk M k 1 D _ s [] _ _ _ kD kM (Strs.one k2 hs) (fun ad e => by cases e; exact k2.lt) (by unfold maxLen; simp) (by simp [hb]) ho).mono ?_
  rintro e W4 ⟨rfl, hb4⟩
  unfold zeroFile
  have jB := kB.trans (hb4.mono kB.size)
  have jB5 := jB.alloc jB.size (.cells #[.slice none 0 0, .int .i64 0] 71)
  have jF := BlkIs.new W4 71 #[.slice none 0 0, .int .i64 0]
  have q0 := jF.cell 0
  have hcl := clone_any none W4.heap.size 0 [] (W4.alloc (.cells #[.slice none 0 0, .int .i64 0] 71)) Cs.nil (by simp) (by simp)
  go_wp2_with fail
  refine hcl.mono ?_
  rintro e w' ⟨v, rfl, p1, p2⟩
  go_wp2_with fail
  go_ret2
  exact ⟨v, rfl, p1.base jB5.size, jB5.trans (p2.mono jB5.size)⟩
set_option maxHeartbeats 1600000 in
theorem read_some (W : World) (Dk M k : Nat) (D : DataW Value) (s : ByteArray) (r x l : Value) (hD : BlkIs W Dk 55 #[.map (some M), r, x, l, .bool false]) (hM : MapIs W M k D) (hs : s.size ≤ maxLen) (hb : nameB s = true) (N : Nat) (a : Option Addr) (n c : Nat) (z : Int) (bs : List UInt8) (ho : at_ D s = some (.agg #[.slice a n c, .int .i64 z])) (hbs : bs.length = n) (hn : n ≤ 500000000) (hown : Own5 W N (.slice a n c) bs) :
    Calls Tryz.prog 18 #[.pointer (some ⟨Dk, 0, none⟩), .string s] W fun e w' => ReadP W bs 0 e w' := by
  have hx0 : ∀ w (v u : Value), (Instr.extract (.tuple #[v, u]) 0).run Tryz.prog w = .ok v w := fun _ _ _ => by kernel_rfl
  have hx1 : ∀ w (v u : Value), (Instr.extract (.tuple #[v, u]) 1).run Tryz.prog w = .ok u w := fun _ _ _ => by kernel_rfl
  have k2 := BlkIs.new W 9 #[.string s]
  have kB : Below W.heap.size W (W.alloc (.cells #[.string s] 9)) := (Below.refl _ W).alloc (Nat.le_refl _) _
  go_enter Tryz.func18, Tryz.ntmps18
  go_wp2_with fail
  generalize W.alloc (.cells #[.string s] 9) = W3 at *
  have kD : BlkIs W3 Dk 55 _ := (kB.block Dk hD.lt).trans hD
  have kM : MapIs W3 M k D := Held.same hM (kB.block M (Held.lt hM))
  refine (find_some W3 Dk M k 1 D _ s [] _ _ _ a n c z kD kM (Strs.one k2 hs) (fun ad e => by cases e; exact k2.lt) (by unfold maxLen; simp) (by simp [hb]) ho).mono ?_
  rintro e W4 ⟨rfl, hb4⟩
  have jB := kB.trans (hb4.mono kB.size)
  have jB5 := jB.alloc jB.size (.cells #[.slice a n c, .int .i64 z] 71)
  have jF := BlkIs.new W4 71 #[.slice none 0 0, .int .i64 0]
  have q0 := jF.cell 0
  have hcl := clone_any a W4.heap.size c bs (W4.alloc (.cells #[.slice a n c, .int .i64 z] 71)) ((Own5.bts (own_kept hown jB (Nat.le_refl _))).below ((Below.refl _ _).alloc (Nat.le_refl _) _)) (by simp) (by omega)
  rw [hbs] at hcl
  go_wp2_with fail
  refine hcl.mono ?_
  rintro e w' ⟨v, rfl, p1, p2⟩
  go_wp2_with fail
  go_ret2
  exact ⟨v, rfl, p1.base jB5.size, jB5.trans (p2.mono jB5.size)⟩
set_option maxHeartbeats 400000 in
theorem arm_any (W : World) (Dk M : Nat) (r x b : Value) (m n : Int) (hD : BlkIs W Dk 55 #[.map (some M), r, x, .int .i64 m, b]) :
    Calls Tryz.prog 12 #[.pointer (some ⟨Dk, 0, none⟩), .int .i64 n] W fun e w' => e = .returned (.tuple #[]) ∧ w' = W.setCell ⟨Dk, 3, none⟩ (.int .i64 n) := by
  have c0 := hD.cell 0
  have c3 := hD.cell 3
  have f3 := hD.froz 3
  go_enter Tryz.func12, Tryz.ntmps12
  go_wp2_with (go_at_call 32; refine (made_any _ Dk M c0).mono ?_; rintro e w' ⟨rfl, rfl⟩)
  go_end0
  exact ⟨rfl, rfl⟩
end Go.Proofs.YtidadjlhnlmfkaaGreatDoor
