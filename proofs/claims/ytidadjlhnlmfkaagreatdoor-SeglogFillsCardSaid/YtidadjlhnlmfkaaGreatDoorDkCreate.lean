/- (*disk.Disk).Create of a file that there isn't, and Free, over the disk's state. Conditions: as stated at each. -/
import Derived.Test.YtidadjlhnlmfkaaGreatDoorDkNo
import Derived.Test.YtidadjlhnlmfkaaGreatDoorDkDel
namespace Go.Proofs.YtidadjlhnlmfkaaGreatDoor
open Go.RowKit Go.Shelf Go
/-- the world in which a change is done that isn't the last one. -/
def armed (W : World) (Dk : Nat) (lf : Int) : World := if 1 < lf then W.setCell ⟨Dk, 3, none⟩ (.int .i64 (lf - 1)) else W
theorem armed_blk {W : World} {Dk : Nat} {lf : Int} {m r x b : Value} (h : BlkIs W Dk 55 #[m, r, x, .int .i64 lf, b]) : BlkIs (armed W Dk lf) Dk 55 #[m, r, x, .int .i64 (lfA lf), b] := by
  unfold armed lfA
  by_cases h1 : 1 < lf
  · rw [if_pos h1, if_pos h1]
    have := h.put 3 (.int .i64 (lf - 1))
    simpa using this
  · rw [if_neg h1, if_neg h1]
    exact h
theorem armed_tn {p : Nat → Prop} {W0 W : World} {Dk : Nat} {lf : Int} (h : Tn p W0 W) (hp : p Dk) : Tn p W0 (armed W Dk lf) := by
  unfold armed
  split
  · exact h.setCell (x := ⟨Dk, 3, none⟩) (.inl hp) _
  · exact h
theorem armed_heap {W : World} {Dk : Nat} {lf : Int} {g : Nat} (h : g ≠ Dk) : (armed W Dk lf).heap[g]? = W.heap[g]? := by
  unfold armed
  split
  · exact Below.heap_setCell W ⟨Dk, 3, none⟩ _ g h
  · rfl
theorem change_lf (f g : Nat) (ps qs : Array Value) (W : World) (Dk : Nat) (lf : Int) (hlf : lf ≤ 9223372036854775807) {m r x b : Value} (hD : BlkIs W Dk 55 #[m, r, x, .int .i64 lf, b]) (Q : World → Prop)
    (hf : ∀ w, (callFunc f ps).run Tryz.prog w = .ok (.enter f ps) w) (hg : ∀ w, (callFunc g qs).run Tryz.prog w = .ok (.enter g qs) w)
    (hW : lf ≠ 1 → Does f ps (armed W Dk lf) Q) (hC : lf = 1 → Does g qs W (fun w' => (∃ u, w'.cell? ⟨Dk, 4, none⟩ = some (.bool u)) ∧ w'.frozen? ⟨Dk, 4, none⟩ = false ∧ Q (w'.setCell ⟨Dk, 4, none⟩ (.bool true)))) :
    Calls Tryz.prog 58 #[.pointer (some ⟨Dk, 0, none⟩), .func (.func f) #[] ps, .func (.func g) #[] qs] W fun e w' => e = .returned (.int .i64 (erA lf)) ∧ Q w' := by
  unfold erA
  by_cases h1 : lf = 1
  · subst h1
    exact change_last g qs _ W Dk (hD.cell 3) Q hg (hC rfl)
  · rw [if_neg h1]
    have hw := hW h1
    unfold armed at hw
    by_cases h2 : 1 < lf
    · rw [if_pos h2] at hw
      exact change_more f ps _ W Dk lf h2 hlf (hD.cell 3) (hD.froz 3) Q hf hw
    · rw [if_neg h2] at hw
      exact change_zero f ps _ W Dk lf (by omega) (hD.cell 3) Q hf hw
set_option maxHeartbeats 800000 in
theorem create1_any (W : World) (Dk M k B0 B1 : Nat) (D : DataW Value) (s : ByteArray) (r l b : Value) (x : Int) (n0 : Nat)
    (hD : BlkIs W Dk 55 #[.map (some M), r, .int .i64 x, l, b]) (hM : MapIs W M k D) (ho : OldIs D s n0) (hs : s.size ≤ maxLen) (hk : k < maxLen) (hx : 0 ≤ x) (hx2 : x ≤ 1000000000000) (hn : n0 ≤ 1000000000000)
    (h0 : BlkIs W B0 30 #[.pointer (some ⟨Dk, 0, none⟩)]) (h1 : BlkIs W B1 9 #[.string s]) :
    Does 91 #[.pointer (some ⟨B0, 0, none⟩), .pointer (some ⟨B1, 0, none⟩)] W (PutPost W Dk M k D s (.agg #[.slice none 0 0, .int .i64 0]) r l b (x - n0)) := by
  have q0 := h0.cell 0
  have q1 := h1.cell 0
  have hx3 : x + (((0 : Nat) : Int) - (n0 : Int)) = x - n0 := by omega
  have hp := put_any W Dk M k D s r l b x n0 none 0 0 0 hD hM ho hs hk hx hx2 (by omega) hn
  rw [hx3] at hp
  unfold Does
  go_enter Tryz.func91, Tryz.ntmps91
  go_wp2_with (go_at_call 34; refine hp.mono ?_; rintro e w' ⟨rfl, hp⟩)
  go_end0
  exact ⟨rfl, hp⟩
/-- behind Create of a file that there was not. -/
def Made (W : World) (N : Nat) (Ft : Nat → Prop) (Dk k : Nat) (F : Files) (s : ByteArray) (rm x lf : Int) (w' : World) : Prop :=
  DiskS w' N (NewFt Ft W w') Dk (k + 1) (if lf = 1 then F else F.upd s (some ([], 0))) rm x (lfA lf) (decide (lf = 1)) ∧ Tn Ft W w'
set_option maxRecDepth 20000 in
set_option maxHeartbeats 1600000 in
theorem create_S (W : World) (N : Nat) (Ft : Nat → Prop) (Dk k : Nat) (F : Files) (s : ByteArray) (rm x lf : Int)
    (hS : DiskS W N Ft Dk k F rm x lf false) (hb : nameB s = true) (hf : F s = none) (hk : k < maxLen) (hx : 0 ≤ x) (hx2 : x ≤ 100000000) (hlf : lf ≤ 9223372036854775807) :
    Calls Tryz.prog 71 #[.pointer (some ⟨Dk, 0, none⟩), .string s] W fun e w' => e = .returned (.int .i64 (erA lf)) ∧ Made W N Ft Dk k F s rm x lf w' := by
  obtain ⟨M, D, hD, hM, f1, f2, hF⟩ := hS
  have hs := nameB_size hb
  have ha := hF.1 s hf
  obtain ⟨k0, k1, k2, kT⟩ := three_new W 30 9 9 #[.pointer (some ⟨Dk, 0, none⟩)] #[.string s] #[.string s] (fun i => i = Dk ∨ i = M)
  have kB := three_below W 30 9 9 #[.pointer (some ⟨Dk, 0, none⟩)] #[.string s] #[.string s]
  have hen : ∀ args w, (callFunc 91 args).run Tryz.prog w = .ok (.enter 91 args) w := enters_of Tryz.func91 (by kernel_rfl) rfl
  have hen2 : ∀ args w, (callFunc 79 args).run Tryz.prog w = .ok (.enter 79 args) w := enters_of Tryz.func79 (by kernel_rfl) rfl
  go_enter Tryz.func71, Tryz.ntmps71
  go_wp2_with fail
  generalize (((W.alloc (Obj.cells #[Value.pointer (some ⟨Dk, 0, none⟩)] 30)).alloc (Obj.cells #[Value.string s] 9)).alloc (Obj.cells #[Value.string s] 9)) = W3 at *
  have kD : BlkIs W3 Dk 55 _ := (kB.block Dk hD.lt).trans hD
  have kM : MapIs W3 M k D := Held.same hM (kB.block M (Held.lt hM))
  have hr := refuse_up W3 Dk M 1 _ [s] (Strs.one k2 hs) (by unfold maxLen; simp) (kD.cell 0) (kD.cell 4)
  rw [refN_yes (by simp [hb])] at hr
  refine hr.mono ?_
  rintro e w' ⟨rfl, rfl⟩
  have q0 := k0.cell 0
  go_wp2_with fail
  have hne := Held.not_blk kM kD
  have h0D := blk_ne k0 kD (by decide)
  have h1D := blk_ne k1 kD (by decide)
  clear q0
  refine (change_lf 91 79 _ #[] W3 Dk lf hlf kD (fun w' => Made W N Ft Dk k F s rm x lf w') (hen _) (hen2 _) (fun hl => ?_) (fun hl => ?_)).mono ?_
  · have jD := armed_blk kD
    have jM : MapIs (armed W3 Dk lf) M k D := Held.same kM (armed_heap hne)
    have j0 : BlkIs (armed W3 Dk lf) _ 30 _ := (armed_heap h0D).trans k0
    have j1 : BlkIs (armed W3 Dk lf) _ 9 _ := (armed_heap h1D).trans k1
    have jT := armed_tn (lf := lf) kT (.inl rfl)
    refine (create1_any (armed W3 Dk lf) Dk M k _ _ D s _ _ _ x 0 jD jM (.inl ⟨ha, rfl⟩) hs hk hx (by omega) (by omega) j0 j1).mono ?_
    rintro e w' ⟨rfl, p1, p2, p3⟩
    have hT := jT.trans p3
    refine ⟨rfl, ?_⟩
    unfold Made
    rw [if_neg hl, decide_eq_false hl]
    refine ⟨⟨M, _, by simpa using p1, p2, .inl f1, .inl f2, files_put hF hM hD (by decide) (Own5.nil _ _) (Nat.le_refl _) (.inl ⟨ha, rfl⟩) (.inl rfl) (hT.mono fun i _ hi => ?_)⟩, hT.mono fun i _ hi => ?_⟩
    · rcases hi with hi | hi
      · exact .inl hi
      · exact .inr (.inl hi)
    · rcases hi with rfl | rfl
      · exact f1
      · exact f2
  · subst hl
    refine (nothing_any W3).mono ?_
    rintro e w' ⟨rfl, rfl⟩
    have hT := (Tn.of_below (p := fun i => i = Dk) kB).setCell (x := ⟨Dk, 4, none⟩) (.inl rfl) (.bool true)
    refine ⟨rfl, ⟨_, kD.cell 4⟩, kD.froz 4, ?_⟩
    unfold Made
    rw [if_pos rfl]
    have hT2 : Tn Ft W (W3.setCell ⟨Dk, 4, none⟩ (.bool true)) := hT.mono fun i _ hi => by
      have hi : i = Dk := hi
      rw [hi]
      exact f1
    refine ⟨⟨M, D, ?_, World.ownsMap.mono (Held.same kM (Below.heap_setCell W3 ⟨Dk, 4, none⟩ _ M hne)) (by omega), .inl f1, .inl f2, files_keep hF hT (fun i h => .inl h) (fun v l g ho hg hp => Own5.not_blk ho hD (by decide) (by rw [hg, hp]))⟩, hT2⟩
    have := kD.put 4 (.bool true)
    simpa [lfA] using this
  · rintro e w' ⟨rfl, hp⟩
    go_wp2_with fail
    go_ret
    exact ⟨rfl, hp⟩
set_option maxHeartbeats 800000 in
theorem free_S (W : World) (N : Nat) (Ft : Nat → Prop) (Dk k : Nat) (F : Files) (rm x lf : Int) (hS : DiskS W N Ft Dk k F rm x lf false) (hx : 0 ≤ x) (hx2 : x ≤ 100000000) (hr : x ≤ rm) (hr2 : rm ≤ 1000000000000) :
    Calls Tryz.prog 55 #[.pointer (some ⟨Dk, 0, none⟩)] W fun e w' => e = .returned (.int .i64 (rm - x)) ∧ Below W.heap.size W w' := by
  obtain ⟨M, D, hD, hM, f1, f2, hF⟩ := hS
  have c1 := hD.cell 1
  have c2 := hD.cell 2
  have hd := down_any W Dk M false (hD.cell 0) (hD.cell 4)
  have hm : max (rm - x) 0 = rm - x := by omega
  go_enter Tryz.func55, Tryz.ntmps55
  go_wp2_with (go_at_call 20; refine hd.mono ?_; rintro e w' ⟨rfl, rfl⟩)
  go_region
  all_goals go_wp2_with fail
  all_goals go_ret
  all_goals exact ⟨rfl, (Below.refl _ W).drew⟩
end Go.Proofs.YtidadjlhnlmfkaaGreatDoor
