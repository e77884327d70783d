/- A log's calls that change its disk: sync, begin, roll. Conditions: as stated at each. -/
import Derived.Test.YtidadjlhnlmfkaaGreatDoorSlState
namespace Go.Proofs.YtidadjlhnlmfkaaGreatDoor
open Go.RowKit Go.Shelf Go Go.Maps
/-- the blocks of a log and its disk. -/
def OwnL (Ft : Nat → Prop) (L G : Nat) : Nat → Prop := fun i => Ft i ∨ i = L ∨ i = G
theorem newFt_trans {Ft : Nat → Prop} {W W1 W2 : World} (h1 : W.heap.size ≤ W1.heap.size) (h2 : W1.heap.size ≤ W2.heap.size) : ∀ i, NewFt (NewFt Ft W W1) W1 W2 i → NewFt Ft W W2 i := by
  rintro i ((h | ⟨h3, h4⟩) | ⟨h3, h4⟩)
  · exact .inl h
  · exact .inr ⟨h3, by omega⟩
  · exact .inr ⟨by omega, h4⟩
theorem newFt_up {Ft : Nat → Prop} {W W1 W2 : World} (h1 : W.heap.size ≤ W1.heap.size) : ∀ i, NewFt Ft W1 W2 i → NewFt Ft W W2 i := by
  rintro i (h | ⟨h3, h4⟩)
  · exact .inl h
  · exact .inr ⟨by omega, h4⟩
theorem newFt_not {Ft : Nat → Prop} {W W1 : World} {L : Nat} (h : ¬ Ft L) (hl : L < W.heap.size) : ¬ NewFt Ft W W1 L := by
  rintro (h1 | ⟨h1, _⟩)
  · exact h h1
  · omega
section
variable {W w' : World} {N Dk k k' L G : Nat} {Ft : Nat → Prop} {F F' : Files} {rm x x' lf lf' : Int} {b b' : Bool} {nm : ByteArray} {sz : Int} {g : List (Nat × Nat)} {dead : Bool}
theorem LogS.ltL (h : LogS W N Ft Dk k F rm x lf b L G nm sz g dead) : L < W.heap.size := BlkIs.lt h.2.1
theorem LogS.ltG (h : LogS W N Ft Dk k F rm x lf b L G nm sz g dead) : G < W.heap.size := SegM.lt h.2.2.1
theorem LogS.ne (h : LogS W N Ft Dk k F rm x lf b L G nm sz g dead) : G ≠ L := SegM.not_blk h.2.2.1 h.2.1
/-- behind a call of the disk's. -/
theorem LogS.disk (h : LogS W N Ft Dk k F rm x lf b L G nm sz g dead) (hD : DiskS w' N (NewFt Ft W w') Dk k' F' rm x' lf' b') (hT : Tn Ft W w') (hk : k ≤ k') : LogS w' N (NewFt Ft W w') Dk k' F' rm x' lf' b' L G nm sz g dead :=
  ⟨hD, (hT.block L h.ltL h.2.2.2.1).trans h.2.1, (h.2.2.1.same (hT.block G h.ltG h.2.2.2.2)).mono hk, newFt_not h.2.2.2.1 h.ltL, newFt_not h.2.2.2.2 h.ltG⟩
theorem LogS.below (h : LogS W N Ft Dk k F rm x lf b L G nm sz g dead) (hB : Below W.heap.size W w') : LogS w' N Ft Dk k F rm x lf b L G nm sz g dead :=
  ⟨h.1.below hB, (hB.block L h.ltL).trans h.2.1, h.2.2.1.same (hB.block G h.ltG), h.2.2.2.1, h.2.2.2.2⟩
theorem LogS.alk (h : LogS W N Ft Dk k F rm x lf b L G nm sz g dead) (hA : Alk W w') : LogS w' N Ft Dk k F rm x lf b L G nm sz g dead :=
  h.below ⟨hA.2.1, hA.2.2.1, hA.2.2.2, by rw [hA.1]; exact Nat.le_refl _, fun i _ => by rw [hA.1]⟩
/-- others' writes. -/
theorem LogS.keep {p : Nat → Prop} (h : LogS W N Ft Dk k F rm x lf b L G nm sz g dead) (hT : Tn p W w') (hp : ∀ i, OwnL Ft L G i → ¬ p i) : LogS w' N Ft Dk k F rm x lf b L G nm sz g dead :=
  ⟨h.1.keep hT (fun i hi => hp i (.inl hi)), (hT.block L h.ltL (hp L (.inr (.inl rfl)))).trans h.2.1, h.2.2.1.same (hT.block G h.ltG (hp G (.inr (.inr rfl)))), h.2.2.2.1, h.2.2.2.2⟩
theorem LogS.more {Ft' : Nat → Prop} (h : LogS W N Ft Dk k F rm x lf b L G nm sz g dead) (hf : ∀ i, Ft i → Ft' i) (hk : k ≤ k') (h1 : ¬ Ft' L) (h2 : ¬ Ft' G) : LogS W N Ft' Dk k' F rm x lf b L G nm sz g dead :=
  ⟨h.1.more hf hk, h.2.1, h.2.2.1.mono hk, h1, h2⟩
/-- a field of the log is set. -/
theorem LogS.set {i : Nat} {v : Value} {dead' : Bool} (h : LogS W N Ft Dk k F rm x lf b L G nm sz g dead) (hv : i = 5 ∧ v = .bool dead') : LogS (W.setCell ⟨L, i, none⟩ v) N Ft Dk k F rm x lf b L G nm sz g dead' := by
  obtain ⟨rfl, rfl⟩ := hv
  have hT := (Tn.refl (fun i => i = L) W).setCell (x := ⟨L, 5, none⟩) (.inl rfl) (.bool dead')
  refine ⟨h.1.keep hT (fun i hi e => h.2.2.2.1 (by rw [← e]; exact hi)), ?_, h.2.2.1.same (Below.heap_setCell W ⟨L, 5, none⟩ _ G h.ne), h.2.2.2.1, h.2.2.2.2⟩
  have := BlkIs.put h.2.1 5 (.bool dead')
  simpa [LogB] using this
/-- the number of the last one is set, behind the map's turn. -/
theorem LogS.last {W1 : World} {g' : List (Nat × Nat)} (h : LogS W N Ft Dk k F rm x lf b L G nm sz g dead) (hg : W.grownBy W1 (some G)) (hM : SegM W1 G k' g') (hk : k ≤ k') : LogS (W1.setCell ⟨L, 4, none⟩ (.int .i64 (g'.length : Nat))) N Ft Dk k' F rm x lf b L G nm sz g' dead := by
  have hT : Tn (fun i => i = G) W W1 := (Tn.refl _ W).grown hg (fun i e => .inl (by injection e with e; exact e.symm))
  have hT2 := (Tn.mono (q := fun i => i = L ∨ i = G) hT (fun i _ e => .inr e)).setCell (x := ⟨L, 4, none⟩) (.inl (.inl rfl)) (.int .i64 (g'.length : Nat))
  have hL1 : LogB W1 L Dk nm sz G g.length dead := (hT.block L h.ltL (fun e => h.ne e.symm)).trans h.2.1
  refine ⟨(h.1.keep hT2 (fun i hi e => ?_)).more (fun _ h => h) hk, ?_, hM.same (Below.heap_setCell W1 ⟨L, 4, none⟩ _ G h.ne), h.2.2.2.1, h.2.2.2.2⟩
  · rcases e with rfl | rfl
    · exact h.2.2.2.1 hi
    · exact h.2.2.2.2 hi
  · have := BlkIs.put hL1 4 (.int .i64 (g'.length : Nat))
    simpa [LogB] using this
end
/-- behind a call that changes the disk and the log. -/
def LgPost (W : World) (N : Nat) (Ft : Nat → Prop) (Dk k : Nat) (F : Files) (rm x lf : Int) (b : Bool) (L G : Nat) (nm : ByteArray) (sz : Int) (g : List (Nat × Nat)) (dead : Bool) (w' : World) : Prop :=
  LogS w' N (NewFt Ft W w') Dk k F rm x lf b L G nm sz g dead ∧ Tn (OwnL Ft L G) W w'
theorem newFt_size {Ft : Nat → Prop} {W W1 W2 : World} (h : W2.heap.size = W1.heap.size) : NewFt Ft W W1 = NewFt Ft W W2 := by
  funext i
  unfold NewFt
  rw [h]
theorem LgPost.up {W W1 w1 w' : World} {N Dk k L G : Nat} {Ft : Nat → Prop} {F : Files} {rm x lf : Int} {b : Bool} {nm : ByteArray} {sz : Int} {g : List (Nat × Nat)} {dead : Bool}
    (hL : ¬ Ft L) (hL2 : L < W.heap.size) (hG : ¬ Ft G) (hG2 : G < W.heap.size) (hs : W.heap.size ≤ W1.heap.size) (hz : w1.heap.size ≤ w'.heap.size) (hE : LogS w' N (NewFt Ft W1 w1) Dk k F rm x lf b L G nm sz g dead) (hT : Tn (OwnL Ft L G) W w') : LgPost W N Ft Dk k F rm x lf b L G nm sz g dead w' := by
  refine ⟨hE.more (fun i hi => ?_) (Nat.le_refl _) (newFt_not hL hL2) (newFt_not hG hG2), hT⟩
  rcases hi with h | ⟨h3, h4⟩
  · exact .inl h
  · exact .inr ⟨by omega, by omega⟩
theorem OwnL.of {Ft : Nat → Prop} {L G : Nat} {W W1 : World} (h : Tn Ft W W1) : Tn (OwnL Ft L G) W W1 := h.mono fun _ _ h => .inl h
theorem size_set (W : World) (a : Addr) (v : Value) : (W.setCell a v).heap.size = W.heap.size := by simp [World.setCell]
theorem sync_ok (W : World) (N : Nat) (Ft : Nat → Prop) (Dk k : Nat) (F : Files) (s : ByteArray) (rm x lf : Int) (bs : List UInt8) (z : Nat)
    (hS : DiskS W N Ft Dk k F rm x lf false) (hb : nameB s = true) (hf : F s = some (bs, z)) (hk : k < maxLen) (hx : 0 ≤ x) (hx2 : x ≤ 100000000) (hn0 : bs.length ≤ 100000000) (hlf : lf ≤ 9223372036854775807) (h1 : lf ≠ 1) :
    Calls Tryz.prog 59 #[.pointer (some ⟨Dk, 0, none⟩), .string s] W fun e w' => e = .returned (.int .i64 0) ∧ DiskS w' N (NewFt Ft W w') Dk (k + 1) (F.upd s (some (bs, bs.length))) rm x (lfA lf) false ∧ Tn Ft W w' := by
  refine (sync_S W N Ft Dk k F s rm x lf bs z hS hb hf hk hx hx2 hn0 hlf).mono ?_
  rintro e w' ⟨rfl, hp⟩
  unfold After at hp
  rw [if_neg h1, decide_eq_false h1] at hp
  exact ⟨by rw [erA, if_neg h1], hp.1, hp.2⟩
theorem create_ok (W : World) (N : Nat) (Ft : Nat → Prop) (Dk k : Nat) (F : Files) (s : ByteArray) (rm x lf : Int)
    (hS : DiskS W N Ft Dk k F rm x lf false) (hb : nameB s = true) (hf : F s = none) (hk : k < maxLen) (hx : 0 ≤ x) (hx2 : x ≤ 100000000) (hlf : lf ≤ 9223372036854775807) (h1 : lf ≠ 1) :
    Calls Tryz.prog 71 #[.pointer (some ⟨Dk, 0, none⟩), .string s] W fun e w' => e = .returned (.int .i64 0) ∧ DiskS w' N (NewFt Ft W w') Dk (k + 1) (F.upd s (some ([], 0))) rm x (lfA lf) false ∧ Tn Ft W w' := by
  refine (create_S W N Ft Dk k F s rm x lf hS hb hf hk hx hx2 hlf).mono ?_
  rintro e w' ⟨rfl, hp⟩
  unfold Made at hp
  rw [if_neg h1, decide_eq_false h1] at hp
  exact ⟨by rw [erA, if_neg h1], hp.1, hp.2⟩
theorem append_ok (W : World) (N : Nat) (Ft : Nat → Prop) (Dk k : Nat) (F : Files) (s : ByteArray) (rm x lf : Int) (A : Option Addr) (B c : Nat) (bs : List UInt8) (z : Nat) (news : List UInt8)
    (hS : DiskS W N Ft Dk k F rm x lf false) (hb : nameB s = true) (hf : F s = some (bs, z)) (hk : k < maxLen) (hx : 0 ≤ x) (hx2 : x ≤ 100000000) (hn0 : bs.length ≤ 100000000) (hm : news.length ≤ 100000000) (hr0 : x + news.length ≤ rm)
    (hN : N ≤ W.heap.size) (hA : Bts W B A news) (hB : B ≤ W.heap.size) (hlf : lf ≤ 9223372036854775807) (h1 : lf ≠ 1) :
    Calls Tryz.prog 29 #[.pointer (some ⟨Dk, 0, none⟩), .string s, .slice A news.length c] W fun e w' => e = .returned (.int .i64 0) ∧ DiskS w' N (NewFt Ft W w') Dk (k + 1) (F.upd s (some (bs ++ news, z))) rm (x + news.length) (lfA lf) false ∧ Tn Ft W w' := by
  have h := append_S W N Ft Dk k F s rm x lf A B c news hS hb hk hx hx2 (by rw [hf]; exact hn0) hm hr0 hN hA hB hlf
  rw [hf] at h
  refine h.mono ?_
  rintro e w' ⟨rfl, hp⟩
  unfold After at hp
  rw [decide_eq_false h1] at hp
  exact ⟨by rw [erA, if_neg h1], hp.1, hp.2⟩
set_option maxHeartbeats 1600000 in
set_option maxRecDepth 20000 in
theorem lsync_ok (W : World) (N : Nat) (Ft : Nat → Prop) (Dk k : Nat) (F : Files) (rm x lf : Int) (L G : Nat) (nm : ByteArray) (sz : Int) (g : List (Nat × Nat)) (bs : List UInt8) (z : Nat)
    (h : LogS W N Ft Dk k F rm x lf false L G nm sz g false) (hl : g.length ≤ 999999) (hn : nmOk nm) (hf : F (fileN nm g.length) = some (bs, z)) (hbs : bs.length ≤ 100000000) (hk : k < maxLen) (hx : 0 ≤ x) (hx2 : x ≤ 100000000) (hlf : lf ≤ 9223372036854775807) (h1 : lf ≠ 1) :
    Calls Tryz.prog 31 #[.pointer (some ⟨L, 0, none⟩)] W fun e w' => e = .returned (.tuple #[]) ∧ LgPost W N Ft Dk (k + 1) (F.upd (fileN nm g.length) (some (bs, bs.length))) rm x (lfA lf) false L G nm sz g false w' := by
  have c0 := BlkIs.cell h.2.1 0
  have c4 := BlkIs.cell h.2.1 4
  have hlt := h.ltL
  have hn6 : nm.size ≤ 1000000 := by have := hn.1; omega
  have hnb := nameB_fileN hn g.length
  have hnL := h.2.2.2.1
  go_enter Tryz.func31, Tryz.ntmps31
  go_wp2_with fail
  have hA : Below W.heap.size W W.drew := (Below.refl _ W).drew
  have hD := h.below hA
  go_region_held3 (fun w' => w'.cell? ⟨L, 0, none⟩ = some (.pointer (some ⟨Dk, 0, none⟩)) ∧ w'.cell? ⟨L, 4, none⟩ = some (.int .i64 (g.length : Nat)))
    (first
      | go_keep
      | exact ⟨(hb1.cell (p := ⟨L, 0, none⟩) hlt).trans c0, (hb1.cell (p := ⟨L, 4, none⟩) hlt).trans c4⟩
      | exact ⟨BlkIs.cell hE.2.1 0, BlkIs.cell hE.2.1 4⟩)
    (first
      | (go_at_call 30; refine (lfile_any _ L Dk nm sz G _ false g.length hD.2.1 hl hn6).mono ?_; rintro e w1 ⟨rfl, hb1⟩)
      | (go_at_call 59; have hC := hD.below hb1; refine (sync_ok w1 N Ft Dk k F _ rm x lf bs z hC.1 hnb hf hk hx hx2 hbs hlf h1).mono ?_; rintro e w2 ⟨rfl, hD2, hT2⟩; have hE := hC.disk hD2 hT2 (Nat.le_succ k)))
  have HE := Lib.hid hE
  have hf5 := BlkIs.froz hE.2.1 5
  have c5 := BlkIs.cell hE.2.1 5
  have hB1 := hA.trans hb1
  have hT := ((Tn.of_below (p := Ft) hB1).trans hT2)
  have HT := Lib.hid (OwnL.of (L := L) (G := G) hT)
  clear hT hT2 hE hD2 hC hD
  go_wp2_with (go_at_call 26; refine (must_ok _).mono ?_; rintro e w' ⟨rfl, rfl⟩)
  go_end0
  exact ⟨rfl, LgPost.up hnL hlt h.2.2.2.2 h.ltG hB1.size (Nat.le_of_eq (size_set _ _ _).symm) (HE.out.set ⟨rfl, rfl⟩) (HT.out.setCell (.inl (.inr (.inl rfl))) _)⟩
end Go.Proofs.YtidadjlhnlmfkaaGreatDoor
