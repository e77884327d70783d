/- DkNew DkState DkOps DkNo DkDel DkCreate. Conditions: as stated at each. -/
import Derived.Test.YtidadjlhnlmfkaaGreatDoorKt10
/- disk.New and settled. Conditions: as stated at each. -/
namespace Go.Proofs.YtidadjlhnlmfkaaGreatDoor
set_option maxRecDepth 100000
open Go.RowKit Go.Shelf Go
set_option maxHeartbeats 800000 in
theorem new_any (W : World) (n : Int) (hn : 0 ≤ n) :
    Calls Tryz.prog 8 #[.int .i64 n] W fun e w' => ∃ Dk M, e = .returned (.pointer (some ⟨Dk, 0, none⟩)) ∧ W.heap.size ≤ Dk ∧ W.heap.size ≤ M ∧ BlkIs w' Dk 55 #[.map (some M), .int .i64 n, .int .i64 0, .int .i64 0, .bool false] ∧ MapIs w' M 0 (.map []) ∧ Below W.heap.size W w' := by
  have hmm := @run_makeMap Tryz.prog
  go_enter Tryz.func8, Tryz.ntmps8
  go_wp2_with fail
  go_ret
  have hb := BlkIs.new (W.alloc (.map #[] 0)) 55 #[.map (some W.heap.size), .int .i64 n, .int .i64 0, .int .i64 0, .bool false]
  rw [World.size_alloc] at hb
  exact ⟨_, _, rfl, by omega, Nat.le_refl _, hb, World.ownsMap.alloc (World.ownsMap_made W Tryz.prog 9 rh) _, ((Below.refl _ W).alloc (Nat.le_refl _) _).alloc (by simp) _⟩
set_option maxRecDepth 20000 in
set_option maxHeartbeats 1600000 in
theorem settled_any (W : World) (N : Nat) (a : Option Addr) (n c k : Nat) (z : Int) (bs : List UInt8) (hown : Own5 W N (.slice a n c) bs) (hbs : bs.length = n) (hk : k ≤ n) (hn : n ≤ 500000000) :
    Calls Tryz.prog 35 #[.agg #[.slice a n c, .int .i64 z], .int .i64 k] W fun e w' => ∃ v, e = .returned (.agg #[v, .int .i64 k]) ∧ Own5 w' W.heap.size v (bs.take k) ∧ Below W.heap.size W w' := by
  have hS := Own5.bts hown
  obtain ⟨A, c', hv, hnc, hcm⟩ := own_slice hown
  injection hv with hv1 hv2 hv3
  clear hv2
  subst hv1
  subst hv3
  unfold maxLen at hcm
  have htk : (bs.take k).length = k := by rw [List.length_take]; omega
  have hB2 : Below W.heap.size W ((W.alloc (.cells #[.slice a n c, .int .i64 z] 71)).alloc (.cells #[.slice none 0 0, .int .i64 0] 71)) := ((Below.refl _ W).alloc (Nat.le_refl _) _).alloc (by simp) _
  have hS2 := (Cs.take hS k).below hB2
  rw [bv_take] at hS2
  have hP : ∀ v1 w1, Own5 w1 W.heap.size v1 (bs.take k) → ((W.alloc (.cells #[.slice a n c, .int .i64 z] 71)).alloc (.cells #[.slice none 0 0, .int .i64 0] 71)).grownBy w1 (Value.slice none 0 0).ownBlock → BlkIs w1 (W.heap.size + 1) 71 #[.slice none 0 0, .int .i64 0] ∧ Below W.heap.size W w1 := fun v1 w1 h1 h2 => by
    refine ⟨?_, grown_below hB2 (Nat.le_refl _) (Own5.nil _ _) h2⟩
    have := BlkIs.new (W.alloc (.cells #[.slice a n c, .int .i64 z] 71)) 71 #[.slice none 0 0, .int .i64 0]
    simp only [World.size_alloc] at this
    exact BlkIs.grown this h2 (by simp [Value.ownBlock])
  rcases a with _ | ad
  · obtain ⟨rfl, rfl⟩ : n = 0 ∧ c = 0 := by
      rcases hown.2 with ⟨h, _⟩ | ⟨g, cp, cur, h, _⟩ <;> injection h with h1 h2 h3
      · exact ⟨h2, h3⟩
      · cases h1
    obtain rfl : k = 0 := by omega
    go_enter Tryz.func35, Tryz.ntmps35
    go_wp2_with (at_builtin; refine app5 (.const (.slice none 0 0)) (.tmp 8) rfl rfl W.heap.size _ [] (bs.take 0) rfl (Own5.nil _ _) W.heap.size none 0 (by rw [htk]; rfl) hS2 (by rw [htk]; simp) (by simp; omega) ?_; intro v1 w1 h1 h2; rw [List.nil_append] at h1; obtain ⟨A1, c1, rfl, hn1, hm1⟩ := own_slice h1; obtain ⟨h3, h4⟩ := hP _ w1 h1 h2; have h5 : Own5 w1 W.heap.size _ _ := h1; rw [htk] at h5; clear h1 h2; simp only [htk]; have r0 := h3.cell 0; have r1 := h3.cell 1; have f0 := h3.froz 0; have f1 := h3.froz 1; have hlt := h3.lt)
    have hne : ∀ g, (Value.slice A1 0 c1).ownBlock = some g → ¬ g = W.heap.size + 1 := fun g hg e => Own5.not_blk h5 h3 (by decide) (by rw [hg, e])
    have hp := (h3.put 0 (.slice A1 0 c1)).put 1 (.int .i64 0)
    have q0 := hp.cell 0
    have q1 := hp.cell 1
    refine bodyPost_ret (v := .agg #[.slice A1 0 c1, .int .i64 0]) (by simp [results, Tryz.results35, go_sem, q0, q1]) rfl ⟨_, rfl, ?_, (h4.setCell (by simp) _).setCell (by simp) _⟩
    exact Own5.tn h5 (((Tn.refl (fun i => i = W.heap.size + 1) w1).setCell (x := ⟨W.heap.size + 1, 0, none⟩) (.inl rfl) _).setCell (x := ⟨W.heap.size + 1, 1, none⟩) (.inl rfl) _) hne
  · go_enter Tryz.func35, Tryz.ntmps35
    go_wp2_with (at_builtin; refine app5 (.const (.slice none 0 0)) (.tmp 8) rfl rfl W.heap.size _ [] (bs.take k) rfl (Own5.nil _ _) W.heap.size (some ad) c (by rw [htk]; rfl) hS2 (by rw [htk]; simp; omega) (by simp; omega) ?_; intro v1 w1 h1 h2; rw [List.nil_append] at h1; obtain ⟨A1, c1, rfl, hn1, hm1⟩ := own_slice h1; obtain ⟨h3, h4⟩ := hP _ w1 h1 h2; have h5 : Own5 w1 W.heap.size _ _ := h1; rw [htk] at h5; clear h1 h2; simp only [htk]; have r0 := h3.cell 0; have r1 := h3.cell 1; have f0 := h3.froz 0; have f1 := h3.froz 1; have hlt := h3.lt)
    have hne : ∀ g, (Value.slice A1 k c1).ownBlock = some g → ¬ g = W.heap.size + 1 := fun g hg e => Own5.not_blk h5 h3 (by decide) (by rw [hg, e])
    have hp := (h3.put 0 (.slice A1 k c1)).put 1 (.int .i64 k)
    have q0 := hp.cell 0
    have q1 := hp.cell 1
    refine bodyPost_ret (v := .agg #[.slice A1 k c1, .int .i64 k]) (by simp [results, Tryz.results35, go_sem, q0, q1]) rfl ⟨_, rfl, ?_, (h4.setCell (by simp) _).setCell (by simp) _⟩
    exact Own5.tn h5 (((Tn.refl (fun i => i = W.heap.size + 1) w1).setCell (x := ⟨W.heap.size + 1, 0, none⟩) (.inl rfl) _).setCell (x := ⟨W.heap.size + 1, 1, none⟩) (.inl rfl) _) hne
end Go.Proofs.YtidadjlhnlmfkaaGreatDoor
/- The disk's files as a function of the name, and what one file's change does to them. Conditions: as stated at each. -/
namespace Go.Proofs.YtidadjlhnlmfkaaGreatDoor
set_option maxRecDepth 100000
open Go.RowKit Go.Shelf Go
/-- a file: its bytes, and how many of them are safe. -/
abbrev Files := ByteArray → Option (List UInt8 × Nat)
def Files.upd (F : Files) (s : ByteArray) (o : Option (List UInt8 × Nat)) : Files := fun s' => if s' = s then o else F s'
/-- the map D holds the files F; their rows lie in Ft, and each has its own. -/
def FilesIs (W : World) (N : Nat) (Ft : Nat → Prop) (D : DataW Value) (F : Files) : Prop :=
  (∀ s, F s = none → at_ D s = none) ∧
  (∀ s bs z, F s = some (bs, z) → ∃ a c, at_ D s = some (.agg #[.slice a bs.length c, .int .i64 (z : Nat)]) ∧ Own5 W N (.slice a bs.length c) bs ∧ z ≤ bs.length ∧ ∀ g, (Value.slice a bs.length c).ownBlock = some g → Ft g) ∧
  (∀ s s' v v' z z', s ≠ s' → at_ D s = some (.agg #[v, z]) → at_ D s' = some (.agg #[v', z']) → v.ownBlock = none ∨ v.ownBlock ≠ v'.ownBlock)
def NewFt (Ft : Nat → Prop) (W W' : World) : Nat → Prop := fun i => Ft i ∨ (W.heap.size ≤ i ∧ i < W'.heap.size)
/-- where the slice by that name lies now. -/
def RowIs (D : DataW Value) (s : ByteArray) (r : Option Nat) : Prop := (at_ D s = none ∧ r = none) ∨ ∃ v z, at_ D s = some (.agg #[v, z]) ∧ r = v.ownBlock
theorem Own5.blk_lt {w : World} {N : Nat} {v : Value} {l : List UInt8} (h : Own5 w N v l) {g : Nat} (hg : v.ownBlock = some g) : N ≤ g ∧ g < w.heap.size := by
  rcases h.2 with ⟨rfl, _⟩ | ⟨g', cap, cur, rfl, hb, hh, _⟩
  · simp [Value.ownBlock] at hg
  · have : g' = g := by simpa [Value.ownBlock] using hg
    subst this
    exact ⟨hb, (Array.getElem?_eq_some_iff.1 hh).1⟩
theorem files_put {W W' : World} {N : Nat} {Ft : Nat → Prop} {D : DataW Value} {F : Files} {Dk M k : Nat} {s : ByteArray} {v : Value} {bs : List UInt8} {z : Nat} {t : TypeId} {cs : Array Value} {r : Option Nat}
    (h : FilesIs W N Ft D F) (hM : MapIs W M k D) (hD : BlkIs W Dk t cs) (ht : t ≠ 5) (hv : Own5 W' N v bs) (hz : z ≤ bs.length) (hR : RowIs D s r) (hrow : v.ownBlock = r ∨ ∃ g, v.ownBlock = some g ∧ W.heap.size ≤ g)
    (hT : Tn (fun i => i = Dk ∨ i = M ∨ r = some i) W W') :
    FilesIs W' N (NewFt Ft W W') (D.put (kOf s) (.held (.agg #[v, .int .i64 (z : Nat)]))) (F.upd s (some (bs, z))) := by
  obtain ⟨h1, h2, h3⟩ := h
  have hI := Held.isMap hM
  have hfile : ∀ s0 v0 z0, at_ D s0 = some (.agg #[v0, z0]) → ∃ l, Own5 W N v0 l ∧ ∀ g, v0.ownBlock = some g → Ft g := fun s0 v0 z0 ha => by
    cases hF : F s0 with
    | none => rw [h1 s0 hF] at ha; cases ha
    | some y =>
      obtain ⟨bs0, z1⟩ := y
      obtain ⟨a, c, e1, e2, _, e4⟩ := h2 s0 bs0 z1 hF
      rw [e1] at ha
      injection ha with ha
      injection ha with ha
      have ha' := congrArg Array.toList ha
      simp at ha'
      obtain ⟨rfl, _⟩ := ha'
      exact ⟨bs0, e2, e4⟩
  have hdis : ∀ s0 v0 z0 g, s0 ≠ s → at_ D s0 = some (.agg #[v0, z0]) → v0.ownBlock = some g → r ≠ some g := fun s0 v0 z0 g hne ha hg hr => by
    rcases hR with ⟨_, e⟩ | ⟨v1, z1, ha1, e1⟩
    · rw [e] at hr; cases hr
    · rcases h3 s0 s v0 v1 z0 z1 hne ha ha1 with e | e
      · rw [e] at hg; cases hg
      · exact e (hg.trans (hr.symm.trans e1))
  refine ⟨fun s' hs' => ?_, fun s' bs' z' hs' => ?_, fun s1 s2 v1 v2 z1 z2 hne ha1 ha2 => ?_⟩
  · unfold Files.upd at hs'
    rw [at_put hI]
    by_cases e : s' = s
    · rw [if_pos e] at hs'; cases hs'
    · rw [if_neg e] at hs' ⊢
      exact h1 s' hs'
  · unfold Files.upd at hs'
    rw [at_put hI]
    by_cases e : s' = s
    · rw [if_pos e] at hs' ⊢
      injection hs' with hs'
      injection hs' with e1 e2
      subst e1
      subst e2
      obtain ⟨A, c, rfl, _, _⟩ := own_slice hv
      refine ⟨A, c, rfl, hv, hz, fun g hg => ?_⟩
      rcases hrow with hr | ⟨g', hg', hge⟩
      · left
        rw [hg] at hr
        rcases hR with ⟨_, e⟩ | ⟨v0, z0, ha0, e0⟩
        · rw [e] at hr; cases hr
        · obtain ⟨_, _, hft⟩ := hfile s v0 z0 ha0
          exact hft g (e0.symm.trans hr.symm)
      · right
        rw [hg] at hg'
        injection hg' with hg'
        subst hg'
        exact ⟨hge, (Own5.blk_lt hv hg).2⟩
    · rw [if_neg e] at hs' ⊢
      obtain ⟨a, c, e1, e2, e3, e4⟩ := h2 s' bs' z' hs'
      refine ⟨a, c, e1, Own5.tn e2 hT (fun g hg hp => ?_), e3, fun g hg => .inl (e4 g hg)⟩
      rcases hp with hp | hp | hp
      · exact Own5.not_blk e2 hD ht (by rw [hg, hp])
      · exact Own5.not_map e2 hM (by rw [hg, hp])
      · exact hdis s' _ _ g e e1 hg hp
  · rw [at_put hI] at ha1 ha2
    have key : ∀ s0 v0 z0, s0 ≠ s → at_ D s0 = some (.agg #[v0, z0]) → v.ownBlock = none ∨ v.ownBlock ≠ v0.ownBlock := fun s0 v0 z0 hn ha => by
      rcases hrow with hr | ⟨g', hg', hge⟩
      · cases hv0 : v.ownBlock with
        | none => exact .inl rfl
        | some g =>
          right
          intro he
          rw [hv0] at hr
          exact hdis s0 v0 z0 g hn ha he.symm hr.symm
      · right
        intro he
        obtain ⟨l, ho, _⟩ := hfile s0 v0 z0 ha
        have := (Own5.blk_lt ho (he.symm.trans hg')).2
        omega
    have inj : ∀ {v0 z0 : Value}, (some (Value.agg #[v, .int .i64 (z : Nat)]) = some (.agg #[v0, z0])) → v = v0 := fun e => by
      injection e with e
      injection e with e
      have e' := congrArg Array.toList e
      simp at e'
      exact e'.1
    by_cases c1 : s1 = s
    · rw [if_pos c1] at ha1
      rw [if_neg (fun e => hne (c1.trans e.symm))] at ha2
      have := inj ha1
      subst this
      exact key s2 v2 z2 (fun e => hne (c1.trans e.symm)) ha2
    · rw [if_neg c1] at ha1
      by_cases c2 : s2 = s
      · rw [if_pos c2] at ha2
        have := inj ha2
        subst this
        rcases key s1 v1 z1 c1 ha1 with e | e
        · cases hv1 : v1.ownBlock with
          | none => exact .inl rfl
          | some g => right; rw [e]; simp
        · exact .inr (fun h => e h.symm)
      · rw [if_neg c2] at ha2
        exact h3 s1 s2 v1 v2 z1 z2 hne ha1 ha2
end Go.Proofs.YtidadjlhnlmfkaaGreatDoor
/- The disk's calls over its state. Conditions: as stated at each. -/
namespace Go.Proofs.YtidadjlhnlmfkaaGreatDoor
set_option maxRecDepth 100000
open Go.RowKit Go.Shelf Go
/-- the disk at Dk: its files, its room, what is used, in how many changes the power fails, whether it is down. -/
def DiskS (W : World) (N : Nat) (Ft : Nat → Prop) (Dk k : Nat) (F : Files) (rm x lf : Int) (b : Bool) : Prop :=
  ∃ M D, BlkIs W Dk 55 #[.map (some M), .int .i64 rm, .int .i64 x, .int .i64 lf, .bool b] ∧ MapIs W M k D ∧ Ft Dk ∧ Ft M ∧ FilesIs W N Ft D F
def lfA (lf : Int) : Int := if 1 < lf then lf - 1 else lf
def erA (lf : Int) : Int := if lf = 1 then 10 else 0
def After (W : World) (N : Nat) (Ft : Nat → Prop) (Dk k : Nat) (F : Files) (rm x lf : Int) (w' : World) : Prop :=
  DiskS w' N (NewFt Ft W w') Dk k F rm x (lfA lf) (decide (lf = 1)) ∧ Tn Ft W w'
theorem nameB_size {s : ByteArray} (h : nameB s = true) : s.size ≤ maxLen := by
  unfold nameB at h
  unfold maxLen
  simp at h
  omega
theorem FilesIs.old {W : World} {N : Nat} {Ft : Nat → Prop} {D : DataW Value} {F : Files} (h : FilesIs W N Ft D F) (s : ByteArray) : ∃ a c, OldV D s a ((F s).getD ([], 0)).1.length c (((F s).getD ([], 0)).2 : Nat) ∧ Own5 W N (.slice a ((F s).getD ([], 0)).1.length c) ((F s).getD ([], 0)).1 ∧
    RowIs D s (Value.slice a ((F s).getD ([], 0)).1.length c).ownBlock ∧ ((F s).getD ([], 0)).2 ≤ ((F s).getD ([], 0)).1.length ∧ ∀ g, (Value.slice a ((F s).getD ([], 0)).1.length c).ownBlock = some g → Ft g := by
  cases hF : F s with
  | none => exact ⟨none, 0, .inl ⟨h.1 s hF, rfl, rfl, rfl, rfl⟩, Own5.nil _ _, .inl ⟨h.1 s hF, rfl⟩, Nat.le_refl _, fun g hg => by simp [Value.ownBlock] at hg⟩
  | some y =>
    obtain ⟨bs, z⟩ := y
    obtain ⟨a, c, e1, e2, e3, e4⟩ := h.2.1 s bs z hF
    exact ⟨a, c, .inr e1, e2, .inr ⟨_, _, e1, rfl⟩, e3, e4⟩
theorem newFt_mono {Ft : Nat → Prop} {W W' : World} {i : Nat} (h : Ft i) : NewFt Ft W W' i := .inl h
theorem after_app {W w' : World} {N Dk M k : Nat} {Ft : Nat → Prop} {D : DataW Value} {F : Files} {s : ByteArray} {rm x lf lf0 x0 : Int} {b b0 : Bool} {a : Option Addr} {c : Nat} {news : List UInt8}
    (hD : BlkIs W Dk 55 #[.map (some M), .int .i64 rm, .int .i64 x0, .int .i64 lf0, .bool b0]) (hM : MapIs W M k D) (f1 : Ft Dk) (f2 : Ft M) (hF : FilesIs W N Ft D F)
    (hR : RowIs D s (Value.slice a ((F s).getD ([], 0)).1.length c).ownBlock) (hz : ((F s).getD ([], 0)).2 ≤ ((F s).getD ([], 0)).1.length) (hft : ∀ g, (Value.slice a ((F s).getD ([], 0)).1.length c).ownBlock = some g → Ft g)
    (h : AppPost W N Dk M k D s (.int .i64 rm) (.int .i64 lf) (.bool b) x (((F s).getD ([], 0)).2 : Nat) (Value.slice a ((F s).getD ([], 0)).1.length c).ownBlock (((F s).getD ([], 0)).1 ++ news) w') :
    DiskS w' N (NewFt Ft W w') Dk (k + 1) (F.upd s (some (((F s).getD ([], 0)).1 ++ news, ((F s).getD ([], 0)).2))) rm x lf b ∧ Tn Ft W w' := by
  obtain ⟨v, p1, p2, p3, p4, p5⟩ := h
  refine ⟨⟨M, _, p1, p2, .inl f1, .inl f2, files_put hF hM hD (by decide) p3 (by rw [List.length_append]; omega) hR p4 p5⟩, p5.mono fun i _ hi => ?_⟩
  rcases hi with rfl | rfl | hi
  · exact f1
  · exact f2
  · exact hft i hi
theorem append_S (W : World) (N : Nat) (Ft : Nat → Prop) (Dk k : Nat) (F : Files) (s : ByteArray) (rm x lf : Int) (A : Option Addr) (B c : Nat) (news : List UInt8)
    (hS : DiskS W N Ft Dk k F rm x lf false) (hb : nameB s = true) (hk : k < maxLen) (hx : 0 ≤ x) (hx2 : x ≤ 100000000) (hn0 : ((F s).getD ([], 0)).1.length ≤ 100000000) (hm : news.length ≤ 100000000) (hr0 : x + news.length ≤ rm)
    (hN : N ≤ W.heap.size) (hA : Bts W B A news) (hB : B ≤ W.heap.size) (hlf : lf ≤ 9223372036854775807) :
    Calls Tryz.prog 29 #[.pointer (some ⟨Dk, 0, none⟩), .string s, .slice A news.length c] W fun e w' => e = .returned (.int .i64 (erA lf)) ∧
      After W N Ft Dk (k + 1) (F.upd s (some (((F s).getD ([], 0)).1 ++ news, ((F s).getD ([], 0)).2))) rm (x + news.length) lf w' := by
  obtain ⟨M, D, hD, hM, f1, f2, hF⟩ := hS
  obtain ⟨a, c0, o1, o2, o3, o4, o5⟩ := hF.old s
  have hs := nameB_size hb
  unfold After erA lfA
  by_cases h1 : lf = 1
  · subst h1
    refine (append_last W N Dk M k D s rm x a _ c0 _ _ A B c news hD hM o1 hs hb hk hx hx2 rfl hn0 hm hr0 o2 hN hA hB).mono ?_
    rintro e w' ⟨rfl, hp⟩
    exact ⟨rfl, after_app hD hM f1 f2 hF o3 o4 o5 hp⟩
  · by_cases h2 : 1 < lf
    · refine (append_more W N Dk M k D s rm x lf a _ c0 _ _ A B c news hD hM o1 hs hb hk hx hx2 rfl hn0 hm hr0 o2 hN hA hB h2 hlf).mono ?_
      rintro e w' ⟨rfl, hp⟩
      rw [if_neg h1, if_pos h2, decide_eq_false h1]
      exact ⟨rfl, after_app hD hM f1 f2 hF o3 o4 o5 hp⟩
    · refine (append_zero W N Dk M k D s rm x lf a _ c0 _ _ A B c news hD hM o1 hs hb hk hx hx2 rfl hn0 hm hr0 o2 hN hA hB (by omega)).mono ?_
      rintro e w' ⟨rfl, hp⟩
      rw [if_neg h1, if_neg h2, decide_eq_false h1]
      exact ⟨rfl, after_app hD hM f1 f2 hF o3 o4 o5 hp⟩
/-- others' writes keep the disk. -/
theorem DiskS.keep {p : Nat → Prop} {W W' : World} {N Dk k : Nat} {Ft : Nat → Prop} {F : Files} {rm x lf : Int} {b : Bool} (h : DiskS W N Ft Dk k F rm x lf b) (hT : Tn p W W') (hp : ∀ i, Ft i → ¬ p i) : DiskS W' N Ft Dk k F rm x lf b := by
  obtain ⟨M, D, h1, h2, f1, f2, h3, h4, h5⟩ := h
  exact ⟨M, D, h1.tn hT (hp _ f1), Held.tn h2 hT (hp _ f2), f1, f2, h3, fun s bs z hs => by
    obtain ⟨a, c, e1, e2, e3, e4⟩ := h4 s bs z hs
    exact ⟨a, c, e1, Own5.tn e2 hT (fun g hg => hp g (e4 g hg)), e3, e4⟩, h5⟩
theorem DiskS.below {W W' : World} {N Dk k : Nat} {Ft : Nat → Prop} {F : Files} {rm x lf : Int} {b : Bool} (h : DiskS W N Ft Dk k F rm x lf b) (hB : Below W.heap.size W W') : DiskS W' N Ft Dk k F rm x lf b := h.keep (Tn.of_below (p := fun _ => False) hB) (fun _ _ h => h)
theorem DiskS.more {W : World} {N Dk k k' : Nat} {Ft Ft' : Nat → Prop} {F : Files} {rm x lf : Int} {b : Bool} (h : DiskS W N Ft Dk k F rm x lf b) (hf : ∀ i, Ft i → Ft' i) (hk : k ≤ k') : DiskS W N Ft' Dk k' F rm x lf b := by
  obtain ⟨M, D, h1, h2, f1, f2, h3, h4, h5⟩ := h
  exact ⟨M, D, h1, World.ownsMap.mono h2 hk, hf _ f1, hf _ f2, h3, fun s bs z hs => by
    obtain ⟨a, c, e1, e2, e3, e4⟩ := h4 s bs z hs
    exact ⟨a, c, e1, e2, e3, fun g hg => hf g (e4 g hg)⟩, h5⟩
theorem After.same {W w' : World} {N Dk k : Nat} {Ft : Nat → Prop} {F : Files} {rm x lf : Int} {b : Bool} (h : DiskS W N Ft Dk k F rm x lf b) (hB : Below W.heap.size W w') : DiskS w' N (NewFt Ft W w') Dk k F rm x lf b ∧ Tn Ft W w' :=
  ⟨(h.below hB).more (fun _ h => .inl h) (Nat.le_refl _), Tn.of_below hB⟩
/-- the file is there: its bytes, and how many are safe. -/
theorem sync_S (W : World) (N : Nat) (Ft : Nat → Prop) (Dk k : Nat) (F : Files) (s : ByteArray) (rm x lf : Int) (bs : List UInt8) (z : Nat)
    (hS : DiskS W N Ft Dk k F rm x lf false) (hb : nameB s = true) (hf : F s = some (bs, z)) (hk : k < maxLen) (hx : 0 ≤ x) (hx2 : x ≤ 100000000) (hn0 : bs.length ≤ 100000000) (hlf : lf ≤ 9223372036854775807) :
    Calls Tryz.prog 59 #[.pointer (some ⟨Dk, 0, none⟩), .string s] W fun e w' => e = .returned (.int .i64 (erA lf)) ∧
      After W N Ft Dk (k + 1) (if lf = 1 then F else F.upd s (some (bs, bs.length))) rm x lf w' := by
  obtain ⟨M, D, hD, hM, f1, f2, hF⟩ := hS
  obtain ⟨a, c, e1, e2, e3, e4⟩ := hF.2.1 s bs z hf
  have hs := nameB_size hb
  have fin : ∀ (lf' : Int) w', PutPost W Dk M k D s (.agg #[.slice a bs.length c, .int .i64 (bs.length : Nat)]) (.int .i64 rm) (.int .i64 lf') (.bool false) x w' →
      DiskS w' N (NewFt Ft W w') Dk (k + 1) (F.upd s (some (bs, bs.length))) rm x lf' false ∧ Tn Ft W w' := fun lf' w' hp => by
    obtain ⟨p1, p2, p3⟩ := hp
    have hv : Own5 w' N (.slice a bs.length c) bs := Own5.tn e2 p3 (fun g hg hp => by
      rcases hp with hp | hp
      · exact Own5.not_blk e2 hD (by decide) (by rw [hg, hp])
      · exact Own5.not_map e2 hM (by rw [hg, hp]))
    refine ⟨⟨M, _, p1, p2, .inl f1, .inl f2, files_put hF hM hD (by decide) hv (Nat.le_refl _) (.inr ⟨_, _, e1, rfl⟩) (.inl rfl) (p3.mono fun i _ hi => ?_)⟩, p3.mono fun i _ hi => ?_⟩
    · rcases hi with hi | hi
      · exact .inl hi
      · exact .inr (.inl hi)
    · rcases hi with rfl | rfl
      · exact f1
      · exact f2
  unfold After erA lfA
  by_cases h1 : lf = 1
  · subst h1
    refine (sync_last W Dk M k D s (.int .i64 rm) x a _ c _ hD hM hs hb e1).mono ?_
    rintro e w' ⟨rfl, p1, p2, p3⟩
    have hT : Tn Ft W w' := p3.mono fun i _ hi => by
      have hi : i = Dk := hi
      rw [hi]
      exact f1
    refine ⟨rfl, ⟨M, D, p1, World.ownsMap.mono p2 (by omega), .inl f1, .inl f2, hF.1, fun s' bs' z' hs' => ?_, hF.2.2⟩, hT⟩
    obtain ⟨a', c', g1, g2, g3, g4⟩ := hF.2.1 s' bs' z' hs'
    exact ⟨a', c', g1, Own5.tn g2 p3 (fun g hg hp => Own5.not_blk g2 hD (by decide) (by rw [hg, hp])), g3, fun g hg => .inl (g4 g hg)⟩
  · by_cases h2 : 1 < lf
    · refine (sync_more W Dk M k D s (.int .i64 rm) x lf a _ c _ hD hM hs hb e1 hk hx (by omega) (by omega) h2 hlf).mono ?_
      rintro e w' ⟨rfl, hp⟩
      rw [if_neg h1, if_pos h2, decide_eq_false h1, if_neg h1]
      exact ⟨rfl, fin _ _ hp⟩
    · refine (sync_zero W Dk M k D s (.int .i64 rm) x lf a _ c _ hD hM hs hb e1 hk hx (by omega) (by omega) (by omega)).mono ?_
      rintro e w' ⟨rfl, hp⟩
      rw [if_neg h1, if_neg h2, decide_eq_false h1, if_neg h1]
      exact ⟨rfl, fin _ _ hp⟩
/-- what Read gives: the bytes or none, and the error. -/
def rdOf (F : Files) (b : Bool) (s : ByteArray) : List UInt8 × Int :=
  if b then ([], 10) else if nameB s = false then ([], 12) else match F s with | none => ([], 3) | some y => (y.1, 0)
theorem read_S (W : World) (N : Nat) (Ft : Nat → Prop) (Dk k : Nat) (F : Files) (s : ByteArray) (rm x lf : Int) (b : Bool) (hS : DiskS W N Ft Dk k F rm x lf b) (hs : s.size ≤ maxLen) (hn0 : ((F s).getD ([], 0)).1.length ≤ 100000000) :
    Calls Tryz.prog 18 #[.pointer (some ⟨Dk, 0, none⟩), .string s] W fun e w' => ReadP W (rdOf F b s).1 (rdOf F b s).2 e w' := by
  obtain ⟨M, D, hD, hM, f1, f2, hF⟩ := hS
  unfold rdOf
  cases b with
  | true => exact read_down W Dk M s _ _ _ hD
  | false =>
    cases hb : nameB s with
    | false => simpa using read_bad W Dk M s _ _ _ hD hs hb
    | true =>
      cases hf : F s with
      | none => simpa using read_none W Dk M k D s _ _ _ hD hM hs hb (hF.1 s hf)
      | some y =>
        obtain ⟨bs, z⟩ := y
        obtain ⟨a, c, e1, e2, e3, e4⟩ := hF.2.1 s bs z hf
        rw [hf] at hn0
        have hn0' : bs.length ≤ 100000000 := hn0
        simpa using read_some W Dk M k D s _ _ _ hD hM hs hb N a _ c _ bs e1 rfl (by omega) e2
theorem new_S (W : World) (n : Int) (hn : 0 ≤ n) :
    Calls Tryz.prog 8 #[.int .i64 n] W fun e w' => ∃ Dk, e = .returned (.pointer (some ⟨Dk, 0, none⟩)) ∧ DiskS w' W.heap.size (fun i => W.heap.size ≤ i ∧ i < w'.heap.size) Dk 0 (fun _ => none) n 0 0 false ∧ Below W.heap.size W w' := by
  refine (new_any W n hn).mono ?_
  rintro e w' ⟨Dk, M, rfl, h1, h2, h3, h4, h5⟩
  exact ⟨Dk, rfl, ⟨M, _, h3, h4, ⟨h1, h3.lt⟩, ⟨h2, Held.lt h4⟩, fun s _ => at_none s, fun s bs z hs => (by cases hs), fun s s' v v' z z' _ ha => (by rw [at_none] at ha; cases ha)⟩, h5⟩
theorem arm_S (W : World) (N : Nat) (Ft : Nat → Prop) (Dk k : Nat) (F : Files) (rm x lf n : Int) (b : Bool) (hS : DiskS W N Ft Dk k F rm x lf b) :
    Calls Tryz.prog 12 #[.pointer (some ⟨Dk, 0, none⟩), .int .i64 n] W fun e w' => e = .returned (.tuple #[]) ∧ DiskS w' N Ft Dk k F rm x n b ∧ Tn Ft W w' := by
  obtain ⟨M, D, hD, hM, f1, f2, hF⟩ := hS
  refine (arm_any W Dk M _ _ _ lf n hD).mono ?_
  rintro e w' ⟨rfl, rfl⟩
  have hT := (Tn.refl (fun i => i = Dk) W).setCell (x := ⟨Dk, 3, none⟩) (.inl rfl) (.int .i64 n)
  refine ⟨rfl, ⟨M, D, ?_, Held.same hM (Below.heap_setCell W ⟨Dk, 3, none⟩ _ M (Held.not_blk hM hD)), f1, f2, hF.1, fun s' bs' z' hs' => ?_, hF.2.2⟩, hT.mono fun i _ hi => by
    have hi : i = Dk := hi
    rw [hi]
    exact f1⟩
  · have := hD.put 3 (.int .i64 n)
    simpa using this
  · obtain ⟨a', c', g1, g2, g3, g4⟩ := hF.2.1 s' bs' z' hs'
    exact ⟨a', c', g1, Own5.tn g2 hT (fun g hg hp => Own5.not_blk g2 hD (by decide) (by rw [hg, hp])), g3, g4⟩
end Go.Proofs.YtidadjlhnlmfkaaGreatDoor
/- The disk's calls where they are refused, over its state. Conditions: as stated at each. -/
namespace Go.Proofs.YtidadjlhnlmfkaaGreatDoor
set_option maxRecDepth 100000
open Go.RowKit Go.Shelf Go
/-- refused: no file is changed. -/
def Still (W : World) (N : Nat) (Ft : Nat → Prop) (Dk k : Nat) (F : Files) (rm x lf : Int) (b : Bool) (w' : World) : Prop :=
  DiskS w' N Ft Dk k F rm x lf b ∧ Below W.heap.size W w'
/-- Append's error ahead of the change: no power, no name, no room. -/
theorem append_no (W : World) (N : Nat) (Ft : Nat → Prop) (Dk k : Nat) (F : Files) (s : ByteArray) (rm x lf : Int) (b : Bool) (A : Option Addr) (n c : Nat)
    (hS : DiskS W N Ft Dk k F rm x lf b) (hs : s.size ≤ maxLen) (hx : 0 ≤ x) (hx2 : x ≤ 1000000000000) (hn : n ≤ 1000000000000) (h : b = true ∨ nameB s = false ∨ rm < x + n) :
    Calls Tryz.prog 29 #[.pointer (some ⟨Dk, 0, none⟩), .string s, .slice A n c] W fun e w' => e = .returned (.int .i64 (if b then 10 else if nameB s = false then 12 else 11)) ∧ Still W N Ft Dk k F rm x lf b w' := by
  have hS0 := hS
  obtain ⟨M, D, hD, hM, f1, f2, hF⟩ := hS
  cases b with
  | true =>
    refine (append_down W Dk M s _ _ _ _ hD ⟨A, n, c, rfl⟩).mono ?_
    rintro e w' ⟨rfl, hB⟩
    exact ⟨rfl, hS0.below hB, hB⟩
  | false =>
    cases hb : nameB s with
    | false =>
      refine (append_bad W Dk M s _ _ _ _ hD ⟨A, n, c, rfl⟩ hs hb).mono ?_
      rintro e w' ⟨rfl, hB⟩
      exact ⟨by simp, hS0.below hB, hB⟩
    | true =>
      refine (append_full W Dk M s A n c rm x _ hD hs hb hx hx2 hn ?_).mono ?_
      · rcases h with h | h | h
        · cases h
        · rw [hb] at h; cases h
        · exact h
      · rintro e w' ⟨rfl, hB⟩
        exact ⟨by simp, hS0.below hB, hB⟩
/-- Sync's: no power, no name, no file. -/
theorem sync_no (W : World) (N : Nat) (Ft : Nat → Prop) (Dk k : Nat) (F : Files) (s : ByteArray) (rm x lf : Int) (b : Bool)
    (hS : DiskS W N Ft Dk k F rm x lf b) (hs : s.size ≤ maxLen) (h : b = true ∨ nameB s = false ∨ F s = none) :
    Calls Tryz.prog 59 #[.pointer (some ⟨Dk, 0, none⟩), .string s] W fun e w' => e = .returned (.int .i64 (if b then 10 else if nameB s = false then 12 else 3)) ∧ Still W N Ft Dk k F rm x lf b w' := by
  have hS0 := hS
  obtain ⟨M, D, hD, hM, f1, f2, hF⟩ := hS
  cases b with
  | true =>
    refine (sync_down W Dk M s _ _ _ hD).mono ?_
    rintro e w' ⟨rfl, hB⟩
    exact ⟨rfl, hS0.below hB, hB⟩
  | false =>
    cases hb : nameB s with
    | false =>
      refine (sync_bad W Dk M s _ _ _ hD hs hb).mono ?_
      rintro e w' ⟨rfl, hB⟩
      exact ⟨by simp, hS0.below hB, hB⟩
    | true =>
      refine (sync_none W Dk M k D s _ _ _ hD hM hs hb (hF.1 s ?_)).mono ?_
      · rcases h with h | h | h
        · cases h
        · rw [hb] at h; cases h
        · exact h
      · rintro e w' ⟨rfl, hB⟩
        exact ⟨by simp, hS0.below hB, hB⟩
theorem down_S (W : World) (N : Nat) (Ft : Nat → Prop) (Dk k : Nat) (F : Files) (rm x lf : Int) (b : Bool) (hS : DiskS W N Ft Dk k F rm x lf b) :
    Calls Tryz.prog 20 #[.pointer (some ⟨Dk, 0, none⟩)] W fun e w' => e = .returned (.bool b) ∧ W = w' := by
  obtain ⟨M, D, hD, _⟩ := hS
  exact down_any W Dk M b (hD.cell 0) (hD.cell 4)
end Go.Proofs.YtidadjlhnlmfkaaGreatDoor
/- One file taken away, and what the files' lengths come to. Conditions: as stated at each. -/
namespace Go.Proofs.YtidadjlhnlmfkaaGreatDoor
set_option maxRecDepth 100000
open Go.RowKit Go.Shelf Go
theorem files_keep {p : Nat → Prop} {W W' : World} {N : Nat} {Ft Ft' : Nat → Prop} {D : DataW Value} {F : Files} (h : FilesIs W N Ft D F) (hT : Tn p W W') (hf : ∀ i, Ft i → Ft' i)
    (hp : ∀ v l g, Own5 W N v l → v.ownBlock = some g → ¬ p g) : FilesIs W' N Ft' D F :=
  ⟨h.1, fun s bs z hs => by
    obtain ⟨a, c, e1, e2, e3, e4⟩ := h.2.1 s bs z hs
    exact ⟨a, c, e1, Own5.tn e2 hT (fun g hg => hp _ _ g e2 hg), e3, fun g hg => hf g (e4 g hg)⟩, h.2.2⟩
theorem files_del {W W' : World} {N : Nat} {Ft : Nat → Prop} {D : DataW Value} {F : Files} {Dk M k : Nat} {s : ByteArray} {t : TypeId} {cs : Array Value}
    (h : FilesIs W N Ft D F) (hM : MapIs W M k D) (hD : BlkIs W Dk t cs) (ht : t ≠ 5) (hT : Tn (fun i => i = Dk ∨ i = M) W W') :
    FilesIs W' N Ft (D.del (kOf s)) (F.upd s none) := by
  obtain ⟨h1, h2, h3⟩ := files_keep (Ft' := Ft) h hT (fun _ h => h) (fun v l g ho hg hp => by
    rcases hp with hp | hp
    · exact Own5.not_blk ho hD ht (by rw [hg, hp])
    · exact Own5.not_map ho hM (by rw [hg, hp]))
  refine ⟨fun s' hs' => ?_, fun s' bs z hs' => ?_, fun s1 s2 v1 v2 z1 z2 hne ha1 ha2 => ?_⟩
  · unfold Files.upd at hs'
    rw [at_del]
    by_cases e : s' = s
    · rw [if_pos e]
    · rw [if_neg e] at hs' ⊢
      exact h1 s' hs'
  · unfold Files.upd at hs'
    rw [at_del]
    by_cases e : s' = s
    · rw [if_pos e] at hs'; cases hs'
    · rw [if_neg e] at hs' ⊢
      exact h2 s' bs z hs'
  · rw [at_del] at ha1 ha2
    by_cases c1 : s1 = s
    · rw [if_pos c1] at ha1; cases ha1
    · by_cases c2 : s2 = s
      · rw [if_pos c2] at ha2; cases ha2
      · rw [if_neg c1] at ha1
        rw [if_neg c2] at ha2
        exact h3 s1 s2 v1 v2 z1 z2 hne ha1 ha2
/-- the files' lengths together, over names that hold them all. -/
def lenOf (F : Files) (s : ByteArray) : Nat := ((F s).getD ([], 0)).1.length
def sumOf (F : Files) (ns : List ByteArray) : Nat := (ns.map (lenOf F)).sum
theorem lenOf_upd (F : Files) (s s' : ByteArray) (o : Option (List UInt8 × Nat)) : lenOf (F.upd s o) s' = if s' = s then (o.getD ([], 0)).1.length else lenOf F s' := by
  unfold lenOf Files.upd
  by_cases e : s' = s <;> simp [e]
theorem sumOf_out (F : Files) (s : ByteArray) (o : Option (List UInt8 × Nat)) : ∀ ns : List ByteArray, s ∉ ns → sumOf (F.upd s o) ns = sumOf F ns
  | [], _ => rfl
  | a :: ns, h => by
    have h1 : ¬ a = s := fun e => h (by simp [e])
    have h2 := sumOf_out F s o ns (fun e => h (by simp [e]))
    unfold sumOf at h2 ⊢
    simp only [List.map_cons, List.sum_cons, h2, lenOf_upd, if_neg h1]
theorem sumOf_in (F : Files) (s : ByteArray) (o : Option (List UInt8 × Nat)) : ∀ ns : List ByteArray, ns.Nodup → s ∈ ns → sumOf (F.upd s o) ns + lenOf F s = sumOf F ns + (o.getD ([], 0)).1.length
  | [], _, h => by simp at h
  | a :: ns, hn, h => by
    rw [List.nodup_cons] at hn
    by_cases e : a = s
    · subst e
      have h2 := sumOf_out F a o ns hn.1
      unfold sumOf at h2 ⊢
      simp only [List.map_cons, List.sum_cons, h2, lenOf_upd, if_true]
      omega
    · have h1 : s ∈ ns := by
        rcases List.mem_cons.1 h with h | h
        · exact absurd h.symm e
        · exact h
      have h2 := sumOf_in F s o ns hn.2 h1
      unfold sumOf at h2 ⊢
      simp only [List.map_cons, List.sum_cons, lenOf_upd, if_neg e]
      omega
end Go.Proofs.YtidadjlhnlmfkaaGreatDoor
/- (*disk.Disk).Create of a file that there isn't, and Free, over the disk's state. Conditions: as stated at each. -/
namespace Go.Proofs.YtidadjlhnlmfkaaGreatDoor
open Go.RowKit Go.Shelf Go
/-- the world in which a change is done that isn't the last one. -/
def armed (W : World) (Dk : Nat) (lf : Int) : World := if 1 < lf then W.setCell ⟨Dk, 3, none⟩ (.int .i64 (lf - 1)) else W
theorem armed_blk {W : World} {Dk : Nat} {lf : Int} {m r x b : Value} (h : BlkIs W Dk 55 #[m, r, x, .int .i64 lf, b]) : BlkIs (armed W Dk lf) Dk 55 #[m, r, x, .int .i64 (lfA lf), b] := by
  unfold armed lfA
  by_cases h1 : 1 < lf
  · rw [if_pos h1, if_pos h1]
    have := h.put 3 (.int .i64 (lf - 1))
    simpa using this
  · rw [if_neg h1, if_neg h1]
    exact h
theorem armed_tn {p : Nat → Prop} {W0 W : World} {Dk : Nat} {lf : Int} (h : Tn p W0 W) (hp : p Dk) : Tn p W0 (armed W Dk lf) := by
  unfold armed
  split
  · exact h.setCell (x := ⟨Dk, 3, none⟩) (.inl hp) _
  · exact h
theorem armed_heap {W : World} {Dk : Nat} {lf : Int} {g : Nat} (h : g ≠ Dk) : (armed W Dk lf).heap[g]? = W.heap[g]? := by
  unfold armed
  split
  · exact Below.heap_setCell W ⟨Dk, 3, none⟩ _ g h
  · rfl
theorem change_lf (f g : Nat) (ps qs : Array Value) (W : World) (Dk : Nat) (lf : Int) (hlf : lf ≤ 9223372036854775807) {m r x b : Value} (hD : BlkIs W Dk 55 #[m, r, x, .int .i64 lf, b]) (Q : World → Prop)
    (hf : ∀ w, (callFunc f ps).run Tryz.prog w = .ok (.enter f ps) w) (hg : ∀ w, (callFunc g qs).run Tryz.prog w = .ok (.enter g qs) w)
    (hW : lf ≠ 1 → Does f ps (armed W Dk lf) Q) (hC : lf = 1 → Does g qs W (fun w' => (∃ u, w'.cell? ⟨Dk, 4, none⟩ = some (.bool u)) ∧ w'.frozen? ⟨Dk, 4, none⟩ = false ∧ Q (w'.setCell ⟨Dk, 4, none⟩ (.bool true)))) :
    Calls Tryz.prog 58 #[.pointer (some ⟨Dk, 0, none⟩), .func (.func f) #[] ps, .func (.func g) #[] qs] W fun e w' => e = .returned (.int .i64 (erA lf)) ∧ Q w' := by
  unfold erA
  by_cases h1 : lf = 1
  · subst h1
    exact change_last g qs _ W Dk (hD.cell 3) Q hg (hC rfl)
  · rw [if_neg h1]
    have hw := hW h1
    unfold armed at hw
    by_cases h2 : 1 < lf
    · rw [if_pos h2] at hw
      exact change_more f ps _ W Dk lf h2 hlf (hD.cell 3) (hD.froz 3) Q hf hw
    · rw [if_neg h2] at hw
      exact change_zero f ps _ W Dk lf (by omega) (hD.cell 3) Q hf hw
set_option maxHeartbeats 800000 in
theorem create1_any (W : World) (Dk M k B0 B1 : Nat) (D : DataW Value) (s : ByteArray) (r l b : Value) (x : Int) (n0 : Nat)
    (hD : BlkIs W Dk 55 #[.map (some M), r, .int .i64 x, l, b]) (hM : MapIs W M k D) (ho : OldIs D s n0) (hs : s.size ≤ maxLen) (hk : k < maxLen) (hx : 0 ≤ x) (hx2 : x ≤ 1000000000000) (hn : n0 ≤ 1000000000000)
    (h0 : BlkIs W B0 30 #[.pointer (some ⟨Dk, 0, none⟩)]) (h1 : BlkIs W B1 9 #[.string s]) :
    Does 91 #[.pointer (some ⟨B0, 0, none⟩), .pointer (some ⟨B1, 0, none⟩)] W (PutPost W Dk M k D s (.agg #[.slice none 0 0, .int .i64 0]) r l b (x - n0)) := by
  have q0 := h0.cell 0
  have q1 := h1.cell 0
  have hx3 : x + (((0 : Nat) : Int) - (n0 : Int)) = x - n0 := by omega
  have hp := put_any W Dk M k D s r l b x n0 none 0 0 0 hD hM ho hs hk hx hx2 (by omega) hn
  rw [hx3] at hp
  unfold Does
  go_enter Tryz.func91, Tryz.ntmps91
  go_wp2_with (go_at_call 34; refine hp.mono ?_; rintro e w' ⟨rfl, hp⟩)
  go_end0
  exact ⟨rfl, hp⟩
/-- behind Create of a file that there was not. -/
def Made (W : World) (N : Nat) (Ft : Nat → Prop) (Dk k : Nat) (F : Files) (s : ByteArray) (rm x lf : Int) (w' : World) : Prop :=
  DiskS w' N (NewFt Ft W w') Dk (k + 1) (if lf = 1 then F else F.upd s (some ([], 0))) rm x (lfA lf) (decide (lf = 1)) ∧ Tn Ft W w'
set_option maxRecDepth 20000 in
set_option maxHeartbeats 1600000 in
theorem create_S (W : World) (N : Nat) (Ft : Nat → Prop) (Dk k : Nat) (F : Files) (s : ByteArray) (rm x lf : Int)
    (hS : DiskS W N Ft Dk k F rm x lf false) (hb : nameB s = true) (hf : F s = none) (hk : k < maxLen) (hx : 0 ≤ x) (hx2 : x ≤ 100000000) (hlf : lf ≤ 9223372036854775807) :
    Calls Tryz.prog 71 #[.pointer (some ⟨Dk, 0, none⟩), .string s] W fun e w' => e = .returned (.int .i64 (erA lf)) ∧ Made W N Ft Dk k F s rm x lf w' := by
  obtain ⟨M, D, hD, hM, f1, f2, hF⟩ := hS
  have hs := nameB_size hb
  have ha := hF.1 s hf
  obtain ⟨k0, k1, k2, kT⟩ := three_new W 30 9 9 #[.pointer (some ⟨Dk, 0, none⟩)] #[.string s] #[.string s] (fun i => i = Dk ∨ i = M)
  have kB := three_below W 30 9 9 #[.pointer (some ⟨Dk, 0, none⟩)] #[.string s] #[.string s]
  have hen : ∀ args w, (callFunc 91 args).run Tryz.prog w = .ok (.enter 91 args) w := enters_of Tryz.func91 (by kernel_rfl) rfl
  have hen2 : ∀ args w, (callFunc 79 args).run Tryz.prog w = .ok (.enter 79 args) w := enters_of Tryz.func79 (by kernel_rfl) rfl
  go_enter Tryz.func71, Tryz.ntmps71
  go_wp2_with fail
  generalize (((W.alloc (Obj.cells #[Value.pointer (some ⟨Dk, 0, none⟩)] 30)).alloc (Obj.cells #[Value.string s] 9)).alloc (Obj.cells #[Value.string s] 9)) = W3 at *
  have kD : BlkIs W3 Dk 55 _ := (kB.block Dk hD.lt).trans hD
  have kM : MapIs W3 M k D := Held.same hM (kB.block M (Held.lt hM))
  have hr := refuse_up W3 Dk M 1 _ [s] (Strs.one k2 hs) (by unfold maxLen; simp) (kD.cell 0) (kD.cell 4)
  rw [refN_yes (by simp [hb])] at hr
  refine hr.mono ?_
  rintro e w' ⟨rfl, rfl⟩
  have q0 := k0.cell 0
  go_wp2_with fail
  have hne := Held.not_blk kM kD
  have h0D := blk_ne k0 kD (by decide)
  have h1D := blk_ne k1 kD (by decide)
  clear q0
  refine (change_lf 91 79 _ #[] W3 Dk lf hlf kD (fun w' => Made W N Ft Dk k F s rm x lf w') (hen _) (hen2 _) (fun hl => ?_) (fun hl => ?_)).mono ?_
  · have jD := armed_blk kD
    have jM : MapIs (armed W3 Dk lf) M k D := Held.same kM (armed_heap hne)
    have j0 : BlkIs (armed W3 Dk lf) _ 30 _ := (armed_heap h0D).trans k0
    have j1 : BlkIs (armed W3 Dk lf) _ 9 _ := (armed_heap h1D).trans k1
    have jT := armed_tn (lf := lf) kT (.inl rfl)
    refine (create1_any (armed W3 Dk lf) Dk M k _ _ D s _ _ _ x 0 jD jM (.inl ⟨ha, rfl⟩) hs hk hx (by omega) (by omega) j0 j1).mono ?_
    rintro e w' ⟨rfl, p1, p2, p3⟩
    have hT := jT.trans p3
    refine ⟨rfl, ?_⟩
    unfold Made
    rw [if_neg hl, decide_eq_false hl]
    refine ⟨⟨M, _, by simpa using p1, p2, .inl f1, .inl f2, files_put hF hM hD (by decide) (Own5.nil _ _) (Nat.le_refl _) (.inl ⟨ha, rfl⟩) (.inl rfl) (hT.mono fun i _ hi => ?_)⟩, hT.mono fun i _ hi => ?_⟩
    · rcases hi with hi | hi
      · exact .inl hi
      · exact .inr (.inl hi)
    · rcases hi with rfl | rfl
      · exact f1
      · exact f2
  · subst hl
    refine (nothing_any W3).mono ?_
    rintro e w' ⟨rfl, rfl⟩
    have hT := (Tn.of_below (p := fun i => i = Dk) kB).setCell (x := ⟨Dk, 4, none⟩) (.inl rfl) (.bool true)
    refine ⟨rfl, ⟨_, kD.cell 4⟩, kD.froz 4, ?_⟩
    unfold Made
    rw [if_pos rfl]
    have hT2 : Tn Ft W (W3.setCell ⟨Dk, 4, none⟩ (.bool true)) := hT.mono fun i _ hi => by
      have hi : i = Dk := hi
      rw [hi]
      exact f1
    refine ⟨⟨M, D, ?_, World.ownsMap.mono (Held.same kM (Below.heap_setCell W3 ⟨Dk, 4, none⟩ _ M hne)) (by omega), .inl f1, .inl f2, files_keep hF hT (fun i h => .inl h) (fun v l g ho hg hp => Own5.not_blk ho hD (by decide) (by rw [hg, hp]))⟩, hT2⟩
    have := kD.put 4 (.bool true)
    simpa [lfA] using this
  · rintro e w' ⟨rfl, hp⟩
    go_wp2_with fail
    go_ret
    exact ⟨rfl, hp⟩
set_option maxHeartbeats 800000 in
theorem free_S (W : World) (N : Nat) (Ft : Nat → Prop) (Dk k : Nat) (F : Files) (rm x lf : Int) (hS : DiskS W N Ft Dk k F rm x lf false) (hx : 0 ≤ x) (hx2 : x ≤ 100000000) (hr : x ≤ rm) (hr2 : rm ≤ 1000000000000) :
    Calls Tryz.prog 55 #[.pointer (some ⟨Dk, 0, none⟩)] W fun e w' => e = .returned (.int .i64 (rm - x)) ∧ Below W.heap.size W w' := by
  obtain ⟨M, D, hD, hM, f1, f2, hF⟩ := hS
  have c1 := hD.cell 1
  have c2 := hD.cell 2
  have hd := down_any W Dk M false (hD.cell 0) (hD.cell 4)
  have hm : max (rm - x) 0 = rm - x := by omega
  go_enter Tryz.func55, Tryz.ntmps55
  go_wp2_with (go_at_call 20; refine hd.mono ?_; rintro e w' ⟨rfl, rfl⟩)
  go_region
  all_goals go_wp2_with fail
  all_goals go_ret
  all_goals exact ⟨rfl, (Below.refl _ W).drew⟩
end Go.Proofs.YtidadjlhnlmfkaaGreatDoor
