/- The disk's calls over its state. Conditions: as stated at each. -/
import Derived.Test.YtidadjlhnlmfkaaGreatDoorDkState
namespace Go.Proofs.YtidadjlhnlmfkaaGreatDoor
set_option maxRecDepth 100000
open Go.RowKit Go.Shelf Go
/-- the disk at Dk: its files, its room, what is used, in how many changes the power fails, whether it is down. -/
def DiskS (W : World) (N : Nat) (Ft : Nat → Prop) (Dk k : Nat) (F : Files) (rm x lf : Int) (b : Bool) : Prop :=
  ∃ M D, BlkIs W Dk 55 #[.map (some M), .int .i64 rm, .int .i64 x, .int .i64 lf, .bool b] ∧ MapIs W M k D ∧ Ft Dk ∧ Ft M ∧ FilesIs W N Ft D F
def lfA (lf : Int) : Int := if 1 < lf then lf - 1 else lf
def erA (lf : Int) : Int := if lf = 1 then 10 else 0
def After (W : World) (N : Nat) (Ft : Nat → Prop) (Dk k : Nat) (F : Files) (rm x lf : Int) (w' : World) : Prop :=
  DiskS w' N (NewFt Ft W w') Dk k F rm x (lfA lf) (decide (lf = 1)) ∧ Tn Ft W w'
theorem nameB_size {s : ByteArray} (h : nameB s = true) : s.size ≤ maxLen := by
  unfold nameB at h
  unfold maxLen
  simp at h
  omega
theorem FilesIs.old {W : World} {N : Nat} {Ft : Nat → Prop} {D : DataW Value} {F : Files} (h : FilesIs W N Ft D F) (s : ByteArray) : ∃ a c, OldV D s a ((F s).getD ([], 0)).1.length c (((F s).getD ([], 0)).2 : Nat) ∧ Own5 W N (.slice a ((F s).getD ([], 0)).1.length c) ((F s).getD ([], 0)).1 ∧
    RowIs D s (Value.slice a ((F s).getD ([], 0)).1.length c).ownBlock ∧ ((F s).getD ([], 0)).2 ≤ ((F s).getD ([], 0)).1.length ∧ ∀ g, (Value.slice a ((F s).getD ([], 0)).1.length c).ownBlock = some g → Ft g := by
  cases hF : F s with
  | none => exact ⟨none, 0, .inl ⟨h.1 s hF, rfl, rfl, rfl, rfl⟩, Own5.nil _ _, .inl ⟨h.1 s hF, rfl⟩, Nat.le_refl _, fun g hg => by simp [Value.ownBlock] at hg⟩
  | some y =>
    obtain ⟨bs, z⟩ := y
    obtain ⟨a, c, e1, e2, e3, e4⟩ := h.2.1 s bs z hF
    exact ⟨a, c, .inr e1, e2, .inr ⟨_, _, e1, rfl⟩, e3, e4⟩
theorem newFt_mono {Ft : Nat → Prop} {W W' : World} {i : Nat} (h : Ft i) : NewFt Ft W W' i := .inl h
theorem after_app {W w' : World} {N Dk M k : Nat} {Ft : Nat → Prop} {D : DataW Value} {F : Files} {s : ByteArray} {rm x lf lf0 x0 : Int} {b b0 : Bool} {a : Option Addr} {c : Nat} {news : List UInt8}
    (hD : BlkIs W Dk 55 #[.map (some M), .int .i64 rm, .int .i64 x0, .int .i64 lf0, .bool b0]) (hM : MapIs W M k D) (f1 : Ft Dk) (f2 : Ft M) (hF : FilesIs W N Ft D F)
    (hR : RowIs D s (Value.slice a ((F s).getD ([], 0)).1.length c).ownBlock) (hz : ((F s).getD ([], 0)).2 ≤ ((F s).getD ([], 0)).1.length) (hft : ∀ g, (Value.slice a ((F s).getD ([], 0)).1.length c).ownBlock = some g → Ft g)
    (h : AppPost W N Dk M k D s (.int .i64 rm) (.int .i64 lf) (.bool b) x (((F s).getD ([], 0)).2 : Nat) (Value.slice a ((F s).getD ([], 0)).1.length c).ownBlock (((F s).getD ([], 0)).1 ++ news) w') :
    DiskS w' N (NewFt Ft W w') Dk (k + 1) (F.upd s (some (((F s).getD ([], 0)).1 ++ news, ((F s).getD ([], 0)).2))) rm x lf b ∧ Tn Ft W w' := by
  obtain ⟨v, p1, p2, p3, p4, p5⟩ := h
  refine ⟨⟨M, _, p1, p2, .inl f1, .inl f2, files_put hF hM hD (by decide) p3 (by rw [List.length_append]; omega) hR p4 p5⟩, p5.mono fun i _ hi => ?_⟩
  rcases hi with rfl | rfl | hi
  · exact f1
  · exact f2
  · exact hft i hi
theorem append_S (W : World) (N : Nat) (Ft : Nat → Prop) (Dk k : Nat) (F : Files) (s : ByteArray) (rm x lf : Int) (A : Option Addr) (B c : Nat) (news : List UInt8)
    (hS : DiskS W N Ft Dk k F rm x lf false) (hb : nameB s = true) (hk : k < maxLen) (hx : 0 ≤ x) (hx2 : x ≤ 100000000) (hn0 : ((F s).getD ([], 0)).1.length ≤ 100000000) (hm : news.length ≤ 100000000) (hr0 : x + news.length ≤ rm)
    (hN : N ≤ W.heap.size) (hA : Bts W B A news) (hB : B ≤ W.heap.size) (hlf : lf ≤ 9223372036854775807) :
    Calls Tryz.prog 29 #[.pointer (some ⟨Dk, 0, none⟩), .string s, .slice A news.length c] W fun e w' => e = .returned (.int .i64 (erA lf)) ∧
      After W N Ft Dk (k + 1) (F.upd s (some (((F s).getD ([], 0)).1 ++ news, ((F s).getD ([], 0)).2))) rm (x + news.length) lf w' := by
  obtain ⟨M, D, hD, hM, f1, f2, hF⟩ := hS
  obtain ⟨a, c0, o1, o2, o3, o4, o5⟩ := hF.old s
  have hs := nameB_size hb
  unfold After erA lfA
  by_cases h1 : lf = 1
  · subst h1
    refine (append_last W N Dk M k D s rm x a _ c0 _ _ A B c news hD hM o1 hs hb hk hx hx2 rfl hn0 hm hr0 o2 hN hA hB).mono ?_
    rintro e w' ⟨rfl, hp⟩
    exact ⟨rfl, after_app hD hM f1 f2 hF o3 o4 o5 hp⟩
  · by_cases h2 : 1 < lf
    · refine (append_more W N Dk M k D s rm x lf a _ c0 _ _ A B c news hD hM o1 hs hb hk hx hx2 rfl hn0 hm hr0 o2 hN hA hB h2 hlf).mono ?_
      rintro e w' ⟨rfl, hp⟩
      rw [if_neg h1, if_pos h2, decide_eq_false h1]
      exact ⟨rfl, after_app hD hM f1 f2 hF o3 o4 o5 hp⟩
    · refine (append_zero W N Dk M k D s rm x lf a _ c0 _ _ A B c news hD hM o1 hs hb hk hx hx2 rfl hn0 hm hr0 o2 hN hA hB (by omega)).mono ?_
      rintro e w' ⟨rfl, hp⟩
      rw [if_neg h1, if_neg h2, decide_eq_false h1]
      exact ⟨rfl, after_app hD hM f1 f2 hF o3 o4 o5 hp⟩
/-- others' writes keep the disk. -/
theorem DiskS.keep {p : Nat → Prop} {W W' : World} {N Dk k : Nat} {Ft : Nat → Prop} {F : Files} {rm x lf : Int} {b : Bool} (h : DiskS W N Ft Dk k F rm x lf b) (hT : Tn p W W') (hp : ∀ i, Ft i → ¬ p i) : DiskS W' N Ft Dk k F rm x lf b := by
  obtain ⟨M, D, h1, h2, f1, f2, h3, h4, h5⟩ := h
  exact ⟨M, D, h1.tn hT (hp _ f1), Held.tn h2 hT (hp _ f2), f1, f2, h3, fun s bs z hs => by
    obtain ⟨a, c, e1, e2, e3, e4⟩ := h4 s bs z hs
    exact ⟨a, c, e1, Own5.tn e2 hT (fun g hg => hp g (e4 g hg)), e3, e4⟩, h5⟩
theorem DiskS.below {W W' : World} {N Dk k : Nat} {Ft : Nat → Prop} {F : Files} {rm x lf : Int} {b : Bool} (h : DiskS W N Ft Dk k F rm x lf b) (hB : Below W.heap.size W W') : DiskS W' N Ft Dk k F rm x lf b := h.keep (Tn.of_below (p := fun _ => False) hB) (fun _ _ h => h)
theorem DiskS.more {W : World} {N Dk k k' : Nat} {Ft Ft' : Nat → Prop} {F : Files} {rm x lf : Int} {b : Bool} (h : DiskS W N Ft Dk k F rm x lf b) (hf : ∀ i, Ft i → Ft' i) (hk : k ≤ k') : DiskS W N Ft' Dk k' F rm x lf b := by
  obtain ⟨M, D, h1, h2, f1, f2, h3, h4, h5⟩ := h
  exact ⟨M, D, h1, World.ownsMap.mono h2 hk, hf _ f1, hf _ f2, h3, fun s bs z hs => by
    obtain ⟨a, c, e1, e2, e3, e4⟩ := h4 s bs z hs
    exact ⟨a, c, e1, e2, e3, fun g hg => hf g (e4 g hg)⟩, h5⟩
theorem After.same {W w' : World} {N Dk k : Nat} {Ft : Nat → Prop} {F : Files} {rm x lf : Int} {b : Bool} (h : DiskS W N Ft Dk k F rm x lf b) (hB : Below W.heap.size W w') : DiskS w' N (NewFt Ft W w') Dk k F rm x lf b ∧ Tn Ft W w' :=
  ⟨(h.below hB).more (fun _ h => .inl h) (Nat.le_refl _), Tn.of_below hB⟩
/-- the file is there: its bytes, and how many are safe. -/
theorem sync_S (W : World) (N : Nat) (Ft : Nat → Prop) (Dk k : Nat) (F : Files) (s : ByteArray) (rm x lf : Int) (bs : List UInt8) (z : Nat)
    (hS : DiskS W N Ft Dk k F rm x lf false) (hb : nameB s = true) (hf : F s = some (bs, z)) (hk : k < maxLen) (hx : 0 ≤ x) (hx2 : x ≤ 100000000) (hn0 : bs.length ≤ 100000000) (hlf : lf ≤ 9223372036854775807) :
    Calls Tryz.prog 59 #[.pointer (some ⟨Dk, 0, none⟩), .string s] W fun e w' => e = .returned (.int .i64 (erA lf)) ∧
      After W N Ft Dk (k + 1) (if lf = 1 then F else F.upd s (some (bs, bs.length))) rm x lf w' := by
  obtain ⟨M, D, hD, hM, f1, f2, hF⟩ := hS
  obtain ⟨a, c, e1, e2, e3, e4⟩ := hF.2.1 s bs z hf
  have hs := nameB_size hb
  have fin : ∀ (lf' : Int) w', PutPost W Dk M k D s (.agg #[.slice a bs.length c, .int .i64 (bs.length : Nat)]) (.int .i64 rm) (.int .i64 lf') (.bool false) x w' →
      DiskS w' N (NewFt Ft W w') Dk (k + 1) (F.upd s (some (bs, bs.length))) rm x lf' false ∧ Tn Ft W w' := fun lf' w' hp => by
    obtain ⟨p1, p2, p3⟩ := hp
    have hv : Own5 w' N (.slice a bs.length c) bs := Own5.tn e2 p3 (fun g hg hp => by
      rcases hp with hp | hp
      · exact Own5.not_blk e2 hD (by decide) (by rw [hg, hp])
      · exact Own5.not_map e2 hM (by rw [hg, hp]))
    refine ⟨⟨M, _, p1, p2, .inl f1, .inl f2, files_put hF hM hD (by decide) hv (Nat.le_refl _) (.inr ⟨_, _, e1, rfl⟩) (.inl rfl) (p3.mono fun i _ hi => ?_)⟩, p3.mono fun i _ hi => ?_⟩
    · rcases hi with hi | hi
      · exact .inl hi
      · exact .inr (.inl hi)
    · rcases hi with rfl | rfl
      · exact f1
      · exact f2
  unfold After erA lfA
  by_cases h1 : lf = 1
  · subst h1
    refine (sync_last W Dk M k D s (.int .i64 rm) x a _ c _ hD hM hs hb e1).mono ?_
    rintro e w' ⟨rfl, p1, p2, p3⟩
    have hT : Tn Ft W w' := p3.mono fun i _ hi => by
      have hi : i = Dk := hi
      rw [hi]
      exact f1
    refine ⟨rfl, ⟨M, D, p1, World.ownsMap.mono p2 (by omega), .inl f1, .inl f2, hF.1, fun s' bs' z' hs' => ?_, hF.2.2⟩, hT⟩
    obtain ⟨a', c', g1, g2, g3, g4⟩ := hF.2.1 s' bs' z' hs'
    exact ⟨a', c', g1, Own5.tn g2 p3 (fun g hg hp => Own5.not_blk g2 hD (by decide) (by rw [hg, hp])), g3, fun g hg => .inl (g4 g hg)⟩
  · by_cases h2 : 1 < lf
    · refine (sync_more W Dk M k D s (.int .i64 rm) x lf a _ c _ hD hM hs hb e1 hk hx (by omega) (by omega) h2 hlf).mono ?_
      rintro e w' ⟨rfl, hp⟩
      rw [if_neg h1, if_pos h2, decide_eq_false h1, if_neg h1]
      exact ⟨rfl, fin _ _ hp⟩
    · refine (sync_zero W Dk M k D s (.int .i64 rm) x lf a _ c _ hD hM hs hb e1 hk hx (by omega) (by omega) (by omega)).mono ?_
      rintro e w' ⟨rfl, hp⟩
      rw [if_neg h1, if_neg h2, decide_eq_false h1, if_neg h1]
      exact ⟨rfl, fin _ _ hp⟩
/-- what Read gives: the bytes or none, and the error. -/
def rdOf (F : Files) (b : Bool) (s : ByteArray) : List UInt8 × Int :=
  if b then ([], 10) else if nameB s = false then ([], 12) else match F s with | none => ([], 3) | some y => (y.1, 0)
theorem read_S (W : World) (N : Nat) (Ft : Nat → Prop) (Dk k : Nat) (F : Files) (s : ByteArray) (rm x lf : Int) (b : Bool) (hS : DiskS W N Ft Dk k F rm x lf b) (hs : s.size ≤ maxLen) (hn0 : ((F s).getD ([], 0)).1.length ≤ 100000000) :
    Calls Tryz.prog 18 #[.pointer (some ⟨Dk, 0, none⟩), .string s] W fun e w' => ReadP W (rdOf F b s).1 (rdOf F b s).2 e w' := by
  obtain ⟨M, D, hD, hM, f1, f2, hF⟩ := hS
  unfold rdOf
  cases b with
  | true => exact read_down W Dk M s _ _ _ hD
  | false =>
    cases hb : nameB s with
    | false => simpa using read_bad W Dk M s _ _ _ hD hs hb
    | true =>
      cases hf : F s with
      | none => simpa using read_none W Dk M k D s _ _ _ hD hM hs hb (hF.1 s hf)
      | some y =>
        obtain ⟨bs, z⟩ := y
        obtain ⟨a, c, e1, e2, e3, e4⟩ := hF.2.1 s bs z hf
        rw [hf] at hn0
        have hn0' : bs.length ≤ 100000000 := hn0
        simpa using read_some W Dk M k D s _ _ _ hD hM hs hb N a _ c _ bs e1 rfl (by omega) e2
theorem new_S (W : World) (n : Int) (hn : 0 ≤ n) :
    Calls Tryz.prog 8 #[.int .i64 n] W fun e w' => ∃ Dk, e = .returned (.pointer (some ⟨Dk, 0, none⟩)) ∧ DiskS w' W.heap.size (fun i => W.heap.size ≤ i ∧ i < w'.heap.size) Dk 0 (fun _ => none) n 0 0 false ∧ Below W.heap.size W w' := by
  refine (new_any W n hn).mono ?_
  rintro e w' ⟨Dk, M, rfl, h1, h2, h3, h4, h5⟩
  exact ⟨Dk, rfl, ⟨M, _, h3, h4, ⟨h1, h3.lt⟩, ⟨h2, Held.lt h4⟩, fun s _ => at_none s, fun s bs z hs => (by cases hs), fun s s' v v' z z' _ ha => (by rw [at_none] at ha; cases ha)⟩, h5⟩
theorem arm_S (W : World) (N : Nat) (Ft : Nat → Prop) (Dk k : Nat) (F : Files) (rm x lf n : Int) (b : Bool) (hS : DiskS W N Ft Dk k F rm x lf b) :
    Calls Tryz.prog 12 #[.pointer (some ⟨Dk, 0, none⟩), .int .i64 n] W fun e w' => e = .returned (.tuple #[]) ∧ DiskS w' N Ft Dk k F rm x n b ∧ Tn Ft W w' := by
  obtain ⟨M, D, hD, hM, f1, f2, hF⟩ := hS
  refine (arm_any W Dk M _ _ _ lf n hD).mono ?_
  rintro e w' ⟨rfl, rfl⟩
  have hT := (Tn.refl (fun i => i = Dk) W).setCell (x := ⟨Dk, 3, none⟩) (.inl rfl) (.int .i64 n)
  refine ⟨rfl, ⟨M, D, ?_, Held.same hM (Below.heap_setCell W ⟨Dk, 3, none⟩ _ M (Held.not_blk hM hD)), f1, f2, hF.1, fun s' bs' z' hs' => ?_, hF.2.2⟩, hT.mono fun i _ hi => by
    have hi : i = Dk := hi
    rw [hi]
    exact f1⟩
  · have := hD.put 3 (.int .i64 n)
    simpa using this
  · obtain ⟨a', c', g1, g2, g3, g4⟩ := hF.2.1 s' bs' z' hs'
    exact ⟨a', c', g1, Own5.tn g2 hT (fun g hg hp => Own5.not_blk g2 hD (by decide) (by rw [hg, hp])), g3, g4⟩
end Go.Proofs.YtidadjlhnlmfkaaGreatDoor
