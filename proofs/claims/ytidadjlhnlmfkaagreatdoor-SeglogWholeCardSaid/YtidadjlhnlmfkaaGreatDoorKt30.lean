/- SlStops SlMid SlStA. Conditions: as stated at each. -/
import Derived.Test.YtidadjlhnlmfkaaGreatDoorKt19
import Derived.RangeFuncWrites
import Derived.RangeFuncFrom
import Derived.Sort.CutIn
import Derived.Test.YtidadjlhnlmfkaaGreatDoorKt11
/- Rounds of a loop over the disk's names that turn some blocks; regions in a round, in whatever order. Conditions: as stated at each. -/
namespace Go.Proofs.YtidadjlhnlmfkaaGreatDoor
open Go.RowKit Go.Shelf Go Go.Maps
attribute [local go_sem] Oper.semAt_some
theorem scount_set (L : List Bool) : ∀ i, L.getD i true = false → (L.set i true).count false + 1 = L.count false := by
  induction L with
  | nil => intro i h; simp at h
  | cons b L ih =>
    intro i h
    cases i with
    | zero =>
      simp at h
      subst h
      simp
    | succ i =>
      have := ih i (by simpa using h)
      cases b <;> simp <;> omega
theorem sany_inv {F : Fence} {n : Nat} {P : Program} {ops : Array Oper} {Q : Exit → Act → World → Prop} (I : Array Bool → Act → World → Prop)
    (hstep : ∀ L a w i o, I L a w → ops[i]? = some o → L.getD i true = false → (∀ e ∈ o.after, Region.binds .any e = true → L.getD e.on false = true) → wpOpIn F n P ops Q i (I (L.setIfInBounds i true)) a w)
    (hend : ∀ L a w, I L a w → L.size = ops.size → Region.ready .any ops L = [] → Q .normal a w) :
    ∀ (fuel : Nat) (L : Array Bool) (a : Act) (w : World), L.toList.count false ≤ fuel → L.size = ops.size → I L a w → wpAnyIn F n P .any ops Q fuel L a w := by
  intro fuel
  induction fuel with
  | zero =>
    intro L a w hc hs hI
    have hr : Region.ready .any ops L = [] := by
      cases h : Region.ready .any ops L with
      | nil => rfl
      | cons i r =>
        have hi : i ∈ Region.ready .any ops L := by rw [h]; simp
        obtain ⟨h1, _⟩ := mem_ready.1 hi
        have := scount_set L.toList i (by simpa [List.getD, Array.getD_eq_getD_getElem?] using h1)
        omega
    exact ⟨hr, hend L a w hI hs hr⟩
  | succ fuel ih =>
    intro L a w hc hs hI
    refine ⟨fun hr => hend L a w hI hs hr, fun i hi => ?_⟩
    obtain ⟨h1, o, ho, h2⟩ := mem_ready.1 hi
    refine wpOpIn_mono (fun a' w' h => ih _ a' w' ?_ (by simpa using hs) h) (hstep L a w i o hI ho h1 h2)
    have := scount_set L.toList i (by simpa [List.getD, Array.getD_eq_getD_getElem?] using h1)
    simp only [Array.toList_setIfInBounds]
    omega
theorem sregion_inv {F : Fence} {n : Nat} {P : Program} {id : Nat} {ops : Array Oper} {Q : Exit → Act → World → Prop} {a : Act} {w : World} (hm : P.follows .mixedOrders = true) (I : Array Bool → Act → World → Prop)
    (h0 : ∀ w1, Alk w w1 → I (Array.replicate ops.size false) a w1)
    (hstep : ∀ L a w i o, I L a w → ops[i]? = some o → L.getD i true = false → (∀ e ∈ o.after, Region.binds .any e = true → L.getD e.on false = true) → wpOpIn F n P ops Q i (I (L.setIfInBounds i true)) a w)
    (hend : ∀ L a w, I L a w → L.size = ops.size → Region.ready .any ops L = [] → Q .normal a w) : (Code.region id ops true).wpIn F n P Q a w :=
  wpIn_region_any hm (sany_inv I hstep hend ops.size _ a _ (by simp) (by simp) (h0 _ ⟨rfl, rfl, rfl, rfl⟩))
theorem snot_ready {ops : Array Oper} {L : Array Bool} (hr : Region.ready .any ops L = []) (i : Nat) (o : Oper) (ho : ops[i]? = some o) (hd : ∀ e ∈ o.after, Region.binds .any e = true → L.getD e.on false = true) : L.getD i true = true := by
  cases h : L.getD i true with
  | true => rfl
  | false =>
    have : i ∈ Region.ready .any ops L := mem_ready.2 ⟨h, o, ho, hd⟩
    rw [hr] at this
    cases this
/-- what a round keeps: below n0 all but the blocks of p. -/
def Kq (n0 : Nat) (p : Nat → Prop) (W W' : World) : Prop := W.heap.size ≤ W'.heap.size ∧ ∀ i, i < n0 → ¬ p i → W'.heap[i]? = W.heap[i]?
theorem Kq.trans {n0 : Nat} {p : Nat → Prop} {A B C : World} (h : Kq n0 p A B) (k : Kq n0 p B C) : Kq n0 p A C :=
  ⟨Nat.le_trans h.1 k.1, fun i hi hp => (k.2 i hi hp).trans (h.2 i hi hp)⟩
theorem Kq.book {n0 : Nat} {p : Nat → Prop} {w : World} (hn : n0 ≤ w.heap.size) (W : World) (l : Nat) (o o' : Obj) (hl : w.heap.size ≤ l) (_ : W.heap[l]? = some o) (_ : o.isCells = false) (_ : o.isWalk = false) : Kq n0 p W (W.putObj l o') :=
  ⟨by simp, fun i hi _ => World.putObj_heap_other (by omega)⟩
theorem Kq.of_tn {n0 : Nat} {p : Nat → Prop} {W W' : World} (h : Tn p W W') (hn : n0 ≤ W.heap.size) : Kq n0 p W W' := ⟨h.size, fun i hi hp => h.block i (by omega) hp⟩
set_option maxRecDepth 100000 in
set_option maxHeartbeats 2000000 in
/-- slices.Values's closure, for every loop body that keeps what Kp says. -/
theorem values1_Q (F : Fence) (n : Nat) (h7 : F.fn 81) (hro : F.round = none) (hn : 1 ≤ n) (l Bs b off len cap : Nat) (Kp : World → World → Prop) (hKt : ∀ {A B C : World}, Kp A B → Kp B C → Kp A C) (zs : List ByteArray) (hreach : len * 16 ≤ 140737488351232) (J Jx : List ByteArray → World → Prop)
    (hY : ∀ pre x W, J pre W → pre.length < len → x = zs[pre.length]?.getD ByteArray.empty → YieldAt F (n - 1) Tryz.prog l #[.string x] W fun e W' =>
      (e = .returned (.bool true) ∧ J (pre ++ [x]) W' ∧ Kp W W') ∨ (e = .returned (.bool false) ∧ Jx (pre ++ [x]) W'))
    (W : World) (hBs : W.cell? ⟨Bs, 0, none⟩ = some (.slice (some ⟨b, off, none⟩) len cap)) (hc : ∀ W', Kp W W' → ∀ j, j < len → W'.cell? ⟨b, off + j, none⟩ = some (.string (zs[j]?.getD ByteArray.empty))) (hK0 : Kp W W) (h0 : J [] W) :
    CallsIn F n Tryz.prog 81 #[.func (.yield l) #[] #[], .pointer (some ⟨Bs, 0, none⟩)] W fun e W' => (∃ v, e = .returned v) ∧
      ((∃ ys, ys = upto (fun j => zs[j]?.getD ByteArray.empty) len ∧ J ys W') ∨ (∃ pre, (∃ k, k ≤ len ∧ pre = upto (fun j => zs[j]?.getD ByteArray.empty) k) ∧ Jx pre W')) := by
  refine callsIn_of_wp Tryz.func81 rfl h7 ?_ hro
  simp only [Tryz.ntmps81, List.size_toArray, List.length_cons, List.length_nil, Nat.reduceAdd, Nat.reduceSub, Array.replicate_succ, Array.replicate_zero, List.push_toArray, List.append_toArray, List.nil_append, List.cons_append]
  gi_wp2
  gi_loopw [7] (fun i wr => ∃ k : Nat, k ≤ len ∧ i = .int .i64 k ∧ J (upto (fun j => zs[j]?.getD ByteArray.empty) k) wr ∧ Kp W wr)
    (fun i _ => len - (intOf i).toNat)
  case atStart => exact ⟨0, Nat.zero_le _, rfl, h0, hK0⟩
  case round =>
    obtain ⟨k, hk, rfl, hJs, hnx⟩ := hrel
    have hcx : k < len → wr.cell? ⟨b, off + k, none⟩ = some (.string (zs[k]?.getD ByteArray.empty)) := fun h => hc wr hnx k h
    by_cases hlt : k < len
    · obtain ⟨fn, tmps, assign, body, hy, hR⟩ := hY _ (zs[k]?.getD ByteArray.empty) wr hJs (by rw [upto_length]; exact hlt) (by rw [upto_length])
      have hcx' := hcx hlt
      gi_wp2
      refine hR.mono ?_
      rintro e W3 (⟨rfl, hJ3, hk3⟩ | ⟨rfl, hJx3⟩)
      · gi_wp2
        go_roundw
        case rel => exact ⟨k + 1, by omega, by simp, by rw [upto_succ]; exact hJ3, hKt hnx hk3⟩
        case measure => simp [intOf]; omega
      · gi_wp2
        refine bodyPost_ret (results_none rfl _ _ _) rfl ?_
        exact ⟨⟨_, rfl⟩, .inr ⟨_, ⟨k + 1, by omega, (upto_succ _ _).symm⟩, hJx3⟩⟩
    · obtain rfl : k = len := by omega
      gi_wp2
      go_end0
      exact ⟨⟨_, rfl⟩, .inl ⟨_, rfl, hJs⟩⟩
/-- the slice of names lies below n₀, in none of p's blocks. -/
def HasQ (n₀ : Nat) (p : Nat → Prop) (W : World) (sv : Value) (zs : List ByteArray) : Prop :=
  (sv = .slice none 0 0 ∧ zs = []) ∨ ∃ b off cap, sv = .slice (some ⟨b, off, none⟩) zs.length cap ∧ b < n₀ ∧ ∀ j, j < zs.length → ¬ p b ∧ W.cell? ⟨b, off + j, none⟩ = some (.string (zs[j]?.getD ByteArray.empty))
theorem Kq.cell {n0 : Nat} {p : Nat → Prop} {W W' : World} (h : Kq n0 p W W') {b o : Nat} (hb : b < n0) (hp : ¬ p b) : W'.cell? ⟨b, o, none⟩ = W.cell? ⟨b, o, none⟩ := by
  simp [World.cell?, h.2 b hb hp]
theorem map_val_snoc {zs : List ByteArray} (pre : List {s : ByteArray // s ∈ zs}) (x : {s : ByteArray // s ∈ zs}) : (pre ++ [x]).map Subtype.val = pre.map Subtype.val ++ [x.1] := by simp
theorem values_stops_Q (F : Fence) (n : Nat) (h7 : F.fn 81) (hro : F.round = none) (hn : 1 ≤ n) (Bs n₀ : Nat) (p : Nat → Prop) (sv : Value) (zs : List ByteArray) (hreach : zs.length * 16 ≤ 140737488351232) (w : World) (hBs : Bs < w.heap.size) (hn₀ : n₀ ≤ w.heap.size)
    (hc : w.cell? ⟨Bs, 0, none⟩ = some sv) (hI : HasQ n₀ p w sv zs) :
    SeqStopsK F n Tryz.prog 81 #[.pointer (some ⟨Bs, 0, none⟩)] (fun x : {s : ByteArray // s ∈ zs} => #[.string x.1]) (Kq n₀ p) (fun ys => ys.map Subtype.val = zs) (fun _ => True) zs.length w := fun l J Jx W hW _ _ hY h0 => by
  have hc' := (hW.cell (p := ⟨Bs, 0, none⟩) hBs).trans hc
  rcases hI with ⟨rfl, rfl⟩ | ⟨b, off, cap, rfl, hb, hcs⟩
  · exact (values1_nil_S F n h7 hro l Bs (fun pre w => ∃ pre' : List {s : ByteArray // s ∈ ([] : List ByteArray)}, pre = pre'.map Subtype.val ∧ J pre' w) W hc' ⟨[], rfl, h0⟩).mono fun e W' ⟨he, pre', hp', hj⟩ => ⟨he, .inl ⟨pre', hp'.symm, hj⟩⟩
  · refine (values1_Q F n h7 hro hn l Bs b off zs.length cap (Kq n₀ p) (fun h k => Kq.trans h k) zs hreach (fun pre w => ∃ pre' : List {s : ByteArray // s ∈ zs}, pre = pre'.map Subtype.val ∧ J pre' w) (fun pre w => ∃ pre' : List {s : ByteArray // s ∈ zs}, pre = pre'.map Subtype.val ∧ Jx pre' w) (fun pre x w1 hj hl hx => ?_) W hc' (fun W' hK j hj => ?_) ⟨Nat.le_refl _, fun _ _ _ => rfl⟩ ⟨[], rfl, h0⟩).mono ?_
    · obtain ⟨pre', rfl, hj⟩ := hj
      rw [List.length_map] at hl hx
      have hm : x ∈ zs := by
        rw [hx, List.getElem?_eq_getElem hl]
        exact List.getElem_mem hl
      obtain ⟨fn, tmps, assign, body, hy, hR⟩ := hY pre' ⟨x, hm⟩ w1 hj hl
      refine ⟨fn, tmps, assign, body, hy, hR.mono ?_⟩
      rintro e w2 (⟨rfl, h1, h2⟩ | ⟨rfl, h1⟩)
      · exact .inl ⟨rfl, ⟨_, (map_val_snoc pre' ⟨x, hm⟩).symm, h1⟩, h2⟩
      · exact .inr ⟨rfl, ⟨_, (map_val_snoc pre' ⟨x, hm⟩).symm, h1⟩⟩
    · exact (hK.cell hb (hcs j hj).1).trans ((hW.cell (p := ⟨b, off + j, none⟩) (by show b < w.heap.size; omega)).trans (hcs j hj).2)
    rintro e W' ⟨he, ⟨ys, rfl, pre', hp', hj⟩ | ⟨pre, ⟨k, hk, rfl⟩, pre', hp', hj⟩⟩
    · exact ⟨he, .inl ⟨pre', hp'.symm.trans (upto_all ByteArray.empty zs), hj⟩⟩
    · exact ⟨he, .inr ⟨pre', trivial, hj⟩⟩
end Go.Proofs.YtidadjlhnlmfkaaGreatDoor
/- Files settled, and the words for a start of the disk. Conditions: as stated at each. -/
namespace Go.Proofs.YtidadjlhnlmfkaaGreatDoor
open Go.RowKit Go.Shelf Go Go.Maps
theorem files_put_nil {W W' : World} {N : Nat} {Ft : Nat → Prop} {D : DataW Value} {F : Files} {Dk M k : Nat} {s : ByteArray} {v : Value} {bs : List UInt8} {z : Nat} {t : TypeId} {cs : Array Value} {r : Option Nat}
    (h : FilesIs W N Ft D F) (hM : MapIs W M k D) (hD : BlkIs W Dk t cs) (ht : t ≠ 5) (hv : Own5 W' N v bs) (hz : z ≤ bs.length) (hR : RowIs D s r) (hrow : v.ownBlock = none)
    (hT : Tn (fun i => i = Dk ∨ i = M ∨ r = some i) W W') :
    FilesIs W' N (NewFt Ft W W') (D.put (kOf s) (.held (.agg #[v, .int .i64 (z : Nat)]))) (F.upd s (some (bs, z))) := by
  obtain ⟨h1, h2, h3⟩ := h
  have hI := Held.isMap hM
  have hfile : ∀ s0 v0 z0, at_ D s0 = some (.agg #[v0, z0]) → ∃ l, Own5 W N v0 l ∧ ∀ g, v0.ownBlock = some g → Ft g := fun s0 v0 z0 ha => by
    cases hF : F s0 with
    | none => rw [h1 s0 hF] at ha; cases ha
    | some y =>
      obtain ⟨bs0, z1⟩ := y
      obtain ⟨a, c, e1, e2, _, e4⟩ := h2 s0 bs0 z1 hF
      rw [e1] at ha
      injection ha with ha
      injection ha with ha
      have ha' := congrArg Array.toList ha
      simp at ha'
      obtain ⟨rfl, _⟩ := ha'
      exact ⟨bs0, e2, e4⟩
  have hdis : ∀ s0 v0 z0 g, s0 ≠ s → at_ D s0 = some (.agg #[v0, z0]) → v0.ownBlock = some g → r ≠ some g := fun s0 v0 z0 g hne ha hg hr => by
    rcases hR with ⟨_, e⟩ | ⟨v1, z1, ha1, e1⟩
    · rw [e] at hr; cases hr
    · rcases h3 s0 s v0 v1 z0 z1 hne ha ha1 with e | e
      · rw [e] at hg; cases hg
      · exact e (hg.trans (hr.symm.trans e1))
  refine ⟨fun s' hs' => ?_, fun s' bs' z' hs' => ?_, fun s1 s2 v1 v2 z1 z2 hne ha1 ha2 => ?_⟩
  · unfold Files.upd at hs'
    rw [at_put hI]
    by_cases e : s' = s
    · rw [if_pos e] at hs'; cases hs'
    · rw [if_neg e] at hs' ⊢
      exact h1 s' hs'
  · unfold Files.upd at hs'
    rw [at_put hI]
    by_cases e : s' = s
    · rw [if_pos e] at hs' ⊢
      injection hs' with hs'
      injection hs' with e1 e2
      subst e1
      subst e2
      obtain ⟨A, c, rfl, _, _⟩ := own_slice hv
      refine ⟨A, c, rfl, hv, hz, fun g hg => ?_⟩
      rw [hrow] at hg
      cases hg
    · rw [if_neg e] at hs' ⊢
      obtain ⟨a, c, e1, e2, e3, e4⟩ := h2 s' bs' z' hs'
      refine ⟨a, c, e1, Own5.tn e2 hT (fun g hg hp => ?_), e3, fun g hg => .inl (e4 g hg)⟩
      rcases hp with hp | hp | hp
      · exact Own5.not_blk e2 hD ht (by rw [hg, hp])
      · exact Own5.not_map e2 hM (by rw [hg, hp])
      · exact hdis s' _ _ g e e1 hg hp
  · rw [at_put hI] at ha1 ha2
    have key : ∀ s0 v0 z0, s0 ≠ s → at_ D s0 = some (.agg #[v0, z0]) → v.ownBlock = none ∨ v.ownBlock ≠ v0.ownBlock := fun s0 v0 z0 hn ha => by
      exact .inl hrow
    have inj : ∀ {v0 z0 : Value}, (some (Value.agg #[v, .int .i64 (z : Nat)]) = some (.agg #[v0, z0])) → v = v0 := fun e => by
      injection e with e
      injection e with e
      have e' := congrArg Array.toList e
      simp at e'
      exact e'.1
    by_cases c1 : s1 = s
    · rw [if_pos c1] at ha1
      rw [if_neg (fun e => hne (c1.trans e.symm))] at ha2
      have := inj ha1
      subst this
      exact key s2 v2 z2 (fun e => hne (c1.trans e.symm)) ha2
    · rw [if_neg c1] at ha1
      by_cases c2 : s2 = s
      · rw [if_pos c2] at ha2
        have := inj ha2
        subst this
        rcases key s1 v1 z1 c1 ha1 with e | e
        · cases hv1 : v1.ownBlock with
          | none => exact .inl rfl
          | some g => right; rw [e]; simp
        · exact .inr (fun h => e h.symm)
      · rw [if_neg c2] at ha2
        exact h3 s1 s2 v1 v2 z1 z2 hne ha1 ha2
/-- what a start leaves of a file. -/
def St (o o' : Option (List UInt8 × Nat)) : Prop := (o = none ∧ o' = none) ∨ ∃ bs z n, o = some (bs, z) ∧ z ≤ n ∧ n ≤ bs.length ∧ o' = some (bs.take n, n)
/-- the ints lie at A, in none of p's blocks. -/
def IntsQ (W : World) (p : Nat → Prop) (A : Option Addr) (ks : List Int) : Prop := ∀ j u, ks[j]? = some u → ∃ ad, A = some ad ∧ ad.block < W.heap.size ∧ ¬ p ad.block ∧ W.cell? (ad.add j) = some (.int .i64 u)
theorem IntsQ.tn {p q : Nat → Prop} {W W' : World} {A : Option Addr} {ks : List Int} (h : IntsQ W p A ks) (hT : Tn q W W') (hq : ∀ i, i < W.heap.size → q i → p i) : IntsQ W' p A ks := fun j u hj => by
  obtain ⟨ad, e, hb, hp, hc⟩ := h j u hj
  refine ⟨ad, e, Nat.lt_of_lt_of_le hb hT.size, hp, ?_⟩
  rw [← hc]
  have : (ad.add j).block = ad.block := blk_add _ _
  simp only [World.cell?, this, hT.block ad.block hb (fun h => hp (hq _ hb h))]
theorem IntsQ.tail {p : Nat → Prop} {W : World} {A : Option Addr} {u : Int} {ks : List Int} (h : IntsQ W p A (u :: ks)) (c : Nat) (hc : ks.length + 1 ≤ c) : IntsQ W p (if c = 1 then A else A.map (·.add 1)) ks := fun j v hj => by
  obtain ⟨ad, e, hb, hp, hcell⟩ := h (j + 1) v (by simpa using hj)
  have : j < ks.length := (List.getElem?_eq_some_iff.1 hj).1
  rw [if_neg (by omega), e]
  exact ⟨ad.add 1, rfl, by rw [blk_add]; exact hb, by rw [blk_add]; exact hp, by rw [add_twice, Nat.add_comm]; exact hcell⟩
/-- in the middle of the loop: x is the sum; each name that came has been settled. -/
def Mid (F F' : Files) (pre : List ByteArray) : Prop := ∀ s, (F' s = F s ∧ s ∉ pre) ∨ St (F s) (F' s)
theorem Mid.skip {F F' : Files} {pre : List ByteArray} (h : Mid F F' pre) (s : ByteArray) (ht : ((F' s).getD ([], 0)).1.length = ((F' s).getD ([], 0)).2) : Mid F F' (pre ++ [s]) := fun s' => by
  rcases h s' with ⟨h1, h2⟩ | h1
  · by_cases e : s' = s
    · subst e
      right
      cases hF : F s' with
      | none => exact .inl ⟨rfl, h1.trans hF⟩
      | some y =>
        obtain ⟨bs, z⟩ := y
        rw [h1, hF] at ht
        have ht : bs.length = z := ht
        exact .inr ⟨bs, z, z, rfl, Nat.le_refl _, by omega, by rw [h1, hF, ← ht, List.take_length]⟩
    · exact .inl ⟨h1, by simp [h2, e]⟩
  · exact .inr h1
theorem Mid.put {F F' : Files} {pre : List ByteArray} (h : Mid F F' pre) (s : ByteArray) (bs : List UInt8) (z m : Nat) (hs : F' s = some (bs, z)) (hzb : z < bs.length) (h1 : z ≤ m) (h2 : m ≤ bs.length) : Mid F (F'.upd s (some (bs.take m, m))) (pre ++ [s]) := fun s' => by
  unfold Files.upd
  by_cases e : s' = s
  · subst e
    rw [if_pos rfl]
    right
    rcases h s' with ⟨g1, _⟩ | ⟨_, g⟩ | ⟨bs0, z0, n0, g1, g2, g3, g4⟩
    · exact .inr ⟨bs, z, m, g1.symm.trans hs, h1, h2, rfl⟩
    · rw [g] at hs; cases hs
    · rw [g4] at hs
      injection hs with hs
      injection hs with e1 e2
      subst e1
      subst e2
      rw [List.length_take] at hzb
      omega
  · rw [if_neg e]
    rcases h s' with ⟨g1, g2⟩ | g
    · exact .inl ⟨g1, by simp [g2, e]⟩
    · exact .inr g
theorem Mid.all {F F' : Files} {ns : List ByteArray} (h : Mid F F' ns) (hn : ∀ s, s ∈ ns ↔ F s ≠ none) (s : ByteArray) : St (F s) (F' s) := by
  rcases h s with ⟨h1, h2⟩ | h
  · have : F s = none := by
      cases hF : F s with
      | none => rfl
      | some y => exact absurd ((hn s).2 (by rw [hF]; simp)) h2
    exact .inl ⟨this, h1.trans this⟩
  · exact h
theorem lenOf_le (F : Files) {ns : List ByteArray} (hn : ns.Nodup) {s : ByteArray} (hs : s ∈ ns) : lenOf F s ≤ sumOf F ns := by
  have := sumOf_in F s none ns hn hs
  simp at this
  omega
end Go.Proofs.YtidadjlhnlmfkaaGreatDoor
/- Start at whatever files. Conditions: as stated at each. -/
namespace Go.Proofs.YtidadjlhnlmfkaaGreatDoor
open Go.RowKit Go.Shelf Go Go.Maps
attribute [local go_sem] Oper.semAt_some
theorem keeps_of_tn {n0 : Nat} {p : Nat → Prop} {X X' : World} (h : Tn p X X') (hp : ∀ i, p i → i < n0) : KeepsFrom n0 X X' :=
  ⟨h.size, fun k o hB hk _ => by rw [h.block k (Array.getElem?_eq_some_iff.1 hk).1 (fun hpk => by have := hp k hpk; omega)]; exact hk⟩
/-- the blocks that a start turns. -/
def Pt (Dk M B : Nat) (i : Nat) : Prop := i = Dk ∨ i = M ∨ i = B
/-- the blocks of files, old and made since. -/
def Fn (Ft : Nat → Prop) (n : Nat) (i : Nat) : Prop := Ft i ∨ n ≤ i
def StI (W3 : World) (N n1 : Nat) (Ft : Nat → Prop) (Dk M B k0 : Nat) (rm lf x0 : Int) (F : Files) (ns pre : List ByteArray) (X : World) : Prop :=
  ∃ (F' : Files) (D' : DataW Value) (k' : Nat) (A' : Option Addr) (c' : Nat) (ks' : List Int),
    BlkIs X Dk 55 #[.map (some M), .int .i64 rm, .int .i64 (sumOf F' ns : Nat), .int .i64 lf, .bool true] ∧ MapIs X M k' D' ∧ k' ≤ k0 + pre.length ∧ FilesIs X N (Fn Ft n1) D' F' ∧ (sumOf F' ns : Int) ≤ x0 ∧ Mid F F' pre ∧
    BlkIs X B 23 #[.slice A' ks'.length c'] ∧ ks'.length ≤ c' ∧ IntsQ X (Pt Dk M B) A' ks' ∧ Tn (Pt Dk M B) W3 X
theorem own5_cells {w : World} {N : Nat} {v : Value} {l : List UInt8} (h : Own5 w N v l) {g : Nat} (hg : v.ownBlock = some g) : ∃ cs : Array Value, w.heap[g]? = some (.cells cs 5 (0, 0)) := by
  rcases h.2 with ⟨rfl, _⟩ | ⟨g', cap, cur, rfl, _, hh, _⟩
  · simp [Value.ownBlock] at hg
  · have : g' = g := by simpa [Value.ownBlock] using hg
    subst this
    exact ⟨_, hh⟩
theorem stI_own (W3 : World) (N n1 : Nat) (Ft : Nat → Prop) (Dk M B k0 : Nat) (rm lf x0 : Int) (F : Files) (ns : List ByteArray) (h1 : Dk < W3.heap.size) (h2 : M < W3.heap.size) (h3 : B < W3.heap.size) :
    OwnFrom W3.heap.size (fun pre : List {s : ByteArray // s ∈ ns} => StI W3 N n1 Ft Dk M B k0 rm lf x0 F ns (pre.map Subtype.val)) := by
  intro s X X' row hs hg hr
  obtain ⟨F', D', k', A', c', ks', e1, e2, e3, e4, e5, e6, e7, e8, e9, e10⟩ := hs
  have hge : ∀ g, row = some g → W3.heap.size ≤ g := fun g e => (hr g e).1
  have hT : Tn (fun i => row = some i) X X' := (Tn.refl _ X).grown hg (fun g e => .inl e)
  refine ⟨F', D', k', A', c', ks', e1.tn hT (fun e => by have := hge _ e; omega), Held.tn e2 hT (fun e => by have := hge _ e; omega), e3, files_keep e4 hT (fun _ h => h) (fun v l g ho hb hp => ?_), e5, e6, e7.tn hT (fun e => by have := hge _ e; omega), e8, ?_, ?_⟩
  · obtain ⟨_, o, ho', hc⟩ := hr g hp
    obtain ⟨cs, hcs⟩ := own5_cells ho hb
    rw [hcs] at ho'
    cases ho'
    cases hc
  · intro j u hj
    obtain ⟨ad, a1, a2, a3, a4⟩ := e9 j u hj
    refine ⟨ad, a1, Nat.lt_of_lt_of_le a2 hT.size, a3, ?_⟩
    rw [← a4]
    have hb : (ad.add j).block = ad.block := blk_add _ _
    have hne : ¬ row = some ad.block := fun e => by
      obtain ⟨_, o, ho', hc⟩ := hr _ e
      have := a4
      simp only [World.cell?, hb, ho'] at this
      cases o with
      | cells _ _ _ => cases hc
      | _ => simp at this
    simp only [World.cell?, hb, hT.block ad.block a2 hne]
  · exact e10.grown hg (fun g e => .inr (hge g e))
/-- where the region of the copy and the put stands: b7: the copy is made; b8: it is put. -/
def RegI (Y : World) (Dk M k : Nat) (D : DataW Value) (s : ByteArray) (rm lf x : Int) (m : Nat) (new : List UInt8) (v : Value) (b7 b8 : Bool) (w : World) : Prop :=
  (b8 = false ∧ Below Y.heap.size Y w ∧ (b7 = true → Own5 w Y.heap.size v new)) ∨
  (b8 = true ∧ ∃ w1, Below Y.heap.size Y w1 ∧ Own5 w1 Y.heap.size v new ∧ PutPost w1 Dk M k D s (.agg #[v, .int .i64 m]) (.int .i64 rm) (.int .i64 lf) (.bool true) x w)
theorem RegI.below {Y : World} {Dk M k m : Nat} {D : DataW Value} {s : ByteArray} {rm lf x : Int} {new : List UInt8} {v : Value} {b7 : Bool} {w : World} (h : RegI Y Dk M k D s rm lf x m new v b7 false w) : Below Y.heap.size Y w := by
  rcases h with ⟨_, h, _⟩ | ⟨h, _⟩
  · exact h
  · cases h
def Ord (b0 b1 b2 b3 b4 b5 b6 b7 b8 : Bool) : Prop :=
  (b4 = true → b3 = true) ∧ (b6 = true → b4 = true ∧ b5 = true) ∧ (b7 = true → b2 = true ∧ b6 = true) ∧ (b8 = true → b0 = true ∧ b1 = true ∧ b7 = true)
theorem ord_all {b0 b1 b2 b3 b4 b5 b6 b7 : Bool} (h : Ord b0 b1 b2 b3 b4 b5 b6 b7 true) : b0 = true ∧ b1 = true ∧ b2 = true ∧ b3 = true ∧ b4 = true ∧ b5 = true ∧ b6 = true ∧ b7 = true := by
  obtain ⟨h1, h2, h3, h4⟩ := h
  obtain ⟨a, b, c⟩ := h4 rfl
  obtain ⟨d, e⟩ := h3 c
  obtain ⟨f, g⟩ := h2 e
  exact ⟨a, b, d, h1 f, f, g, e, c⟩
/-- a round's put, over the files. -/
theorem reg_files {Y w : World} {N n1 Dk M k m : Nat} {Ft : Nat → Prop} {D : DataW Value} {F' : Files} {s : ByteArray} {rm lf x x' : Int} {new : List UInt8} {v : Value} {b : Bool}
    (hD : BlkIs Y Dk 55 #[.map (some M), .int .i64 rm, .int .i64 x', .int .i64 lf, .bool b]) (hM : MapIs Y M k D) (hF : FilesIs Y N (Fn Ft n1) D F') (hm : m ≤ new.length) (hn1 : n1 ≤ Y.heap.size) (hN : N ≤ Y.heap.size) (hMD : M < Y.heap.size)
    (hR : RegI Y Dk M k D s rm lf x m new v true true w) :
    BlkIs w Dk 55 #[.map (some M), .int .i64 rm, .int .i64 x, .int .i64 lf, .bool true] ∧ MapIs w M (k + 1) (D.put (kOf s) (.held (.agg #[v, .int .i64 m]))) ∧ FilesIs w N (Fn Ft n1) (D.put (kOf s) (.held (.agg #[v, .int .i64 (m : Nat)]))) (F'.upd s (some (new, m))) ∧ Tn (fun i => i = Dk ∨ i = M) Y w := by
  rcases hR with ⟨h, _⟩ | ⟨_, w1, hb, ho, p1, p2, p3⟩
  · cases h
  have dlt := hD.lt
  have hT : Tn (fun i => i = Dk ∨ i = M) Y w := (Tn.of_below hb).trans p3
  have ho' : Own5 w Y.heap.size v new := Own5.tn ho p3 (fun g hg hp => by
    have := (Own5.blk_lt ho hg).1
    rcases hp with rfl | rfl <;> omega)
  have hoN : Own5 w N v new := by
    refine ⟨ho'.1, ?_⟩
    rcases ho'.2 with h | ⟨g, cap, cur, e, hb, rest⟩
    · exact .inl h
    · exact .inr ⟨g, cap, cur, e, by omega, rest⟩
  obtain ⟨a0, c0, _, _, o3, _, _⟩ := hF.old s
  refine ⟨p1, p2, ?_, hT⟩
  have hmore : ∀ {D2 : DataW Value} {F2 : Files}, FilesIs w N (NewFt (Fn Ft n1) Y w) D2 F2 → FilesIs w N (Fn Ft n1) D2 F2 := fun h => ⟨h.1, fun s' bs z hs => by
    obtain ⟨a, c, e1, e2, e3, e4⟩ := h.2.1 s' bs z hs
    exact ⟨a, c, e1, e2, e3, fun g hg => by
      rcases e4 g hg with h | h
      · exact h
      · exact .inr (by omega)⟩, h.2.2⟩
  have hT3 : Tn (fun i => i = Dk ∨ i = M ∨ (Value.slice a0 ((F' s).getD ([], 0)).1.length c0).ownBlock = some i) Y w := hT.mono (fun i _ h => by
    rcases h with h | h
    · exact .inl h
    · exact .inr (.inl h))
  cases hv : v.ownBlock with
  | none => exact hmore (files_put_nil hF hM hD (by decide) hoN hm o3 hv hT3)
  | some g => exact hmore (files_put hF hM hD (by decide) hoN hm o3 (.inr ⟨g, hv, (Own5.blk_lt ho hv).1⟩) hT3)
theorem hasQ_of {W : World} {Dk M B k : Nat} {cs : Array Value} {D : DataW Value} {v : Value} {sv : Value} {ns : List ByteArray} (hH : HasS W.heap.size W sv ns) (hD : BlkIs W Dk 55 cs) (hs : ∀ (i : Nat) (s : ByteArray), cs[i]? ≠ some (.string s)) (hM : MapIs W M k D) (hB : BlkIs W B 23 #[v])
    (hv : ∀ s : ByteArray, v ≠ .string s) : HasQ W.heap.size (Pt Dk M B) W sv ns := by
  rcases hH with h | ⟨b, off, cap, e, hb, hc⟩
  · exact .inl h
  · refine .inr ⟨b, off, cap, e, hb, fun j hj => ⟨?_, hc j hj⟩⟩
    have h1 := hc j hj
    rintro (rfl | rfl | rfl)
    · rw [hD.cell] at h1
      exact hs _ _ h1
    · obtain ⟨es, clock, h2, _⟩ := hM
      simp [World.cell?, h2] at h1
    · rw [hB.cell] at h1
      cases ho : off + j with
      | zero =>
        rw [ho] at h1
        injection h1 with h1
        exact hv _ h1
      | succ i =>
        rw [ho] at h1
        simp at h1
theorem own5_low {w : World} {N N' : Nat} {v : Value} {l : List UInt8} (h : Own5 w N v l) (hN : N' ≤ N) : Own5 w N' v l := by
  refine ⟨h.1, ?_⟩
  rcases h.2 with h | ⟨g, cap, cur, e, hb, rest⟩
  · exact .inl h
  · exact .inr ⟨g, cap, cur, e, by omega, rest⟩
theorem sum_same (F : Files) : ∀ l1 l2 : List ByteArray, l1.Nodup → l2.Nodup → (∀ s, s ∈ l1 ↔ s ∈ l2) → sumOf F l1 = sumOf F l2
  | [], l2, _, _, h => by
    cases l2 with
    | nil => rfl
    | cons a l2 => exact absurd ((h a).2 (by simp)) (by simp)
  | a :: l1, l2, h1, h2, h => by
    obtain ⟨u, v, rfl⟩ := List.append_of_mem ((h a).1 (by simp))
    rw [List.nodup_cons] at h1
    have h2' : (u ++ v).Nodup ∧ a ∉ u ++ v := by
      have hp : (u ++ a :: v).Perm (a :: (u ++ v)) := List.perm_middle
      have := (hp.nodup_iff).1 h2
      rw [List.nodup_cons] at this
      exact ⟨this.2, this.1⟩
    have ih := sum_same F l1 (u ++ v) h1.2 h2'.1 (fun s => by
      have hs := h s
      constructor
      · intro hm
        have hne : s ≠ a := fun e => h1.1 (e ▸ hm)
        have := hs.1 (by simp [hm])
        simp only [List.mem_append, List.mem_cons] at this ⊢
        rcases this with h | h | h
        · exact .inl h
        · exact absurd h hne
        · exact .inr h
      · intro hm
        have hne : s ≠ a := fun e => h2'.2 (e ▸ hm)
        have := hs.2 (by
          simp only [List.mem_append, List.mem_cons] at hm ⊢
          rcases hm with h | h
          · exact .inl h
          · exact .inr (.inr h))
        rcases List.mem_cons.1 this with h | h
        · exact absurd h hne
        · exact h)
    unfold sumOf at ih ⊢
    simp only [List.map_cons, List.sum_cons, List.map_append, List.sum_append] at ih ⊢
    omega
/-- behind a start. -/
def StartP (W : World) (N : Nat) (Ft : Nat → Prop) (Dk k : Nat) (F : Files) (rm x : Int) (w' : World) : Prop :=
  ∃ (F' : Files) (k' : Nat) (x' : Int), DiskS w' N (NewFt Ft W w') Dk k' F' rm x' 0 false ∧ Tn Ft W w' ∧ (∀ s, St (F s) (F' s)) ∧ (∀ ns, NamesOf F' ns → x' = sumOf F' ns) ∧ 0 ≤ x' ∧ x' ≤ x ∧ k' ≤ k + k
theorem start_post {W W3 X : World} {N Dk M k Dd : Nat} {Ft : Nat → Prop} {rm lf : Int} {F : Files} {ns : List ByteArray} (hNs : NamesOf F ns) (jB : Below W.heap.size W W3) (f1 : Ft Dk) (f2 : Ft M) (dlt : Dk < W.heap.size) (mlt : M < W.heap.size) (hnl : ns.length ≤ k)
    (hDd : W3.heap.size ≤ Dd) (hKd : X.heap[Dd]? = some (.deferred (some []))) (h : StI W3 N W.heap.size Ft Dk M (W.heap.size + 1) k rm lf (sumOf F ns : Nat) F ns ns X) :
    StartP W N Ft Dk k F rm (sumOf F ns : Nat) (((X.setCell ⟨Dk, 4, none⟩ (.bool false)).setCell ⟨Dk, 3, none⟩ (.int .i64 0)).drew.putObj Dd (.deferred none)) := by
  obtain ⟨F', D', k', A', c', ks', e1, e2, e3, e4, e5, e6, e7, e8, e9, e10⟩ := h
  have hz := jB.size
  have b1 := (e1.put 4 (.bool false)).put 3 (.int .i64 0)
  have hT0 := ((Tn.refl (fun i => i = Dk ∨ i = Dd) X).setCell (x := ⟨Dk, 4, none⟩) (.inl (.inl rfl)) (.bool false)).setCell (x := ⟨Dk, 3, none⟩) (.inl (.inl rfl)) (.int .i64 0)
  have hT1 : Tn (fun i => i = Dk ∨ i = Dd) X ((X.setCell ⟨Dk, 4, none⟩ (.bool false)).setCell ⟨Dk, 3, none⟩ (.int .i64 0)).drew := hT0.alk ⟨rfl, rfl, rfl, rfl⟩
  have hT : Tn (fun i => i = Dk ∨ i = Dd) X (((X.setCell ⟨Dk, 4, none⟩ (.bool false)).setCell ⟨Dk, 3, none⟩ (.int .i64 0)).drew.putObj Dd (.deferred none)) :=
    hT1.grown (grownBy_putObj' _ Dd _) (fun g e => .inl (.inr (by injection e with e; exact e.symm)))
  have b2 : BlkIs (((X.setCell ⟨Dk, 4, none⟩ (.bool false)).setCell ⟨Dk, 3, none⟩ (.int .i64 0)).drew.putObj Dd (.deferred none)) Dk 55 #[.map (some M), .int .i64 rm, .int .i64 (sumOf F' ns : Nat), .int .i64 0, .bool false] := by
    have b3 : BlkIs ((X.setCell ⟨Dk, 4, none⟩ (.bool false)).setCell ⟨Dk, 3, none⟩ (.int .i64 0)).drew Dk 55 #[.map (some M), .int .i64 rm, .int .i64 (sumOf F' ns : Nat), .int .i64 0, .bool false] := by
      have : #[Value.map (some M), .int .i64 rm, .int .i64 (sumOf F' ns : Nat), .int .i64 0, .bool false] = ((#[Value.map (some M), .int .i64 rm, .int .i64 (sumOf F' ns : Nat), .int .i64 lf, .bool true].setIfInBounds 4 (.bool false)).setIfInBounds 3 (.int .i64 0)) := by simp
      rw [this]
      exact b1
    exact b3.grown (grownBy_putObj' _ Dd _) (fun e => by injection e with e; omega)
  generalize ((X.setCell ⟨Dk, 4, none⟩ (.bool false)).setCell ⟨Dk, 3, none⟩ (.int .i64 0)).drew.putObj Dd (.deferred none) = w' at *
  have hMD : M ≠ Dk := Held.not_blk e2 e1
  have hM' : MapIs w' M k' D' := Held.tn e2 hT (by rintro (h | h) <;> omega)
  have hF' : FilesIs w' N (Fn Ft W.heap.size) D' F' := files_keep e4 hT (fun _ h => h) (fun v l g ho hg hp => by
    rcases hp with hp | hp
    · exact Own5.not_blk ho e1 (by decide) (by rw [hg, hp])
    · obtain ⟨cs, hcs⟩ := own5_cells ho hg
      rw [hp, hKd] at hcs
      cases hcs)
  have hQ : Tn (fun i => Ft i ∨ W.heap.size ≤ i) W w' := ((Tn.of_below jB).trans (e10.mono (fun i _ h => by
    rcases h with h | h | h
    · exact .inl (by rw [h]; exact f1)
    · exact .inl (by rw [h]; exact f2)
    · exact .inr (by omega)))).trans (hT.mono (fun i _ h => by
    rcases h with h | h
    · exact .inl (by rw [h]; exact f1)
    · exact .inr (by omega)))
  have hall := Mid.all e6 hNs.2.1
  refine ⟨F', k', _, ⟨M, D', b2, hM', .inl f1, .inl f2, hF'.1, fun s bs z hs => ?_, hF'.2.2⟩, hQ.mono (fun i hi h => h.elim id (fun h => by omega)), hall, fun ns' hn' => ?_, by omega, e5, by omega⟩
  · obtain ⟨a, c, g1, g2, g3, g4⟩ := hF'.2.1 s bs z hs
    exact ⟨a, c, g1, g2, g3, fun g hg => by
      rcases g4 g hg with h | h
      · exact .inl h
      · exact .inr ⟨h, (Own5.blk_lt g2 hg).2⟩⟩
  · have : sumOf F' ns = sumOf F' ns' := sum_same F' ns ns' hNs.1 hn'.1 (fun s => by
      rw [hNs.2.1 s, hn'.2.1 s]
      rcases hall s with ⟨h1, h2⟩ | ⟨bs, z, n, h1, _, _, h2⟩
      · rw [h1, h2]
      · rw [h1, h2]; simp)
    rw [this]
end Go.Proofs.YtidadjlhnlmfkaaGreatDoor
