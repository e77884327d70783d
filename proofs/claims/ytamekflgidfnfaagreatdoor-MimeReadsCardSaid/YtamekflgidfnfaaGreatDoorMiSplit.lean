/- Bytes cut at each "--journal": which numbers' boundaries stand in them, and the numbers that a piece begins with. Conditions: none. -/
import Derived.Test.YtamekflgidfnfaaGreatDoorMiIdx
import Derived.Lib.SlSplitV
import Derived.Test.YtamekflgidfnfaaGreatDoorMbRaw
namespace Go.Proofs.YtamekflgidfnfaaGreatDoor
set_option maxRecDepth 100000
namespace Mi
open Go.Proofs.YtamekflgidfnfaaGreatDoor.Pa
/-- what stands ahead of a boundary's dash. -/
def nm : L := [45, 45, 106, 111, 117, 114, 110, 97, 108]
theorem nm_bnd (n : Nat) : dash ++ bndN n = nm ++ 45 :: Lib.decDigits n := rfl
theorem pre_append {a b c : L} (h : a.isPrefixOf b = true) : a.isPrefixOf (b ++ c) = true := by
  rw [List.isPrefixOf_iff_prefix] at h ⊢
  exact h.trans (List.prefix_append _ _)
theorem split_head (sep : L) : ∀ (k : Nat) (l : L), ∃ p ps, Go.Lib.splitK sep 0 k l = p :: ps ∧ p <+: l
  | 0, l => ⟨l, [], rfl, List.prefix_refl _⟩
  | k + 1, l => by
    unfold Go.Lib.splitK
    split
    · exact ⟨l, [], rfl, List.prefix_refl _⟩
    · exact ⟨_, _, rfl, List.take_prefix _ _⟩
theorem occ_split {b s : L} {i : Nat} (h : Go.Lib.occAt b s i = true) : b = b.take i ++ (s ++ b.drop (i + s.length)) := by
  unfold Go.Lib.occAt at h
  rw [List.isPrefixOf_iff_prefix] at h
  obtain ⟨y, hy⟩ := h
  have h1 : b.drop (i + s.length) = y := by
    rw [← List.drop_drop, ← hy, List.drop_left]
  rw [h1, hy, List.take_append_drop]
theorem splitK_hit (sep : L) (k : Nat) (s : L) (i : Nat) (h : Go.Lib.index s sep = i) : Go.Lib.splitK sep 0 (k + 1) s = s.take i :: Go.Lib.splitK sep 0 k (s.drop (i + sep.length)) := by
  have hi : ¬ ((i : Int) == -1) = true := fun e => by have := beq_iff_eq.1 e; omega
  rw [Go.Lib.splitK, h, if_neg hi, Int.toNat_natCast, Nat.add_zero]
theorem splitK_miss (sep : L) (k : Nat) (s : L) (h : Go.Lib.index s sep = -1) : Go.Lib.splitK sep 0 k s = [s] := by
  cases k with
  | zero => rfl
  | succ k => rw [Go.Lib.splitK, h, if_pos (by rfl)]
/-- what a piece behind the first begins with stands in the bytes, behind the separator. -/
theorem piece_in : ∀ (k : Nat) (b p q : L), p ∈ (Go.Lib.splitK nm 0 k b).tail → q <+: p → inB (nm ++ q) b = true
  | 0, b, p, q, h, _ => by simp [Go.Lib.splitK] at h
  | k + 1, b, p, q, h, hq => by
    unfold Go.Lib.splitK at h
    rcases Go.Lib.index_spec b nm with ⟨h1, _⟩ | ⟨i, h1, h2, h3, _⟩
    · rw [h1] at h
      simp at h
    · have hi : ((i : Int) == -1) = false := by rw [beq_eq_false_iff_ne]; omega
      rw [h1, hi] at h
      simp only [Bool.false_eq_true, if_false, Int.toNat_natCast, Nat.add_zero, List.tail_cons] at h
      have hb := occ_split h3
      obtain ⟨p0, ps, e, hp0⟩ := split_head nm k (b.drop (i + nm.length))
      rw [e] at h
      rcases List.mem_cons.1 h with rfl | h
      · obtain ⟨y, hy⟩ := hq.trans hp0
        rw [in_iff]
        exact ⟨b.take i, y, by rw [List.append_assoc, hy]; exact hb⟩
      · have := piece_in k (b.drop (i + nm.length)) p q (by rw [e]; exact h) hq
        rw [in_iff] at this ⊢
        obtain ⟨x, y, hxy⟩ := this
        refine ⟨b.take i ++ (nm ++ x), y, ?_⟩
        rw [List.append_assoc, List.append_assoc, ← hxy]
        exact hb
theorem nm_at {x y : L} {j : Nat} (h : Go.Lib.occAt (x ++ y) nm j = true) : ∀ k, k < 9 → (x ++ y)[j + k]? = nm[k]? := fun k hk => by
  have hb := occ_split h
  rw [hb]
  have hl : ((x ++ y).take j).length = j := by
    have : j ≤ (x ++ y).length := by
      rcases Nat.lt_or_ge (x ++ y).length j with h' | h'
      · unfold Go.Lib.occAt at h
        rw [List.drop_of_length_le (Nat.le_of_lt h')] at h
        exact absurd h (by decide)
      · exact h'
    simp only [List.length_take]
    omega
  rw [List.getElem?_append_right (by omega), hl, Nat.add_sub_cancel_left, List.getElem?_append_left (by exact hk)]
/-- no two of them lie one over the other. -/
theorem nm_apart {b : L} {i j : Nat} (hi : Go.Lib.occAt b nm i = true) (hj : Go.Lib.occAt b nm j = true) (h : i < j) : i + 9 ≤ j := by
  rcases Nat.lt_or_ge j (i + 9) with hlt | hge
  · exfalso
    have hb : b = [] ++ b := rfl
    have e1 := nm_at (x := []) (y := b) hi
    have e2 := nm_at (x := []) (y := b) hj
    obtain ⟨d, rfl⟩ : ∃ d, j = i + d := ⟨j - i, by omega⟩
    have h1 := e1 d (by omega)
    have h2 := e2 0 (by omega)
    rw [Nat.add_zero, h1] at h2
    have hd : d < 9 := by omega
    have hd0 : 0 < d := by omega
    have h3 : 1 < 9 := by omega
    rcases Nat.lt_or_ge (d + 1) 9 with h4 | h4
    · have h5 := e1 (d + 1) h4
      have h6 := e2 1 (by omega)
      rw [Nat.add_assoc, h5] at h6
      have : d = 1 ∨ d = 2 ∨ d = 3 ∨ d = 4 ∨ d = 5 ∨ d = 6 ∨ d = 7 := by omega
      rcases this with rfl | rfl | rfl | rfl | rfl | rfl | rfl <;> simp [nm] at h2 h6
    · obtain rfl : d = 8 := by omega
      simp [nm] at h2
  · exact hge
/-- behind the separator, a dash and bytes that are none: some piece behind the first begins so. -/
theorem piece_of (d : L) (hd : d ≠ []) (h45 : (45 : UInt8) ∉ d) : ∀ (f : Nat) (b : L), b.length + 1 ≤ f → inB (nm ++ 45 :: d) b = true → ∃ p ∈ (Go.Lib.splitK nm 0 (Go.Lib.countFrom nm f b) b).tail, (45 :: d) <+: p
  | 0, b, hf, _ => by omega
  | f + 1, b, hf, hin => by
    obtain ⟨x, z, hb⟩ := (in_iff _ _).1 hin
    have hox : Go.Lib.occAt b nm x.length = true := by
      unfold Go.Lib.occAt
      rw [hb, List.drop_left, List.append_assoc, List.isPrefixOf_iff_prefix]
      exact ⟨_, rfl⟩
    have hxl : x.length ≤ b.length := by rw [hb]; simp
    rcases Go.Lib.index_spec b nm with ⟨_, h2⟩ | ⟨i, h1, h2, h3, h4⟩
    · rw [h2 _ hxl] at hox
      cases hox
    · have hi : ((i : Int) == -1) = false := by rw [beq_eq_false_iff_ne]; omega
      have hcnt : Go.Lib.countFrom nm (f + 1) b = Go.Lib.countFrom nm f (b.drop (i + nm.length)) + 1 := by
        rw [Go.Lib.countFrom, h1, hi]
        simp only [Bool.false_eq_true, if_false, Int.toNat_natCast]
        omega
      rw [hcnt]
      unfold Go.Lib.splitK
      rw [h1, hi]
      simp only [Bool.false_eq_true, if_false, Int.toNat_natCast, Nat.add_zero, List.tail_cons]
      have hbi := occ_split h3
      have hnl : nm.length = 9 := rfl
      have hil : i + 9 ≤ b.length := by
        have := congrArg List.length hbi
        rw [List.length_append, List.length_append, List.length_take, hnl] at this
        omega
      have hle : i ≤ x.length := by
        rcases Nat.lt_or_ge x.length i with h' | h'
        · rw [h4 _ h'] at hox; cases hox
        · exact h'
      rcases Nat.eq_or_lt_of_le hle with he | hlt
      · -- this one
        have hrest : b.drop (i + nm.length) = (45 :: d) ++ z := by
          rw [he, ← List.drop_drop, hb, List.drop_left, List.append_assoc, List.drop_left]
        rw [hrest]
        generalize hk : Go.Lib.countFrom nm f ((45 :: d) ++ z) = k
        refine ⟨(Go.Lib.splitK nm 0 k ((45 :: d) ++ z)).head (by obtain ⟨p, ps, e, _⟩ := split_head nm k ((45 :: d) ++ z); rw [e]; simp), List.head_mem _, ?_⟩
        cases k with
        | zero => exact List.prefix_append _ _
        | succ k =>
          rcases Go.Lib.index_spec ((45 :: d) ++ z) nm with ⟨g1, _⟩ | ⟨j, g1, g2, g3, g4⟩
          · have : Go.Lib.splitK nm 0 (k + 1) ((45 :: d) ++ z) = [(45 :: d) ++ z] := by
              unfold Go.Lib.splitK
              rw [g1]
              rfl
            simp only [this, List.head_cons]
            exact List.prefix_append _ _
          · have : Go.Lib.splitK nm 0 (k + 1) ((45 :: d) ++ z) = ((45 :: d) ++ z).take j :: Go.Lib.splitK nm 0 k (((45 :: d) ++ z).drop (j + nm.length)) := splitK_hit _ _ _ _ g1
            simp only [this, List.head_cons]
            have hjd : (45 :: d).length ≤ j := by
              rcases Nat.lt_or_ge j (45 :: d).length with h' | h'
              · exfalso
                have e0 := nm_at g3 0 (by omega)
                have e1 := nm_at g3 1 (by omega)
                rw [Nat.add_zero, List.getElem?_append_left h'] at e0
                cases j with
                | zero =>
                  have hd0 : 0 < d.length := List.length_pos_iff.2 hd
                  rw [List.getElem?_append_left (by simp; omega)] at e1
                  have : d[0]? = some 45 := by simpa [nm] using e1
                  exact h45 (List.mem_of_getElem? this)
                | succ j =>
                  have : d[j]? = some 45 := by simpa [nm] using e0
                  exact h45 (List.mem_of_getElem? this)
              · exact h'
            rw [List.take_append, List.take_of_length_le hjd]
            exact List.prefix_append _ _
      · have h9 := nm_apart h3 hox hlt
        have hrest : inB (nm ++ 45 :: d) (b.drop (i + nm.length)) = true := by
          rw [in_iff]
          refine ⟨x.drop (i + nm.length), z, ?_⟩
          conv => lhs; rw [hb]
          rw [List.drop_append_of_le_length (by rw [hnl]; omega)]
        obtain ⟨p, hp, hpp⟩ := piece_of d hd h45 f (b.drop (i + nm.length)) (by rw [List.length_drop, hnl]; omega) hrest
        exact ⟨p, List.mem_of_mem_tail hp, hpp⟩
/-- k is one of the numbers that digits begin with, while those ahead are at most so great. -/
def GN (most : Nat) (d : L) (m k : Nat) : Prop := ∃ i, 0 < i ∧ i ≤ m ∧ i ≤ d.length ∧ k = Mb.valL (d.take i) ∧ ∀ j, j < i → Mb.digB (d.getD j 0) ∧ Mb.valL (d.take j) ≤ most ∧ (j = 0 ∨ Mb.valL (d.take j) ≠ 0)
theorem mem_take_get {d : L} {i : Nat} {c : UInt8} (h : c ∈ d.take i) : ∃ j, j < i ∧ c = d.getD j 0 := by
  obtain ⟨j, hj, e⟩ := List.mem_iff_getElem.1 h
  rw [List.length_take] at hj
  refine ⟨j, by omega, ?_⟩
  rw [← e, List.getElem_take]
  simp [List.getD, show j < d.length by omega]
theorem gn_sound {most : Nat} {d : L} {m k : Nat} (h : GN most d m k) : Lib.decDigits k <+: d := by
  obtain ⟨i, h0, _, hl, rfl, hj⟩ := h
  have hd : ∀ c ∈ d.take i, Mb.digB c := fun c hc => by
    obtain ⟨j, h1, rfl⟩ := mem_take_get hc
    exact (hj j h1).1
  have hne : d.take i ≠ [] := by
    intro e
    have := congrArg List.length e
    rw [List.length_take, List.length_nil] at this
    omega
  have hcan : (d.take i).head? ≠ some 48 ∨ d.take i = [48] := by
    rcases Decidable.em ((d.take i).head? = some 48) with he | he
    · right
      have hlt : 0 < d.length := by omega
      obtain ⟨c, t, rfl⟩ : ∃ c t, d = c :: t := by
        cases d with
        | nil => simp at hlt
        | cons c t => exact ⟨c, t, rfl⟩
      obtain ⟨i, rfl⟩ : ∃ i', i = i' + 1 := ⟨i - 1, by omega⟩
      rw [List.take_succ_cons] at he
      have hc : c = 48 := by simpa using he
      subst hc
      rcases Nat.eq_zero_or_pos i with hi | hi
      · subst hi; rfl
      · exfalso
        have := (hj 1 (by omega)).2.2
        simp [Mb.valL, Mb.valF] at this
    · exact .inl he
  rw [(Mb.dig_canon _ _ (Nat.le_refl _) hd hne hcan).1]
  exact List.take_prefix _ _
theorem gn_complete {most : Nat} {d : L} {k : Nat} (h : Lib.decDigits k <+: d) (hk : k ≤ most) : GN most d d.length k := by
  obtain ⟨z, rfl⟩ := h
  have hv := Mb.val_dec k
  have hdig := Mb.dec_dig k
  have hne := Mb.dec_ne k
  have hh := Mb.dec_head k
  generalize Lib.decDigits k = ds at *
  refine ⟨ds.length, List.length_pos_iff.2 hne, by simp, by simp, by rw [List.take_left]; exact hv.symm, fun j hj => ?_⟩
  have htk : (ds ++ z).take j = ds.take j := List.take_append_of_le_length (by omega)
  have hle : Mb.valL (ds.take j) ≤ k := by rw [← hv]; exact Mb.val_take ds j
  refine ⟨?_, by rw [htk]; omega, ?_⟩
  · have : (ds ++ z).getD j 0 = ds[j] := by
      rw [List.getD, List.getElem?_append_left hj, List.getElem?_eq_getElem hj]
      rfl
    rw [this]
    exact hdig _ (List.getElem_mem hj)
  · rcases Nat.eq_zero_or_pos j with h0 | h0
    · exact .inl h0
    · right
      rw [htk]
      have hh' : ds.head? ≠ some 48 := by
        rcases hh with h | h
        · exact h
        · exfalso
          rw [h] at hj
          simp at hj
          omega
      have hth : (ds.take j).head? ≠ some 48 := by
        cases ds with
        | nil => exact absurd rfl hne
        | cons c t =>
          obtain ⟨j, rfl⟩ : ∃ j', j = j' + 1 := ⟨j - 1, by omega⟩
          rw [List.take_succ_cons]
          simpa using hh'
      have := (Mb.dig_canon _ (ds.take j) (Nat.le_refl _) (fun c hc => hdig c (List.mem_of_mem_take hc)) (by
        intro e
        have := congrArg List.length e
        rw [List.length_take, List.length_nil] at this
        omega) (.inl hth)).2 hth
      omega
/-- the pieces behind the first. -/
def pcs (b : L) : List L := (Go.Lib.splitK nm 0 (Go.Lib.count b nm) b).tail
/-- k is told by a piece. -/
def PN (most : Nat) (p : L) (k : Nat) : Prop := ∃ d, p = 45 :: d ∧ GN most d d.length k
theorem found_sound {b : L} {most k : Nat} {p : L} (hp : p ∈ pcs b) (h : PN most p k) : inB (dash ++ bndN k) b = true := by
  obtain ⟨d, rfl, h⟩ := h
  obtain ⟨z, hz⟩ := gn_sound h
  rw [nm_bnd]
  exact piece_in _ b _ _ hp ⟨z, by rw [← hz]; rfl⟩
theorem dec_45 (k : Nat) : (45 : UInt8) ∉ Lib.decDigits k := fun h => by
  have := Mb.dec_dig k _ h
  unfold Mb.digB at this
  have : (45 : UInt8).toNat = 45 := rfl
  omega
theorem found_complete {b : L} {most k : Nat} (h : inB (dash ++ bndN k) b = true) (hk : k ≤ most) : ∃ p ∈ pcs b, PN most p k := by
  rw [nm_bnd] at h
  obtain ⟨p, hp, z, hz⟩ := piece_of _ (Mb.dec_ne k) (dec_45 k) _ b (Nat.le_refl _) h
  exact ⟨p, hp, Lib.decDigits k ++ z, hz.symm, gn_complete (List.prefix_append _ _) hk⟩
/-- where a boundary ends: each has a last byte of its own. -/
theorem ends_at {b x y x' y' ds ds' : L} (hd : ∀ c ∈ ds, Mb.digB c) (hd' : ∀ c ∈ ds', Mb.digB c) (h : b = (x ++ nm ++ [45]) ++ (ds ++ y)) (h' : b = (x' ++ nm ++ [45]) ++ (ds' ++ y')) (he : (x ++ nm ++ [45]).length + ds.length = (x' ++ nm ++ [45]).length + ds'.length) : ds = ds' := by
  have h1 : b.take ((x ++ nm ++ [45]).length + ds.length) = (x ++ nm ++ [45]) ++ ds := by
    rw [h, ← List.append_assoc (x ++ nm ++ [45])]
    exact List.take_left' List.length_append
  have h2 : b.take ((x ++ nm ++ [45]).length + ds.length) = (x' ++ nm ++ [45]) ++ ds' := by
    rw [he, h', ← List.append_assoc (x' ++ nm ++ [45])]
    exact List.take_left' List.length_append
  rw [h1] at h2
  have key : ∀ (u v : L) (a c : L), (∀ e ∈ a, Mb.digB e) → (∀ e ∈ c, Mb.digB e) → (u ++ [45]) ++ a = (v ++ [45]) ++ c → a.length ≤ c.length → a = c := by
    intro u v a c ha hc e hl
    rcases Nat.eq_or_lt_of_le hl with hl | hl
    · exact (List.append_inj_right' e hl)
    · exfalso
      have hlen := congrArg List.length e
      simp only [List.length_append, List.length_cons, List.length_nil] at hlen
      -- the byte ahead of a
      have e1 : ((u ++ [45]) ++ a)[u.length]? = some 45 := by
        rw [List.getElem?_append_left (by simp), List.getElem?_append_right (Nat.le_refl _)]
        simp
      rw [e, List.getElem?_append_right (by simp; omega)] at e1
      have := hc _ (List.mem_of_getElem? e1)
      unfold Mb.digB at this
      have h45 : (45 : UInt8).toNat = 45 := rfl
      omega
  rcases Nat.le_total ds.length ds'.length with hl | hl
  · exact key _ _ _ _ hd hd' h2 hl
  · exact (key _ _ _ _ hd' hd h2.symm hl).symm
theorem pigeonN (f : Nat → Nat) : ∀ (m n : Nat), (∀ i j, i < m → j < m → f i = f j → i = j) → (∀ i, i < m → f i < n) → m ≤ n := fun m n hi hm => by
  have h := pigeon (fun i => List.replicate (f i) (0 : UInt8)) m ((List.range n).map fun i => List.replicate i (0 : UInt8)) (fun i j h1 h2 e => hi i j h1 h2 (by
    have := congrArg List.length e
    simpa using this)) (fun i h1 => List.mem_map.2 ⟨f i, List.mem_range.2 (hm i h1), rfl⟩)
  simpa using h
theorem len3 (u v w : L) : (u ++ (v ++ w)).length = u.length + (v.length + w.length) := by simp
open Classical in
theorem bN_len (b : L) : bN b ≤ b.length := by
  have hx : ∀ k, k < bN b → ∃ x y : L, b = (x ++ nm ++ [45]) ++ (Lib.decDigits k ++ y) := fun k hk => by
    have := bN_in hk
    rw [nm_bnd, in_iff] at this
    obtain ⟨x, y, h⟩ := this
    exact ⟨x, y, by rw [h]; simp⟩
  let f : Nat → Nat := fun k => if h : k < bN b then ((hx k h).choose ++ nm ++ [45]).length + (Lib.decDigits k).length - 1 else 0
  refine pigeonN f (bN b) b.length (fun i j hi hj e => ?_) (fun i hi => ?_)
  · simp only [f, dif_pos hi, dif_pos hj] at e
    obtain ⟨y, h1⟩ := (hx i hi).choose_spec
    obtain ⟨y', h2⟩ := (hx j hj).choose_spec
    have p1 := List.length_pos_iff.2 (Mb.dec_ne i)
    have p2 := List.length_pos_iff.2 (Mb.dec_ne j)
    have := ends_at (Mb.dec_dig i) (Mb.dec_dig j) h1 h2 (by omega)
    have h3 := congrArg Mb.valL this
    rwa [Mb.val_dec, Mb.val_dec] at h3
  · simp only [f, dif_pos hi]
    obtain ⟨y, h1⟩ := (hx i hi).choose_spec
    have p1 := List.length_pos_iff.2 (Mb.dec_ne i)
    have := congrArg List.length h1
    rw [len3] at this
    omega
/-- the least number that no piece tells is the boundary's. -/
theorem bnd_of_found {b : L} {most n : Nat} {F : Nat → Prop} (hF : ∀ k, F k ↔ ∃ p ∈ pcs b, PN most p k) (hm : b.length ≤ most) (h1 : ∀ k, k < n → F k) (h2 : ¬ F n) : bN b = n := by
  refine bN_is (fun k hk => ?_) ?_
  · obtain ⟨p, hp, h⟩ := (hF k).1 (h1 k hk)
    exact found_sound hp h
  · cases hc : inB (dash ++ bndN n) b with
    | false => rfl
    | true =>
      exfalso
      rcases Nat.lt_or_ge most n with hlt | hge
      · -- then all up to the length are told, and one of them is not there
        have hb := bN_len b
        have : inB (dash ++ bndN (bN b)) b = true := by
          obtain ⟨p, hp, h⟩ := (hF (bN b)).1 (h1 _ (by omega))
          exact found_sound hp h
        rw [bN_out] at this
        cases this
      · exact h2 ((hF n).2 (found_complete hc hge))
/-- what is told is no more than the length, at the first that is not told. -/
theorem told_le {b : L} {most n : Nat} {F : Nat → Prop} (hF : ∀ k, F k ↔ ∃ p ∈ pcs b, PN most p k) (h1 : ∀ k, k < n → F k) : n ≤ b.length := by
  rcases Nat.lt_or_ge b.length n with h | h
  · exfalso
    have hb := bN_len b
    have : inB (dash ++ bndN (bN b)) b = true := by
      obtain ⟨p, hp, h⟩ := (hF (bN b)).1 (h1 _ (by omega))
      exact found_sound hp h
    rw [bN_out] at this
    cases this
  · exact h
end Mi
end Go.Proofs.YtamekflgidfnfaaGreatDoor
