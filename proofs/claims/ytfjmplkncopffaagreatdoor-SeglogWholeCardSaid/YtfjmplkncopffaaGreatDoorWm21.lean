/- SlRead SlAbs SlKeep DkRenL. Conditions: as stated at each. -/
import Derived.Test.YtfjmplkncopffaaGreatDoorWm20
import Derived.Test.YtfjmplkncopffaaGreatDoorWm06
import Derived.Test.YtfjmplkncopffaaGreatDoorWm17
import Derived.Test.YtfjmplkncopffaaGreatDoorWm11
import Derived.Test.YtfjmplkncopffaaGreatDoorWm12
/- A log's Sync, Segments and Records where no error comes. Conditions: as stated at each. -/
namespace Go.Proofs.YtfjmplkncopffaaGreatDoor
open Go.RowKit Go.Shelf Go Go.Maps
set_option maxRecDepth 20000 in
set_option maxHeartbeats 1600000 in
theorem sync_L (W : World) (N : Nat) (Ft : Nat → Prop) (Dk k : Nat) (F : Files) (rm x lf : Int) (L G : Nat) (nm : ByteArray) (sz : Int) (g : List (Nat × Nat)) (bs : List UInt8) (z : Nat)
    (h : LogS W N Ft Dk k F rm x lf false L G nm sz g false) (hlow : Low W Ft) (hl : g.length ≤ 999999) (hn : nmOk nm) (hf : F (fileN nm g.length) = some (bs, z)) (hbs : bs.length ≤ 100000000) (hk : k < maxLen) (hx : 0 ≤ x) (hx2 : x ≤ 100000000) (hlf : lf ≤ 9223372036854775807) (h1 : lf ≠ 1) :
    Calls Tryz.prog 11 #[.pointer (some ⟨L, 0, none⟩)] W fun e w' => e = .returned (.int .i64 0) ∧ LgPost W N Ft Dk (k + 1) (F.upd (fileN nm g.length) (some (bs, bs.length))) rm x (lfA lf) false L G nm sz g false w' := by
  have hmf : ∀ (fn : Fn) (first cap : Array Value) (w : World), (Instr.makeFunc fn first cap).run Tryz.prog w = .ok (.func fn first cap) w := fun _ _ _ _ => rfl
  have hen : ∀ args w, (callFunc 31 args).run Tryz.prog w = .ok (.enter 31 args) w := enters_of Tryz.func31 (by kernel_rfl) rfl
  have B5 : Below W.heap.size W (W.alloc (.cells #[.int .i64 0] 33)) := (Below.refl _ W).alloc (Nat.le_refl _) _
  have n5 := BlkIs.new W 33 #[.int .i64 0]
  have hs := lsync_ok _ N Ft Dk k F rm x lf L G nm sz g bs z (h.below B5) hl hn hf hbs hk hx hx2 hlf h1
  have hlL := h.ltL
  have hlG := h.ltG
  have hcall := Lib.hid (call_m 31 (.pointer (some ⟨L, 0, none⟩)) W L Dk nm sz G g.length (fun y w' => y = 0 ∧ LgPost (W.alloc (.cells #[.int .i64 0] 33)) N Ft Dk (k + 1) (F.upd (fileN nm g.length) (some (bs, bs.length))) rm x (lfA lf) false L G nm sz g false w') h.2.1 (hen _) (fun w' hq => absurd hq.1 (by decide)) (hs.mono (by
    rintro e w' ⟨rfl, hq⟩
    refine ⟨n5.tn hq.2 (fun e => ?_), .inl ⟨rfl, rfl, hq⟩⟩
    rcases e with e | e | e
    · have := hlow _ e
      omega
    · omega
    · omega)))
  clear hs
  go_enter Tryz.func11, Tryz.ntmps11
  go_wp2_with fail
  refine hcall.out.mono ?_
  rintro e w' ⟨y, rfl, ⟨_, rfl, hq⟩ | ⟨rfl, w1, ⟨hy, _⟩, _⟩⟩
  · have HQ := Lib.hid hq
    clear hq hcall
    go_wp2_with fail
    go_ret
    exact ⟨rfl, LgPost.of_below h B5 HQ.out⟩
  · exact absurd hy (by decide)
set_option maxRecDepth 20000 in
set_option maxHeartbeats 1600000 in
theorem segs1_any (W : World) (N : Nat) (Ft : Nat → Prop) (Dk k : Nat) (F : Files) (rm x lf : Int) (L G : Nat) (nm : ByteArray) (sz : Int) (g : List (Nat × Nat)) (B1 B3 : Nat)
    (h : LogS W N Ft Dk k F rm x lf false L G nm sz g false) (hl : g.length ≤ 999999) (h1 : BlkIs W B1 32 #[.pointer (some ⟨L, 0, none⟩)]) (h3 : BlkIs W B3 23 #[.slice none 0 0]) :
    Calls Tryz.prog 36 #[.pointer (some ⟨B1, 0, none⟩), .pointer (some ⟨B3, 0, none⟩)] W fun e w' => e = .returned (.tuple #[]) ∧ ∃ A c, BlkIs w' B3 23 #[.slice A g.length c] ∧ w'.ownsRow W.heap.size 3 1 (.slice A g.length c) g.length ((nums g.length).map (Value.int .i64)) ∧ Tn (fun i => i = B3) W w' := by
  have c1 := h1.cell 0
  go_enter Tryz.func36, Tryz.ntmps36
  go_wp2_with (go_at_call 37; refine (look_up _ L Dk nm sz G _ false h.2.1 h.1).mono ?_; rintro e w' ⟨rfl, rfl⟩)
  refine (numbers_L W L Dk nm sz G k _ false g h.2.1 h.2.2.1 (by omega)).mono ?_
  rintro e w1 ⟨V, sv, rfl, hV, hc, hI, hb1⟩
  have hco := Lib.hid (collect_I w1 V sv (nums g.length) (by rw [nums_length]; omega) hV hc hI)
  go_wp2_with fail
  refine hco.out.mono ?_
  rintro e w2 ⟨v, rfl, hrow, hb2⟩
  rw [nums_length] at hrow
  obtain ⟨A, c, rfl, _, _⟩ := own_slice hrow
  have hb := hb1.trans (hb2.mono hb1.size)
  have k3 : BlkIs w2 B3 23 _ := (hb.block B3 h3.lt).trans h3
  have c3 := k3.cell 0
  have f3 := k3.froz 0
  have z1 := hb1.size
  have HR := Lib.hid hrow
  clear hrow hco
  go_wp2_with fail
  go_end0
  have hT := (Tn.of_below (p := fun i => i = B3) hb).setCell (x := ⟨B3, 0, none⟩) (.inl rfl) (.slice A g.length c)
  have k4 := k3.put 0 (.slice A g.length c)
  refine ⟨rfl, A, c, by simpa using k4, own_more (World.ownsRow.kept HR.out (grownBy_setCell' w2 B3 _) (.inr (fun e => ?_))) z1, hT⟩
  rcases HR.out.2 with ⟨h, _⟩ | ⟨gb, cap, cur, h, hb', hh, _⟩
  · rw [h] at e
    simp [Value.ownBlock] at e
  · rw [h] at e
    have e : gb = B3 := by simpa [Value.ownBlock] using e
    subst e
    unfold BlkIs at k3
    rw [hh] at k3
    cases k3
set_option maxRecDepth 20000 in
set_option maxHeartbeats 1600000 in
theorem segments_L (W : World) (N : Nat) (Ft : Nat → Prop) (Dk k : Nat) (F : Files) (rm x lf : Int) (L G : Nat) (nm : ByteArray) (sz : Int) (g : List (Nat × Nat))
    (h : LogS W N Ft Dk k F rm x lf false L G nm sz g false) (hl : g.length ≤ 999999) :
    Calls Tryz.prog 14 #[.pointer (some ⟨L, 0, none⟩)] W fun e w' => ∃ A c, e = .returned (.slice A g.length c) ∧ w'.ownsRow W.heap.size 3 1 (.slice A g.length c) g.length ((nums g.length).map (Value.int .i64)) ∧ Below W.heap.size W w' := by
  have hmf : ∀ (fn : Fn) (first cap : Array Value) (w : World), (Instr.makeFunc fn first cap).run Tryz.prog w = .ok (.func fn first cap) w := fun _ _ _ _ => rfl
  have hen : ∀ args w, (callFunc 36 args).run Tryz.prog w = .ok (.enter 36 args) w := enters_of Tryz.func36 (by kernel_rfl) rfl
  obtain ⟨m0, m1, m2, _⟩ := three_new W 32 23 33 #[.pointer (some ⟨L, 0, none⟩)] #[.slice none 0 0] #[.int .i64 0] (fun _ => False)
  have mB := three_below W 32 23 33 #[.pointer (some ⟨L, 0, none⟩)] #[.slice none 0 0] #[.int .i64 0]
  have B2 : Below W.heap.size W ((W.alloc (.cells #[.pointer (some ⟨L, 0, none⟩)] 32)).alloc (.cells #[.slice none 0 0] 23)) := ((Below.refl _ W).alloc (Nat.le_refl _) _).alloc (by simp) _
  have zz : ((W.alloc (.cells #[.pointer (some ⟨L, 0, none⟩)] 32)).alloc (.cells #[.slice none 0 0] 23)).heap.size = W.heap.size + 1 + 1 := by simp
  have hs := segs1_any _ N Ft Dk k F rm x lf L G nm sz g _ _ (h.below mB) hl m0 m1
  have hL2 : LogB _ L Dk nm sz G g.length false := (B2.block L h.ltL).trans h.2.1
  have hcall := Lib.hid (call_c 36 _ _ L Dk nm sz G g.length (fun y w' => y = 0 ∧ ∃ A c, BlkIs w' (W.heap.size + 1) 23 #[.slice A g.length c] ∧ w'.ownsRow W.heap.size 3 1 (.slice A g.length c) g.length ((nums g.length).map (Value.int .i64)) ∧ Below W.heap.size W w') hL2 (hen _) (fun w' hq => absurd hq.1 (by decide)) (hs.mono (by
    rintro e w' ⟨rfl, A, c, q1, q2, q3⟩
    refine ⟨?_, .inl ⟨rfl, rfl, A, c, q1, own_more q2 mB.size, mB.trans (q3.below (by have := mB.size; omega) (fun i hi e => by omega))⟩⟩
    rw [zz]
    exact m2.tn q3 (by omega))))
  clear hs
  go_enter Tryz.func14, Tryz.ntmps14
  go_wp2_with fail
  refine hcall.out.mono ?_
  rintro e w' ⟨y, rfl, ⟨_, rfl, A, c, q1, q2, q3⟩ | ⟨rfl, w1, ⟨hy, _⟩, _⟩⟩
  · have c1 := q1.cell 0
    have Q2 := Lib.hid q2
    clear q2 hcall
    go_wp2_with fail
    go_ret
    exact ⟨A, c, rfl, Q2.out, q3⟩
  · exact absurd hy (by decide)
set_option maxRecDepth 20000 in
set_option maxHeartbeats 1600000 in
theorem recs1_any (W : World) (N : Nat) (Ft : Nat → Prop) (Dk k : Nat) (F : Files) (rm x lf : Int) (L G : Nat) (nm : ByteArray) (sz : Int) (g : List (Nat × Nat)) (B2 B3 B5 j c z : Nat) (bs : List UInt8) (sf : Nat)
    (h : LogS W N Ft Dk k F rm x lf false L G nm sz g false) (hl : g.length ≤ 999999) (hn : nmOk nm) (hj : g[j]? = some (c, z)) (hf : F (fileN nm (j + 1)) = some (bs, sf)) (hbs : bs.length ≤ 100000000)
    (h2 : BlkIs W B2 32 #[.pointer (some ⟨L, 0, none⟩)]) (h3 : BlkIs W B3 3 #[.int .i64 ((j : Int) + 1)]) (h5 : BlkIs W B5 22 #[.slice none 0 0]) :
    Calls Tryz.prog 40 #[.pointer (some ⟨B2, 0, none⟩), .pointer (some ⟨B3, 0, none⟩), .pointer (some ⟨B5, 0, none⟩)] W fun e w' => e = .returned (.tuple #[]) ∧ ∃ A c, BlkIs w' B5 22 #[.slice A (recs bs).length c] ∧ OwnR w' W.heap.size (.slice A (recs bs).length c) (recs bs) ∧ Tn (fun i => i = B5) W w' := by
  have c2 := h2.cell 0
  have c3 := h3.cell 0
  have hx0 : ∀ w (v u : Value), (Instr.extract (.tuple #[v, u]) 0).run Tryz.prog w = .ok v w := fun _ _ _ => by kernel_rfl
  have hx1 : ∀ w (v u : Value), (Instr.extract (.tuple #[v, u]) 1).run Tryz.prog w = .ok u w := fun _ _ _ => by kernel_rfl
  have hjl := (List.getElem?_eq_some_iff.1 hj).1
  go_enter Tryz.func40, Tryz.ntmps40
  go_wp2_with fail
  refine (find_there _ L Dk nm sz G k _ g j c z false h.2.1 h.2.2.1 (by omega) hj).mono ?_
  rintro e w1 ⟨rfl, hb1⟩
  have c2' := (hb1.cell (p := ⟨B2, 0, none⟩) h2.lt).trans c2
  have c3' := (hb1.cell (p := ⟨B3, 0, none⟩) h3.lt).trans c3
  have h1 := h.below hb1
  have hrd := Lib.hid (read_there w1 N Ft Dk k F rm x lf L G nm sz _ false (j + 1) bs sf h1.1 h1.2.1 (by omega) hn hf hbs)
  go_wp2_with fail
  refine hrd.out.mono ?_
  rintro e w2 ⟨v, rfl, ho, hb2⟩
  obtain ⟨A, cc, rfl, ho1, ho2⟩ := own_slice ho
  have hall := Lib.hid (all_any A cc bs w2 (Own5.bts ho) ho1 ho2 hbs)
  clear ho hrd
  go_wp2_with fail
  refine hall.out.mono ?_
  rintro e w3 ⟨v2, rfl, ho3, hb3⟩
  obtain ⟨A3, cc3, rfl, _, _⟩ := ho3.slice
  have hb : Below W.heap.size W w3 := (hb1.trans (hb2.mono hb1.size)).trans (hb3.mono (hb1.trans (hb2.mono hb1.size)).size)
  have k5 : BlkIs w3 B5 22 _ := (hb.block B5 h5.lt).trans h5
  have c5 := k5.cell 0
  have f5 := k5.froz 0
  have z2 : W.heap.size ≤ w2.heap.size := (hb1.trans (hb2.mono hb1.size)).size
  have HO := Lib.hid ho3
  clear ho3 hall
  go_wp2_with fail
  go_end0
  have hT := (Tn.of_below (p := fun i => i = B5) hb).setCell (x := ⟨B5, 0, none⟩) (.inl rfl) (.slice A3 (recs bs).length cc3)
  have k6 := k5.put 0 (.slice A3 (recs bs).length cc3)
  have bx : Boxed w3 B5 22 (.slice none 0 0) := k5
  exact ⟨rfl, A3, cc3, by simpa using k6, (OwnR.set HO.out bx (by decide) (by decide)).more z2, hT⟩
set_option maxRecDepth 20000 in
set_option maxHeartbeats 1600000 in
theorem records_L (W : World) (N : Nat) (Ft : Nat → Prop) (Dk k : Nat) (F : Files) (rm x lf : Int) (L G : Nat) (nm : ByteArray) (sz : Int) (g : List (Nat × Nat)) (j c z : Nat) (bs : List UInt8) (sf : Nat)
    (h : LogS W N Ft Dk k F rm x lf false L G nm sz g false) (hl : g.length ≤ 999999) (hn : nmOk nm) (hj : g[j]? = some (c, z)) (hf : F (fileN nm (j + 1)) = some (bs, sf)) (hbs : bs.length ≤ 100000000) :
    Calls Tryz.prog 15 #[.pointer (some ⟨L, 0, none⟩), .int .i64 ((j : Int) + 1)] W fun e w' => ∃ A c, e = .returned (.slice A (recs bs).length c) ∧ OwnR w' W.heap.size (.slice A (recs bs).length c) (recs bs) ∧ Below W.heap.size W w' := by
  have hmf : ∀ (fn : Fn) (first cap : Array Value) (w : World), (Instr.makeFunc fn first cap).run Tryz.prog w = .ok (.func fn first cap) w := fun _ _ _ _ => rfl
  have hen : ∀ args w, (callFunc 40 args).run Tryz.prog w = .ok (.enter 40 args) w := enters_of Tryz.func40 (by kernel_rfl) rfl
  obtain ⟨m0, m1, m2, m3, _⟩ := four_new W 32 3 22 33 #[.pointer (some ⟨L, 0, none⟩)] #[.int .i64 ((j : Int) + 1)] #[.slice none 0 0] #[.int .i64 0] (fun _ => False)
  have mB := four_below W 32 3 22 33 #[.pointer (some ⟨L, 0, none⟩)] #[.int .i64 ((j : Int) + 1)] #[.slice none 0 0] #[.int .i64 0]
  have B3 := three_below W 32 3 22 #[.pointer (some ⟨L, 0, none⟩)] #[.int .i64 ((j : Int) + 1)] #[.slice none 0 0]
  have zz : (((W.alloc (.cells #[.pointer (some ⟨L, 0, none⟩)] 32)).alloc (.cells #[.int .i64 ((j : Int) + 1)] 3)).alloc (.cells #[.slice none 0 0] 22)).heap.size = W.heap.size + 1 + 1 + 1 := by simp
  have hs := recs1_any _ N Ft Dk k F rm x lf L G nm sz g _ _ _ j c z bs sf (h.below mB) hl hn hj hf hbs m0 m1 m2
  have hL2 : LogB _ L Dk nm sz G g.length false := (B3.block L h.ltL).trans h.2.1
  have hcall := Lib.hid (call_c 40 _ _ L Dk nm sz G g.length (fun y w' => y = 0 ∧ ∃ A c, BlkIs w' (W.heap.size + 1 + 1) 22 #[.slice A (recs bs).length c] ∧ OwnR w' W.heap.size (.slice A (recs bs).length c) (recs bs) ∧ Below W.heap.size W w') hL2 (hen _) (fun w' hq => absurd hq.1 (by decide)) (hs.mono (by
    rintro e w' ⟨rfl, A, c, q1, q2, q3⟩
    refine ⟨?_, .inl ⟨rfl, rfl, A, c, q1, q2.more mB.size, mB.trans (q3.below (by have := mB.size; omega) (fun i hi e => by omega))⟩⟩
    rw [zz]
    exact m3.tn q3 (by omega))))
  clear hs
  go_enter Tryz.func15, Tryz.ntmps15
  go_wp2_with fail
  refine hcall.out.mono ?_
  rintro e w' ⟨y, rfl, ⟨_, rfl, A, c, q1, q2, q3⟩ | ⟨rfl, w1, ⟨hy, _⟩, _⟩⟩
  · have c1 := q1.cell 0
    have Q2 := Lib.hid q2
    clear q2 hcall
    go_wp2_with fail
    go_ret
    exact ⟨A, c, rfl, Q2.out, q3⟩
  · exact absurd hy (by decide)
end Go.Proofs.YtfjmplkncopffaaGreatDoor
/- A log as lists of records; Append over it. Conditions: as stated at each. -/
namespace Go.Proofs.YtfjmplkncopffaaGreatDoor
open Go.RowKit Go.Shelf Go Go.Maps
abbrev Segs := List (List (List UInt8))
def gS (S : Segs) : List (Nat × Nat) := S.map fun s => (s.length, took s)
theorem gS_length (S : Segs) : (gS S).length = S.length := by simp [gS]
theorem gS_snoc (S0 : Segs) (s : List (List UInt8)) : gS (S0 ++ [s]) = gS S0 ++ [(s.length, took s)] := by simp [gS]
theorem gS_get {S : Segs} {j : Nat} {s : List (List UInt8)} (h : S[j]? = some s) : (gS S)[j]? = some (s.length, took s) := by simp [gS, h]
/-- the segments' files. -/
def FileOK (nm : ByteArray) (F : Files) (S : Segs) : Prop :=
  (∀ (j : Nat) s, S[j]? = some s → ∃ sf, F (fileN nm (j + 1)) = some (wr s, sf)) ∧ ∀ k, S.length < k → k ≤ 999999 → F (fileN nm k) = none
theorem fileOK_last {nm : ByteArray} {F : Files} {S0 : Segs} {s t : List (List UInt8)} (h : FileOK nm F (S0 ++ [s])) (hl : S0.length < 999999) (bs : List UInt8) (sf : Nat) (hb : bs = wr t) : FileOK nm (F.upd (fileN nm (S0.length + 1)) (some (bs, sf))) (S0 ++ [t]) := by
  refine ⟨fun j u hj => ?_, fun k hk hk2 => ?_⟩
  · have hjl := (List.getElem?_eq_some_iff.1 hj).1
    simp at hjl
    unfold Files.upd
    by_cases e : j = S0.length
    · subst e
      simp at hj
      rw [if_pos rfl, hb, hj]
      exact ⟨_, rfl⟩
    · rw [if_neg (fun e2 => e (by have := fileN_inj (by omega) (by omega) e2; omega))]
      refine h.1 j u ?_
      rw [List.getElem?_append_left (by omega)] at hj ⊢
      exact hj
  · simp at hk
    unfold Files.upd
    rw [if_neg (fun e2 => by have := fileN_inj (by omega) (by omega) e2; omega)]
    exact h.2 k (by simp; omega) hk2
theorem fileOK_new {nm : ByteArray} {F : Files} {S : Segs} (h : FileOK nm F S) (hl : S.length < 999999) (t : List (List UInt8)) (bs : List UInt8) (sf : Nat) (hb : bs = wr t) : FileOK nm (F.upd (fileN nm (S.length + 1)) (some (bs, sf))) (S ++ [t]) := by
  refine ⟨fun j u hj => ?_, fun k hk hk2 => ?_⟩
  · have hjl := (List.getElem?_eq_some_iff.1 hj).1
    simp at hjl
    unfold Files.upd
    by_cases e : j = S.length
    · subst e
      simp at hj
      rw [if_pos rfl, hb, hj]
      exact ⟨_, rfl⟩
    · rw [if_neg (fun e2 => e (by have := fileN_inj (by omega) (by omega) e2; omega))]
      refine h.1 j u ?_
      rw [List.getElem?_append_left (by omega)] at hj
      exact hj
  · simp at hk
    unfold Files.upd
    rw [if_neg (fun e2 => by have := fileN_inj (by omega) (by omega) e2; omega)]
    exact h.2 k (by omega) hk2
theorem took_len : ∀ s : List (List UInt8), s.length ≤ took s
  | [] => Nat.le_refl _
  | a :: t => by
    have := took_len t
    rw [took_cons]
    simp
    omega
/-- a log on a disk whose power does not fail, its segments being S. -/
def AbsS (W : World) (N : Nat) (Ft : Nat → Prop) (Dk k : Nat) (rm x : Int) (L G : Nat) (nm : ByteArray) (sz : Int) (S : Segs) : Prop :=
  ∃ F, LogS W N Ft Dk k F rm x 0 false L G nm sz (gS S) false ∧ FileOK nm F S
/-- a record more: in the last segment, or in a new one. -/
def addL (sz : Int) (S0 : Segs) (s : List (List UInt8)) (r : List UInt8) : Segs := if (took s : Int) < sz then S0 ++ [s ++ [r]] else S0 ++ [s] ++ [[r]]
theorem lfA_0 : lfA 0 = 0 := rfl
set_option maxHeartbeats 800000 in
theorem append_A (W : World) (N : Nat) (Ft : Nat → Prop) (Dk k : Nat) (rm x : Int) (L G : Nat) (nm : ByteArray) (sz : Int) (S0 : Segs) (s : List (List UInt8)) (A : Option Addr) (cp : Nat) (r : List UInt8)
    (h : AbsS W N Ft Dk k rm x L G nm sz (S0 ++ [s])) (hlow : Low W Ft) (hl : S0.length + 2 < 999999) (hn : nmOk nm) (ht : took s ≤ 1000000) (hk : k + 5 < maxLen) (hx : 0 ≤ x) (hx2 : x ≤ 100000000) (hm : r.length ≤ 1000000) (hr : x + (8 + r.length : Nat) ≤ rm) (hr2 : rm ≤ 1000000000000)
    (hN : N ≤ W.heap.size) (hA : Bts W W.heap.size A r) (hcp : r.length ≤ cp) (hcm : cp ≤ maxLen) :
    Calls Tryz.prog 10 #[.pointer (some ⟨L, 0, none⟩), .slice A r.length cp] W fun e w' =>
      e = .returned (.tuple #[if (took s : Int) < sz then .agg #[.int .i64 ((S0.length : Int) + 1), .int .i64 s.length] else .agg #[.int .i64 ((S0.length : Int) + 1 + 1), .int .i64 0], .int .i64 0]) ∧
      AbsS w' N (NewFt Ft W w') Dk (k + 5) rm (x + (8 + r.length : Nat)) L G nm sz (addL sz S0 s r) ∧ Tn (OwnL Ft L G) W w' := by
  obtain ⟨F, hL, hF⟩ := h
  rw [gS_snoc] at hL
  obtain ⟨sf, hf⟩ := hF.1 S0.length s (by simp)
  have hsl := took_len s
  have hrl := rec1_length r
  have hwl : (wr s).length ≤ 1000000 := by rw [wr_length]; exact ht
  refine (append_L W N Ft Dk k F rm x 0 L G nm sz (gS S0) s.length (took s) (wr s) sf A cp r hL hlow (by rw [gS_length]; omega) hn (by rw [gS_length]; exact hf) (by omega) hk hx hx2 hm (by rw [hrl]; exact hr) hr2 (by omega) hN hA hcp hcm (by omega) (by omega) ⟨by omega, fun _ => ⟨by omega, by omega, by rw [gS_length]; exact hF.2 _ (by simp) (by omega)⟩⟩).mono ?_
  rintro e w' ⟨kt, Fl, lft, gt, ct, zt, bst, sft, hR, rfl, hp⟩
  rw [hrl] at hp
  unfold addL
  rcases hR with ⟨hz, rfl, rfl, rfl, rfl, rfl, rfl, rfl, rfl⟩ | ⟨hz, rfl, rfl, rfl, rfl, rfl, rfl, rfl, rfl⟩
  · rw [if_pos hz, if_pos hz]
    rw [gS_length] at hp
    refine ⟨by rw [gS_length], ⟨_, ?_, fileOK_last hF (by omega) (wr s ++ rec1 r) sft ?_⟩, hp.2⟩
    · rw [gS_snoc]
      have e1 : (s ++ [r]).length = s.length + 1 := by simp
      have e2 : took (s ++ [r]) = took s + (8 + r.length) := by rw [took_append]; simp [took]
      rw [e1, e2]
      exact hp.1.more (fun _ h => h) (by omega) hp.1.2.2.2.1 hp.1.2.2.2.2
    · rw [wr_append, wr_one]
  · rw [if_neg (by omega), if_neg (by omega)]
    have eg : (gS S0 ++ [(s.length, took s)]).length = S0.length + 1 := by simp [gS_length]
    rw [eg, gS_length] at hp
    refine ⟨by rw [eg]; rfl, ⟨((F.upd (fileN nm (S0.length + 1)) (some (wr s, (wr s).length))).upd (fileN nm (S0.length + 2)) (some ([], 0))).upd (fileN nm (S0.length + 1 + 1)) (some ([] ++ rec1 r, 0)), ?_, ?_⟩, hp.2⟩
    · rw [gS_snoc, gS_snoc]
      have e2 : took [r] = 0 + (8 + r.length) := by simp [took]
      rw [show ([r] : List (List UInt8)).length = 0 + 1 from rfl, e2]
      exact hp.1.more (fun _ h => h) (by omega) hp.1.2.2.2.1 hp.1.2.2.2.2
    · have f1 := fileOK_last hF (by omega) (wr s) (wr s).length rfl (t := s)
      have f2 := fileOK_new f1 (by simp; omega) [] [] 0 rfl
      have e3 : (S0 ++ [s]).length = S0.length + 1 := by simp
      rw [e3] at f2
      have f3 := fileOK_last f2 (by simp; omega) ([] ++ rec1 r) 0 (t := [r]) (by simp [wr])
      rw [e3] at f3
      exact f3
end Go.Proofs.YtfjmplkncopffaaGreatDoor
/- Append over lists of records, whenever the power fails. Conditions: as stated at each. -/
namespace Go.Proofs.YtfjmplkncopffaaGreatDoor
open Go.RowKit Go.Shelf Go Go.Maps
/-- the disk has the segments' files alone: all but the last one safe, of the last one m records. -/
def FileK (nm : ByteArray) (F : Files) (S0 : Segs) (s : List (List UInt8)) (m : Nat) : Prop :=
  (∀ (j : Nat) u, S0[j]? = some u → F (fileN nm (j + 1)) = some (wr u, (wr u).length)) ∧ F (fileN nm (S0.length + 1)) = some (wr s, (wr (s.take m)).length) ∧ m ≤ s.length ∧ ∀ t, F t ≠ none → ∃ j, 1 ≤ j ∧ j ≤ S0.length + 1 ∧ t = fileN nm j
theorem FileK.none {nm : ByteArray} {F : Files} {S0 : Segs} {s : List (List UInt8)} {m : Nat} (h : FileK nm F S0 s m) {k : Nat} (hk : S0.length + 1 < k) (hk2 : k ≤ 999999) : F (fileN nm k) = none := by
  cases hF : F (fileN nm k) with
  | none => rfl
  | some y =>
    obtain ⟨j, h1, h2, h3⟩ := h.2.2.2 (fileN nm k) (by rw [hF]; simp)
    have := fileN_inj hk2 (by omega) h3
    omega
theorem FileK.last {nm : ByteArray} {F : Files} {S0 : Segs} {s s' : List (List UInt8)} {m m' : Nat} (h : FileK nm F S0 s m) (hl : S0.length < 999998) (bs : List UInt8) (sf : Nat) (hb : bs = wr s') (hs : sf = (wr (s'.take m')).length) (hm : m' ≤ s'.length) :
    FileK nm (F.upd (fileN nm (S0.length + 1)) (some (bs, sf))) S0 s' m' := by
  refine ⟨fun j u hj => ?_, ?_, hm, fun t ht => ?_⟩
  · have := (List.getElem?_eq_some_iff.1 hj).1
    unfold Files.upd
    rw [if_neg (fun e => by have := fileN_inj (by omega) (by omega) e; omega)]
    exact h.1 j u hj
  · unfold Files.upd
    rw [if_pos rfl, hb, hs]
  · unfold Files.upd at ht
    by_cases e : t = fileN nm (S0.length + 1)
    · exact ⟨S0.length + 1, by omega, Nat.le_refl _, e⟩
    · rw [if_neg e] at ht
      exact h.2.2.2 t ht
theorem FileK.new {nm : ByteArray} {F : Files} {S0 : Segs} {s : List (List UInt8)} (h : FileK nm F S0 s s.length) (hl : S0.length < 999997) : FileK nm (F.upd (fileN nm (S0.length + 2)) (some ([], 0))) (S0 ++ [s]) [] 0 := by
  refine ⟨fun j u hj => ?_, ?_, Nat.le_refl _, fun t ht => ?_⟩
  · have hjl := (List.getElem?_eq_some_iff.1 hj).1
    simp at hjl
    unfold Files.upd
    rw [if_neg (fun e => by have := fileN_inj (by omega) (by omega) e; omega)]
    by_cases e : j = S0.length
    · subst e
      simp at hj
      subst hj
      rw [h.2.1, List.take_length]
    · rw [List.getElem?_append_left (by omega)] at hj
      exact h.1 j u hj
  · have e : (S0 ++ [s]).length + 1 = S0.length + 2 := by simp
    rw [e]
    unfold Files.upd
    rw [if_pos rfl]
    rfl
  · have e : (S0 ++ [s]).length + 1 = S0.length + 2 := by simp
    rw [e]
    unfold Files.upd at ht
    by_cases e2 : t = fileN nm (S0.length + 2)
    · exact ⟨S0.length + 2, by omega, Nat.le_refl _, e2⟩
    · rw [if_neg e2] at ht
      obtain ⟨j, h1, h2, h3⟩ := h.2.2.2 t ht
      exact ⟨j, h1, by omega, h3⟩
theorem LgPost.k {W w' : World} {N Dk k k2 L G : Nat} {Ft : Nat → Prop} {F : Files} {rm x lf : Int} {b : Bool} {nm : ByteArray} {sz : Int} {g : List (Nat × Nat)} {dead : Bool} (h : LgPost W N Ft Dk k F rm x lf b L G nm sz g dead w') (hk : k ≤ k2) : LgPost W N Ft Dk k2 F rm x lf b L G nm sz g dead w' :=
  ⟨h.1.more (fun _ h => h) hk h.1.2.2.2.1 h.1.2.2.2.2, h.2⟩
/-- the log is alive, the power on. -/
def AliveK (W : World) (N : Nat) (Ft : Nat → Prop) (Dk k : Nat) (rm x lf : Int) (L G : Nat) (nm : ByteArray) (sz : Int) (S0 : Segs) (s : List (List UInt8)) (m : Nat) : Prop :=
  ∃ F, LogS W N Ft Dk k F rm x lf false L G nm sz (gS (S0 ++ [s])) false ∧ FileK nm F S0 s m
/-- the log is dead, the power off. -/
def DeadK (W : World) (N : Nat) (Ft : Nat → Prop) (Dk k : Nat) (rm x : Int) (L G : Nat) (nm : ByteArray) (sz : Int) (S0 : Segs) (s : List (List UInt8)) (m : Nat) : Prop :=
  ∃ F g lf, LogS W N Ft Dk k F rm x lf true L G nm sz g true ∧ FileK nm F S0 s m
/-- behind an Append: a record more or not, alive or dead, never less that is safe. -/
def AppK (W : World) (N : Nat) (Ft : Nat → Prop) (Dk k : Nat) (rm x : Int) (L G : Nat) (nm : ByteArray) (sz : Int) (S0 : Segs) (s : List (List UInt8)) (m : Nat) (r : List UInt8) (w' : World) : Prop :=
  ∃ S1 s1 m1 x1, ((S1 ++ [s1]).flatten = (S0 ++ [s]).flatten ++ [r] ∧ x1 = x + (rec1 r).length ∨ (S1 ++ [s1]).flatten = (S0 ++ [s]).flatten ∧ x1 = x) ∧ S0.flatten.length + m ≤ S1.flatten.length + m1 ∧ S1.length ≤ S0.length + 1 ∧ Tn (OwnL Ft L G) W w' ∧
    ((∃ lf', lf' ≤ 9223372036854775807 ∧ (S1 ++ [s1]).flatten = (S0 ++ [s]).flatten ++ [r] ∧ AliveK w' N (NewFt Ft W w') Dk (k + 5) rm x1 lf' L G nm sz S1 s1 m1) ∨ DeadK w' N (NewFt Ft W w') Dk (k + 5) rm x1 L G nm sz S1 s1 m1)
theorem lfA_le {lf : Int} (h : lf ≤ 9223372036854775807) : lfA lf ≤ 9223372036854775807 := by unfold lfA; split <;> omega
theorem flat_more (S0 : Segs) (s : List (List UInt8)) (r : List UInt8) : (S0 ++ [s ++ [r]]).flatten = (S0 ++ [s]).flatten ++ [r] := by simp
theorem flat_new (S0 : Segs) (s : List (List UInt8)) (r : List UInt8) : (S0 ++ [s] ++ [[r]]).flatten = (S0 ++ [s]).flatten ++ [r] := by simp
set_option maxHeartbeats 1600000 in
theorem append_K (W : World) (N : Nat) (Ft : Nat → Prop) (Dk k : Nat) (rm x lf : Int) (L G : Nat) (nm : ByteArray) (sz : Int) (S0 : Segs) (s : List (List UInt8)) (m : Nat) (A : Option Addr) (cp : Nat) (r : List UInt8)
    (h : AliveK W N Ft Dk k rm x lf L G nm sz S0 s m) (hlow : Low W Ft) (hl : S0.length + 3 < 999999) (hn : nmOk nm) (ht : took s ≤ 1000000) (hk : k + 5 < maxLen) (hx : 0 ≤ x) (hx2 : x ≤ 100000000) (hm : r.length ≤ 1000000) (hr : x + (rec1 r).length ≤ rm) (hr2 : rm ≤ 1000000000000)
    (hlf : lf ≤ 9223372036854775807) (hN : N ≤ W.heap.size) (hA : Bts W W.heap.size A r) (hcp : r.length ≤ cp) (hcm : cp ≤ maxLen) :
    Calls Tryz.prog 10 #[.pointer (some ⟨L, 0, none⟩), .slice A r.length cp] W fun e w' => (∃ v, e = .returned v) ∧ AppK W N Ft Dk k rm x L G nm sz S0 s m r w' := by
  obtain ⟨F, hL, hF⟩ := h
  rw [gS_snoc] at hL
  have hf := hF.2.1
  have hsl := took_len s
  have hwl : (wr s).length ≤ 1000000 := by rw [wr_length]; exact ht
  have hg : (gS S0).length = S0.length := gS_length S0
  have hml := hF.2.2.1
  have hnone : F (fileN nm (S0.length + 2)) = none := hF.none (by omega) (by omega)
  have htk : ((s ++ [r]).take m) = s.take m := List.take_append_of_le_length hml
  have F1 : FileK nm (F.upd (fileN nm (S0.length + 1)) (some (wr s ++ rec1 r, (wr (s.take m)).length))) S0 (s ++ [r]) m := hF.last (by omega) _ _ (by rw [wr_append, wr_one]) (by rw [htk]) (by simp; omega)
  have F2 : FileK nm (F.upd (fileN nm (S0.length + 1)) (some (wr s, (wr s).length))) S0 s s.length := hF.last (by omega) _ _ rfl (by rw [List.take_length]) (Nat.le_refl _)
  have F3 := F2.new (by omega)
  have F4 : FileK nm (((F.upd (fileN nm (S0.length + 1)) (some (wr s, (wr s).length))).upd (fileN nm (S0.length + 2)) (some ([], 0))).upd (fileN nm (S0.length + 2)) (some ([] ++ rec1 r, 0))) (S0 ++ [s]) [r] 0 := by
    have e : (S0 ++ [s]).length + 1 = S0.length + 2 := by simp
    have := F3.last (s' := [r]) (m' := 0) (by simp; omega) ([] ++ rec1 r) 0 (by simp [wr]) (by simp [wr]) (by simp)
    rw [e] at this
    exact this
  have hfl : (S0 ++ [s]).flatten.length = S0.flatten.length + s.length := by simp
  have hfl2 : (S0 ++ [s]).flatten = S0.flatten ++ s := by simp
  have hc6 : s.length ≤ 1000000 := by omega
  have bts : ∀ W5, Below W.heap.size W W5 → Bts W5 W5.heap.size A r := fun W5 hb => (hA.below hb).more hb.size
  by_cases hz : (took s : Int) < sz
  · by_cases h1 : lf = 1
    · subst h1
      refine (append_dies W N Ft Dk k (k + 1) F _ rm x _ 1 L G nm sz _ _ false A cp r hL hlow (fun W5 B2 B3 B6 hb b2 b3 o2 => app_die W5 N Ft Dk k F rm x L G nm sz (gS S0) s.length (took s) (wr s) _ B2 B3 B6 A cp r (hL.below hb) (by omega) hm (bts W5 hb) hcp hcm b2 b3 hz hn (by rw [hg]; exact hf) (by omega) hk hx hx2 hr (by have := hb.size; omega) o2)).mono ?_
      rintro e w' ⟨rfl, hp⟩
      have hp := hp.k (k2 := k + 5) (by omega)
      rw [hg] at hp
      exact ⟨⟨_, rfl⟩, S0, s ++ [r], m, _, .inl ⟨flat_more S0 s r, rfl⟩, Nat.le_refl _, by omega, hp.2, .inr ⟨_, _, _, hp.1, F1⟩⟩
    · refine (append_L W N Ft Dk k F rm x lf L G nm sz (gS S0) s.length (took s) (wr s) _ A cp r hL hlow (by omega) hn (by rw [hg]; exact hf) (by omega) hk hx hx2 hm hr hr2 hlf hN hA hcp hcm hc6 (by omega) ⟨h1, fun h => by omega⟩).mono ?_
      rintro e w' ⟨kt, Fl, lft, gt, ct, zt, bst, sft, hR, rfl, hp⟩
      rcases hR with ⟨_, rfl, rfl, rfl, rfl, rfl, rfl, rfl, rfl⟩ | ⟨hz', _⟩
      · have hp := hp.k (k2 := kt + 5) (by omega)
        rw [hg] at hp
        have e1 : (s ++ [r]).length = s.length + 1 := by simp
        have e2 : took (s ++ [r]) = took s + (rec1 r).length := by rw [took_append, rec1_length]; simp [took]
        refine ⟨⟨_, rfl⟩, S0, s ++ [r], m, _, .inl ⟨flat_more S0 s r, rfl⟩, Nat.le_refl _, by omega, hp.2, .inl ⟨_, lfA_le hlf, flat_more S0 s r, _, ?_, F1⟩⟩
        rw [gS_snoc, e1, e2]
        exact hp.1
      · omega
  · have hz' : sz ≤ (took s : Int) := by omega
    have hgl : (gS S0 ++ [(s.length, took s)]).length = S0.length + 1 := by simp [hg]
    by_cases h1 : lf = 1
    · subst h1
      refine (append_dies W N Ft Dk k (k + 3) F F rm x x 1 L G nm sz _ _ true A cp r hL hlow (fun W5 B2 B3 B6 hb b2 b3 o2 => app_roll_die W5 N Ft Dk k F F rm x 1 L G nm sz (gS S0) s.length (took s) true B2 B3 B6 A cp r (hL.below hb) (by omega) hm (bts W5 hb) hcp hcm b2 b3 hz' (fun w2 hw2 => (roll_die1 w2 N Ft Dk k F rm x L G nm sz _ (wr s) _ (rec1 r).length hw2 (by rw [hgl]; omega) hn (by rw [hgl]; exact hf) (by omega) (by omega) hx hx2 hr hr2).mono (fun e w' hq => ⟨hq.1, hq.2.k (by omega)⟩)))).mono ?_
      rintro e w' ⟨rfl, hp⟩
      have hp := hp.k (k2 := k + 5) (by omega)
      exact ⟨⟨_, rfl⟩, S0, s, m, _, .inr ⟨rfl, rfl⟩, Nat.le_refl _, by omega, hp.2, .inr ⟨_, _, _, hp.1, hF⟩⟩
    · by_cases h2 : lf = 2
      · subst h2
        refine (append_dies W N Ft Dk k (k + 3) F _ rm x x 2 L G nm sz _ _ false A cp r hL hlow (fun W5 B2 B3 B6 hb b2 b3 o2 => app_roll_die W5 N Ft Dk k F _ rm x 2 L G nm sz (gS S0) s.length (took s) false B2 B3 B6 A cp r (hL.below hb) (by omega) hm (bts W5 hb) hcp hcm b2 b3 hz' (fun w2 hw2 => (roll_die2 w2 N Ft Dk k F rm x L G nm sz _ (wr s) _ (rec1 r).length hw2 (by rw [hgl]; omega) hn (by rw [hgl]; exact hf) (by omega) (by rw [hgl]; exact hnone) (by omega) hx hx2 hr hr2).mono (fun e w' hq => ⟨hq.1, hq.2.k (by omega)⟩)))).mono ?_
        rintro e w' ⟨rfl, hp⟩
        have hp := hp.k (k2 := k + 5) (by omega)
        rw [hgl] at hp
        exact ⟨⟨_, rfl⟩, S0, s, s.length, _, .inr ⟨rfl, rfl⟩, by omega, by omega, hp.2, .inr ⟨_, _, _, hp.1, F2⟩⟩
      · by_cases h3 : lf = 3
        · subst h3
          refine (append_dies W N Ft Dk k (k + 4) F _ rm x _ 3 L G nm sz _ _ false A cp r hL hlow (fun W5 B2 B3 B6 hb b2 b3 o2 => app_die3 W5 N Ft Dk k F rm x L G nm sz (gS S0) s.length (took s) (wr s) _ B2 B3 B6 A cp r (hL.below hb) (by omega) hm (bts W5 hb) hcp hcm b2 b3 hz' (hlow.up hb.size) hr2 (by rw [hg]; exact hnone) hn (by rw [hg]; exact hf) (by omega) hk hx hx2 hr (by have := hb.size; omega) o2)).mono ?_
          rintro e w' ⟨rfl, hp⟩
          have hp := hp.k (k2 := k + 5) (by omega)
          rw [hg] at hp
          exact ⟨⟨_, rfl⟩, S0 ++ [s], [r], 0, _, .inl ⟨flat_new S0 s r, rfl⟩, by omega, by simp, hp.2, .inr ⟨_, _, _, hp.1, F4⟩⟩
        · refine (append_L W N Ft Dk k F rm x lf L G nm sz (gS S0) s.length (took s) (wr s) _ A cp r hL hlow (by omega) hn (by rw [hg]; exact hf) (by omega) hk hx hx2 hm hr hr2 hlf hN hA hcp hcm hc6 (by omega) ⟨h1, fun _ => ⟨h2, h3, by rw [hg]; exact hnone⟩⟩).mono ?_
          rintro e w' ⟨kt, Fl, lft, gt, ct, zt, bst, sft, hR, rfl, hp⟩
          rcases hR with ⟨hz2, _⟩ | ⟨_, rfl, rfl, rfl, rfl, rfl, rfl, rfl, rfl⟩
          · omega
          · have hp := hp.k (k2 := k + 5) (by omega)
            rw [hgl, hg] at hp
            refine ⟨⟨_, rfl⟩, S0 ++ [s], [r], 0, _, .inl ⟨flat_new S0 s r, rfl⟩, by omega, by simp, hp.2, .inl ⟨_, lfA_le (lfA_le (lfA_le hlf)), flat_new S0 s r, _, ?_, F4⟩⟩
            rw [gS_snoc, gS_snoc]
            have e2 : took [r] = 0 + (rec1 r).length := by rw [rec1_length]; simp [took]
            rw [show ([r] : List (List UInt8)).length = 0 + 1 from rfl, e2]
            exact hp.1
end Go.Proofs.YtfjmplkncopffaaGreatDoor
/- (*disk.Disk).Rename where the file is there, whenever the power fails. Conditions: as stated at each. -/
namespace Go.Proofs.YtfjmplkncopffaaGreatDoor
open Go.RowKit Go.Shelf Go
/-- behind Rename. -/
def Renamed (W : World) (N : Nat) (Ft : Nat → Prop) (Dk k : Nat) (F : Files) (s s2 : ByteArray) (bs : List UInt8) (z : Nat) (rm x lf : Int) (w' : World) : Prop :=
  DiskS w' N (NewFt Ft W w') Dk (k + 1) (if lf = 1 then F else (F.upd s none).upd s2 (some (bs, z))) rm (if lf = 1 then x else x - lenOf F s2) (lfA lf) (decide (lf = 1)) ∧ Tn Ft W w'
set_option maxRecDepth 20000 in
set_option maxHeartbeats 1600000 in
theorem rename_L (W : World) (N : Nat) (Ft : Nat → Prop) (Dk k : Nat) (F : Files) (s s2 : ByteArray) (rm x lf : Int) (bs : List UInt8) (z : Nat)
    (hS : DiskS W N Ft Dk k F rm x lf false) (hb : nameB s = true) (hb2 : nameB s2 = true) (hne2 : s2 ≠ s) (hf : F s = some (bs, z)) (hk : k < maxLen) (hx : (bs.length : Int) ≤ x) (hx2 : x ≤ 100000000) (hn2 : lenOf F s2 ≤ 100000000) (hlf : lf ≤ 9223372036854775807) :
    Calls Tryz.prog 71 #[.pointer (some ⟨Dk, 0, none⟩), .string s, .string s2] W fun e w' => e = .returned (.int .i64 (erA lf)) ∧ Renamed W N Ft Dk k F s s2 bs z rm x lf w' := by
  obtain ⟨M, D, hD, hM, f1, f2, hF⟩ := hS
  have hs := nameB_size hb
  have hs2 := nameB_size hb2
  obtain ⟨a, c, ho, _, _, _⟩ := hF.2.1 s bs z hf
  obtain ⟨a2, c2, o1, _⟩ := hF.old s2
  have ho2 : OldIs (D.del (kOf s)) s2 (lenOf F s2) := by
    have h0 := o1.is
    rcases h0 with ⟨h1, h2⟩ | ⟨a', c', z', h1⟩
    · exact .inl ⟨by rw [at_del, if_neg hne2]; exact h1, h2⟩
    · exact .inr ⟨a', c', z', by rw [at_del, if_neg hne2]; exact h1⟩
  have hx0 : ∀ w (v u : Value), (Instr.extract (.tuple #[v, u]) 0).run Tryz.prog w = .ok v w := fun _ _ _ => by kernel_rfl
  have hx1 : ∀ w (v u : Value), (Instr.extract (.tuple #[v, u]) 1).run Tryz.prog w = .ok u w := fun _ _ _ => by kernel_rfl
  have hen : ∀ args w, (callFunc 91 args).run Tryz.prog w = .ok (.enter 91 args) w := enters_of Tryz.func91 (by kernel_rfl) rfl
  have hen2 : ∀ args w, (callFunc 78 args).run Tryz.prog w = .ok (.enter 78 args) w := enters_of Tryz.func78 (by kernel_rfl) rfl
  obtain ⟨k0, k1, k2, k3, _⟩ := four_new W 30 9 9 9 #[.pointer (some ⟨Dk, 0, none⟩)] #[.string s] #[.string s2] #[.string s, .string s2] (fun i => i = Dk ∨ i = M)
  have kB := four_below W 30 9 9 9 #[.pointer (some ⟨Dk, 0, none⟩)] #[.string s] #[.string s2] #[.string s, .string s2]
  have HFi := Lib.hid hF
  have HO := Lib.hid hf
  have HLE := Lib.hid (And.intro hx hn2)
  generalize hbl : bs.length = n at *
  have HBL := Lib.hid hbl
  have HO2 := Lib.hid ho2
  clear hF hf o1 ho2 hbl
  go_enter Tryz.func71, Tryz.ntmps71
  go_wp2_with fail
  generalize ((((W.alloc (Obj.cells #[Value.pointer (some ⟨Dk, 0, none⟩)] 30)).alloc (Obj.cells #[Value.string s] 9)).alloc (Obj.cells #[Value.string s2] 9)).alloc (Obj.cells #[Value.string s, Value.string s2] 9)) = W3 at *
  have kD : BlkIs W3 Dk 55 _ := (kB.block Dk hD.lt).trans hD
  have kM : MapIs W3 M k D := Held.same hM (kB.block M (Held.lt hM))
  refine (find_some W3 Dk M k 2 D _ s [s2] _ _ _ a n c z kD kM (Strs.two k3 hs hs2) (fun ad e => by cases e; exact k3.lt) (by unfold maxLen; simp) (by simp [hb, hb2]) ho).mono ?_
  rintro e W4 ⟨rfl, hb4⟩
  have jB := kB.trans (hb4.mono kB.size)
  have k'D : BlkIs W4 Dk 55 _ := (hb4.block Dk kD.lt).trans kD
  have jD := k'D.alloc (.cells #[.slice a n c, .int .i64 z] 71)
  have k'0 : BlkIs W4 _ 30 _ := (hb4.block _ k0.lt).trans k0
  have j0 := k'0.alloc (.cells #[.slice a n c, .int .i64 z] 71)
  have k'1 : BlkIs W4 _ 9 _ := (hb4.block _ k1.lt).trans k1
  have j1 := k'1.alloc (.cells #[.slice a n c, .int .i64 z] 71)
  have k'2 : BlkIs W4 _ 9 _ := (hb4.block _ k2.lt).trans k2
  have j2 := k'2.alloc (.cells #[.slice a n c, .int .i64 z] 71)
  have jF := BlkIs.new W4 71 #[.slice a n c, .int .i64 z]
  have q0 := j0.cell 0
  go_wp2_with fail
  have jB5 := jB.alloc jB.size (.cells #[.slice a n c, .int .i64 z] 71)
  have jM : MapIs (W4.alloc (.cells #[.slice a n c, .int .i64 z] 71)) M k D := Held.same hM (jB5.block M (Held.lt hM))
  have jT : Tn (fun i => i = Dk ∨ i = M) W (W4.alloc (.cells #[.slice a n c, .int .i64 z] 71)) := Tn.of_below jB5
  clear kB kD kM hb4 jB k'D k'0 k'1 k'2 k0 k1 k2 k3 q0
  generalize W4.alloc (.cells #[.slice a n c, .int .i64 z] 71) = W5 at *
  have hneM := Held.not_blk jM jD
  have n0 := blk_ne j0 jD (by decide)
  have n1 := blk_ne j1 jD (by decide)
  have n2 := blk_ne j2 jD (by decide)
  have nF := blk_ne jF jD (by decide)
  refine (change_lf 91 78 _ #[] W5 Dk lf hlf jD (fun w' => Renamed W N Ft Dk k F s s2 bs z rm x lf w') (hen _) (hen2 _) (fun hl => ?_) (fun hl => ?_)).mono ?_
  · have aD := armed_blk jD
    have aM : MapIs (armed W5 Dk lf) M k D := Held.same jM (armed_heap hneM)
    have aT := armed_tn (lf := lf) jT (.inl rfl)
    refine (ren_any (armed W5 Dk lf) Dk M k D s s2 _ _ _ x n (lenOf F s2) a n c z _ _ _ _ aD aM (.inr ⟨a, c, z, ho⟩) HO2.out hs hs2 hk hx (by omega) (by omega) (by omega) (by omega) ((armed_heap n0).trans j0) ((armed_heap n1).trans j1) ((armed_heap n2).trans j2) ((armed_heap nF).trans jF)).mono ?_
    rintro e w' ⟨rfl, p1, p2, p3⟩
    have p4 := aT.trans p3
    refine ⟨rfl, ?_⟩
    unfold Renamed
    rw [if_neg hl, if_neg hl, decide_eq_false hl]
    rw [show x - (n : Int) + ((n : Int) - (lenOf F s2 : Int)) = x - (lenOf F s2 : Int) by omega] at p1
    have hFi := files_ren (s2 := s2) HFi.out hM hD (by decide) hs HO.out (by rw [HBL.out]; exact ho) p4
    rw [HBL.out] at hFi
    refine ⟨⟨M, _, p1, p2, .inl f1, .inl f2, hFi.1, fun t bs' z' ht => ?_, hFi.2.2⟩, p4.mono fun i _ hi => ?_⟩
    · obtain ⟨a', c', g1, g2, g3, g4⟩ := hFi.2.1 t bs' z' ht
      exact ⟨a', c', g1, g2, g3, fun g hg => .inl (g4 g hg)⟩
    · rcases hi with rfl | rfl
      · exact f1
      · exact f2
  · subst hl
    refine (nothing_any W5).mono ?_
    rintro e w' ⟨rfl, rfl⟩
    have hT := (Tn.of_below (p := fun i => i = Dk) jB5).setCell (x := ⟨Dk, 4, none⟩) (.inl rfl) (.bool true)
    refine ⟨rfl, ⟨_, jD.cell 4⟩, jD.froz 4, ?_⟩
    unfold Renamed
    rw [if_pos rfl, if_pos rfl]
    have hT2 : Tn Ft W (W5.setCell ⟨Dk, 4, none⟩ (.bool true)) := hT.mono fun i _ hi => by
      have hi : i = Dk := hi
      rw [hi]
      exact f1
    refine ⟨⟨M, D, ?_, World.ownsMap.mono (Held.same jM (Below.heap_setCell W5 ⟨Dk, 4, none⟩ _ M hneM)) (by omega), .inl f1, .inl f2, files_keep HFi.out hT (fun i h => .inl h) (fun v l g ho hg hp => Own5.not_blk ho hD (by decide) (by rw [hg, hp]))⟩, hT2⟩
    have := jD.put 4 (.bool true)
    simpa [lfA] using this
  · rintro e w' ⟨rfl, hp⟩
    go_wp2_with fail
    go_ret
    exact ⟨rfl, hp⟩
end Go.Proofs.YtfjmplkncopffaaGreatDoor
