/- SlKeep. Conditions: as stated at each. -/
import Derived.Test.YtidadjlhnlmfkaaGreatDoorKt28
import Derived.Test.YtidadjlhnlmfkaaGreatDoorKt26
/- Append over lists of records, whenever the power fails. Conditions: as stated at each. -/
namespace Go.Proofs.YtidadjlhnlmfkaaGreatDoor
open Go.RowKit Go.Shelf Go Go.Maps
/-- the disk has the segments' files alone: all but the last one safe, of the last one m records. -/
def FileK (nm : ByteArray) (F : Files) (S0 : Segs) (s : List (List UInt8)) (m : Nat) : Prop :=
  (∀ (j : Nat) u, S0[j]? = some u → F (fileN nm (j + 1)) = some (wr u, (wr u).length)) ∧ F (fileN nm (S0.length + 1)) = some (wr s, (wr (s.take m)).length) ∧ m ≤ s.length ∧ ∀ t, F t ≠ none → ∃ j, 1 ≤ j ∧ j ≤ S0.length + 1 ∧ t = fileN nm j
theorem FileK.none {nm : ByteArray} {F : Files} {S0 : Segs} {s : List (List UInt8)} {m : Nat} (h : FileK nm F S0 s m) {k : Nat} (hk : S0.length + 1 < k) (hk2 : k ≤ 999999) : F (fileN nm k) = none := by
  cases hF : F (fileN nm k) with
  | none => rfl
  | some y =>
    obtain ⟨j, h1, h2, h3⟩ := h.2.2.2 (fileN nm k) (by rw [hF]; simp)
    have := fileN_inj hk2 (by omega) h3
    omega
theorem FileK.last {nm : ByteArray} {F : Files} {S0 : Segs} {s s' : List (List UInt8)} {m m' : Nat} (h : FileK nm F S0 s m) (hl : S0.length < 999998) (bs : List UInt8) (sf : Nat) (hb : bs = wr s') (hs : sf = (wr (s'.take m')).length) (hm : m' ≤ s'.length) :
    FileK nm (F.upd (fileN nm (S0.length + 1)) (some (bs, sf))) S0 s' m' := by
  refine ⟨fun j u hj => ?_, ?_, hm, fun t ht => ?_⟩
  · have := (List.getElem?_eq_some_iff.1 hj).1
    unfold Files.upd
    rw [if_neg (fun e => by have := fileN_inj (by omega) (by omega) e; omega)]
    exact h.1 j u hj
  · unfold Files.upd
    rw [if_pos rfl, hb, hs]
  · unfold Files.upd at ht
    by_cases e : t = fileN nm (S0.length + 1)
    · exact ⟨S0.length + 1, by omega, Nat.le_refl _, e⟩
    · rw [if_neg e] at ht
      exact h.2.2.2 t ht
theorem FileK.new {nm : ByteArray} {F : Files} {S0 : Segs} {s : List (List UInt8)} (h : FileK nm F S0 s s.length) (hl : S0.length < 999997) : FileK nm (F.upd (fileN nm (S0.length + 2)) (some ([], 0))) (S0 ++ [s]) [] 0 := by
  refine ⟨fun j u hj => ?_, ?_, Nat.le_refl _, fun t ht => ?_⟩
  · have hjl := (List.getElem?_eq_some_iff.1 hj).1
    simp at hjl
    unfold Files.upd
    rw [if_neg (fun e => by have := fileN_inj (by omega) (by omega) e; omega)]
    by_cases e : j = S0.length
    · subst e
      simp at hj
      subst hj
      rw [h.2.1, List.take_length]
    · rw [List.getElem?_append_left (by omega)] at hj
      exact h.1 j u hj
  · have e : (S0 ++ [s]).length + 1 = S0.length + 2 := by simp
    rw [e]
    unfold Files.upd
    rw [if_pos rfl]
    rfl
  · have e : (S0 ++ [s]).length + 1 = S0.length + 2 := by simp
    rw [e]
    unfold Files.upd at ht
    by_cases e2 : t = fileN nm (S0.length + 2)
    · exact ⟨S0.length + 2, by omega, Nat.le_refl _, e2⟩
    · rw [if_neg e2] at ht
      obtain ⟨j, h1, h2, h3⟩ := h.2.2.2 t ht
      exact ⟨j, h1, by omega, h3⟩
theorem LgPost.k {W w' : World} {N Dk k k2 L G : Nat} {Ft : Nat → Prop} {F : Files} {rm x lf : Int} {b : Bool} {nm : ByteArray} {sz : Int} {g : List (Nat × Nat)} {dead : Bool} (h : LgPost W N Ft Dk k F rm x lf b L G nm sz g dead w') (hk : k ≤ k2) : LgPost W N Ft Dk k2 F rm x lf b L G nm sz g dead w' :=
  ⟨h.1.more (fun _ h => h) hk h.1.2.2.2.1 h.1.2.2.2.2, h.2⟩
/-- the log is alive, the power on. -/
def AliveK (W : World) (N : Nat) (Ft : Nat → Prop) (Dk k : Nat) (rm x lf : Int) (L G : Nat) (nm : ByteArray) (sz : Int) (S0 : Segs) (s : List (List UInt8)) (m : Nat) : Prop :=
  ∃ F, LogS W N Ft Dk k F rm x lf false L G nm sz (gS (S0 ++ [s])) false ∧ FileK nm F S0 s m
/-- the log is dead, the power off. -/
def DeadK (W : World) (N : Nat) (Ft : Nat → Prop) (Dk k : Nat) (rm x : Int) (L G : Nat) (nm : ByteArray) (sz : Int) (S0 : Segs) (s : List (List UInt8)) (m : Nat) : Prop :=
  ∃ F g lf, LogS W N Ft Dk k F rm x lf true L G nm sz g true ∧ FileK nm F S0 s m
/-- behind an Append: a record more or not, alive or dead, never less that is safe. -/
def AppK (W : World) (N : Nat) (Ft : Nat → Prop) (Dk k : Nat) (rm x : Int) (L G : Nat) (nm : ByteArray) (sz : Int) (S0 : Segs) (s : List (List UInt8)) (m : Nat) (r : List UInt8) (w' : World) : Prop :=
  ∃ S1 s1 m1 x1, ((S1 ++ [s1]).flatten = (S0 ++ [s]).flatten ++ [r] ∧ x1 = x + (rec1 r).length ∨ (S1 ++ [s1]).flatten = (S0 ++ [s]).flatten ∧ x1 = x) ∧ S0.flatten.length + m ≤ S1.flatten.length + m1 ∧ S1.length ≤ S0.length + 1 ∧ Tn (OwnL Ft L G) W w' ∧
    ((∃ lf', lf' ≤ 9223372036854775807 ∧ (S1 ++ [s1]).flatten = (S0 ++ [s]).flatten ++ [r] ∧ AliveK w' N (NewFt Ft W w') Dk (k + 5) rm x1 lf' L G nm sz S1 s1 m1) ∨ DeadK w' N (NewFt Ft W w') Dk (k + 5) rm x1 L G nm sz S1 s1 m1)
theorem lfA_le {lf : Int} (h : lf ≤ 9223372036854775807) : lfA lf ≤ 9223372036854775807 := by unfold lfA; split <;> omega
theorem flat_more (S0 : Segs) (s : List (List UInt8)) (r : List UInt8) : (S0 ++ [s ++ [r]]).flatten = (S0 ++ [s]).flatten ++ [r] := by simp
theorem flat_new (S0 : Segs) (s : List (List UInt8)) (r : List UInt8) : (S0 ++ [s] ++ [[r]]).flatten = (S0 ++ [s]).flatten ++ [r] := by simp
set_option maxHeartbeats 1600000 in
theorem append_K (W : World) (N : Nat) (Ft : Nat → Prop) (Dk k : Nat) (rm x lf : Int) (L G : Nat) (nm : ByteArray) (sz : Int) (S0 : Segs) (s : List (List UInt8)) (m : Nat) (A : Option Addr) (cp : Nat) (r : List UInt8)
    (h : AliveK W N Ft Dk k rm x lf L G nm sz S0 s m) (hlow : Low W Ft) (hl : S0.length + 3 < 999999) (hn : nmOk nm) (ht : took s ≤ 1000000) (hk : k + 5 < maxLen) (hx : 0 ≤ x) (hx2 : x ≤ 100000000) (hm : r.length ≤ 1000000) (hr : x + (rec1 r).length ≤ rm) (hr2 : rm ≤ 1000000000000)
    (hlf : lf ≤ 9223372036854775807) (hN : N ≤ W.heap.size) (hA : Bts W W.heap.size A r) (hcp : r.length ≤ cp) (hcm : cp ≤ maxLen) :
    Calls Tryz.prog 10 #[.pointer (some ⟨L, 0, none⟩), .slice A r.length cp] W fun e w' => (∃ v, e = .returned v) ∧ AppK W N Ft Dk k rm x L G nm sz S0 s m r w' := by
  obtain ⟨F, hL, hF⟩ := h
  rw [gS_snoc] at hL
  have hf := hF.2.1
  have hsl := took_len s
  have hwl : (wr s).length ≤ 1000000 := by rw [wr_length]; exact ht
  have hg : (gS S0).length = S0.length := gS_length S0
  have hml := hF.2.2.1
  have hnone : F (fileN nm (S0.length + 2)) = none := hF.none (by omega) (by omega)
  have htk : ((s ++ [r]).take m) = s.take m := List.take_append_of_le_length hml
  have F1 : FileK nm (F.upd (fileN nm (S0.length + 1)) (some (wr s ++ rec1 r, (wr (s.take m)).length))) S0 (s ++ [r]) m := hF.last (by omega) _ _ (by rw [wr_append, wr_one]) (by rw [htk]) (by simp; omega)
  have F2 : FileK nm (F.upd (fileN nm (S0.length + 1)) (some (wr s, (wr s).length))) S0 s s.length := hF.last (by omega) _ _ rfl (by rw [List.take_length]) (Nat.le_refl _)
  have F3 := F2.new (by omega)
  have F4 : FileK nm (((F.upd (fileN nm (S0.length + 1)) (some (wr s, (wr s).length))).upd (fileN nm (S0.length + 2)) (some ([], 0))).upd (fileN nm (S0.length + 2)) (some ([] ++ rec1 r, 0))) (S0 ++ [s]) [r] 0 := by
    have e : (S0 ++ [s]).length + 1 = S0.length + 2 := by simp
    have := F3.last (s' := [r]) (m' := 0) (by simp; omega) ([] ++ rec1 r) 0 (by simp [wr]) (by simp [wr]) (by simp)
    rw [e] at this
    exact this
  have hfl : (S0 ++ [s]).flatten.length = S0.flatten.length + s.length := by simp
  have hfl2 : (S0 ++ [s]).flatten = S0.flatten ++ s := by simp
  have hc6 : s.length ≤ 1000000 := by omega
  have bts : ∀ W5, Below W.heap.size W W5 → Bts W5 W5.heap.size A r := fun W5 hb => (hA.below hb).more hb.size
  by_cases hz : (took s : Int) < sz
  · by_cases h1 : lf = 1
    · subst h1
      refine (append_dies W N Ft Dk k (k + 1) F _ rm x _ 1 L G nm sz _ _ false A cp r hL hlow (fun W5 B2 B3 B6 hb b2 b3 o2 => app_die W5 N Ft Dk k F rm x L G nm sz (gS S0) s.length (took s) (wr s) _ B2 B3 B6 A cp r (hL.below hb) (by omega) hm (bts W5 hb) hcp hcm b2 b3 hz hn (by rw [hg]; exact hf) (by omega) hk hx hx2 hr (by have := hb.size; omega) o2)).mono ?_
      rintro e w' ⟨rfl, hp⟩
      have hp := hp.k (k2 := k + 5) (by omega)
      rw [hg] at hp
      exact ⟨⟨_, rfl⟩, S0, s ++ [r], m, _, .inl ⟨flat_more S0 s r, rfl⟩, Nat.le_refl _, by omega, hp.2, .inr ⟨_, _, _, hp.1, F1⟩⟩
    · refine (append_L W N Ft Dk k F rm x lf L G nm sz (gS S0) s.length (took s) (wr s) _ A cp r hL hlow (by omega) hn (by rw [hg]; exact hf) (by omega) hk hx hx2 hm hr hr2 hlf hN hA hcp hcm hc6 (by omega) ⟨h1, fun h => by omega⟩).mono ?_
      rintro e w' ⟨kt, Fl, lft, gt, ct, zt, bst, sft, hR, rfl, hp⟩
      rcases hR with ⟨_, rfl, rfl, rfl, rfl, rfl, rfl, rfl, rfl⟩ | ⟨hz', _⟩
      · have hp := hp.k (k2 := kt + 5) (by omega)
        rw [hg] at hp
        have e1 : (s ++ [r]).length = s.length + 1 := by simp
        have e2 : took (s ++ [r]) = took s + (rec1 r).length := by rw [took_append, rec1_length]; simp [took]
        refine ⟨⟨_, rfl⟩, S0, s ++ [r], m, _, .inl ⟨flat_more S0 s r, rfl⟩, Nat.le_refl _, by omega, hp.2, .inl ⟨_, lfA_le hlf, flat_more S0 s r, _, ?_, F1⟩⟩
        rw [gS_snoc, e1, e2]
        exact hp.1
      · omega
  · have hz' : sz ≤ (took s : Int) := by omega
    have hgl : (gS S0 ++ [(s.length, took s)]).length = S0.length + 1 := by simp [hg]
    by_cases h1 : lf = 1
    · subst h1
      refine (append_dies W N Ft Dk k (k + 3) F F rm x x 1 L G nm sz _ _ true A cp r hL hlow (fun W5 B2 B3 B6 hb b2 b3 o2 => app_roll_die W5 N Ft Dk k F F rm x 1 L G nm sz (gS S0) s.length (took s) true B2 B3 B6 A cp r (hL.below hb) (by omega) hm (bts W5 hb) hcp hcm b2 b3 hz' (fun w2 hw2 => (roll_die1 w2 N Ft Dk k F rm x L G nm sz _ (wr s) _ (rec1 r).length hw2 (by rw [hgl]; omega) hn (by rw [hgl]; exact hf) (by omega) (by omega) hx hx2 hr hr2).mono (fun e w' hq => ⟨hq.1, hq.2.k (by omega)⟩)))).mono ?_
      rintro e w' ⟨rfl, hp⟩
      have hp := hp.k (k2 := k + 5) (by omega)
      exact ⟨⟨_, rfl⟩, S0, s, m, _, .inr ⟨rfl, rfl⟩, Nat.le_refl _, by omega, hp.2, .inr ⟨_, _, _, hp.1, hF⟩⟩
    · by_cases h2 : lf = 2
      · subst h2
        refine (append_dies W N Ft Dk k (k + 3) F _ rm x x 2 L G nm sz _ _ false A cp r hL hlow (fun W5 B2 B3 B6 hb b2 b3 o2 => app_roll_die W5 N Ft Dk k F _ rm x 2 L G nm sz (gS S0) s.length (took s) false B2 B3 B6 A cp r (hL.below hb) (by omega) hm (bts W5 hb) hcp hcm b2 b3 hz' (fun w2 hw2 => (roll_die2 w2 N Ft Dk k F rm x L G nm sz _ (wr s) _ (rec1 r).length hw2 (by rw [hgl]; omega) hn (by rw [hgl]; exact hf) (by omega) (by rw [hgl]; exact hnone) (by omega) hx hx2 hr hr2).mono (fun e w' hq => ⟨hq.1, hq.2.k (by omega)⟩)))).mono ?_
        rintro e w' ⟨rfl, hp⟩
        have hp := hp.k (k2 := k + 5) (by omega)
        rw [hgl] at hp
        exact ⟨⟨_, rfl⟩, S0, s, s.length, _, .inr ⟨rfl, rfl⟩, by omega, by omega, hp.2, .inr ⟨_, _, _, hp.1, F2⟩⟩
      · by_cases h3 : lf = 3
        · subst h3
          refine (append_dies W N Ft Dk k (k + 4) F _ rm x _ 3 L G nm sz _ _ false A cp r hL hlow (fun W5 B2 B3 B6 hb b2 b3 o2 => app_die3 W5 N Ft Dk k F rm x L G nm sz (gS S0) s.length (took s) (wr s) _ B2 B3 B6 A cp r (hL.below hb) (by omega) hm (bts W5 hb) hcp hcm b2 b3 hz' (hlow.up hb.size) hr2 (by rw [hg]; exact hnone) hn (by rw [hg]; exact hf) (by omega) hk hx hx2 hr (by have := hb.size; omega) o2)).mono ?_
          rintro e w' ⟨rfl, hp⟩
          have hp := hp.k (k2 := k + 5) (by omega)
          rw [hg] at hp
          exact ⟨⟨_, rfl⟩, S0 ++ [s], [r], 0, _, .inl ⟨flat_new S0 s r, rfl⟩, by omega, by simp, hp.2, .inr ⟨_, _, _, hp.1, F4⟩⟩
        · refine (append_L W N Ft Dk k F rm x lf L G nm sz (gS S0) s.length (took s) (wr s) _ A cp r hL hlow (by omega) hn (by rw [hg]; exact hf) (by omega) hk hx hx2 hm hr hr2 hlf hN hA hcp hcm hc6 (by omega) ⟨h1, fun _ => ⟨h2, h3, by rw [hg]; exact hnone⟩⟩).mono ?_
          rintro e w' ⟨kt, Fl, lft, gt, ct, zt, bst, sft, hR, rfl, hp⟩
          rcases hR with ⟨hz2, _⟩ | ⟨_, rfl, rfl, rfl, rfl, rfl, rfl, rfl, rfl⟩
          · omega
          · have hp := hp.k (k2 := k + 5) (by omega)
            rw [hgl, hg] at hp
            refine ⟨⟨_, rfl⟩, S0 ++ [s], [r], 0, _, .inl ⟨flat_new S0 s r, rfl⟩, by omega, by simp, hp.2, .inl ⟨_, lfA_le (lfA_le (lfA_le hlf)), flat_new S0 s r, _, ?_, F4⟩⟩
            rw [gS_snoc, gS_snoc]
            have e2 : took [r] = 0 + (rec1 r).length := by rw [rec1_length]; simp [took]
            rw [show ([r] : List (List UInt8)).length = 0 + 1 from rfl, e2]
            exact hp.1
end Go.Proofs.YtidadjlhnlmfkaaGreatDoor
