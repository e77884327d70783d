/- A log as lists of records; Append over it. Conditions: as stated at each. -/
import Derived.Test.YtidadjlhnlmfkaaGreatDoorSlRead
namespace Go.Proofs.YtidadjlhnlmfkaaGreatDoor
open Go.RowKit Go.Shelf Go Go.Maps
abbrev Segs := List (List (List UInt8))
def gS (S : Segs) : List (Nat × Nat) := S.map fun s => (s.length, took s)
theorem gS_length (S : Segs) : (gS S).length = S.length := by simp [gS]
theorem gS_snoc (S0 : Segs) (s : List (List UInt8)) : gS (S0 ++ [s]) = gS S0 ++ [(s.length, took s)] := by simp [gS]
theorem gS_get {S : Segs} {j : Nat} {s : List (List UInt8)} (h : S[j]? = some s) : (gS S)[j]? = some (s.length, took s) := by simp [gS, h]
/-- the segments' files. -/
def FileOK (nm : ByteArray) (F : Files) (S : Segs) : Prop :=
  (∀ (j : Nat) s, S[j]? = some s → ∃ sf, F (fileN nm (j + 1)) = some (wr s, sf)) ∧ ∀ k, S.length < k → k ≤ 999999 → F (fileN nm k) = none
theorem fileOK_last {nm : ByteArray} {F : Files} {S0 : Segs} {s t : List (List UInt8)} (h : FileOK nm F (S0 ++ [s])) (hl : S0.length < 999999) (bs : List UInt8) (sf : Nat) (hb : bs = wr t) : FileOK nm (F.upd (fileN nm (S0.length + 1)) (some (bs, sf))) (S0 ++ [t]) := by
  refine ⟨fun j u hj => ?_, fun k hk hk2 => ?_⟩
  · have hjl := (List.getElem?_eq_some_iff.1 hj).1
    simp at hjl
    unfold Files.upd
    by_cases e : j = S0.length
    · subst e
      simp at hj
      rw [if_pos rfl, hb, hj]
      exact ⟨_, rfl⟩
    · rw [if_neg (fun e2 => e (by have := fileN_inj (by omega) (by omega) e2; omega))]
      refine h.1 j u ?_
      rw [List.getElem?_append_left (by omega)] at hj ⊢
      exact hj
  · simp at hk
    unfold Files.upd
    rw [if_neg (fun e2 => by have := fileN_inj (by omega) (by omega) e2; omega)]
    exact h.2 k (by simp; omega) hk2
theorem fileOK_new {nm : ByteArray} {F : Files} {S : Segs} (h : FileOK nm F S) (hl : S.length < 999999) (t : List (List UInt8)) (bs : List UInt8) (sf : Nat) (hb : bs = wr t) : FileOK nm (F.upd (fileN nm (S.length + 1)) (some (bs, sf))) (S ++ [t]) := by
  refine ⟨fun j u hj => ?_, fun k hk hk2 => ?_⟩
  · have hjl := (List.getElem?_eq_some_iff.1 hj).1
    simp at hjl
    unfold Files.upd
    by_cases e : j = S.length
    · subst e
      simp at hj
      rw [if_pos rfl, hb, hj]
      exact ⟨_, rfl⟩
    · rw [if_neg (fun e2 => e (by have := fileN_inj (by omega) (by omega) e2; omega))]
      refine h.1 j u ?_
      rw [List.getElem?_append_left (by omega)] at hj
      exact hj
  · simp at hk
    unfold Files.upd
    rw [if_neg (fun e2 => by have := fileN_inj (by omega) (by omega) e2; omega)]
    exact h.2 k (by omega) hk2
theorem took_len : ∀ s : List (List UInt8), s.length ≤ took s
  | [] => Nat.le_refl _
  | a :: t => by
    have := took_len t
    rw [took_cons]
    simp
    omega
/-- a log on a disk whose power does not fail, its segments being S. -/
def AbsS (W : World) (N : Nat) (Ft : Nat → Prop) (Dk k : Nat) (rm x : Int) (L G : Nat) (nm : ByteArray) (sz : Int) (S : Segs) : Prop :=
  ∃ F, LogS W N Ft Dk k F rm x 0 false L G nm sz (gS S) false ∧ FileOK nm F S
/-- a record more: in the last segment, or in a new one. -/
def addL (sz : Int) (S0 : Segs) (s : List (List UInt8)) (r : List UInt8) : Segs := if (took s : Int) < sz then S0 ++ [s ++ [r]] else S0 ++ [s] ++ [[r]]
theorem lfA_0 : lfA 0 = 0 := rfl
set_option maxHeartbeats 800000 in
theorem append_A (W : World) (N : Nat) (Ft : Nat → Prop) (Dk k : Nat) (rm x : Int) (L G : Nat) (nm : ByteArray) (sz : Int) (S0 : Segs) (s : List (List UInt8)) (A : Option Addr) (cp : Nat) (r : List UInt8)
    (h : AbsS W N Ft Dk k rm x L G nm sz (S0 ++ [s])) (hlow : Low W Ft) (hl : S0.length + 2 < 999999) (hn : nmOk nm) (ht : took s ≤ 1000000) (hk : k + 5 < maxLen) (hx : 0 ≤ x) (hx2 : x ≤ 100000000) (hm : r.length ≤ 1000000) (hr : x + (8 + r.length : Nat) ≤ rm) (hr2 : rm ≤ 1000000000000)
    (hN : N ≤ W.heap.size) (hA : Bts W W.heap.size A r) (hcp : r.length ≤ cp) (hcm : cp ≤ maxLen) :
    Calls Tryz.prog 10 #[.pointer (some ⟨L, 0, none⟩), .slice A r.length cp] W fun e w' =>
      e = .returned (.tuple #[if (took s : Int) < sz then .agg #[.int .i64 ((S0.length : Int) + 1), .int .i64 s.length] else .agg #[.int .i64 ((S0.length : Int) + 1 + 1), .int .i64 0], .int .i64 0]) ∧
      AbsS w' N (NewFt Ft W w') Dk (k + 5) rm (x + (8 + r.length : Nat)) L G nm sz (addL sz S0 s r) ∧ Tn (OwnL Ft L G) W w' := by
  obtain ⟨F, hL, hF⟩ := h
  rw [gS_snoc] at hL
  obtain ⟨sf, hf⟩ := hF.1 S0.length s (by simp)
  have hsl := took_len s
  have hrl := rec1_length r
  have hwl : (wr s).length ≤ 1000000 := by rw [wr_length]; exact ht
  refine (append_L W N Ft Dk k F rm x 0 L G nm sz (gS S0) s.length (took s) (wr s) sf A cp r hL hlow (by rw [gS_length]; omega) hn (by rw [gS_length]; exact hf) (by omega) hk hx hx2 hm (by rw [hrl]; exact hr) hr2 (by omega) hN hA hcp hcm (by omega) (by omega) ⟨by omega, fun _ => ⟨by omega, by omega, by rw [gS_length]; exact hF.2 _ (by simp) (by omega)⟩⟩).mono ?_
  rintro e w' ⟨kt, Fl, lft, gt, ct, zt, bst, sft, hR, rfl, hp⟩
  rw [hrl] at hp
  unfold addL
  rcases hR with ⟨hz, rfl, rfl, rfl, rfl, rfl, rfl, rfl, rfl⟩ | ⟨hz, rfl, rfl, rfl, rfl, rfl, rfl, rfl, rfl⟩
  · rw [if_pos hz, if_pos hz]
    rw [gS_length] at hp
    refine ⟨by rw [gS_length], ⟨_, ?_, fileOK_last hF (by omega) (wr s ++ rec1 r) sft ?_⟩, hp.2⟩
    · rw [gS_snoc]
      have e1 : (s ++ [r]).length = s.length + 1 := by simp
      have e2 : took (s ++ [r]) = took s + (8 + r.length) := by rw [took_append]; simp [took]
      rw [e1, e2]
      exact hp.1.more (fun _ h => h) (by omega) hp.1.2.2.2.1 hp.1.2.2.2.2
    · rw [wr_append, wr_one]
  · rw [if_neg (by omega), if_neg (by omega)]
    have eg : (gS S0 ++ [(s.length, took s)]).length = S0.length + 1 := by simp [gS_length]
    rw [eg, gS_length] at hp
    refine ⟨by rw [eg]; rfl, ⟨((F.upd (fileN nm (S0.length + 1)) (some (wr s, (wr s).length))).upd (fileN nm (S0.length + 2)) (some ([], 0))).upd (fileN nm (S0.length + 1 + 1)) (some ([] ++ rec1 r, 0)), ?_, ?_⟩, hp.2⟩
    · rw [gS_snoc, gS_snoc]
      have e2 : took [r] = 0 + (8 + r.length) := by simp [took]
      rw [show ([r] : List (List UInt8)).length = 0 + 1 from rfl, e2]
      exact hp.1.more (fun _ h => h) (by omega) hp.1.2.2.2.1 hp.1.2.2.2.2
    · have f1 := fileOK_last hF (by omega) (wr s) (wr s).length rfl (t := s)
      have f2 := fileOK_new f1 (by simp; omega) [] [] 0 rfl
      have e3 : (S0 ++ [s]).length = S0.length + 1 := by simp
      rw [e3] at f2
      have f3 := fileOK_last f2 (by simp; omega) ([] ++ rec1 r) 0 (t := [r]) (by simp [wr])
      rw [e3] at f3
      exact f3
end Go.Proofs.YtidadjlhnlmfkaaGreatDoor
