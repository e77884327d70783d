/- The contract of the document's way of a beginning (both). Conditions: as stated. -/
import Derived.Test.YtfgdochpnnkpmaaDoorMkBothL
import Derived.Test.YtfgdochpnnkpmaaDoorMkBothH
import Derived.Test.YtfgdochpnnkpmaaDoorMkGrownR
namespace Go.Proofs.YtfgdochpnnkpmaaDoor
set_option maxRecDepth 100000
open Go.RowKit Go
theorem bothR_length {old : List UInt8} (ho : old.length = 32) : ∀ (r : List (List UInt8)) (m n : Nat) (whole : Bool), Sms r → (bothR m n whole old r).1.length = 32 ∧ (bothR m n whole old r).2.1.length = 32
  | [], _, _, _, _ => ⟨ho, ho⟩
  | s :: r, m, n, whole, h => by
    have hr : Sms r := fun x hx => h x (by simp [hx])
    by_cases h1 : m = n
    · rw [bothR_end h1]
      split
      · exact ⟨h s (by simp), h s (by simp)⟩
      · exact ⟨ho, ho⟩
    · by_cases h2 : m ≤ spl n
      · rw [bothR_lo h1 h2]
        exact ⟨(bothR_length ho r m (spl n) whole hr).1, nodeS_length _ _⟩
      · rw [bothR_hi h1 (by omega)]
        exact ⟨nodeS_length _ _, nodeS_length _ _⟩
theorem bothR_same {m : Nat} (whole : Bool) (old : List UInt8) (L : List (List UInt8)) : bothR m m whole old L.reverse =
    if whole then (old, old, decide (L = [])) else (match L with | [s] => (s, s, true) | _ => (old, old, false)) := by
  cases whole
  · rcases L with _ | ⟨a, _ | ⟨b, L⟩⟩
    · simp [bothR]
    · rw [List.reverse_singleton, bothR_end rfl]; rfl
    · obtain ⟨s, r, hs⟩ : ∃ s r, (a :: b :: L).reverse = s :: r := by
        rcases hL : (a :: b :: L).reverse with _ | ⟨s, r⟩
        · simp at hL
        · exact ⟨s, r, rfl⟩
      have hr : r ≠ [] := by
        intro e
        have := congrArg List.length hs
        subst e
        simp at this
      rw [hs, bothR_end rfl]
      simp [hr]
  · rcases L with _ | ⟨a, L⟩
    · simp [bothR]
    · obtain ⟨s, r, hs⟩ : ∃ s r, (a :: L).reverse = s :: r := by
        rcases hL : (a :: L).reverse with _ | ⟨s, r⟩
        · simp at hL
        · exact ⟨s, r, rfl⟩
      rw [hs, bothR_end rfl]
      simp
set_option maxHeartbeats 1600000 in
theorem both_any : ∀ (K : Nat) (A : Option Addr) (p c m n : Nat) (whole : Bool) (old : List UInt8) (L : List (List UInt8)) (w : World), p ≤ K → L.length = p → 1 ≤ m → m ≤ n → n ≤ 9223372036854775807 → p ≤ 100000 → p ≤ c → c ≤ maxLen → old.length = 32 → Hs w w.heap.size A L →
    Calls Tryd.prog 46 #[.int .i64 m, .int .i64 n, .bool whole, .agg (bv old).toArray, .slice A p c] w
      fun e w' => e = .returned (.tuple #[.agg (bv (bothR m n whole old L.reverse).1).toArray, .agg (bv (bothR m n whole old L.reverse).2.1).toArray, .bool (bothR m n whole old L.reverse).2.2]) ∧ Below w.heap.size w w'
  | K, A, p, c, m, n, whole, old, L, w, hK, hp, h1, hmn, h63, h9, hc, hm, ho, h => by
    by_cases he : m = n
    · subst he
      rw [bothR_same]
      cases whole
      · by_cases hp1 : p = 1
        · subst hp1
          obtain ⟨s, rfl⟩ := List.length_eq_one_iff.1 hp
          obtain ⟨gs, os, rfl, hgB, hrs⟩ := h.at_ (k := 0) (by simp)
          exact both_e3 old s gs os c m w (h.1 s (by simp)) (by simpa using hrs) hgB
        · rcases L with _ | ⟨a, _ | ⟨b, L⟩⟩
          · exact both_e2 old A p c m w ho hp1
          · exact absurd hp.symm hp1
          · exact both_e2 old A p c m w ho hp1
      · by_cases hp0 : p = 0
        · obtain rfl := List.eq_nil_of_length_eq_zero (hp.trans hp0)
          exact both_e1 old A p c m w ho hp0
        · have : L ≠ [] := by
            intro e
            subst e
            exact hp0 hp.symm
          simp only [this]
          exact both_e1n old A p c m w ho hp0
    · by_cases hp0 : p = 0
      · obtain rfl := List.eq_nil_of_length_eq_zero (hp.trans hp0)
        have : bothR m n whole old [].reverse = (old, old, false) := by simp [bothR, he]
        rw [this]
        exact both_e4 old A p c n m w ho whole he hp0
      · match K, hK with
        | 0, hK => omega
        | K + 1, hK =>
        obtain ⟨q, rfl⟩ : ∃ q, p = q + 1 := ⟨p - 1, by omega⟩
        obtain ⟨init, s, rfl⟩ : ∃ init s, L = init ++ [s] := by
          rcases List.eq_nil_or_concat L with rfl | ⟨init, s, rfl⟩
          · simp at hp
          · exact ⟨init, s, by simp⟩
        have hq : init.length = q := by simpa using hp
        have hs32 : s.length = 32 := h.1 s (by simp)
        have hin : Hs w w.heap.size A init := by
          have := h.take q
          rwa [List.take_left' hq] at this
        have hir : Sms init.reverse := fun x hx => hin.1 x (by simpa using hx)
        obtain ⟨gs, os, rfl, hgB, hrs⟩ := h.at_ (k := q) (by simp [hq])
        rw [show (init ++ [s]).getD q [] = s by rw [List.getD_eq_getElem?_getD, List.getElem?_append_right (by omega), hq, Nat.sub_self]; rfl] at hrs
        have h2 : 2 ≤ n := by omega
        have hk1 := spl_pos n
        have hkn := spl_lt h2
        have HC : Hid (∀ w, Calls Tryd.prog 64 #[.int .i64 n] w fun e w' => e = .returned (.int .i64 (spl n : Nat)) ∧ w = w') := Lib.hid fun w => split_any n w h2 h63
        have hrev : (init ++ [s]).reverse = s :: init.reverse := by simp
        rw [hrev]
        by_cases hik : m ≤ spl n
        · rw [bothR_lo he hik]
          obtain ⟨x1, x2⟩ := bothR_length ho init.reverse m (spl n) whole hir
          exact both_lo old s _ _ _ whole gs os c q (spl n) m n w ho hs32 x1 x2 he hik hc h9 hrs hgB HC
            (Lib.hid fun W hb => both_any K (some ⟨gs, os, none⟩) q c m (spl n) whole old init W (by omega) hq h1 hik (by omega) (by omega) (by omega) hm ho ((hin.below hb).more hb.size))
        · rw [bothR_hi he (by omega)]
          obtain ⟨x1, x2⟩ := bothR_length ho init.reverse (m - spl n) (n - spl n) false hir
          refine both_hi old s _ _ _ whole gs os c q (spl n) m n w ho hs32 x1 x2 he (by omega) hmn h63 hc h9 hrs hgB HC (Lib.hid fun W hb => ?_)
          have := both_any K (some ⟨gs, os, none⟩) q c (m - spl n) (n - spl n) false old init W (by omega) hq (by omega) (by omega) (by omega) (by omega) (by omega) hm ho ((hin.below hb).more hb.size)
          rwa [Int.natCast_sub (by omega), Int.natCast_sub (by omega)] at this
theorem rgrown_any (old root : List UInt8) (A : Option Addr) (p c m n : Nat) (L : List (List UInt8)) (w : World) (ho : old.length = 32) (hr : root.length = 32) (hp : L.length = p) (h70 : p ≤ 70) (hc : p ≤ c) (hm : c ≤ maxLen) (h : Hs w w.heap.size A L) (h1 : 1 ≤ m) (hmn : m ≤ n) (h63 : n ≤ 9223372036854775807) :
    Calls Tryd.prog 16 #[.agg (bv old).toArray, .int .i64 m, .agg (bv root).toArray, .int .i64 n, .slice A p c] w
      fun e w' => e = .returned (.bool ((bothR m n true old L.reverse).2.2 && ((bothR m n true old L.reverse).1 == old) && ((bothR m n true old L.reverse).2.1 == root))) ∧ Below w.heap.size w w' := by
  obtain ⟨x1, x2⟩ := bothR_length ho L.reverse m n true (fun x hx => h.1 x (by simpa using hx))
  exact rgrown_of old root _ _ _ A p c m n w ho hr x1 x2 h1 hmn h70 (Lib.hid fun W hb => both_any p A p c m n true old L W (Nat.le_refl _) hp h1 hmn h63 (by omega) hc hm ho ((h.below hb).more hb.size))
end Go.Proofs.YtfgdochpnnkpmaaDoor
