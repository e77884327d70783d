/- Get, the document's Get: walks over fields. Conditions: as stated at each. -/
import Derived.Test.YtliaciojlcajdaaDoorHdGet
namespace Go.Proofs.YtliaciojlcajdaaDoor
set_option maxRecDepth 100000
namespace Hd
open Go.RowKit Go Go.Proofs.YtliaciojlcajdaaDoor.Pa
theorem first_nil : first [] = [] := rfl
theorem first_snoc {l : List F} (h : l ≠ []) (f : F) : first (l ++ [f]) = first l := by
  cases l with
  | nil => exact absurd rfl h
  | cons a l => rfl
theorem getD_mem {fs : List F} {k : Nat} (h : k < fs.length) : fs.getD k ([], []) ∈ fs := by simp [List.getD, h]
set_option maxHeartbeats 1600000 in
theorem get_any {w : World} {A : Option Addr} {fs : List F} (h : Prs w w.heap.size A (fv fs)) (n c : Nat) (hn : fs.length = n) (hl : n ≤ 1001) (hsm : ∀ f ∈ fs, small f) (s : List UInt8) :
    Calls Tryd.prog 15 #[.slice A n c, .string (str s)] w fun e w' => e = .returned (.tuple #[.string (str (first (hits fs s n))), .bool (decide (0 < (hits fs s n).length))]) ∧ Below w.heap.size w w' := by
  have HEL := Lib.hid (els_of h hn)
  have HSA : Hid (∀ k, k < n → ∀ X, Calls Tryd.prog 32 #[.string (str (fs.getD k ([], [])).1), .string (str s)] X fun e w' => e = .returned (.bool (sameS (fs.getD k ([], [])).1 s)) ∧ ∃ n, w' = X.drewN n) := Lib.hid fun k hk X => by
    have := (hsm _ (getD_mem (fs := fs) (k := k) (by omega))).1
    exact same_any _ s X (by omega)
  have HCL : Hid (∀ k, k < n → ∀ X, Calls Tryd.prog 33 #[.string (str (fs.getD k ([], [])).2)] X fun e w' => e = .returned (.string (str (fs.getD k ([], [])).2)) ∧ Below X.heap.size X w') := Lib.hid fun k hk X => by
    have := (hsm _ (getD_mem (fs := fs) (k := k) (by omega))).2
    exact sclone_any _ X (by omega)
  have HIT : Hid (∀ k, k < n → hits fs s (k + 1) = if sameS (fs.getD k ([], [])).1 s then hits fs s k ++ [fs.getD k ([], [])] else hits fs s k) := Lib.hid fun k hk => hits_succ (by omega)
  have HHI : Hid (∀ k, k < n → hits fs s k = [] → sameS (fs.getD k ([], [])).1 s = true → first (hits fs s n) = (fs.getD k ([], [])).2 ∧ 0 < (hits fs s n).length) := Lib.hid fun k hk h0 h1 => hits_hit h0 h1 hk hn.symm
  have hz := hits_zero fs s
  clear h hn hsm
  go_enter Tryd.func15, Tryd.ntmps15
  go_wp2_with fail
  go_loopw [7, 10] (fun _ i wr => ∃ k : Nat, k ≤ n ∧ i = .int .i64 k ∧ hits fs s k = [] ∧ Below w.heap.size w wr) (fun _ i _ => n - (intOf i).toNat)
  case atStart => exact ⟨0, Nat.zero_le _, rfl, hz, Below.refl _ _⟩
  case round =>
    obtain ⟨k, hk, rfl, h0, hbel⟩ := hrel
    by_cases hlt : k < n
    · obtain ⟨g, o, rfl, hall⟩ := HEL.out k hlt
      obtain ⟨y0, y1⟩ := hall wr hbel
      have HS := Lib.hid (HSA.out k hlt)
      have HC := Lib.hid (HCL.out k hlt)
      have HH := HIT.out k hlt
      have HI := HHI.out k hlt h0
      have HK : Hid (∀ X, Below wr.heap.size wr X → Below w.heap.size w X) := Lib.hid fun X hX => hbel.trans (hX.mono hbel.size)
      clear hall hbel
      cases hs : sameS (fs.getD k ([], [])).1 s with
      | true =>
        rw [hs] at HS
        have hi := HI hs
        have hi1 : str (fs.getD k ([], [])).2 = str (first (hits fs s n)) := by rw [hi.1]
        have HI2 := Lib.hid (And.intro hi1 (show decide (0 < (hits fs s n).length) = true from decide_eq_true hi.2))
        clear HH HI hs hi hi1
        generalize str (fs.getD k ([], [])).1 = s0 at *
        generalize str (fs.getD k ([], [])).2 = s1 at *
        go_wp2_with (first
          | (go_at_call 32; refine (HS.out _).mono ?_; rintro e w' ⟨rfl, q, rfl⟩)
          | (go_at_call 33; refine (HC.out _).mono ?_; rintro e w' ⟨rfl, hbc⟩)
          | fail)
        refine bodyPost_ret (results_tmp2 rfl _ _ _) rfl ?_
        rw [HI2.out.1, HI2.out.2]
        refine ⟨rfl, HK.out _ ?_⟩
        refine ((belowA wr _).trans (below_drewN' _ _ _)).trans (hbc.mono ?_)
        simp
      | false =>
        rw [hs] at HS
        rw [if_neg (by rw [hs]; simp), h0] at HH
        have HHH := Lib.hid HH
        clear HH HI hs
        generalize str (fs.getD k ([], [])).1 = s0 at *
        generalize str (fs.getD k ([], [])).2 = s1 at *
        go_wp2_with (first
          | (go_at_call 32; refine (HS.out _).mono ?_; rintro e w' ⟨rfl, q, rfl⟩)
          | fail)
        go_roundw
        case rel => exact ⟨k + 1, by omega, by go_num, HHH.out, HK.out _ ((belowA wr _).trans (below_drewN' _ _ _))⟩
        case measure => simp [intOf]; omega
    · have hkn : k = n := by omega
      subst hkn
      go_wp2_with fail
      refine bodyPost_ret (results_tmp2 rfl _ _ _) rfl ?_
      rw [h0]
      exact ⟨rfl, hbel⟩
end Hd
end Go.Proofs.YtliaciojlcajdaaDoor
