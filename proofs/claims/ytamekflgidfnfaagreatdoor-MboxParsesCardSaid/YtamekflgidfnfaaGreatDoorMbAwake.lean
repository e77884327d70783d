/- Chapter 10's example; few; letters alike. Conditions: as stated at each. -/
import Derived.Test.YtamekflgidfnfaaGreatDoorMbExport
import Derived.Deep.QuietTactic
namespace Go.Proofs.YtamekflgidfnfaaGreatDoor
set_option maxRecDepth 100000
namespace Mb
open Go.RowKit Go Go.Proofs.YtamekflgidfnfaaGreatDoor.Pa
theorem mail_ab : mailS [97, 64, 98] = true := by
  have h : loc ([97] ++ 64 :: [98]) = [97] ∧ dom ([97] ++ 64 :: [98]) = [98] := loc_at (by decide)
  have e : ([97, 64, 98] : L) = [97] ++ 64 :: [98] := rfl
  unfold mailS
  rw [e, h.1, h.2]
  decide
def exL : L := [70, 114, 111, 109, 32, 97, 64, 98, 32, 53, 10, 62, 70, 114, 111, 109, 32, 120, 10, 10]
def exX : Lt := ([97, 64, 98], 5, [70, 114, 111, 109, 32, 120, 10])
theorem ex_ok : [exX].all okL = true := by
  have : okL exX = ((([97, 64, 98] : L).isEmpty || mailS [97, 64, 98]) && (decide ((0 : Int) ≤ 5) && wholeB [70, 114, 111, 109, 32, 120, 10])) := rfl
  rw [List.all_cons, this, mail_ab]
  decide
theorem ex_file : fileS [exX] = exL := by
  have hi : Lib.itoa 5 = [53] := by
    rw [show (5 : Int) = ((5 : Nat) : Int) from rfl, Lib.itoa_nonneg, Lib.decDigits_one (by decide)]
    rfl
  have : fileS [exX] = mkL ++ (who [97, 64, 98] ++ 32 :: (Lib.itoa 5 ++ 10 :: (quoteS [70, 114, 111, 109, 32, 120, 10] ++ [10]))) := by
    unfold fileS expS exX
    simp
  rw [this, hi]
  decide
set_option maxHeartbeats 800000 in
theorem awake_any (w : World) (hT : GlT w) :
    Calls Tryz.prog 5 #[] w fun e w' => e = .returned (.bool true) ∧ Below w.heap.size w w' := by
  have hcv := conv_const
  have hb1 : Below w.heap.size w (w.alloc (.cells #[.int .u8 70, .int .u8 114, .int .u8 111, .int .u8 109, .int .u8 32, .int .u8 120, .int .u8 10] 5 (7, 8))) := (Below.refl _ w).alloc (Nat.le_refl _) _
  have hbt := bts_new w [70, 114, 111, 109, 32, 120, 10] #[.int .u8 70, .int .u8 114, .int .u8 111, .int .u8 109, .int .u8 32, .int .u8 120, .int .u8 10] (7, 8) rfl
  have hz1 : (w.alloc (.cells #[.int .u8 70, .int .u8 114, .int .u8 111, .int .u8 109, .int .u8 32, .int .u8 120, .int .u8 10] 5 (7, 8))).heap.size = w.heap.size + 1 := by simp
  have HX : Hid (Calls Tryz.prog 13 #[.slice (some ⟨w.heap.size + 1, 0, none⟩) 1 1] ((w.alloc (.cells #[.int .u8 70, .int .u8 114, .int .u8 111, .int .u8 109, .int .u8 32, .int .u8 120, .int .u8 10] 5 (7, 8))).alloc (.cells #[.string ⟨#[97, 64, 98]⟩, .int .i64 5, .slice (some ⟨w.heap.size, 0, none⟩) 7 7] 43)) fun e w' => ∃ v, e = .returned (.tuple #[v, .int .i64 0]) ∧ Own5 w' w.heap.size v exL ∧ Below w.heap.size w w') := Lib.hid (by
    generalize w.alloc (.cells #[.int .u8 70, .int .u8 114, .int .u8 111, .int .u8 109, .int .u8 32, .int .u8 120, .int .u8 10] 5 (7, 8)) = w1 at *
    have hq := BlkIs.new w1 43 #[.string ⟨#[97, 64, 98]⟩, .int .i64 5, .slice (some ⟨w.heap.size, 0, none⟩) 7 7]
    have hb2 := hb1.alloc (by omega : w.heap.size ≤ w1.heap.size) (.cells #[.string ⟨#[97, 64, 98]⟩, .int .i64 5, .slice (some ⟨w.heap.size, 0, none⟩) 7 7] 43)
    have hbl : Below w1.heap.size w1 (w1.alloc (.cells #[.string ⟨#[97, 64, 98]⟩, .int .i64 5, .slice (some ⟨w.heap.size, 0, none⟩) 7 7] 43)) := (Below.refl _ _).alloc (Nat.le_refl _) _
    have hz2 : (w1.alloc (.cells #[.string ⟨#[97, 64, 98]⟩, .int .i64 5, .slice (some ⟨w.heap.size, 0, none⟩) 7 7] 43)).heap.size = w1.heap.size + 1 := by simp
    have hbt2 : Bts (w1.alloc (.cells #[.string ⟨#[97, 64, 98]⟩, .int .i64 5, .slice (some ⟨w.heap.size, 0, none⟩) 7 7] 43)) (w1.alloc (.cells #[.string ⟨#[97, 64, 98]⟩, .int .i64 5, .slice (some ⟨w.heap.size, 0, none⟩) 7 7] 43)).heap.size (some ⟨w.heap.size, 0, none⟩) [70, 114, 111, 109, 32, 120, 10] := (hbt.below (hbl.mono (by omega))).more (by omega)
    rw [← hz1]
    generalize w1.alloc (.cells #[.string ⟨#[97, 64, 98]⟩, .int .i64 5, .slice (some ⟨w.heap.size, 0, none⟩) 7 7] 43) = w2 at *
    have hLs : Ls w2 w2.heap.size (some ⟨w1.heap.size, 0, none⟩) [exX] := fun k hk => by
      obtain rfl : k = 0 := by simpa using hk
      refine ⟨w1.heap.size, 0, rfl, by omega, (hq.cell 0).trans rfl, (hq.cell 1).trans rfl, some ⟨w.heap.size, 0, none⟩, 7, (hq.cell 2).trans rfl, Nat.le_refl _, by unfold maxLen; omega, (fun e => by cases e), hbt2⟩
    have hsm : ∀ x ∈ [exX], small x := fun x hx => by
      rw [List.mem_singleton.1 hx]
      unfold small exX
      simp
    refine (export_any hLs 1 1 rfl (by omega) hsm (by rw [ex_file]; decide) (hT.below hb2 hT.lt)).mono ?_
    rintro e w3 ⟨hb3, ⟨_, v, rfl, ho⟩ | ⟨h0, _⟩⟩
    · rw [ex_file] at ho
      exact ⟨v, rfl, own_more ho (by omega), hb2.trans (hb3.mono (by omega))⟩
    · rw [ex_ok] at h0; cases h0)
  clear hb1 hbt hz1
  go_enter Tryz.func5, Tryz.ntmps5
  go_wp2_with fail
  refine HX.out.mono ?_
  rintro e w3 ⟨v, rfl, ho, hb⟩
  obtain ⟨A1, c1, rfl, _, _⟩ := own_slice ho
  have hst := conv_str (Own5.bts ho) c1
  have hls : ((str exL).toList == [70, 114, 111, 109, 32, 97, 64, 98, 32, 53, 10, 62, 70, 114, 111, 109, 32, 120, 10, 10]) = true := by
    rw [Go.Lib.toList_data]
    rfl
  have HB := Lib.hid hb
  rw [show exL.length = 20 from rfl] at *
  clear ho hb
  generalize str exL = sx at *
  go_wp2_with fail
  go_ret
  exact ⟨rfl, HB.out⟩
/-- few letters. -/
def fewB (ls : List Lt) : Bool := decide (ls.length ≤ 20) && ls.all fun x => decide (x.1.length ≤ 300) && decide (x.2.2.length ≤ 500)
set_option maxHeartbeats 3200000 in
theorem same_any {w : World} {A A' : Option Addr} {ls : List Lt} (h : Ls w w.heap.size A ls) (h' : Ls w w.heap.size A' ls) (n c c' : Nat) (hn : ls.length = n) (hnb : n ≤ 1000000) :
    Calls Tryz.prog 8 #[.slice A n c, .slice A' n c'] w fun e w' => e = .returned (.bool true) ∧ Below w.heap.size w w' := by
  have HEL := Lib.hid (els_of h hn)
  have HEL' := Lib.hid (els_of h' hn)
  clear h h' hn
  go_enter Tryz.func8, Tryz.ntmps8
  go_wp2_with fail
  go_loopw [13] (fun i wr => ∃ k : Nat, k ≤ n ∧ i = .int .i64 k ∧ Below w.heap.size w wr) (fun i _ => n - (intOf i).toNat)
  case atStart => exact ⟨0, Nat.zero_le _, rfl, Below.refl _ _⟩
  case round =>
    obtain ⟨k, hk, rfl, hbel⟩ := hrel
    by_cases hlt : k < n
    · obtain ⟨g, o, Ab, cb, rfl, _, _, _, hall⟩ := HEL.out k hlt
      obtain ⟨g', o', Ab', cb', rfl, _, _, _, hall'⟩ := HEL'.out k hlt
      obtain ⟨y0, y1, y2, y3⟩ := hall wr hbel
      obtain ⟨z0, z1, z2, z3⟩ := hall' wr hbel
      have hc1 := fun q => conv_str (y3.below (drewN_below wr w.heap.size q)) cb
      have hc2 := fun q => conv_str (z3.below (drewN_below wr w.heap.size q)) cb'
      have HB := Lib.hid hbel
      have hkn : (k : Int) < (n : Int) := by omega
      clear hall hall' hbel y3 z3
      generalize str (ls.getD k d0).1 = s0 at *
      generalize (ls.getD k d0).2.1 = v at *
      generalize str (ls.getD k d0).2.2 = sb at *
      generalize (ls.getD k d0).2.2.length = f2 at *
      go_wp2_with fail
      go_quiet (fail)
      go_wp2_with fail
      go_roundw
      case rel => exact ⟨k + 1, by omega, by go_num, HB.out.trans (drewN_below _ _ _)⟩
      case measure => simp [intOf]; omega
    · have hkn : k = n := by omega
      subst hkn
      have hkk : ¬ (k : Int) < (k : Int) := by omega
      go_wp2_with fail
      go_ret
      exact ⟨rfl, hbel⟩
end Mb
end Go.Proofs.YtamekflgidfnfaaGreatDoor
