/- frame.lay. Conditions: as stated. -/
import Derived.Test.YtidadjlhnlmfkaaGreatDoorFlMem
namespace Go.Proofs.YtidadjlhnlmfkaaGreatDoor
set_option maxRecDepth 100000
open Go.RowKit Go
set_option maxHeartbeats 800000 in
theorem lay_any (N : Nat) (v : Value) (l : List UInt8) (n : Nat) (W : World) (h : n < 4294967296) (hown : Own5 W N v l) (hN : N ≤ W.heap.size) (hl : l.length ≤ 500000000) :
    Calls Tryz.prog 68 #[v, .int .u32 n] W fun e w' => Gives5 W N (l ++ le4 n) e w' := by
  go_enter Tryz.func68, Tryz.ntmps68
  go_wp2_with fail
  go_loopw [0, 1, 5] (fun x y i wr => ∃ k : Nat, k ≤ 4 ∧ i = .int .i64 k ∧ y = .int .u32 (n / 256 ^ k : Nat) ∧ Own5 wr N x (l ++ (le4 n).take k) ∧ Below N W wr) (fun _ _ i _ => 4 - (intOf i).toNat)
  case atStart => exact ⟨0, Nat.zero_le _, rfl, by simp, by simpa using hown, Below.refl _ _⟩
  case round =>
    obtain ⟨k, hk, rfl, rfl, ho, hb⟩ := hrel
    have HB := Lib.hid hb
    have HO := Lib.hid ho
    have hsz := hb.size
    clear hb ho hown
    by_cases hlt : k < 4
    · have HS := Lib.hid (shr_next n k)
      have HT := Lib.hid (le4_next n k hlt)
      have hml : n / 256 ^ k < 4294967296 := Nat.lt_of_le_of_lt (Nat.div_le_self _ _) h
      have hby := (byte_of (n / 256 ^ k)).symm
      have hlen : (l ++ (le4 n).take k).length ≤ 500000004 := by simp [le4]; omega
      generalize n / 256 ^ k = m at *
      generalize hq : UInt8.ofNat m = q at *
      have HQ := Lib.hid hq
      clear hq
      have hnew := Own5.new wr [q] #[.int .u8 (q.toNat : Int)] rfl (by unfold maxLen; simp)
      have ho2 := own_kept HO.out ((Below.refl wr.heap.size wr).alloc (Nat.le_refl _) (.cells #[.int .u8 (q.toNat : Int)] 5)) (Nat.le_refl _)
      have hb2 := HB.out.alloc (Nat.le_trans hN HB.out.size) (.cells #[.int .u8 (q.toNat : Int)] 5)
      go_wp2_with (at_builtin; refine app5 (.tmp 7) (.tmp 10) rfl rfl N _ (l ++ (le4 n).take k) [q] rfl ho2 _ _ _ rfl hnew.bts (by simp; omega) (by simp; omega) ?_; intro v2 w2 hown2 hg2)
      have hb3 := Lib.hid (grown_below hb2 hN ho2 hg2)
      have HO2 := Lib.hid hown2
      clear hown2 hg2 ho2 hb2 hnew
      go_wp2_with fail
      go_roundw
      case rel => exact ⟨k + 1, by omega, by go_num, by rw [HS.out]; go_num, by rw [HT.out, ← List.append_assoc]; exact HO2.out, hb3.out⟩
      case measure => simp [intOf]; omega
    · obtain rfl : k = 4 := by omega
      go_wp2_with fail
      go_ret
      exact ⟨_, rfl, HO.out, HB.out⟩
end Go.Proofs.YtidadjlhnlmfkaaGreatDoor
