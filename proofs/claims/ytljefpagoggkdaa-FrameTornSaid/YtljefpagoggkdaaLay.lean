/- Contracts of the document's four and of frame.lay: bytes behind bytes. Conditions: as stated at each. -/
import Derived.Test.YtljefpagoggkdaaWord
namespace Go.Proofs.Ytljefpagoggkdaa
open Go.RowKit Go
theorem byte_of (n : Nat) : ((UInt8.ofNat n).toNat : Int) = (n : Int) % 256 := by simp
/-- a slice value that owns these bytes. -/
def Own5 (w : World) (N : Nat) (v : Value) (l : List UInt8) : Prop := w.ownsRow N 5 1 v l.length (bv l)
def Gives5 (W : World) (N : Nat) (l : List UInt8) (e : Ending) (w' : World) : Prop := ∃ v, e = .returned v ∧ Own5 w' N v l ∧ Below N W w'
theorem Own5.new (w : World) (l : List UInt8) (cs : Array Value) (h : cs.toList = bv l) (hm : l.length ≤ maxLen) : Own5 (w.alloc (.cells cs 5)) w.heap.size (.slice (some ⟨w.heap.size, 0, none⟩) l.length l.length) l := by
  unfold Own5
  rw [← h]
  exact World.ownsRow_lit w cs l.length (Nat.le_refl _) hm (by rw [Nat.mul_one, ← Array.length_toList, h, bv_length])
theorem Own5.bts {w : World} {N n : Nat} {A : Option Addr} {c : Nat} {l : List UInt8} (h : Own5 w N (.slice A n c) l) : Bts w w.heap.size A l := by
  obtain ⟨A', c', e, _⟩ := own_slice h
  have : n = l.length := by injection e
  subst this
  exact Bts.of_own h
theorem grown_below {N : Nat} {W w w' : World} {n : Nat} {e : TypeId} {v : Value} {xs : List Value} (hb : Below N W w) (hN : N ≤ W.heap.size) (hown : w.ownsRow N e 1 v n xs) (hg : w.grownBy w' v.ownBlock) : Below N W w' :=
  hb.grown hg (Nat.le_trans hN hb.size) (fun _ hk => (hown.lt _ hk).1)
set_option maxHeartbeats 400000 in
theorem four_any (n : Nat) (w : World) (h : n < 4294967296) :
    Calls Try.prog 23 #[.int .u32 n] w fun e w' => Gives5 w w.heap.size (le4 n) e w' := by
  have H := fun cs h => Lib.hid (Own5.new w (le4 n) cs h (by unfold maxLen; simp [le4]))
  go_enter Try.func23, Try.ntmps23
  go_wp2_with fail
  go_ret
  refine ⟨_, rfl, (H _ ?_).out, (Below.refl _ _).alloc (Nat.le_refl _) _⟩
  simp [bv, le4]
  omega
theorem le4_next (n k : Nat) (h : k < 4) : (le4 n).take (k + 1) = (le4 n).take k ++ [UInt8.ofNat (n / 256 ^ k)] := by
  obtain rfl | rfl | rfl | rfl : k = 0 ∨ k = 1 ∨ k = 2 ∨ k = 3 := by omega
  all_goals simp [le4]
theorem shr_next (n k : Nat) : n / 256 ^ (k + 1) = n / 256 ^ k / 256 := by rw [Nat.pow_succ, Nat.div_div_eq_div_mul]
set_option maxHeartbeats 800000 in
theorem lay_any (N : Nat) (v : Value) (l : List UInt8) (n : Nat) (W : World) (h : n < 4294967296) (hown : Own5 W N v l) (hN : N ≤ W.heap.size) (hl : l.length ≤ 500000000) :
    Calls Try.prog 28 #[v, .int .u32 n] W fun e w' => Gives5 W N (l ++ le4 n) e w' := by
  go_enter Try.func28, Try.ntmps28
  go_wp2_with fail
  go_loopw [0, 1, 5] (fun x y i wr => ∃ k : Nat, k ≤ 4 ∧ i = .int .i64 k ∧ y = .int .u32 (n / 256 ^ k : Nat) ∧ Own5 wr N x (l ++ (le4 n).take k) ∧ Below N W wr) (fun _ _ i _ => 4 - (intOf i).toNat)
  case atStart => exact ⟨0, Nat.zero_le _, rfl, by simp, by simpa using hown, Below.refl _ _⟩
  case round =>
    obtain ⟨k, hk, rfl, rfl, ho, hb⟩ := hrel
    have HB := Lib.hid hb
    have HO := Lib.hid ho
    have hsz := hb.size
    clear hb ho hown
    by_cases hlt : k < 4
    · have HS := Lib.hid (shr_next n k)
      have HT := Lib.hid (le4_next n k hlt)
      have hml : n / 256 ^ k < 4294967296 := Nat.lt_of_le_of_lt (Nat.div_le_self _ _) h
      have hby := (byte_of (n / 256 ^ k)).symm
      have hlen : (l ++ (le4 n).take k).length ≤ 500000004 := by simp [le4]; omega
      generalize n / 256 ^ k = m at *
      generalize hq : UInt8.ofNat m = q at *
      have HQ := Lib.hid hq
      clear hq
      have hnew := Own5.new wr [q] #[.int .u8 (q.toNat : Int)] rfl (by unfold maxLen; simp)
      have ho2 := own_kept HO.out ((Below.refl wr.heap.size wr).alloc (Nat.le_refl _) (.cells #[.int .u8 (q.toNat : Int)] 5)) (Nat.le_refl _)
      have hb2 := HB.out.alloc (Nat.le_trans hN HB.out.size) (.cells #[.int .u8 (q.toNat : Int)] 5)
      go_wp2_with (at_builtin; refine app5 (.tmp 7) (.tmp 10) rfl rfl N _ (l ++ (le4 n).take k) [q] rfl ho2 _ _ _ rfl hnew.bts (by simp; omega) (by simp; omega) ?_; intro v2 w2 hown2 hg2)
      have hb3 := Lib.hid (grown_below hb2 hN ho2 hg2)
      have HO2 := Lib.hid hown2
      clear hown2 hg2 ho2 hb2 hnew
      go_wp2_with fail
      go_roundw
      case rel => exact ⟨k + 1, by omega, by go_num, by rw [HS.out]; go_num, by rw [HT.out, ← List.append_assoc]; exact HO2.out, hb3.out⟩
      case measure => simp [intOf]; omega
    · obtain rfl : k = 4 := by omega
      go_wp2_with fail
      go_ret
      exact ⟨_, rfl, HO.out, HB.out⟩
end Go.Proofs.Ytljefpagoggkdaa
