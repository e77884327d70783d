/- frame.Write. Conditions: as stated. -/
import Derived.Test.YtidadjlhnlmfkaaGreatDoorFlCrc
import Derived.Test.YtidadjlhnlmfkaaGreatDoorFlLay
namespace Go.Proofs.YtidadjlhnlmfkaaGreatDoor
set_option maxRecDepth 100000
open Go.RowKit Go
set_option maxHeartbeats 1600000 in
theorem write_any (A : Option Addr) (B c : Nat) (ll : List (List UInt8)) (W : World) (h : Rws W B A ll) (hB : B ≤ W.heap.size) (hl : ll.length ≤ 1000000) (hr : ∀ r ∈ ll, r.length ≤ 1000000) (ht : took ll ≤ 100000000) :
    Calls Tryz.prog 45 #[.slice A ll.length c] W fun e w' => Wrote W W.heap.size (wr ll) e w' := by
  have HR := Lib.hid hr
  clear hr
  go_enter Tryz.func45, Tryz.ntmps45
  go_wp2_with fail
  go_loopw [4, 9] (fun x i w1 => ∃ k : Nat, k ≤ ll.length ∧ i = .int .i64 k ∧ Own5 w1 W.heap.size x (wr (ll.take k)) ∧ Below W.heap.size W w1) (fun _ i _ => ll.length - (intOf i).toNat)
  case atStart => exact ⟨0, Nat.zero_le _, rfl, Own5.nil _ _, Below.refl _ _⟩
  case round =>
    obtain ⟨k, hk, rfl, ho, hb⟩ := hrel
    rename World => w1
    have HO := Lib.hid ho
    have HB := Lib.hid hb
    clear ho hb
    by_cases hlt : k < ll.length
    · have HN := Lib.hid (wr_next ll k hlt)
      have HL := Lib.hid (wr_len ll k)
      have HL1 := Lib.hid (wr_len ll (k + 1))
      have hmem : ll.getD k [] ∈ ll := by rw [List.getD, List.getElem?_eq_getElem hlt]; exact List.getElem_mem hlt
      have hrl := HR.out _ hmem
      obtain ⟨ad, Ak, ck, rfl, _, hcell, hck, hm, hbts⟩ := (h.below (HB.out.mono hB)).at_ hlt
      clear hmem
      generalize ll.getD k [] = r at *
      generalize wr (ll.take k) = o at *
      have hcrc := crc_lt r
      have ho1 : o.length ≤ 100000000 := Nat.le_trans HL.out ht
      have hbts1 := hbts.more hB
      clear hbts
      go_wp2_with fail
      refine (lay_any _ _ _ _ _ (by omega) HO.out HB.out.size (by omega)).mono ?_
      rintro e w2 ⟨v2, rfl, ho2, hb2⟩
      have HO2 := Lib.hid ho2
      have HB2 := Lib.hid (HB.out.trans hb2)
      have hbts2 := hbts1.below hb2
      clear ho2 hb2
      go_wp2_with fail
      refine (crc_any _ _ _ _ _ hbts2 (by omega)).mono ?_
      rintro e w' ⟨rfl, rfl⟩
      go_wp2_with fail
      refine (lay_any _ _ _ _ _ (by omega) HO2.out HB2.out.size (by rw [List.length_append, le4_length]; omega)).mono ?_
      rintro e w3 ⟨v3, rfl, ho3, hb3⟩
      have HO3 := Lib.hid ho3
      have HB3 := Lib.hid (HB2.out.trans hb3)
      have hbts3 := hbts2.below hb3
      clear hb3
      go_wp2_with (at_builtin; refine app5 (.tmp 25) (.tmp 26) rfl rfl W.heap.size _ (o ++ le4 r.length ++ le4 (crc r)) r rfl ho3 _ _ ck rfl hbts3 (by simp only [List.length_append, le4_length]; omega) HB3.out.size ?_; intro v4 w4 hown4 hg4)
      have HB4 := Lib.hid (grown_below HB3.out (Nat.le_refl _) ho3 hg4)
      have HO4 := Lib.hid hown4
      clear hown4 hg4 ho3
      go_wp2_with fail
      go_roundw
      case rel => exact ⟨k + 1, by omega, by go_num, by rw [HN.out]; exact HO4.out, HB4.out⟩
      case measure => simp [intOf]; omega
    · obtain rfl : k = ll.length := by omega
      go_wp2_with fail
      refine bodyPost_ret (by simp [results, Tryz.results45, go_sem]; rfl) rfl ⟨_, rfl, ?_, HB.out⟩
      have := HO.out
      rw [List.take_length] at this
      exact this
end Go.Proofs.YtidadjlhnlmfkaaGreatDoor
