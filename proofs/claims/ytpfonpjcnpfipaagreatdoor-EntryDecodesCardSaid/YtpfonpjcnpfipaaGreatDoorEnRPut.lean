/- The document's Put. Conditions: as stated. -/
import Derived.Test.YtpfonpjcnpfipaaGreatDoorEnPut
namespace Go.Proofs.YtpfonpjcnpfipaaGreatDoor
set_option maxRecDepth 100000
namespace En
open Go.RowKit Go Go.Proofs.YtpfonpjcnpfipaaGreatDoor.Pa
attribute [local go_sem] Oper.semAt_some
set_option maxHeartbeats 1600000 in
theorem rput_any {w : World} {A : Option Addr} {ls : List L} (h : Rws w w.heap.size A ls) (n c : Nat) (hn : ls.length = n) (ht : (putS ls).length ≤ 100000000) (hG : GlT w) :
    Calls Tryz.prog 33 #[.slice A n c] w (OutP w (putS ls)) := by
  have HEL := Lib.hid (fun k (hk : k < ls.length) => rws_els h hk)
  have HTK : Hid (∀ k, k < ls.length → putS (ls.take (k + 1)) = putS (ls.take k) ++ dec (ls.getD k []).length ++ [58] ++ ls.getD k [] ++ [44]) := Lib.hid fun k hk => put_take hk
  have HLE := Lib.hid (put_le ls)
  have HEND : Hid (putS (ls.take n) = putS ls) := Lib.hid (by rw [← hn, List.take_length])
  have HGT := Lib.hid (fun (X : World) (hX : Below w.heap.size w X) => hG.below hX hG.lt)
  have hnt := put_count ls
  rw [hn] at HEL HTK hnt
  clear h hn hG
  unfold OutP
  go_enter Tryz.func33, Tryz.ntmps33
  go_wp2_with fail
  go_loopw [3, 8] (fun x i wr => ∃ j : Nat, j ≤ n ∧ i = .int .i64 (j : Nat) ∧ Own5 wr w.heap.size x (putS (ls.take j)) ∧ Below w.heap.size w wr) (fun _ i _ => n + 1 - (intOf i).toNat)
  case atStart => exact ⟨0, Nat.zero_le _, rfl, Own5.nil _ _, Below.refl _ _⟩
  case round =>
    obtain ⟨j, hj, rfl, hown, hbel⟩ := hrel
    have HO := Lib.hid hown
    have HB := Lib.hid hbel
    have hN := hbel.size
    obtain ⟨A6, c6, rfl, _, _⟩ := own_slice hown
    clear hown hbel
    by_cases hlt : j < n
    · obtain ⟨g, o, A', c', rfl, hg, hX, hc1, hc2⟩ := HEL.out j hlt
      obtain ⟨hcell, hbt⟩ := hX wr HB.out
      have HXB := Lib.hid (fun X hX' => (hX X hX').2)
      have HK := Lib.hid (HTK.out j hlt)
      have hle := HLE.out (j + 1)
      rw [HK.out] at hle
      simp only [List.length_append, List.length_cons, List.length_nil] at hle
      have HDG := Lib.hid (itoa_any (ls.getD j []).length wr (by omega) (HGT.out _ HB.out))
      have hcat : str (Lib.decDigits (ls.getD j []).length) ++ (⟨#[58]⟩ : ByteArray) = str (dec (ls.getD j []).length ++ [58]) := str_append _ [58]
      have hsz := str_size (Lib.decDigits (ls.getD j []).length)
      have hdl : (Lib.decDigits (ls.getD j []).length).length = (dec (ls.getD j []).length).length := rfl
      have hdb := dec_len2 (v := ((ls.getD j []).length : Int)) (by omega) (by omega)
      rw [show ((ls.getD j []).length : Int).toNat = (ls.getD j []).length from rfl] at hdb
      clear hX hbt
      generalize putS (ls.take j) = lj at *
      generalize ls.getD j [] = p at *
      generalize str (Lib.decDigits p.length) = sd at *
      rw [hdl] at hsz
      generalize dec p.length = d at *
      clear hdl
      generalize hsdd : str (d ++ [58]) = sdd at *
      have HSD := Lib.hid hsdd.symm
      clear hsdd
      generalize hln : lj.length = ln at *
      generalize hpn : p.length = pn at *
      generalize hdn : d.length = dn at *
      have HLN := Lib.hid (And.intro hln (And.intro hpn hdn))
      clear hln hpn hdn
      have hjn : (j : Int) < (n : Int) := by omega
      go_wp2_with (first
        | (go_at_call 46; refine HDG.out.mono ?_; rintro e w2 ⟨rfl, hb2⟩; have HB2 := Lib.hid (HB.out.trans (hb2.mono hN)); have HO2 : Hid (Own5 w2 w.heap.size (.slice A6 ln c6) lj) := Lib.hid (own_kept HO.out hb2 (Nat.le_refl _)); have hN2 := HB2.out.size; clear hb2)
        | (refine lapp5s (.tmp 12) (.tmp 16) rfl rfl (l := lj) (m := d ++ [58]) rfl HO2.out rfl HSD.out (by simp only [List.length_append, List.length_cons, List.length_nil]; rw [HLN.out.1, HLN.out.2.2]; omega) hN2 ?_; intro v4 w4 h1 h2; have HO4 := Lib.hid h1; have HB4 := Lib.hid (HB2.out.grown h2 hN2 (own5_low HO2.out)); have hN4 := HB4.out.size; clear h1 h2)
        | (refine app5 (.tmp 18) (.tmp 19) rfl rfl _ _ _ p rfl HO4.out _ _ _ (by rw [HLN.out.2.1]; rfl) (HXB.out _ HB4.out) (by simp only [List.length_append, List.length_cons, List.length_nil]; rw [HLN.out.1, HLN.out.2.2, HLN.out.2.1]; omega) hN4 ?_; intro v5 w5 h1 h2; have HO5 : Hid (Own5 w5 w.heap.size v5 (lj ++ (d ++ [58]) ++ p)) := Lib.hid h1; have HB5 := Lib.hid (HB4.out.grown h2 hN4 (own5_low HO4.out)); have hN5 := HB5.out.size; clear h1 h2)
        | (refine app5 (.tmp 20) (.tmp 21) rfl rfl _ _ _ [44] rfl (own_kept HO5.out ((Below.refl _ w5).alloc (Nat.le_refl _) _) (Nat.le_refl _)) _ _ _ rfl (bts_new w5 [44] _ _ rfl) (by simp only [List.length_append, List.length_cons, List.length_nil]; rw [HLN.out.1, HLN.out.2.2, HLN.out.2.1]; omega) (by simp; omega) ?_; intro v6 w6 h1 h2; have HO6 : Hid (Own5 w6 w.heap.size v6 (lj ++ (d ++ [58]) ++ p ++ [44])) := Lib.hid h1; have HB6 := Lib.hid ((HB5.out.alloc hN5 _).grown h2 (by simp; omega) (own5_low HO5.out)); clear h1 h2)
        | fail)
      go_roundw
      case rel => exact ⟨j + 1, by omega, by go_num, by rw [HK.out, List.append_assoc _ d [58]]; exact HO6.out, HB6.out⟩
      case measure => simp [intOf]; omega
    · obtain rfl : j = n := by omega
      have hz : ¬ (j : Int) < (j : Int) := by omega
      generalize (putS (ls.take j)).length = ln at *
      rw [HEND.out] at HO
      go_wp2_with fail
      go_ret
      exact ⟨_, rfl, HO.out, HB.out⟩
