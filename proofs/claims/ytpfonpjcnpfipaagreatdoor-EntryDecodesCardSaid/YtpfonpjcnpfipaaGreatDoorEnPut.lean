/- entry.digits, entry.Put; the document's. Conditions: as stated at each. -/
import Derived.Test.YtpfonpjcnpfipaaGreatDoorEnLib
namespace Go.Proofs.YtpfonpjcnpfipaaGreatDoor
set_option maxRecDepth 100000
namespace En
open Go.RowKit Go Go.Proofs.YtpfonpjcnpfipaaGreatDoor.Pa
attribute [local go_sem] Oper.semAt_some
/-- a slice of these bytes is answered. -/
def OutS (w : World) (t : L) (e : Ending) (w' : World) : Prop := ∃ A c, e = .returned (.slice A t.length c) ∧ Bts w' w'.heap.size A t ∧ t.length ≤ c ∧ c ≤ maxLen ∧ Below w.heap.size w w'
theorem OutP.outS {w : World} {t : L} {e : Ending} {w' : World} (h : OutP w t e w') : OutS w t e w' := by
  obtain ⟨v, rfl, h2, h3⟩ := h
  obtain ⟨A, c, rfl, h4, h5⟩ := own_slice h2
  exact ⟨A, c, rfl, h2.bts, h4, h5, h3⟩
theorem OutP.outS' {f : Nat} {ar : Array Value} {w : World} {t : L} (h : Calls Tryz.prog f ar w (OutP w t)) : Calls Tryz.prog f ar w (OutS w t) := h.mono fun _ _ h => h.outS
/-- a text made bytes. -/
theorem run_bts (l : L) (hl : l.length ≤ 1000000) (w : World) : ∃ c w', (convert 9 22 (.string (str l))).run Tryz.prog w = .ok (.slice (some ⟨w.heap.size, 0, none⟩) l.length c) w' ∧ l.length ≤ c ∧ c ≤ maxLen ∧ Bts w' (w.heap.size + 1) (some ⟨w.heap.size, 0, none⟩) l ∧ Below w.heap.size w w' ∧ w'.heap.size = w.heap.size + 1 := by
  have hrun := run_bytes_of_string (P := Tryz.prog) w 9 22 5 (str l) Tryz.underlying9 Tryz.underlying22 Tryz.underlying5
  rw [show (str l).size = l.length from str_size l] at hrun
  refine ⟨_, _, hrun, ?_, ?_, ?_, ((Below.refl _ w).drew).alloc (Nat.le_refl _) _, by simp⟩
  · exact grownCap_ge w l.length 0 5
  · exact grownCap_le_maxLen w _ 0 5 (by unfold maxLen; omega)
  · intro j u hj
    have hj' : j < l.length := by
      rw [← bv_length]
      exact (List.getElem?_eq_some_iff.1 hj).1
    rw [bv_get _ _ hj'] at hj
    injection hj with hj
    subst hj
    refine ⟨_, rfl, by simp, ?_⟩
    rw [add_at, Nat.zero_add]
    refine (cell_of_row _ w.heap.size j _ _ _ (heap_alloc_new w.drew _)).trans ?_
    rw [bytesRow_at _ _ j (by simpa [str] using hj')]
    simp [str, List.getD, hj']
theorem digits_any (v : Int) (w : World) (h0 : 0 ≤ v) (h1 : v < 9223372036854775808) (hG : GlT w) : Calls Tryz.prog 17 #[.int .i64 v] w (OutP w (dec v.toNat)) := by
  have HA := Lib.hid (appint_any v w (by omega) h1 hG)
  rw [itoa_dec h0] at HA
  go_enter Tryz.func17, Tryz.ntmps17
  go_wp2_with (first
    | (go_at_call 34; refine HA.out.mono ?_; rintro e w2 ⟨v2, rfl, h2, h3⟩; have H2 := Lib.hid h2; have H3 := Lib.hid h3; clear h2 h3)
    | fail)
  go_ret
  exact ⟨_, rfl, H2.out, H3.out⟩
theorem dec_len2 {v : Int} (h0 : 0 ≤ v) (h1 : v < 9223372036854775808) : (dec v.toNat).length ≤ 30 := dec_len (by omega)
theorem rdigits_any (v : Int) (w : World) (h0 : 0 ≤ v) (h1 : v < 9223372036854775808) (hG : GlT w) : Calls Tryz.prog 32 #[.int .i64 v] w (OutS w (dec v.toNat)) := by
  have HA := Lib.hid (format_any v w (by omega) h1 hG)
  rw [itoa_dec h0] at HA
  have HB := Lib.hid (run_bts (dec v.toNat) (by have := dec_len2 h0 h1; omega))
  unfold OutS
  generalize dec v.toNat = d at *
  generalize str d = s at *
  go_enter Tryz.func32, Tryz.ntmps32
  go_wp2_with fail
  refine HA.out.mono ?_
  rintro e w2 ⟨rfl, hb2⟩
  obtain ⟨c, w3, hrun, hc1, hc2, hbt, hb3, hsz⟩ := HB.out w2
  have HBT := Lib.hid hbt
  have HB3 := Lib.hid (hb2.trans (hb3.mono hb2.size))
  clear hbt hb2 hb3 HA HB
  go_wp2_with fail
  go_ret
  exact ⟨_, _, rfl, HBT.out.more (by omega), hc1, hc2, HB3.out⟩
theorem put_take {ls : List L} {k : Nat} (h : k < ls.length) : putS (ls.take (k + 1)) = putS (ls.take k) ++ dec (ls.getD k []).length ++ [58] ++ ls.getD k [] ++ [44] := by
  have hd : ls.getD k [] = ls[k] := by simp [List.getD, h]
  rw [List.take_succ_eq_append_getElem h, put_app, put_one, hd]
  simp [partS]
theorem put_le (ls : List L) (k : Nat) : (putS (ls.take k)).length ≤ (putS ls).length := by
  have := congrArg (fun l : List L => (putS l).length) (List.take_append_drop k ls)
  simp only [put_app, List.length_append] at this
  omega
theorem put_count (ls : List L) : ls.length ≤ (putS ls).length := by
  induction ls with
  | nil => simp
  | cons p l ih =>
    rw [put_cons, List.length_append]
    have := List.length_pos_iff.2 (part_ne p)
    simp; omega
/-- the slice of slices at hand, whatever is made behind. -/
theorem rws_els {w : World} {B : Nat} {A : Option Addr} {ls : List L} (h : Rws w B A ls) {k : Nat} (hk : k < ls.length) : ∃ g o A' c', A = some ⟨g, o, none⟩ ∧ g < B ∧ (∀ X, Below B w X → X.cell? ⟨g, o + k, none⟩ = some (.slice A' (ls.getD k []).length c') ∧ Bts X B A' (ls.getD k [])) ∧ (ls.getD k []).length ≤ c' ∧ c' ≤ maxLen := by
  obtain ⟨ad0, A0, c0, e0, hb0, hc0, _⟩ := h.at_ (k := 0) (by omega)
  rw [add_0] at hc0
  have hsp := World.cell?_spot hc0
  obtain ⟨g, o, sp⟩ := ad0
  obtain rfl : sp = none := hsp
  obtain ⟨ad, A', c', e, hb, hc, h1, h2, h3⟩ := h.at_ hk
  rw [e0] at e
  injection e with e
  subst e
  rw [add_at] at hc
  exact ⟨g, o, A', c', e0, hb0, fun X hX => ⟨(hX.cell (p := ⟨g, o + k, none⟩) hb).trans hc, h3.below hX⟩, h1, h2⟩
set_option maxHeartbeats 1600000 in
theorem put_any {w : World} {A : Option Addr} {ls : List L} (h : Rws w w.heap.size A ls) (n c : Nat) (hn : ls.length = n) (ht : (putS ls).length ≤ 100000000) (hG : GlT w) :
    Calls Tryz.prog 8 #[.slice A n c] w (OutP w (putS ls)) := by
  have HEL := Lib.hid (fun k (hk : k < ls.length) => rws_els h hk)
  have HTK : Hid (∀ k, k < ls.length → putS (ls.take (k + 1)) = putS (ls.take k) ++ dec (ls.getD k []).length ++ [58] ++ ls.getD k [] ++ [44]) := Lib.hid fun k hk => put_take hk
  have HLE := Lib.hid (put_le ls)
  have HEND : Hid (putS (ls.take n) = putS ls) := Lib.hid (by rw [← hn, List.take_length])
  have HGT := Lib.hid (fun (X : World) (hX : Below w.heap.size w X) => hG.below hX hG.lt)
  have hnt := put_count ls
  rw [hn] at HEL HTK hnt
  clear h hn hG
  unfold OutP
  go_enter Tryz.func8, Tryz.ntmps8
  go_wp2_with fail
  go_loopw [3, 8] (fun x i wr => ∃ j : Nat, j ≤ n ∧ i = .int .i64 (j : Nat) ∧ Own5 wr w.heap.size x (putS (ls.take j)) ∧ Below w.heap.size w wr) (fun _ i _ => n + 1 - (intOf i).toNat)
  case atStart => exact ⟨0, Nat.zero_le _, rfl, Own5.nil _ _, Below.refl _ _⟩
  case round =>
    obtain ⟨j, hj, rfl, hown, hbel⟩ := hrel
    have HO := Lib.hid hown
    have HB := Lib.hid hbel
    have hN := hbel.size
    obtain ⟨A6, c6, rfl, _, _⟩ := own_slice hown
    clear hown hbel
    by_cases hlt : j < n
    · obtain ⟨g, o, A', c', rfl, hg, hX, hc1, hc2⟩ := HEL.out j hlt
      obtain ⟨hcell, hbt⟩ := hX wr HB.out
      have HXB := Lib.hid (fun X hX' => (hX X hX').2)
      have HK := Lib.hid (HTK.out j hlt)
      have hle := HLE.out (j + 1)
      rw [HK.out] at hle
      simp only [List.length_append, List.length_cons, List.length_nil] at hle
      have HDG := Lib.hid (digits_any ((ls.getD j []).length : Int) wr (by omega) (by omega) (HGT.out _ HB.out))
      rw [show ((ls.getD j []).length : Int).toNat = (ls.getD j []).length from rfl] at HDG
      have h58 : (⟨#[58]⟩ : ByteArray) = str [58] := rfl
      have h44 : (⟨#[44]⟩ : ByteArray) = str [44] := rfl
      clear hX hbt
      generalize putS (ls.take j) = lj at *
      generalize ls.getD j [] = p at *
      generalize dec p.length = d at *
      generalize hln : lj.length = ln at *
      generalize hpn : p.length = pn at *
      generalize hdn : d.length = dn at *
      have HLN := Lib.hid (And.intro hln (And.intro hpn hdn))
      clear hln hpn hdn
      have hjn : (j : Int) < (n : Int) := by omega
      go_wp2_with (first
        | (go_at_call 17; refine HDG.out.mono ?_; rintro e w2 ⟨v2, rfl, hd2, hb2⟩; have HD2 := Lib.hid hd2; have HB2 := Lib.hid (HB.out.trans (hb2.mono hN)); have HO2 : Hid (Own5 w2 w.heap.size (.slice A6 ln c6) lj) := Lib.hid (own_kept HO.out hb2 (Nat.le_refl _)); obtain ⟨A2, c2, e2, _, _⟩ := own_slice hd2; rw [HLN.out.2.2] at e2; subst e2; have hN2 := HB2.out.size; clear hd2 hb2)
        | (refine app5 (.tmp 12) (.tmp 15) rfl rfl _ _ lj d rfl HO2.out _ _ _ (by rw [HLN.out.2.2]; rfl) HD2.out.bts (by rw [HLN.out.1, HLN.out.2.2]; omega) hN2 ?_; intro v3 w3 h1 h2; have HO3 : Hid (Own5 w3 w.heap.size v3 (lj ++ d)) := Lib.hid h1; have HB3 := Lib.hid (HB2.out.grown h2 hN2 (own5_low HO2.out)); have hN3 := HB3.out.size; clear h1 h2)
        | (refine lapp5s (.tmp 17) (.const (.string ⟨#[58]⟩)) rfl rfl (l := lj ++ d) (m := [58]) rfl HO3.out rfl rfl (by simp only [List.length_append, List.length_cons, List.length_nil]; rw [HLN.out.1, HLN.out.2.2]; omega) hN3 ?_; intro v4 w4 h1 h2; have HO4 := Lib.hid h1; have HB4 := Lib.hid (HB3.out.grown h2 hN3 (own5_low HO3.out)); have hN4 := HB4.out.size; clear h1 h2)
        | (refine app5 (.tmp 19) (.tmp 20) rfl rfl _ _ _ p rfl HO4.out _ _ _ (by rw [HLN.out.2.1]; rfl) (HXB.out _ HB4.out) (by simp only [List.length_append, List.length_cons, List.length_nil]; rw [HLN.out.1, HLN.out.2.2, HLN.out.2.1]; omega) hN4 ?_; intro v5 w5 h1 h2; have HO5 : Hid (Own5 w5 w.heap.size v5 (lj ++ d ++ [58] ++ p)) := Lib.hid h1; have HB5 := Lib.hid (HB4.out.grown h2 hN4 (own5_low HO4.out)); have hN5 := HB5.out.size; clear h1 h2)
        | (refine lapp5s (.tmp 22) (.const (.string ⟨#[44]⟩)) rfl rfl (l := lj ++ d ++ [58] ++ p) (m := [44]) rfl HO5.out rfl rfl (by simp only [List.length_append, List.length_cons, List.length_nil]; rw [HLN.out.1, HLN.out.2.2, HLN.out.2.1]; omega) hN5 ?_; intro v6 w6 h1 h2; have HO6 := Lib.hid h1; have HB6 := Lib.hid (HB5.out.grown h2 hN5 (own5_low HO5.out)); clear h1 h2)
        | fail)
      go_roundw
      case rel => exact ⟨j + 1, by omega, by go_num, by rw [HK.out]; exact HO6.out, HB6.out⟩
      case measure => simp [intOf]; omega
    · obtain rfl : j = n := by omega
      have hz : ¬ (j : Int) < (j : Int) := by omega
      generalize (putS (ls.take j)).length = ln at *
      rw [HEND.out] at HO
      go_wp2_with fail
      go_ret
      exact ⟨_, rfl, HO.out, HB.out⟩
end En
end Go.Proofs.YtpfonpjcnpfipaaGreatDoor
