/- EnRNum EnRTake. Conditions: as stated at each. -/
import Derived.Test.YteapnkedpmcokaaGreatDoorRm31
import Derived.Test.YteapnkedpmcokaaGreatDoorRm21
import Derived.Test.YteapnkedpmcokaaGreatDoorRm19
import Derived.Deep.QuietTactic
/- The document's Number, with what it answers beside false. Conditions: as stated at each. -/
namespace Go.Proofs.YteapnkedpmcokaaGreatDoor
set_option maxRecDepth 100000
namespace En
open Go.RowKit Go Go.Proofs.YteapnkedpmcokaaGreatDoor.Pa Go.Proofs.YteapnkedpmcokaaGreatDoor.Mb
def NumB (w : World) (ds : L) (e : Ending) (w' : World) : Prop := Below w.heap.size w w' ∧ ((∃ n : Nat, numS ds = some n ∧ e = .returned (.tuple #[.int .i64 (n : Int), .bool true])) ∨ (numS ds = none ∧ ∃ v : Int, e = .returned (.tuple #[.int .i64 v, .bool false]) ∧ -9223372036854775808 ≤ v ∧ v < 9223372036854775808))
set_option maxHeartbeats 1600000 in
theorem rnumber_b (ds : L) (w : World) (hl : ds.length ≤ 1000000) :
    Calls Tryz.prog 48 #[.string (str ds)] w (NumB w ds) := by
  have hsz := str_size ds
  have HAT := Lib.hid (str_at ds)
  have HEM := Lib.hid (En.str_empty ds)
  have HE1 : Hid (((str ds).toList == [48]) = (ds == [48])) := Lib.hid (by rw [Go.Lib.toList_data]; rfl)
  have HDA := Lib.hid (digs_all (ds := ds))
  generalize hs : str ds = s at *
  have HS := Lib.hid hs
  clear hs
  go_enter Tryz.func48, Tryz.ntmps48
  go_wp2_with fail
  go_loopw [4, 5] (fun x i wr => ∃ k : Nat, i = .int .i64 k ∧ k ≤ ds.length ∧ x = .int .i64 (valL (ds.take k) : Int) ∧ (∀ j, j < k → digB (ds.getD j 0)) ∧ valL (ds.take k) < 9223372036854775808 ∧ Below w.heap.size w wr) (fun _ i _ => ds.length + 1 - (intOf i).toNat)
  case atStart => exact ⟨0, rfl, Nat.zero_le _, rfl, fun j hj => absurd hj (Nat.not_lt_zero _), by simp [valL, valF], Below.refl _ _⟩
  case round =>
    obtain ⟨k, rfl, hk, rfl, hdg, hv, hbel⟩ := hrel
    have HB := Lib.hid hbel
    have HDG := Lib.hid hdg
    clear hbel hdg
    by_cases hlt : k < ds.length
    · have hks : k < s.size := by omega
      have hc := HAT.out k hks
      have hnext := val_next hlt
      by_cases hd : digB (ds.getD k 0)
      · have hdd : 48 ≤ (ds.getD k 0).toNat ∧ (ds.getD k 0).toNat ≤ 57 := hd
        have HD := Lib.hid hd
        clear hd
        generalize hcc : ds.getD k 0 = c at *
        have HCC := Lib.hid hcc
        clear hcc
        generalize valL (ds.take k) = n at *
        generalize hv2 : valL (ds.take (k + 1)) = n2 at *
        have HV2 := Lib.hid hv2
        clear hv2
        have z0 : ¬ (c.toNat : Int) - 48 < 0 := by omega
        have z1 : ¬ (9 : Int) < (c.toNat : Int) - 48 := by omega
        have hw0 : IntKind.i64.wrap ((c.toNat : Int) - 48) = (c.toNat : Int) - 48 := IntWalk.i64_in _ (by omega)
        have hw1 : IntKind.i64.wrap (9223372036854775807 - ((c.toNat : Int) - 48)) = 9223372036854775807 - ((c.toNat : Int) - 48) := IntWalk.i64_in _ (by omega)
        by_cases hbig : n2 < 9223372036854775808
        · go_wp2_with fail
          go_roundw
          case rel =>
            refine ⟨k + 1, by go_num, by omega, ?_, ?_, by rw [HV2.out]; exact hbig, HB.out⟩
            · rw [HV2.out]
              go_num
            · intro j hj
              rcases Nat.lt_or_ge j k with h3 | h3
              · exact HDG.out j h3
              · have hjk : j = k := by omega
                subst hjk
                rw [HCC.out]
                exact HD.out
          case measure => simp [intOf]; omega
        · have hbn : numS ds = none := num_big (k := k + 1) (by rw [HV2.out]; omega)
          go_wp2_with fail
          refine bodyPost_ret (results_tmp2 rfl _ _ _) rfl ?_
          exact ⟨HB.out, .inr ⟨hbn, _, rfl, by omega, by omega⟩⟩
      · have hbn : numS ds = none := num_no_dig hlt hd
        have hd2 : (ds.getD k 0).toNat < 48 ∨ 57 < (ds.getD k 0).toNat := by
          unfold digB at hd
          omega
        clear hd hnext
        have hct := (ds.getD k 0).toNat_lt
        generalize ds.getD k 0 = c at *
        generalize valL (ds.take k) = n at *
        have hw0 : IntKind.i64.wrap ((c.toNat : Int) - 48) = (c.toNat : Int) - 48 := IntWalk.i64_in _ (by omega)
        rcases hd2 with hd2 | hd2
        · have z0 : (c.toNat : Int) - 48 < 0 := by omega
          go_wp2_with fail
          refine bodyPost_ret (results_tmp2 rfl _ _ _) rfl ?_
          exact ⟨HB.out, .inr ⟨hbn, _, rfl, by omega, by omega⟩⟩
        · have z0 : ¬ (c.toNat : Int) - 48 < 0 := by omega
          have z1 : (9 : Int) < (c.toNat : Int) - 48 := by omega
          go_wp2_with fail
          refine bodyPost_ret (results_tmp2 rfl _ _ _) rfl ?_
          exact ⟨HB.out, .inr ⟨hbn, _, rfl, by omega, by omega⟩⟩
    · obtain rfl : k = ds.length := by omega
      rw [List.take_length] at *
      have HDD := Lib.hid (HDA.out HDG.out)
      generalize hv0 : valL ds = n at *
      have HV0 := Lib.hid hv0
      clear hv0 HDG
      by_cases hnil : ds = []
      · have hsn : s.size = 0 := by rw [hsz, hnil]; rfl
        have hbn : numS ds = none := by rw [hnil]; exact num_nil
        have HE0 : (s.toList == []) = true := by rw [HEM.out, hnil]; rfl
        have HE9 : (s.toList == [48]) = false := by rw [HE1.out, hnil]; rfl
        go_wp2_with fail
        refine bodyPost_ret (results_tmp2 rfl _ _ _) rfl ?_
        exact ⟨HB.out, .inr ⟨hbn, _, rfl, by omega, by omega⟩⟩
      · have hsp : 0 < s.size := by rw [hsz]; exact List.length_pos_iff.2 hnil
        have HE0 : (s.toList == []) = false := by rw [HEM.out]; simpa using hnil
        have hc0 := HAT.out 0 hsp
        have hh : ds.head? = some (ds.getD 0 0) := by
          cases ds with
          | nil => exact absurd rfl hnil
          | cons x t => rfl
        have HH := Lib.hid hh
        clear hh
        generalize ds.getD 0 0 = c at *
        have hct := c.toNat_lt
        by_cases h48 : c = 48
        · subst h48
          by_cases h1 : ds = [48]
          · have HE9 : (s.toList == [48]) = true := by rw [HE1.out, h1]; rfl
            have hsm : numS ds = some n := by rw [← HV0.out]; exact num_all HDD.out hnil (.inr h1) (by rw [HV0.out]; exact hv)
            go_wp2_with fail
            refine bodyPost_ret (results_tmp2 rfl _ _ _) rfl ?_
            exact ⟨HB.out, .inl ⟨_, hsm, rfl⟩⟩
          · have HE9 : (s.toList == [48]) = false := by rw [HE1.out]; simpa using h1
            have hbn : numS ds = none := num_zero HH.out h1
            go_wp2_with fail
            refine bodyPost_ret (results_tmp2 rfl _ _ _) rfl ?_
            exact ⟨HB.out, .inr ⟨hbn, _, rfl, by omega, by omega⟩⟩
        · have h48' : ¬ (c.toNat : Int) = 48 := by
            intro e
            exact h48 (UInt8.toNat_inj.1 (by show c.toNat = 48; omega))
          have hsm : numS ds = some n := by
            rw [← HV0.out]
            exact num_all HDD.out hnil (.inl (by rw [HH.out]; intro e; injection e with e; exact h48 e)) (by rw [HV0.out]; exact hv)
          go_wp2_with fail
          refine bodyPost_ret (results_tmp2 rfl _ _ _) rfl ?_
          exact ⟨HB.out, .inl ⟨_, hsm, rfl⟩⟩
end En
end Go.Proofs.YteapnkedpmcokaaGreatDoor
/- The document's Take. Conditions: as stated at each. -/
namespace Go.Proofs.YteapnkedpmcokaaGreatDoor
set_option maxRecDepth 100000
namespace En
open Go.RowKit Go Go.Proofs.YteapnkedpmcokaaGreatDoor.Pa
attribute [local go_sem] Oper.semAt_some
theorem step5 {ops : Array Oper} {o : Oper} {a : Act} {w : World} {K : Act → World → Prop} {Q : Exit → Act → World → Prop} {E : Prop} (s x : Operand)
    (ho : o.op = .call { callee := .builtin .append, args := #[s, x], argTypes := #[25, 25] }) (hgd : o.guard = none)
    {N : Nat} {v : Value} {l m : L} (hs : a.eval s = v) (hown : Own5 w N v l) {B : Nat} {A : Option Addr} {c : Nat} (hx : a.eval x = .slice A m.length c) (hr : Bts w B A m) (h63 : l.length + m.length ≤ 1000000000) (hN : N ≤ w.heap.size)
    (h : ∀ v' w', Own5 w' N v' (l ++ m) → w.grownBy w' v.ownBlock → K (a.put o.dst v') w') : if Region.wanted o (yielded ops a.tmps) = true then Oper.wp Tryz.prog o a w K Q else E := by
  have hw : Region.wanted o (yielded ops a.tmps) = true := by simp [Region.wanted, hgd]
  rw [if_pos hw]
  obtain ⟨i, hi, hz, h0, h1⟩ := info_parts info5
  refine wp_app s x ho Tryz.underlying25 hi hz h0 h1 rfl hs hown hx hr (bv_length m) (bv_one m) h63 (by decide) hN fun v' w' h2 h3 => h v' w' ?_ h3
  unfold Own5
  rw [List.length_append, bv_append]
  exact h2
theorem dec_len7 {n : Nat} (h : n ≤ 1000000) : (dec n).length ≤ 7 := by
  have key : ∀ (k n : Nat), n < 10 ^ k → (Lib.decDigits n).length ≤ max k 1 := by
    intro k
    induction k with
    | zero =>
      intro n hn
      have : n = 0 := by simpa using hn
      subst this
      simp [Lib.decDigits]
    | succ k ih =>
      intro n hn
      rw [Lib.decDigits]
      split
      · simp
      · rw [List.length_append, List.length_singleton]
        have h1 := ih (n / 10) (by rw [Nat.pow_succ] at hn; omega)
        have : 1 ≤ k := by
          rcases Nat.eq_zero_or_pos k with h0 | h0
          · subst h0; omega
          · exact h0
        omega
  have := key 7 n (by omega)
  unfold dec
  omega
theorem first_col {b : L} {k : Nat} (hk : k < b.length) (h : b.getD k 0 = 58) (hn : ∀ j, j < k → b.getD j 0 ≠ 58) : (58 : UInt8) ∈ b ∧ Pa.ahead 58 b = b.take k ∧ Pa.behind 58 b = b.drop (k + 1) := by
  have hm : b = b.take k ++ 58 :: b.drop (k + 1) := by
    conv => lhs; rw [← List.take_append_drop k b]
    congr 1
    rw [List.drop_eq_getElem_cons hk]
    congr 1
    rw [← h]
    simp [List.getD, hk]
  have hno : (58 : UInt8) ∉ b.take k := fun hc => by
    obtain ⟨j, hj, e⟩ := List.mem_iff_getElem.1 hc
    rw [List.length_take] at hj
    refine hn j (by omega) ?_
    rw [List.getElem_take] at e
    simp [List.getD, show j < b.length by omega, e]
  have := ahead_at (b := b.drop (k + 1)) hno
  rw [← hm] at this
  exact ⟨by rw [hm]; simp, this.1, this.2⟩
def takeAt (b : L) (k : Nat) : Option (L × L) := match Mb.numS (b.take k) with
  | some n => if n ≤ 1000000 ∧ n < (b.drop (k + 1)).length ∧ (b.drop (k + 1)).getD n 0 = 44 then some ((b.drop (k + 1)).take n, (b.drop (k + 1)).drop (n + 1)) else none
  | none => none
theorem take_hit {b : L} {k : Nat} (hk : k < b.length) (h : b.getD k 0 = 58) (hn : ∀ j, j < k → b.getD j 0 ≠ 58) :
    takeS b = takeAt b k := by
  obtain ⟨h1, h2, h3⟩ := first_col hk h hn
  unfold takeS takeAt
  rw [if_pos h1, h2, h3]
  rfl
theorem at_none {b : L} {k : Nat} (h : Mb.numS (b.take k) = none) : takeAt b k = none := by unfold takeAt; rw [h]
theorem at_some {b : L} {k n : Nat} (h : Mb.numS (b.take k) = some n) : takeAt b k = if n ≤ 1000000 ∧ n < (b.drop (k + 1)).length ∧ (b.drop (k + 1)).getD n 0 = 44 then some ((b.drop (k + 1)).take n, (b.drop (k + 1)).drop (n + 1)) else none := by unfold takeAt; rw [h]
theorem take_noc {b : L} (k : Nat) (hk : k = 9 ∨ b.length ≤ k) (hn : ∀ j, j < k → b.getD j 0 ≠ 58) : takeS b = none := by
  cases ht : takeS b with
  | none => rfl
  | some q =>
    obtain ⟨p, r⟩ := q
    obtain ⟨e, hl⟩ := take_iff.1 ht
    exfalso
    have h7 := dec_len7 hl
    have hb : b.getD (dec p.length).length 0 = 58 := by
      rw [e, part_form]
      simp [List.getD]
    have hlt : (dec p.length).length < b.length := by rw [e, part_form]; simp
    exact hn _ (by omega) hb
/-- what the document's Take answers. -/
def RTakeP (w : World) (B : Nat) (A : Option Addr) (l : L) (cap : Nat) (e : Ending) (w' : World) : Prop := Below w.heap.size w w' ∧
  ((takeS l = none ∧ e = .returned (.tuple #[.slice none 0 0, .slice A l.length cap, .bool false])) ∨
   ∃ p r, takeS l = some (p, r) ∧ ∃ v A2 c2, e = .returned (.tuple #[v, .slice A2 r.length c2, .bool true]) ∧ Own5 w' w.heap.size v p ∧ Bts w B A2 r ∧ r.length ≤ c2 ∧ c2 ≤ cap ∧ (A2 = none → c2 = 0))
set_option maxHeartbeats 3200000 in
theorem rtake_any {w0 : World} {B : Nat} {A : Option Addr} {l : L} (h : Bts w0 B A l) (hB : B ≤ w0.heap.size) (cap : Nat) (hcap : l.length ≤ cap) (hA : A = none → cap = 0) (hl : l.length ≤ 1000000) :
    Calls Tryz.prog 34 #[.slice A l.length cap] w0 (RTakeP w0 B A l cap) := by
  have HHIT := Lib.hid (fun k => take_hit (b := l) (k := k))
  have HNOC := Lib.hid (fun k => take_noc (b := l) k)
  have HB0 : Hid (Bts w0 B A l) := Lib.hid h
  have HAT : Hid (0 < l.length → ∃ g o, A = some ⟨g, o, none⟩ ∧ g < B ∧ ∀ k, k < l.length → w0.cell? ⟨g, o + k, none⟩ = some (.int .u8 ((l.getD k 0).toNat : Int))) := Lib.hid (bts_at_ h)
  have HCV := Lib.hid (fun (X : World) (k : Nat) (hX : Below B w0 X) (hk : k ≤ l.length) => conv_str ((h.below hX).take k) cap)
  have HTL : Hid (∀ k, k ≤ l.length → (l.take k).length = k) := Lib.hid fun k hk => by rw [List.length_take]; omega
  have HNUM := Lib.hid (fun (X : World) (k : Nat) (hk : k ≤ l.length) => rnumber_b (l.take k) X (by rw [List.length_take]; omega))
  unfold RTakeP
  clear h
  generalize hll : l.length = ln at *
  have HLN := Lib.hid hll
  clear hll
  generalize takeS l = tk at *
  go_enter Tryz.func34, Tryz.ntmps34
  go_wp2_with fail
  go_loopw [5] (fun i wr => ∃ k : Nat, k ≤ ln ∧ k ≤ 9 ∧ i = .int .i64 k ∧ Hid (∀ j, j < k → l.getD j 0 ≠ 58) ∧ wr = w0) (fun i _ => 10 - (intOf i).toNat)
  case atStart => exact ⟨0, Nat.zero_le _, by omega, rfl, Lib.hid fun j hj => absurd hj (Nat.not_lt_zero _), rfl⟩
  case round =>
    obtain ⟨k, hk, hk9, rfl, HJ, rfl⟩ := hrel
    by_cases hend : k < ln ∧ k < 9
    · obtain ⟨hlt, hlt9⟩ := hend
      obtain ⟨g, o, rfl, hg, hcells⟩ := HAT.out (by omega)
      have hc := hcells k hlt
      by_cases h58 : l.getD k 0 = 58
      · rw [h58] at hc
        have HIT := Lib.hid (HHIT.out k hlt h58 HJ.out)
        have hcv := HCV.out wr k (Below.refl _ _) (by omega)
        have HNU := Lib.hid (HNUM.out wr k (by omega))
        rw [HTL.out k (by omega)] at hcv
        have HNN := Lib.hid (at_none (b := l) (k := k))
        have HNS := Lib.hid (fun n => at_some (b := l) (k := k) (n := n))
        have HCELL := Lib.hid hcells
        clear hcells HHIT HNOC HCV HTL HNUM h58
        generalize l.take k = ds at *
        generalize str ds = sd at *
        go_wp2_with fail
        refine HNU.out.mono ?_
        rintro e w1 ⟨hb1, ⟨n, hn, rfl⟩ | ⟨hn, v, rfl, _, _⟩⟩
        · have HB1 := Lib.hid hb1
          rw [HNS.out n hn] at HIT
          have hdl : Hid ((l.drop (k + 1)).length = ln - (k + 1)) := Lib.hid (by rw [List.length_drop, HLN.out])
          clear hb1 HNU hn
          by_cases hn1 : (1000000 : Int) < n
          · have HN : Hid (tk = none) := Lib.hid (by rw [HIT.out, if_neg (by omega)])
            go_wp2_with fail
            refine bodyPost_ret (results_tmp3 rfl _ _ _) rfl ?_
            exact ⟨HB1.out, .inl ⟨HN.out, rfl⟩⟩
          · have hnn : ¬ (1000000 : Int) < n := hn1
            by_cases hn2 : ((ln : Int) - k - 1) ≤ n
            · have HN : Hid (tk = none) := Lib.hid (by rw [HIT.out, if_neg (by rw [hdl.out]; omega)])
              go_wp2_with fail
              refine bodyPost_ret (results_tmp3 rfl _ _ _) rfl ?_
              exact ⟨HB1.out, .inl ⟨HN.out, rfl⟩⟩
            · have hc44 := (HB1.out.cell (p := ⟨g, o + (k + 1 + n), none⟩) (Nat.lt_of_lt_of_le hg hB)).trans (HCELL.out (k + 1 + n) (by omega))
              have hgd : Hid ((l.drop (k + 1)).getD n 0 = l.getD (k + 1 + n) 0) := Lib.hid (by simp [List.getD, List.getElem?_drop])
              have hnw : ¬ ((n : Int) ≥ (ln : Int) - k - 1) := by omega
              by_cases h44 : l.getD (k + 1 + n) 0 = 44
              · rw [h44] at hc44
                have HY : Hid (tk = some ((l.drop (k + 1)).take n, (l.drop (k + 1)).drop (n + 1))) := Lib.hid (by rw [HIT.out, if_pos ⟨by omega, by rw [hdl.out]; omega, by rw [hgd.out]; exact h44⟩])
                have hlt2 : (k : Int) + 1 + n < ln := by omega
                go_wp2_with fail
                have hb : Below wr.heap.size wr w1.drew := HB1.out.drew
                clear hc44 hc hcv
                refine wp_region_held_drew (S := (fun Y => Below wr.heap.size wr Y)) (by kernel_rfl) (hb) (fun hHeld => ?_)
                generalize w1.drew = w5 at *
                have hck : ¬ cap = k + 1 := by omega
                have hcase : ∃ ad cc, (∀ X, Below wr.heap.size wr X → Bts X B (some ad) (l.drop (k + 2 + n))) ∧ ln - (k + 2 + n) ≤ cc ∧ cc ≤ cap ∧ (ad = ⟨g, o + (k + 2 + n), none⟩ ∧ cc = cap - (k + 2 + n) ∧ ¬ cap = k + 2 + n ∨ ad = ⟨g, o, none⟩ ∧ cc = 0 ∧ cap = k + 2 + n) := by
                  by_cases hcc : cap = k + 2 + n
                  · exact ⟨⟨g, o, none⟩, 0, fun X hX => Bts.drop_all (HB0.out.below (hX.mono hB)) _ (by rw [HLN.out]; omega), by omega, by omega, .inr ⟨rfl, rfl, hcc⟩⟩
                  · refine ⟨⟨g, o + (k + 2 + n), none⟩, cap - (k + 2 + n), fun X hX => ?_, by omega, by omega, .inl ⟨rfl, rfl, hcc⟩⟩
                    have := (HB0.out.below (hX.mono hB)).drop_eq (k + 2 + n)
                    rwa [add_at] at this
                obtain ⟨ad, cc, hdr, hc1, hc2, hcase⟩ := hcase
                have HDR := Lib.hid hdr
                have HBP : Hid (∀ X, Below wr.heap.size wr X → Bts X B (some ⟨g, o + (k + 1), none⟩) ((l.drop (k + 1)).take n)) := Lib.hid fun X hX => by
                  have := ((HB0.out.below (hX.mono hB)).drop_eq (k + 1)).take n
                  rwa [add_at] at this
                have HPL : Hid (((l.drop (k + 1)).take n).length = n) := Lib.hid (by rw [List.length_take, hdl.out]; omega)
                have HRL : Hid ((l.drop (k + 2 + n)).length = ln - (k + 2 + n)) := Lib.hid (by rw [List.length_drop, HLN.out])
                have HRE : Hid ((l.drop (k + 1)).drop (n + 1) = l.drop (k + 2 + n)) := Lib.hid (by rw [List.drop_drop]; congr 1; omega)
                have hwk : IntKind.i64.wrap ((k : Int) + 1) = k + 1 := IntWalk.i64_in _ (by omega)
                have hwk2 : IntKind.i64.wrap ((k : Int) + 2) = k + 2 := IntWalk.i64_in _ (by omega)
                have hwn : IntKind.i64.wrap ((k : Int) + 1 + n) = k + 1 + n := IntWalk.i64_in _ (by omega)
                have hwn2 : IntKind.i64.wrap ((k : Int) + 2 + n) = k + 2 + n := IntWalk.i64_in _ (by omega)
                have e1 : ((k : Int) + 1).toNat = k + 1 := by omega
                have e2 : ((k : Int) + 1 + n).toNat = k + 1 + n := by omega
                have e3 : ((k : Int) + 2 + n).toNat = k + 2 + n := by omega
                clear hdr
                generalize (l.drop (k + 1)).take n = p at *
                generalize l.drop (k + 2 + n) = r at *
                refine wpAnyH_take (i := 0) (v := .slice (some ⟨g, o, none⟩) ln cap) rfl (by kernel_rfl) (by kernel_rfl) (by kernel_rfl) (fun _ _ _ h => h) (Or.inl ⟨by rfl, fun w hS => by first | (go_simp; done) | (go_simp; with_reducible rfl)⟩) hHeld ?_
                try simp only [Act.put, List.getElem_toArray, List.getElem_cons_zero, List.setIfInBounds_toArray, List.set_cons_zero, List.set_cons_succ]
                refine wpAnyH_take (i := 1) (v := .int .i64 k) rfl (by kernel_rfl) (by kernel_rfl) (by kernel_rfl) (fun _ _ _ h => h) (Or.inl ⟨by rfl, fun w hS => by first | (go_simp; done) | (go_simp; with_reducible rfl)⟩) hHeld ?_
                try simp only [Act.put, List.getElem_toArray, List.getElem_cons_zero, List.getElem_cons_succ, List.setIfInBounds_toArray, List.set_cons_zero, List.set_cons_succ]
                refine wpAnyH_take (i := 2) (v := .int .i64 (k + 1)) rfl (by kernel_rfl) (by kernel_rfl) (by kernel_rfl) (fun _ _ _ h => h) (Or.inl ⟨by rfl, fun w hS => by first | (go_simp; done) | (go_simp; with_reducible rfl)⟩) hHeld ?_
                try simp only [Act.put, List.getElem_toArray, List.getElem_cons_zero, List.getElem_cons_succ, List.setIfInBounds_toArray, List.set_cons_zero, List.set_cons_succ]
                refine wpAnyH_take (i := 3) (v := .int .i64 k) rfl (by kernel_rfl) (by kernel_rfl) (by kernel_rfl) (fun _ _ _ h => h) (Or.inl ⟨by rfl, fun w hS => by first | (go_simp; done) | (go_simp; with_reducible rfl)⟩) hHeld ?_
                try simp only [Act.put, List.getElem_toArray, List.getElem_cons_zero, List.getElem_cons_succ, List.setIfInBounds_toArray, List.set_cons_zero, List.set_cons_succ]
                refine wpAnyH_take (i := 4) (v := .int .i64 (k + 1)) rfl (by kernel_rfl) (by kernel_rfl) (by kernel_rfl) (fun _ _ _ h => h) (Or.inl ⟨by rfl, fun w hS => by first | (go_simp; done) | (go_simp; with_reducible rfl)⟩) hHeld ?_
                try simp only [Act.put, List.getElem_toArray, List.getElem_cons_zero, List.getElem_cons_succ, List.setIfInBounds_toArray, List.set_cons_zero, List.set_cons_succ]
                refine wpAnyH_take (i := 5) (v := .int .i64 n) rfl (by kernel_rfl) (by kernel_rfl) (by kernel_rfl) (fun _ _ _ h => h) (Or.inl ⟨by rfl, fun w hS => by first | (go_simp; done) | (go_simp; with_reducible rfl)⟩) hHeld ?_
                try simp only [Act.put, List.getElem_toArray, List.getElem_cons_zero, List.getElem_cons_succ, List.setIfInBounds_toArray, List.set_cons_zero, List.set_cons_succ]
                refine wpAnyH_take (i := 6) (v := .int .i64 (k + 1 + n)) rfl (by kernel_rfl) (by kernel_rfl) (by kernel_rfl) (fun _ _ _ h => h) (Or.inl ⟨by rfl, fun w hS => by first | (go_simp; done) | (go_simp; with_reducible rfl)⟩) hHeld ?_
                try simp only [Act.put, List.getElem_toArray, List.getElem_cons_zero, List.getElem_cons_succ, List.setIfInBounds_toArray, List.set_cons_zero, List.set_cons_succ]
                refine wpAnyH_take (i := 7) (v := .slice (some ⟨g, o + (k + 1), none⟩) n (cap - (k + 1))) rfl (by kernel_rfl) (by kernel_rfl) (by kernel_rfl) (fun _ _ _ h => h) (Or.inl ⟨by rfl, fun w hS => by (go_simp; rw [if_pos (by omega), if_pos (by omega)])⟩) hHeld ?_
                try simp only [Act.put, List.getElem_toArray, List.getElem_cons_zero, List.getElem_cons_succ, List.setIfInBounds_toArray, List.set_cons_zero, List.set_cons_succ]
                refine wpAnyH_take (i := 9) (v := .slice (some ⟨g, o, none⟩) ln cap) rfl (by kernel_rfl) (by kernel_rfl) (by kernel_rfl) (fun _ _ _ h => h) (Or.inl ⟨by rfl, fun w hS => by first | (go_simp; done) | (go_simp; with_reducible rfl)⟩) hHeld ?_
                try simp only [Act.put, List.getElem_toArray, List.getElem_cons_zero, List.getElem_cons_succ, List.setIfInBounds_toArray, List.set_cons_zero, List.set_cons_succ]
                refine wpAnyH_take (i := 10) (v := .int .i64 k) rfl (by kernel_rfl) (by kernel_rfl) (by kernel_rfl) (fun _ _ _ h => h) (Or.inl ⟨by rfl, fun w hS => by first | (go_simp; done) | (go_simp; with_reducible rfl)⟩) hHeld ?_
                try simp only [Act.put, List.getElem_toArray, List.getElem_cons_zero, List.getElem_cons_succ, List.setIfInBounds_toArray, List.set_cons_zero, List.set_cons_succ]
                refine wpAnyH_take (i := 11) (v := .int .i64 (k + 2)) rfl (by kernel_rfl) (by kernel_rfl) (by kernel_rfl) (fun _ _ _ h => h) (Or.inl ⟨by rfl, fun w hS => by first | (go_simp; done) | (go_simp; with_reducible rfl)⟩) hHeld ?_
                try simp only [Act.put, List.getElem_toArray, List.getElem_cons_zero, List.getElem_cons_succ, List.setIfInBounds_toArray, List.set_cons_zero, List.set_cons_succ]
                refine wpAnyH_take (i := 12) (v := .int .i64 n) rfl (by kernel_rfl) (by kernel_rfl) (by kernel_rfl) (fun _ _ _ h => h) (Or.inl ⟨by rfl, fun w hS => by first | (go_simp; done) | (go_simp; with_reducible rfl)⟩) hHeld ?_
                try simp only [Act.put, List.getElem_toArray, List.getElem_cons_zero, List.getElem_cons_succ, List.setIfInBounds_toArray, List.set_cons_zero, List.set_cons_succ]
                refine wpAnyH_take (i := 13) (v := .int .i64 (k + 2 + n)) rfl (by kernel_rfl) (by kernel_rfl) (by kernel_rfl) (fun _ _ _ h => h) (Or.inl ⟨by rfl, fun w hS => by first | (go_simp; done) | (go_simp; with_reducible rfl)⟩) hHeld ?_
                try simp only [Act.put, List.getElem_toArray, List.getElem_cons_zero, List.getElem_cons_succ, List.setIfInBounds_toArray, List.set_cons_zero, List.set_cons_succ]
                refine wpAnyH_take (i := 14) (v := .slice (some ad) (ln - (k + 2 + n)) cc) rfl (by kernel_rfl) (by kernel_rfl) (by kernel_rfl) (fun _ _ _ h => h) (Or.inl ⟨by rfl, fun w hS => by (rcases hcase with ⟨rfl, rfl, hx⟩ | ⟨rfl, rfl, hx⟩ <;> go_simp <;> (intro hh; omega))⟩) hHeld ?_
                try simp only [Act.put, List.getElem_toArray, List.getElem_cons_zero, List.getElem_cons_succ, List.setIfInBounds_toArray, List.set_cons_zero, List.set_cons_succ]
                refine wpAnyH_ready (rs := [8]) (by kernel_rfl) (by simp) ?_
                refine AllReadyH.cons rfl (fun K hK => ?_) AllReadyH.nil
                refine step5 (.const (.slice none 0 0)) (.tmp 63) rfl rfl (N := w5.heap.size) (v := .slice none 0 0) (l := []) (m := p) rfl (Own5.nil _ _) (B := B) (c := cap - (k + 1)) (by rw [HPL.out]; rfl) (HBP.out _ hb) (by rw [HPL.out]; simp; omega) (Nat.le_refl _) ?_; intro v6 w6 ho6 hg6
                refine hK.out _ _ ?_ (fun hHeld => ?_)
                · exact hb.grown hg6 hb.size (by intro k hk; simp [Value.ownBlock] at hk)
                clear hK K
                try simp only [Act.put, List.getElem_toArray, List.getElem_cons_zero, List.getElem_cons_succ, List.setIfInBounds_toArray, List.set_cons_zero, List.set_cons_succ]
                have HB6 := Lib.hid (hb.grown hg6 hb.size (by intro k hk; simp [Value.ownBlock] at hk))
                have HO6 : Hid (Own5 w6 wr.heap.size v6 p) := Lib.hid (own_more ho6 hb.size)
                clear ho6 hg6 hb
                refine wpAnyH_take (i := 15) (v := v6) rfl (by kernel_rfl) (by kernel_rfl) (by kernel_rfl) (fun _ _ _ h => h) (Or.inl ⟨by rfl, fun w hS => by first | (go_simp; done) | (go_simp; with_reducible rfl)⟩) hHeld ?_
                try simp only [Act.put, List.getElem_toArray, List.getElem_cons_zero, List.getElem_cons_succ, List.setIfInBounds_toArray, List.set_cons_zero, List.set_cons_succ]
                refine wpAnyH_take (i := 16) (v := .slice (some ad) (ln - (k + 2 + n)) cc) rfl (by kernel_rfl) (by kernel_rfl) (by kernel_rfl) (fun _ _ _ h => h) (Or.inl ⟨by rfl, fun w hS => by first | (go_simp; done) | (go_simp; with_reducible rfl)⟩) hHeld ?_
                try simp only [Act.put, List.getElem_toArray, List.getElem_cons_zero, List.getElem_cons_succ, List.setIfInBounds_toArray, List.set_cons_zero, List.set_cons_succ]
                refine wpAnyH_take (i := 17) (v := .bool true) rfl (by kernel_rfl) (by kernel_rfl) (by kernel_rfl) (fun _ _ _ h => h) (Or.inl ⟨by rfl, fun w hS => by first | (go_simp; done) | (go_simp; with_reducible rfl)⟩) hHeld ?_
                try simp only [Act.put, List.getElem_toArray, List.getElem_cons_zero, List.getElem_cons_succ, List.setIfInBounds_toArray, List.set_cons_zero, List.set_cons_succ]
                refine wpAnyH_done (by kernel_rfl) ?_ _
                go_wp2_with fail
                refine bodyPost_ret (results_tmp3 rfl _ _ _) rfl ?_
                refine ⟨HB6.out, .inr ⟨p, r, by rw [HY.out, HRE.out], v6, some ad, cc, by rw [HRL.out]; rfl, HO6.out, HDR.out _ (Below.refl _ _), by rw [HRL.out]; exact hc1, hc2, fun e => by cases e⟩⟩
              · have HN : Hid (tk = none) := Lib.hid (by rw [HIT.out, if_neg (fun hx => h44 (by rw [← hgd.out]; exact hx.2.2))])
                have h44' : ¬ (((l.getD (k + 1 + n) 0).toNat : Int) = 44) := fun e => h44 (UInt8.toNat_inj.1 (by show (l.getD (k + 1 + n) 0).toNat = 44; omega))
                generalize l.getD (k + 1 + n) 0 = cx at *
                have h44b : ((cx.toNat : Int) != 44) = true := by rw [bne_iff_ne]; exact h44'
                go_wp2_with fail
                refine bodyPost_ret (results_tmp3 rfl _ _ _) rfl ?_
                exact ⟨HB1.out, .inl ⟨HN.out, rfl⟩⟩
        · have HB1 := Lib.hid hb1
          rw [HNN.out hn] at HIT
          clear hb1
          go_wp2_with fail
          refine bodyPost_ret (results_tmp3 rfl _ _ _) rfl ?_
          exact ⟨HB1.out, .inl ⟨HIT.out, rfl⟩⟩
      · have h58' : ¬ (((l.getD k 0).toNat : Int) = 58) := fun e => h58 (UInt8.toNat_inj.1 (by show (l.getD k 0).toNat = 58; omega))
        have HJ2 : Hid (∀ j, j < k + 1 → l.getD j 0 ≠ 58) := Lib.hid fun j hj => by
          rcases Nat.lt_or_ge j k with h3 | h3
          · exact HJ.out j h3
          · obtain rfl : j = k := by omega
            exact h58
        clear hcells
        generalize l.getD k 0 = cx at *
        go_wp2_with fail
        go_roundw
        case rel => exact ⟨k + 1, by omega, by omega, by go_num, HJ2, by first | rfl | trivial⟩
        case measure => simp [intOf]; omega
    · have HN : Hid (tk = none) := Lib.hid (HNOC.out k (by omega) HJ.out)
      by_cases hkl : k < ln
      · have hk9' : k = 9 := by omega
        subst hk9'
        go_wp2_with fail
        refine bodyPost_ret (results_tmp3 rfl _ _ _) rfl ?_
        exact ⟨Below.refl _ _, .inl ⟨HN.out, rfl⟩⟩
      · have hz : ¬ (k : Int) < (ln : Int) := by omega
        go_wp2_with fail
        refine bodyPost_ret (results_tmp3 rfl _ _ _) rfl ?_
        exact ⟨Below.refl _ _, .inl ⟨HN.out, rfl⟩⟩
end En
end Go.Proofs.YteapnkedpmcokaaGreatDoor
