/- SlKeptA SlKeptB SlKeptC SlFew2. Conditions: as stated at each. -/
import Derived.Test.YtidadjlhnlmfkaaGreatDoorKt26
import Derived.Test.YtidadjlhnlmfkaaGreatDoorKt27
import Derived.Test.YtidadjlhnlmfkaaGreatDoorKt31
/- The loops of the law SeglogKept over Append. Conditions: as stated at each. -/
namespace Go.Proofs.YtidadjlhnlmfkaaGreatDoor
open Go.RowKit Go.Shelf Go Go.Maps
set_option maxHeartbeats 1600000 in
/-- Append where no power fails. -/
theorem append_K0 (W : World) (N : Nat) (Ft : Nat → Prop) (Dk k : Nat) (rm x : Int) (L G : Nat) (nm : ByteArray) (sz : Int) (S0 : Segs) (s : List (List UInt8)) (m : Nat) (A : Option Addr) (cp : Nat) (r : List UInt8)
    (h : AliveK W N Ft Dk k rm x 0 L G nm sz S0 s m) (hlow : Low W Ft) (hl : S0.length + 3 < 999999) (hn : nmOk nm) (ht : took s ≤ 1000000) (hk : k + 5 < maxLen) (hx : 0 ≤ x) (hx2 : x ≤ 100000000) (hm : r.length ≤ 1000000) (hr : x + (rec1 r).length ≤ rm) (hr2 : rm ≤ 1000000000000)
    (hN : N ≤ W.heap.size) (hA : Bts W W.heap.size A r) (hcp : r.length ≤ cp) (hcm : cp ≤ maxLen) :
    Calls Tryz.prog 10 #[.pointer (some ⟨L, 0, none⟩), .slice A r.length cp] W fun e w' => (∃ p q, e = .returned (.tuple #[.agg #[.int .i64 p, .int .i64 q], .int .i64 0])) ∧
      ∃ S1 s1 m1, (S1 ++ [s1]).flatten = (S0 ++ [s]).flatten ++ [r] ∧ S1.length ≤ S0.length + 1 ∧ AliveK w' N (NewFt Ft W w') Dk (k + 5) rm (x + (rec1 r).length) 0 L G nm sz S1 s1 m1 ∧ Tn (OwnL Ft L G) W w' := by
  obtain ⟨F, hL, hF⟩ := h
  rw [gS_snoc] at hL
  have hf := hF.2.1
  have hsl := took_len s
  have hwl : (wr s).length ≤ 1000000 := by rw [wr_length]; exact ht
  have hg : (gS S0).length = S0.length := gS_length S0
  have hml := hF.2.2.1
  have hnone : F (fileN nm (S0.length + 2)) = none := hF.none (by omega) (by omega)
  have htk : ((s ++ [r]).take m) = s.take m := List.take_append_of_le_length hml
  have F1 : FileK nm (F.upd (fileN nm (S0.length + 1)) (some (wr s ++ rec1 r, (wr (s.take m)).length))) S0 (s ++ [r]) m := hF.last (by omega) _ _ (by rw [wr_append, wr_one]) (by rw [htk]) (by simp; omega)
  have F2 : FileK nm (F.upd (fileN nm (S0.length + 1)) (some (wr s, (wr s).length))) S0 s s.length := hF.last (by omega) _ _ rfl (by rw [List.take_length]) (Nat.le_refl _)
  have F3 := F2.new (by omega)
  have F4 : FileK nm (((F.upd (fileN nm (S0.length + 1)) (some (wr s, (wr s).length))).upd (fileN nm (S0.length + 2)) (some ([], 0))).upd (fileN nm (S0.length + 2)) (some ([] ++ rec1 r, 0))) (S0 ++ [s]) [r] 0 := by
    have e : (S0 ++ [s]).length + 1 = S0.length + 2 := by simp
    have := F3.last (s' := [r]) (m' := 0) (by simp; omega) ([] ++ rec1 r) 0 (by simp [wr]) (by simp [wr]) (by simp)
    rw [e] at this
    exact this
  have hgl : (gS S0 ++ [(s.length, took s)]).length = S0.length + 1 := by simp [hg]
  refine (append_L W N Ft Dk k F rm x 0 L G nm sz (gS S0) s.length (took s) (wr s) _ A cp r hL hlow (by omega) hn (by rw [hg]; exact hf) (by omega) hk hx hx2 hm hr hr2 (by omega) hN hA hcp hcm (by omega) (by omega) ⟨by omega, fun _ => ⟨by omega, by omega, by rw [hg]; exact hnone⟩⟩).mono ?_
  rintro e w' ⟨kt, Fl, lft, gt, ct, zt, bst, sft, hR, rfl, hp⟩
  refine ⟨⟨_, _, rfl⟩, ?_⟩
  rcases hR with ⟨_, rfl, rfl, rfl, rfl, rfl, rfl, rfl, rfl⟩ | ⟨_, rfl, rfl, rfl, rfl, rfl, rfl, rfl, rfl⟩
  · have hp := hp.k (k2 := kt + 5) (by omega)
    rw [hg] at hp
    have e1 : (s ++ [r]).length = s.length + 1 := by simp
    have e2 : took (s ++ [r]) = took s + (rec1 r).length := by rw [took_append, rec1_length]; simp [took]
    refine ⟨S0, s ++ [r], m, flat_more S0 s r, by omega, ⟨_, ?_, F1⟩, hp.2⟩
    rw [gS_snoc, e1, e2]
    exact hp.1
  · have hp := hp.k (k2 := k + 5) (by omega)
    rw [hgl, hg] at hp
    refine ⟨S0 ++ [s], [r], 0, flat_new S0 s r, by simp, ⟨_, ?_, F4⟩, hp.2⟩
    rw [gS_snoc, gS_snoc]
    have e2 : took [r] = 0 + (rec1 r).length := by rw [rec1_length]; simp [took]
    rw [show ([r] : List (List UInt8)).length = 0 + 1 from rfl, e2]
    exact hp.1
/-- what stands when k records have been appended. -/
def KA (W : World) (N : Nat) (Dk L G : Nat) (sz : Int) (ll : List (List UInt8)) (k : Nat) (wr : World) : Prop :=
  ∃ S0 s m Ft, AliveK wr N Ft Dk (2 + 5 * k) 1048576 (took (ll.take k) : Nat) 0 L G ⟨#[120]⟩ sz S0 s m ∧ (S0 ++ [s]).flatten = ll.take k ∧ S0.length ≤ k ∧ Low wr Ft ∧ (∀ i, Ft i → W.heap.size ≤ i) ∧ Below W.heap.size W wr ∧ N ≤ wr.heap.size ∧ W.heap.size ≤ L ∧ W.heap.size ≤ G
theorem rest_below {W wr w' : World} {Ft : Nat → Prop} {L G : Nat} (h6 : ∀ i, Ft i → W.heap.size ≤ i) (h7 : Below W.heap.size W wr) (h9 : W.heap.size ≤ L) (h10 : W.heap.size ≤ G) (q2 : Tn (OwnL Ft L G) wr w') : Below W.heap.size W w' :=
  h7.trans (q2.below h7.size (fun i hi e => by
    rcases e with e | rfl | rfl
    · have := h6 i e
      omega
    · omega
    · omega))
theorem ka_next {W : World} {N Dk L G : Nat} {sz : Int} {ll : List (List UInt8)} {k : Nat} {wr : World} (h : KA W N Dk L G sz ll k wr) (hf : fewB ll = true) (hk : k < ll.length) (A : Option Addr) (cp : Nat) (hA : Bts wr wr.heap.size A (ll.getD k [])) (hcp : (ll.getD k []).length ≤ cp) (hcm : cp ≤ maxLen) :
    Calls Tryz.prog 10 #[.pointer (some ⟨L, 0, none⟩), .slice A (ll.getD k []).length cp] wr fun e w' => (∃ p q, e = .returned (.tuple #[.agg #[.int .i64 p, .int .i64 q], .int .i64 0])) ∧ KA W N Dk L G sz ll (k + 1) w' := by
  obtain ⟨S0, s, m, Ft, h1, h2, h4, h5, h6, h7, h8, h9, h10⟩ := h
  obtain ⟨f1, f2⟩ := few_len hf
  have f3 := few_took hf
  have hmem : ll.getD k [] ∈ ll := by rw [List.getD, List.getElem?_eq_getElem hk]; exact List.getElem_mem hk
  have hr := f2 _ hmem
  have htk : took (ll.take k) ≤ took ll := by
    have := took_append (ll.take k) (ll.drop k)
    rw [List.take_append_drop] at this
    omega
  have hts : took s ≤ took (ll.take k) := by rw [← h2]; exact took_flat_le (by simp)
  have hnx := take_flat hk
  have hrl := rec1_length (ll.getD k [])
  refine (append_K0 wr N Ft Dk (2 + 5 * k) 1048576 _ L G ⟨#[120]⟩ sz S0 s m A cp (ll.getD k []) h1 h5 (by omega) nmOk_x (by omega) (by unfold maxLen; omega) (by omega) (by omega) (by omega) (by omega) (by omega) h8 hA hcp hcm).mono ?_
  rintro e w' ⟨he, S1, s1, m1, q3, q4, q1, q2⟩
  have htn : (took (ll.take k) : Int) + (rec1 (ll.getD k [])).length = (took (ll.take (k + 1)) : Nat) := by
    rw [hnx, took_append, hrl]
    simp [took]
  rw [htn, show 2 + 5 * k + 5 = 2 + 5 * (k + 1) from by omega] at q1
  have hz := q2.size
  exact ⟨he, S1, s1, m1, _, q1, by rw [hnx, ← h2]; exact q3, by omega, h5.new hz, fun i hi => hi.elim (h6 i) (fun e => by have := h7.size; omega), rest_below h6 h7 h9 h10 q2, by omega, h9, h10⟩
theorem AliveK.below {W w' : World} {N Dk k L G m : Nat} {Ft : Nat → Prop} {rm x lf : Int} {nm : ByteArray} {sz : Int} {S0 : Segs} {s : List (List UInt8)} (h : AliveK W N Ft Dk k rm x lf L G nm sz S0 s m) (hb : Below W.heap.size W w') : AliveK w' N Ft Dk k rm x lf L G nm sz S0 s m := by
  obtain ⟨F, h1, h2⟩ := h
  exact ⟨F, h1.below hb, h2⟩
theorem DeadK.below {W w' : World} {N Dk k L G m : Nat} {Ft : Nat → Prop} {rm x : Int} {nm : ByteArray} {sz : Int} {S0 : Segs} {s : List (List UInt8)} (h : DeadK W N Ft Dk k rm x L G nm sz S0 s m) (hb : Below W.heap.size W w') : DeadK w' N Ft Dk k rm x L G nm sz S0 s m := by
  obtain ⟨F, g, lf, h1, h2⟩ := h
  exact ⟨F, g, lf, h1.below hb, h2⟩
theorem AliveK.k {W : World} {N Dk k k2 L G m : Nat} {Ft : Nat → Prop} {rm x lf : Int} {nm : ByteArray} {sz : Int} {S0 : Segs} {s : List (List UInt8)} (h : AliveK W N Ft Dk k rm x lf L G nm sz S0 s m) (hk : k ≤ k2) : AliveK W N Ft Dk k2 rm x lf L G nm sz S0 s m := by
  obtain ⟨F, h1, h2⟩ := h
  exact ⟨F, h1.more (fun _ h => h) hk h1.2.2.2.1 h1.2.2.2.2, h2⟩
theorem DeadK.k {W : World} {N Dk k k2 L G m : Nat} {Ft : Nat → Prop} {rm x : Int} {nm : ByteArray} {sz : Int} {S0 : Segs} {s : List (List UInt8)} (h : DeadK W N Ft Dk k rm x L G nm sz S0 s m) (hk : k ≤ k2) : DeadK W N Ft Dk k2 rm x L G nm sz S0 s m := by
  obtain ⟨F, g, lf, h1, h2⟩ := h
  exact ⟨F, g, lf, h1.more (fun _ h => h) hk h1.2.2.2.1 h1.2.2.2.2, h2⟩
theorem KA.below {W : World} {N Dk L G : Nat} {sz : Int} {ll : List (List UInt8)} {k : Nat} {wr w' : World} (h : KA W N Dk L G sz ll k wr) (hb : Below wr.heap.size wr w') : KA W N Dk L G sz ll k w' := by
  obtain ⟨S0, s, m, Ft, h1, h2, h4, h5, h6, h7, h8, h9, h10⟩ := h
  exact ⟨S0, s, m, Ft, h1.below hb, h2, h4, h5.up hb.size, h6, h7.trans (hb.mono h7.size), Nat.le_trans h8 hb.size, h9, h10⟩
/-- what stands behind j further Appends, whenever the power failed. -/
def KB (W : World) (N : Nat) (Dk L G : Nat) (sz : Int) (al bl : List (List UInt8)) (j : Nat) (wr : World) : Prop :=
  ∃ S0 s m Ft q, q ≤ j ∧ (S0 ++ [s]).flatten = al ++ bl.take q ∧ al.length ≤ S0.flatten.length + m ∧ S0.length ≤ al.length + j ∧ Low wr Ft ∧ (∀ i, Ft i → W.heap.size ≤ i) ∧ Below W.heap.size W wr ∧ N ≤ wr.heap.size ∧ W.heap.size ≤ L ∧ W.heap.size ≤ G ∧
    ((q = j ∧ ∃ lf, lf ≤ 9223372036854775807 ∧ AliveK wr N Ft Dk (200 + 5 * j) 1048576 (took (S0 ++ [s]).flatten : Nat) lf L G ⟨#[120]⟩ sz S0 s m) ∨ DeadK wr N Ft Dk (200 + 5 * j) 1048576 (took (S0 ++ [s]).flatten : Nat) L G ⟨#[120]⟩ sz S0 s m)
theorem KB.below {W : World} {N Dk L G : Nat} {sz : Int} {al bl : List (List UInt8)} {j : Nat} {wr w' : World} (h : KB W N Dk L G sz al bl j wr) (hb : Below wr.heap.size wr w') : KB W N Dk L G sz al bl j w' := by
  obtain ⟨S0, s, m, Ft, q, h0, h1, h2, h3, h5, h6, h7, h8, h9, h10, h11⟩ := h
  refine ⟨S0, s, m, Ft, q, h0, h1, h2, h3, h5.up hb.size, h6, h7.trans (hb.mono h7.size), Nat.le_trans h8 hb.size, h9, h10, ?_⟩
  rcases h11 with ⟨e, lf, h11, h12⟩ | h11
  · exact .inl ⟨e, lf, h11, h12.below hb⟩
  · exact .inr (h11.below hb)
theorem took_take (l : List (List UInt8)) (q : Nat) : took (l.take q) ≤ took l := by
  have := took_append (l.take q) (l.drop q)
  rw [List.take_append_drop] at this
  omega
set_option maxHeartbeats 1600000 in
theorem kb_next {W : World} {N Dk L G : Nat} {sz : Int} {al bl : List (List UInt8)} {j : Nat} {wr : World} (h : KB W N Dk L G sz al bl j wr) (hfa : fewB al = true) (hfb : fewB bl = true) (hj : j < bl.length) (A : Option Addr) (cp : Nat) (hA : Bts wr wr.heap.size A (bl.getD j [])) (hcp : (bl.getD j []).length ≤ cp) (hcm : cp ≤ maxLen) :
    Calls Tryz.prog 10 #[.pointer (some ⟨L, 0, none⟩), .slice A (bl.getD j []).length cp] wr fun e w' => (∃ v, e = .returned v) ∧ KB W N Dk L G sz al bl (j + 1) w' := by
  obtain ⟨S0, s, m, Ft, q, h0, h1, h2, h3, h5, h6, h7, h8, h9, h10, h11⟩ := h
  obtain ⟨f1, f2⟩ := few_len hfb
  have f3 := few_took hfb
  have f4 := few_took hfa
  have f5 := (few_len hfa).1
  have hmem : bl.getD j [] ∈ bl := by rw [List.getD, List.getElem?_eq_getElem hj]; exact List.getElem_mem hj
  have hr := f2 _ hmem
  have htk := took_take bl q
  have htt : took (S0 ++ [s]).flatten ≤ 12320 := by rw [h1, took_append]; omega
  have hts : took s ≤ took (S0 ++ [s]).flatten := took_flat_le (by simp)
  have hnx := take_flat hj
  have hrl := rec1_length (bl.getD j [])
  rcases h11 with ⟨rfl, lf, hlf, hK⟩ | hK
  · refine (append_K wr N Ft Dk (200 + 5 * q) 1048576 _ lf L G ⟨#[120]⟩ sz S0 s m A cp (bl.getD q []) hK h5 (by omega) nmOk_x (by omega) (by unfold maxLen; omega) (by omega) (by omega) (by omega) (by omega) (by omega) hlf h8 hA hcp hcm).mono ?_
    rintro e w' ⟨he, S1, s1, m1, x1, hc, q3, q4, q2, hd⟩
    have hz := q2.size
    have key : ∃ q', q' ≤ q + 1 ∧ (S1 ++ [s1]).flatten = al ++ bl.take q' ∧ x1 = (took (S1 ++ [s1]).flatten : Nat) ∧ ((S1 ++ [s1]).flatten = (S0 ++ [s]).flatten ++ [bl.getD q []] → q' = q + 1) := by
      rcases hc with ⟨e1, e2⟩ | ⟨e1, e2⟩
      · refine ⟨q + 1, Nat.le_refl _, by rw [e1, h1, hnx, List.append_assoc], ?_, fun _ => rfl⟩
        rw [e2, e1, took_append, hrl]
        simp [took]
      · refine ⟨q, by omega, by rw [e1, h1], by rw [e2, e1], fun e => ?_⟩
        rw [e1] at e
        have := congrArg List.length e
        simp at this
    obtain ⟨q', k1, k2, k3, k4⟩ := key
    rw [k3, show 200 + 5 * q + 5 = 200 + 5 * (q + 1) by omega] at hd
    refine ⟨he, S1, s1, m1, _, q', k1, k2, by omega, by omega, h5.new hz, fun i hi => hi.elim (h6 i) (fun e => by have := h7.size; omega), rest_below h6 h7 h9 h10 q2, by omega, h9, h10, ?_⟩
    rcases hd with ⟨lf', d1, d2, d3⟩ | hd
    · exact .inl ⟨k4 d2, lf', d1, d3⟩
    · exact .inr hd
  · obtain ⟨F, g, lf, hL, hF⟩ := hK
    refine (append_dead wr N Ft Dk _ F _ _ lf true L G _ sz g A cp _ hL).mono ?_
    rintro e w' ⟨rfl, hL', hb⟩
    refine ⟨⟨_, rfl⟩, S0, s, m, Ft, q, by omega, h1, h2, by omega, h5.up hb.size, h6, h7.trans (hb.mono h7.size), Nat.le_trans h8 hb.size, h9, h10, .inr ?_⟩
    exact DeadK.k ⟨F, g, lf, hL', hF⟩ (by omega)
end Go.Proofs.YtidadjlhnlmfkaaGreatDoor
/- Sync, Arm, Start and Open in the law SeglogKept. Conditions: as stated at each. -/
namespace Go.Proofs.YtidadjlhnlmfkaaGreatDoor
open Go.RowKit Go.Shelf Go Go.Maps
/-- all of a is safe. -/
def KS (W : World) (N : Nat) (Dk L G : Nat) (sz : Int) (al : List (List UInt8)) (wr : World) : Prop :=
  ∃ S0 s m Ft, AliveK wr N Ft Dk 200 1048576 (took al : Nat) 0 L G ⟨#[120]⟩ sz S0 s m ∧ (S0 ++ [s]).flatten = al ∧ al.length ≤ S0.flatten.length + m ∧ S0.length ≤ al.length ∧ Low wr Ft ∧ (∀ i, Ft i → W.heap.size ≤ i) ∧ Below W.heap.size W wr ∧ N ≤ wr.heap.size ∧ W.heap.size ≤ L ∧ W.heap.size ≤ G
theorem sync_K {W : World} {N Dk L G : Nat} {sz : Int} {ll : List (List UInt8)} {wr : World} (h : KA W N Dk L G sz ll ll.length wr) (hf : fewB ll = true) :
    Calls Tryz.prog 11 #[.pointer (some ⟨L, 0, none⟩)] wr fun e w' => e = .returned (.int .i64 0) ∧ KS W N Dk L G sz ll w' := by
  obtain ⟨S0, s, m, Ft, ⟨F, hL, hF⟩, h2, h4, h5, h6, h7, h8, h9, h10⟩ := h
  rw [List.take_length] at h2 hL
  have f3 := few_took hf
  have f1 := (few_len hf).1
  have hts : took s ≤ took ll := by rw [← h2]; exact took_flat_le (by simp)
  have hg : (gS (S0 ++ [s])).length = S0.length + 1 := by simp [gS]
  have hwl : (YtidadjlhnlmfkaaGreatDoor.wr s).length ≤ 1000000 := by rw [wr_length]; omega
  refine (sync_L wr N Ft Dk _ F 1048576 _ 0 L G ⟨#[120]⟩ sz (gS (S0 ++ [s])) (YtidadjlhnlmfkaaGreatDoor.wr s) _ hL h5 (by rw [hg]; omega) nmOk_x (by rw [hg]; exact hF.2.1) (by omega) (by unfold maxLen; omega) (by omega) (by omega) (by omega) (by omega)).mono ?_
  rintro e w' ⟨rfl, hp⟩
  have F2 : FileK ⟨#[120]⟩ (F.upd (fileN ⟨#[120]⟩ (S0.length + 1)) (some (YtidadjlhnlmfkaaGreatDoor.wr s, (YtidadjlhnlmfkaaGreatDoor.wr s).length))) S0 s s.length := hF.last (by omega) _ _ rfl (by rw [List.take_length]) (Nat.le_refl _)
  have hp := hp.k (k2 := 200) (by omega)
  rw [hg] at hp
  have hfl : (S0 ++ [s]).flatten.length = S0.flatten.length + s.length := by simp
  rw [h2] at hfl
  have hz := hp.2.size
  exact ⟨rfl, S0, s, s.length, _, ⟨_, hp.1, F2⟩, h2, by omega, h4, h5.new hz, fun i hi => hi.elim (h6 i) (fun e => by have := h7.size; omega), rest_below h6 h7 h9 h10 hp.2, by omega, h9, h10⟩
theorem arm_K {W : World} {N Dk L G : Nat} {sz : Int} {al : List (List UInt8)} {wr : World} (bl : List (List UInt8)) (n : Int) (hn : n ≤ 9223372036854775807) (h : KS W N Dk L G sz al wr) :
    Calls Tryz.prog 12 #[.pointer (some ⟨Dk, 0, none⟩), .int .i64 n] wr fun e w' => e = .returned (.tuple #[]) ∧ KB W N Dk L G sz al bl 0 w' := by
  obtain ⟨S0, s, m, Ft, ⟨F, hL, hF⟩, h2, h3, h4, h5, h6, h7, h8, h9, h10⟩ := h
  refine (arm_S wr N Ft Dk _ F _ _ 0 n false hL.1).mono ?_
  rintro e w' ⟨rfl, hD, hT⟩
  have hL' : LogS w' N Ft Dk 200 F 1048576 (took al : Nat) n false L G ⟨#[120]⟩ sz (gS (S0 ++ [s])) false :=
    ⟨hD, (hT.block L hL.ltL hL.2.2.2.1).trans hL.2.1, hL.2.2.1.same (hT.block G hL.ltG hL.2.2.2.2), hL.2.2.2.1, hL.2.2.2.2⟩
  rw [← h2] at hL'
  have hz := hT.size
  exact ⟨rfl, S0, s, m, Ft, 0, Nat.le_refl _, by rw [h2]; simp, h3, by omega, h5.up hz, h6, rest_below h6 h7 h9 h10 (OwnL.of hT), by omega, h9, h10, .inl ⟨rfl, n, hn, F, hL', hF⟩⟩
/-- behind a start: the files, the last one's bytes cut at n. -/
def KD (W : World) (N : Nat) (Dk : Nat) (al bl : List (List UInt8)) (wr : World) : Prop :=
  ∃ (F : Files) (Ft : Nat → Prop) (x lf : Int) (S0 : Segs) (s : List (List UInt8)) (m n q k : Nat), DiskS wr N Ft Dk k F 1048576 x lf false ∧ k ≤ 1000 ∧ Low wr Ft ∧ (∀ i, Ft i → W.heap.size ≤ i) ∧ Below W.heap.size W wr ∧ N ≤ wr.heap.size ∧ q ≤ bl.length ∧
    (S0 ++ [s]).flatten = al ++ bl.take q ∧ S0.length ≤ al.length + bl.length ∧ 0 ≤ x ∧ x ≤ 12320 ∧ al.length ≤ S0.flatten.length + m ∧ m ≤ s.length ∧ (YtidadjlhnlmfkaaGreatDoor.wr (s.take m)).length ≤ n ∧ n ≤ (YtidadjlhnlmfkaaGreatDoor.wr s).length ∧
    (∀ (j : Nat) u, S0[j]? = some u → ∃ z, F (fileN ⟨#[120]⟩ (j + 1)) = some (YtidadjlhnlmfkaaGreatDoor.wr u, z)) ∧ (∃ z, F (fileN ⟨#[120]⟩ (S0.length + 1)) = some ((YtidadjlhnlmfkaaGreatDoor.wr s).take n, z)) ∧ (∀ t, F t ≠ none → ∃ j, 1 ≤ j ∧ j ≤ S0.length + 1 ∧ t = fileN ⟨#[120]⟩ j) ∧ (lf = 0 ∨ n = (YtidadjlhnlmfkaaGreatDoor.wr s).length)
theorem start_K {W : World} {N Dk L G : Nat} {sz : Int} {al bl : List (List UInt8)} {wr : World} (h : KB W N Dk L G sz al bl bl.length wr) (hfa : fewB al = true) (hfb : fewB bl = true) (A : Option Addr) (c : Nat) (ks : List Int) (hc : ks.length ≤ c) (hK : ∀ (j : Nat) u, ks[j]? = some u → ∃ ad, A = some ad ∧ ad.block < W.heap.size ∧ W.cell? (ad.add j) = some (.int .i64 u)) :
    Calls Tryz.prog 13 #[.pointer (some ⟨Dk, 0, none⟩), .slice A ks.length c] wr fun e w' => e = .returned (.tuple #[]) ∧ KD W N Dk al bl w' := by
  obtain ⟨S0, s, m, Ft, q, h0, h1, h2, h3, h5, h6, h7, h8, h9, h10, h11⟩ := h
  have f1 := (few_len hfb).1
  have f2 := (few_len hfa).1
  have f3 := few_took hfb
  have f4 := few_took hfa
  have htk := took_take bl q
  have htt : took (S0 ++ [s]).flatten ≤ 12320 := by rw [h1, took_append]; omega
  have hml : ∀ {F : Files}, FileK ⟨#[120]⟩ F S0 s m → (YtidadjlhnlmfkaaGreatDoor.wr (s.take m)).length ≤ (YtidadjlhnlmfkaaGreatDoor.wr s).length := fun _ => by
    rw [wr_length, wr_length]; exact took_take s m
  rcases h11 with ⟨_, lf, hlf, F, hL, hF⟩ | ⟨F, g, lf, hL, hF⟩
  · refine (start_up wr N Ft Dk _ F _ _ lf A ks.length c hL.1).mono ?_
    rintro e w' ⟨rfl, hD, hb⟩
    exact ⟨rfl, F, Ft, _, lf, S0, s, m, (YtidadjlhnlmfkaaGreatDoor.wr s).length, q, _, hD, by omega, h5.up hb.size, h6, h7.trans (hb.mono h7.size), Nat.le_trans h8 hb.size, h0, h1, h3, by omega, by omega, h2, hF.2.2.1, hml hF, Nat.le_refl _, fun j u hj => ⟨_, hF.1 j u hj⟩, ⟨_, by rw [List.take_length]; exact hF.2.1⟩, hF.2.2.2, .inr rfl⟩
  · have hints : IntsQ wr Ft A ks := fun j u hj => by
      obtain ⟨ad, e, g1, g2⟩ := hK j u hj
      refine ⟨ad, e, Nat.lt_of_lt_of_le g1 h7.size, fun hi => by have := h6 _ hi; omega, ?_⟩
      have e2 : (ad.add j).block = ad.block := by unfold Addr.add; split <;> rfl
      exact (h7.cell (p := ad.add j) (by rw [e2]; exact g1)).trans g2
    refine (start_S wr N Ft Dk _ F _ _ lf A c ks hL.1 (by omega) (fun ns hns => by rw [hF.sum (by omega) hns]) (by omega) h8 hc hints).mono ?_
    rintro e w' ⟨rfl, F', k', x', hD, hT, hst, _, hx0, hx1, hk'⟩
    obtain ⟨n, n1, n2, n3, n4, n5⟩ := hF.start hst
    have hz := hT.size
    exact ⟨rfl, F', _, x', 0, S0, s, m, n, q, k', hD, by omega, h5.new hz, fun i hi => hi.elim (h6 i) (fun e => by have := h7.size; omega), rest_below h6 h7 h9 h10 (OwnL.of hT), by omega, h0, h1, h3, hx0, by omega, h2, hF.2.2.1, n1, n2, fun j u hj => ⟨_, n3 j u hj⟩, ⟨_, n4⟩, n5, .inl rfl⟩
/-- a cut at n tells so many records. -/
theorem cut_recs {s : List (List UInt8)} {m n : Nat} (hs : ∀ r ∈ s, r.length ≤ 1000000) (hm : m ≤ s.length) (h1 : (wr (s.take m)).length ≤ n) (h2 : n ≤ (wr s).length) : ∃ p, m ≤ p ∧ p ≤ s.length ∧ recs ((wr s).take n) = s.take p ∧ took (s.take p) ≤ n ∧ (n = (wr s).length → p = s.length) := by
  obtain ⟨p, p1, p2, p3, _⟩ := wr_cut s n h2
  rw [wr_length] at p2
  have hmono : ∀ a b, a ≤ b → took (s.take a) ≤ took (s.take b) := fun a b hab => by
    have := took_take (s.take b) a
    rwa [List.take_take, Nat.min_eq_left hab] at this
  have hmp : m ≤ p := by
    rcases Nat.lt_or_ge p m with h | h
    · have h3 := p3 (by omega)
      rw [wr_length] at h3 h1
      have := hmono (p + 1) m h
      omega
    · exact h
  refine ⟨p, hmp, p1, ?_, p2, fun hn => ?_⟩
  · by_cases hp : p < s.length
    · have h3 := p3 hp
      rw [wr_length] at h3
      have hg : s[p]? = some s[p] := List.getElem?_eq_getElem hp
      refine recs_cut s p n _ hg hs p2 ?_
      rw [List.take_succ_eq_append_getElem hp, took_append] at h3
      simpa [took] using h3
    · have e : p = s.length := by omega
      subst e
      rw [List.take_length] at p2 ⊢
      exact recs_whole s n hs p2
  · rcases Nat.lt_or_ge p s.length with hp | hp
    · have h3 := p3 hp
      rw [hn, wr_length, wr_length] at h3
      have := took_take s (p + 1)
      omega
    · omega
theorem cut_dat {s : List (List UInt8)} {n p : Nat} (h : recs ((wr s).take n) = s.take p) (h1 : took (s.take p) ≤ n) : datB ((wr s).take n) = wr (s.take p) := by
  unfold datB
  rw [h, List.take_take, Nat.min_eq_left h1]
  have e : wr s = wr (s.take p) ++ wr (s.drop p) := by rw [← wr_append, List.take_append_drop]
  rw [e, List.take_append, wr_length, Nat.sub_self, List.take_zero, List.append_nil, List.take_of_length_le (by rw [wr_length]; exact Nat.le_refl _)]
/-- behind Open: the log's segments hold a beginning of all, with all of a. -/
def KO (W : World) (N : Nat) (Dk L G : Nat) (sz : Int) (al bl : List (List UInt8)) (S : Segs) (wr : World) : Prop :=
  ∃ (F : Files) (Ft : Nat → Prop) (x lf : Int) (k : Nat), LogS wr N Ft Dk k F 1048576 x lf false L G ⟨#[120]⟩ sz (gS S) false ∧ (∀ (j : Nat) u, S[j]? = some u → ∃ z, F (fileN ⟨#[120]⟩ (j + 1)) = some (YtidadjlhnlmfkaaGreatDoor.wr u, z)) ∧ S.length ≤ 41 ∧ Below W.heap.size W wr ∧ N ≤ wr.heap.size ∧
    S.flatten = (al ++ bl).take S.flatten.length ∧ al.length ≤ S.flatten.length ∧ S.flatten.length ≤ al.length + bl.length ∧ ∀ u ∈ S, took u ≤ 12320 ∧ ∀ r ∈ u, r.length ≤ 300
end Go.Proofs.YtidadjlhnlmfkaaGreatDoor
/- Open behind a start, in the law SeglogKept. Conditions: as stated at each. -/
namespace Go.Proofs.YtidadjlhnlmfkaaGreatDoor
open Go.RowKit Go.Shelf Go Go.Maps
theorem gOf_gS {S0 : Segs} {s : List (List UInt8)} {n p : Nat} (h0 : ∀ u ∈ S0, ∀ r ∈ u, r.length ≤ 1000000) (h : recs ((wr s).take n) = s.take p) : gOf (S0.map wr ++ [(wr s).take n]) = gS (S0 ++ [s.take p]) := by
  unfold gOf gS
  rw [List.map_append, List.map_append, List.map_map]
  congr 1
  · refine List.map_congr_left fun u hu => ?_
    show ((recs (wr u)).length, took (recs (wr u))) = _
    rw [recs_wr0 u (h0 u hu)]
  · rw [List.map_cons, List.map_cons, h]
    rfl
set_option maxHeartbeats 1600000 in
theorem open_K {W : World} {N Dk : Nat} {al bl : List (List UInt8)} {wr : World} (h : KD W N Dk al bl wr) (hfa : fewB al = true) (hfb : fewB bl = true) (sz : Int) (hsz : 1 ≤ sz) :
    Calls Tryz.prog 9 #[.pointer (some ⟨Dk, 0, none⟩), .string ⟨#[120]⟩, .int .i64 sz] wr fun e w' => ∃ L G S, e = .returned (.tuple #[.pointer (some ⟨L, 0, none⟩), .int .i64 0]) ∧ KO W N Dk L G sz al bl S w' := by
  obtain ⟨F, Ft, x, lf, S0, s, m, n, q, k, hD, hk, hlow, h6, h7, h8, h0, h1, h3, hx0, hx1, h2, hm, n1, n2, g1, ⟨zl, g2⟩, g3, hlf⟩ := h
  have f1 := (few_len hfb).1
  have f2 := (few_len hfa).1
  have hall : ∀ r, r ∈ (S0 ++ [s]).flatten → r.length ≤ 300 := fun r hr => by
    rw [h1] at hr
    rcases List.mem_append.1 hr with hr | hr
    · exact (few_len hfa).2 r hr
    · exact (few_len hfb).2 r (List.mem_of_mem_take hr)
  have hs3 : ∀ r ∈ s, r.length ≤ 300 := fun r hr => hall r (by simp [hr])
  have hu3 : ∀ u ∈ S0, ∀ r ∈ u, r.length ≤ 300 := fun u hu r hr => hall r (by
    rw [List.flatten_append]
    exact List.mem_append_left _ (List.mem_flatten.2 ⟨u, hu, hr⟩))
  have htt : took (S0 ++ [s]).flatten ≤ 12320 := by
    have := took_take bl q
    have := few_took hfa
    have := few_took hfb
    rw [h1, took_append]
    omega
  have hts : took s ≤ 12320 := Nat.le_trans (took_flat_le (by simp)) htt
  have htu : ∀ u ∈ S0, took u ≤ 12320 := fun u hu => Nat.le_trans (took_flat_le (by simp [hu])) htt
  obtain ⟨p, p1, p2, p3, p4, p5⟩ := cut_recs (fun r hr => by have := hs3 r hr; omega) hm n1 n2
  have hdat := cut_dat p3 p4
  obtain ⟨b9, hb9⟩ : ∃ b9, b9 = S0.map YtidadjlhnlmfkaaGreatDoor.wr ++ [(YtidadjlhnlmfkaaGreatDoor.wr s).take n] := ⟨_, rfl⟩
  have hbl9 : b9.length = S0.length + 1 := by rw [hb9]; simp
  have hlast : lastB b9 b9.length = (YtidadjlhnlmfkaaGreatDoor.wr s).take n := by
    unfold lastB
    rw [List.take_length, hb9]
    simp
  have hnl : ((YtidadjlhnlmfkaaGreatDoor.wr s).take n).length = n := by rw [List.length_take]; omega
  have hg9 : gOf b9 = gS (S0 ++ [s.take p]) := by
    rw [hb9]
    exact gOf_gS (fun u hu r hr => by have := hu3 u hu r hr; omega) p3
  have hget : ∀ j b, b9[j]? = some b → (∃ u, S0[j]? = some u ∧ b = YtidadjlhnlmfkaaGreatDoor.wr u) ∨ (j = S0.length ∧ b = (YtidadjlhnlmfkaaGreatDoor.wr s).take n) := fun j b hj => by
    rw [hb9] at hj
    by_cases e : j < S0.length
    · rw [List.getElem?_append_left (by simpa using e), List.getElem?_map, List.getElem?_eq_getElem e] at hj
      injection hj with hj
      exact .inl ⟨_, List.getElem?_eq_getElem e, hj.symm⟩
    · have hjl := (List.getElem?_eq_some_iff.1 hj).1
      simp at hjl
      obtain rfl : j = S0.length := by omega
      rw [List.getElem?_append_right (by simp)] at hj
      simp at hj
      exact .inr ⟨rfl, hj.symm⟩
  have hws : (YtidadjlhnlmfkaaGreatDoor.wr s).length ≤ 12320 := by rw [wr_length]; exact hts
  refine (open_S wr N Ft Dk k F 1048576 x lf ⟨#[120]⟩ sz b9 hD hlow h8 (fun t => ?_) (fun j b hj => ?_) (by omega) (by omega) nmOk_x hsz (by omega) hx0 (by omega) (by omega) ?_).mono ?_
  · rw [hbl9]
    constructor
    · exact g3 t
    · rintro ⟨j, j1, j2, rfl⟩
      by_cases e : j = S0.length + 1
      · rw [e, g2]; simp
      · obtain ⟨z, hz⟩ := g1 (j - 1) _ (List.getElem?_eq_getElem (by omega))
        rw [show j - 1 + 1 = j by omega] at hz
        rw [hz]; simp
  · rcases hget j b hj with ⟨u, hu, rfl⟩ | ⟨rfl, rfl⟩
    · have hmem := List.mem_of_getElem? hu
      have hr : recs (YtidadjlhnlmfkaaGreatDoor.wr u) = u := recs_wr0 u (fun r hr => by have := hu3 u hmem r hr; omega)
      have h9 := htu u hmem
      rw [hr, wr_length]
      exact ⟨g1 j u hu, by omega, Nat.le_refl _, fun _ => rfl⟩
    · refine ⟨⟨zl, g2⟩, by omega, took_le _, fun h => by omega⟩
  · rcases hlf with e | e
    · exact .inl e
    · right
      rw [hlast, p3, hnl, p5 e, List.take_length, e, wr_length]
  · rintro e w' ⟨L, G, Ft', F', ⟨c1, c2⟩, rfl, hL, hlow', hf', hL', hG', hT⟩
    rw [hlast, hdat] at c2
    rw [hbl9] at c1 c2
    rw [hg9] at hL
    have hsz9 := h7.size
    have hz := hT.size
    have hmem : ∀ u ∈ S0 ++ [s.take p], took u ≤ 12320 ∧ ∀ r ∈ u, r.length ≤ 300 := fun u hu => by
      rcases List.mem_append.1 hu with hu | hu
      · exact ⟨htu u hu, hu3 u hu⟩
      · obtain rfl : u = s.take p := by simpa using hu
        have := took_take s p
        exact ⟨by omega, fun r hr => hs3 r (List.mem_of_mem_take hr)⟩
    have hfl : (S0 ++ [s.take p]).flatten = (al ++ bl.take q).take (S0 ++ [s.take p]).flatten.length := by
      rw [← h1]
      simp only [List.flatten_append, List.flatten_cons, List.flatten_nil, List.append_nil, List.length_append, List.length_take, Nat.min_eq_left p2]
      rw [List.take_length_add_append]
    have hlen : (S0 ++ [s.take p]).flatten.length = S0.flatten.length + p := by
      simp only [List.flatten_append, List.flatten_cons, List.flatten_nil, List.append_nil, List.length_append, List.length_take, Nat.min_eq_left p2]
    have hlq : (al ++ bl.take q).length = al.length + q := by simp; omega
    have hlq2 : (S0 ++ [s]).flatten.length = S0.flatten.length + s.length := by simp
    rw [h1, hlq] at hlq2
    refine ⟨L, G, S0 ++ [s.take p], rfl, F', Ft', _, lf, _, hL, fun j u hj => ?_, by simp; omega, h7.trans (hT.below h7.size (fun i hi e => by have := h6 i e; omega)), by omega, ?_, by omega, by omega, hmem⟩
    · by_cases e : j < S0.length
      · rw [List.getElem?_append_left e] at hj
        obtain ⟨z, hz⟩ := g1 j u hj
        refine ⟨z, ?_⟩
        rw [c1 _ (fun e2 => by have := fileN_inj (by omega) (by omega) e2; omega)]
        exact hz
      · have hjl := (List.getElem?_eq_some_iff.1 hj).1
        simp at hjl
        obtain rfl : j = S0.length := by omega
        rw [List.getElem?_append_right (Nat.le_refl _)] at hj
        simp at hj
        rw [← hj]
        exact c2
    · have hpre : (al ++ bl).take (al ++ bl.take q).length = al ++ bl.take q := by
        rw [hlq, List.take_length_add_append]
      rw [← hpre, List.take_take, Nat.min_eq_left (by omega)] at hfl
      exact hfl
end Go.Proofs.YtidadjlhnlmfkaaGreatDoor
/- The law's few at two acts. Conditions: as stated. -/
namespace Go.Proofs.YtidadjlhnlmfkaaGreatDoor
open Go.RowKit Go
def fewR (al bl : List (List UInt8)) (kn : Nat) : Bool := fewB al && (fewB bl && decide (kn ≤ 20))
set_option maxHeartbeats 3200000 in
set_option maxRecDepth 20000 in
theorem few_two (W : World) (bA : Nat) (A B K : Option Addr) (c d kn kc : Nat) (al bl : List (List UInt8)) (hA : BlkIs W bA 28 #[.int .i64 0, .slice none 0 0, .slice A al.length c, .int .i64 0, .slice none 0 0, .int .i64 0, .slice none 0 0, .slice B bl.length d, .int .i64 0, .slice K kn kc]) (hRa : Rws W W.heap.size A al) (hRb : Rws W W.heap.size B bl) (hla : al.length ≤ maxLen) (hlb : bl.length ≤ maxLen) (hkn : kn ≤ maxLen) :
    Calls Tryz.prog 7 #[.slice (some ⟨bA, 0, none⟩) 2 2] W fun e w' => e = .returned (.bool (fewR al bl kn)) ∧ Below W.heap.size W w' := by
  unfold maxLen at hla hlb hkn
  go_enter Tryz.func7, Tryz.ntmps7
  go_wp2_with fail
  go_loopw [12] (fun i wr => (i = .int .i64 0 ∧ Below W.heap.size W wr ∧ True) ∨ (i = .int .i64 1 ∧ Below W.heap.size W wr ∧ fewB al = true) ∨ (i = .int .i64 2 ∧ Below W.heap.size W wr ∧ fewR al bl kn = true)) (fun i _ => 2 - (intOf i).toNat)
  case atStart => exact .inl ⟨rfl, Below.refl _ _, trivial⟩
  case round =>
    rcases hrel with ⟨rfl, hrel2⟩ | ⟨rfl, hrel2⟩ | ⟨rfl, hB, hf⟩
    · skip
      obtain ⟨hBw, hpre⟩ := hrel2
      have hRw := (hRa.below hBw).more hBw.size
      have hbk : BlkIs wr bA 28 #[.int .i64 0, .slice none 0 0, .slice A al.length c, .int .i64 0, .slice none 0 0, .int .i64 0, .slice none 0 0, .slice B bl.length d, .int .i64 0, .slice K kn kc] := (hBw.block _ hA.lt).trans hA
      have a0 := hbk.cell 0
      have a1 := hbk.cell 1
      have a2 := hbk.cell 2
      have a3 := hbk.cell 3
      have a4 := hbk.cell 4
      have hn := BlkIs.new wr 28 #[.int .i64 0, .slice none 0 0, .slice A al.length c, .int .i64 0, .slice none 0 0]
      have hB1 : Below wr.heap.size wr (wr.alloc (.cells #[.int .i64 0, .slice none 0 0, .slice A al.length c, .int .i64 0, .slice none 0 0] 28)) := (Below.refl _ wr).alloc (Nat.le_refl _) _
      have HB1 := Lib.hid (hBw.trans (hB1.mono hBw.size))
      have HPRE := Lib.hid hpre
      clear hpre
      by_cases h20 : 20 < al.length
      · have hb : false = fewR al bl kn := by have : fewB al = false := (by unfold fewB; simp; omega); unfold fewR; rw [this]; simp
        have HB := Lib.hid hb
        clear hb
        go_wp2_with fail
        go_ret
        exact ⟨ret_b HB.out, HB1.out⟩
      · have hR := hRw.below hB1
        go_wp2_with fail
        generalize (wr.alloc (.cells #[.int .i64 0, .slice none 0 0, .slice A al.length c, .int .i64 0, .slice none 0 0] 28)) = W1 at *
        go_loop [35] (fun i => ∃ k : Nat, k ≤ al.length ∧ i = .int .i64 k ∧ (al.take k).all small = true) (fun i => al.length - (intOf i).toNat)
        case atStart => exact ⟨0, Nat.zero_le _, rfl, by simp⟩
        case round =>
          obtain ⟨k, hk, rfl, ha⟩ := hrel
          have HA := Lib.hid ha
          clear ha
          by_cases hlt : k < al.length
          · obtain ⟨ad, Ak, ck, rfl, _, hcell, hck, hm, _⟩ := hR.at_ hlt
            have HN := Lib.hid (few_next al k hlt)
            have HF := Lib.hid (few_bad al k hlt)
            generalize hr : al.getD k [] = r at *
            have HRr := Lib.hid hr
            clear hr
            unfold maxLen at hm
            by_cases hsm : 300 < r.length
            · have hb : false = fewR al bl kn := by have : fewB al = false := (HF.out (by unfold small; simp; omega)); unfold fewR; rw [this]; simp
              have HB := Lib.hid hb
              clear hb
              go_wp2_with fail
              go_ret
              exact ⟨ret_b HB.out, HB1.out⟩
            · have hs : small r = true := by unfold small; simp; omega
              have HS := Lib.hid hs
              clear hs
              go_wp2_with fail
              go_round
              case rel => exact ⟨k + 1, by omega, by go_num, by rw [HN.out, HA.out, HS.out]; rfl⟩
              case measure => simp [intOf]; omega
          · obtain rfl : k = al.length := by omega
            have hf : fewB al = true := by
              have := HA.out
              rw [List.take_length] at this
              unfold fewB
              rw [this, decide_eq_true (by omega)]
              rfl
            have HF := Lib.hid hf
            clear hf
            go_wp2_with fail
            go_roundw
            case rel => exact .inr (.inl ⟨rfl, HB1.out, HF.out⟩)
            case measure => simp [intOf]

    · skip
      obtain ⟨hBw, hpre⟩ := hrel2
      have hRw := (hRb.below hBw).more hBw.size
      have hbk : BlkIs wr bA 28 #[.int .i64 0, .slice none 0 0, .slice A al.length c, .int .i64 0, .slice none 0 0, .int .i64 0, .slice none 0 0, .slice B bl.length d, .int .i64 0, .slice K kn kc] := (hBw.block _ hA.lt).trans hA
      have a0 := hbk.cell 5
      have a1 := hbk.cell 6
      have a2 := hbk.cell 7
      have a3 := hbk.cell 8
      have a4 := hbk.cell 9
      have hn := BlkIs.new wr 28 #[.int .i64 0, .slice none 0 0, .slice B bl.length d, .int .i64 0, .slice K kn kc]
      have hB1 : Below wr.heap.size wr (wr.alloc (.cells #[.int .i64 0, .slice none 0 0, .slice B bl.length d, .int .i64 0, .slice K kn kc] 28)) := (Below.refl _ wr).alloc (Nat.le_refl _) _
      have HB1 := Lib.hid (hBw.trans (hB1.mono hBw.size))
      have HPRE := Lib.hid hpre
      clear hpre
      by_cases h20 : 20 < bl.length
      · have hb : false = fewR al bl kn := by have : fewB bl = false := (by unfold fewB; simp; omega); unfold fewR; rw [this]; simp
        have HB := Lib.hid hb
        clear hb
        go_wp2_with fail
        go_ret
        exact ⟨ret_b HB.out, HB1.out⟩
      · have hR := hRw.below hB1
        by_cases hk20 : 20 < kn
        · have hb : false = fewR al bl kn := by unfold fewR; simp; omega
          have HB := Lib.hid hb
          clear hb
          go_wp2_with fail
          go_ret
          exact ⟨ret_b HB.out, HB1.out⟩
        go_wp2_with fail
        generalize (wr.alloc (.cells #[.int .i64 0, .slice none 0 0, .slice B bl.length d, .int .i64 0, .slice K kn kc] 28)) = W1 at *
        go_loop [35] (fun i => ∃ k : Nat, k ≤ bl.length ∧ i = .int .i64 k ∧ (bl.take k).all small = true) (fun i => bl.length - (intOf i).toNat)
        case atStart => exact ⟨0, Nat.zero_le _, rfl, by simp⟩
        case round =>
          obtain ⟨k, hk, rfl, ha⟩ := hrel
          have HA := Lib.hid ha
          clear ha
          by_cases hlt : k < bl.length
          · obtain ⟨ad, Ak, ck, rfl, _, hcell, hck, hm, _⟩ := hR.at_ hlt
            have HN := Lib.hid (few_next bl k hlt)
            have HF := Lib.hid (few_bad bl k hlt)
            generalize hr : bl.getD k [] = r at *
            have HRr := Lib.hid hr
            clear hr
            unfold maxLen at hm
            by_cases hsm : 300 < r.length
            · have hb : false = fewR al bl kn := by have : fewB bl = false := (HF.out (by unfold small; simp; omega)); unfold fewR; rw [this]; simp
              have HB := Lib.hid hb
              clear hb
              go_wp2_with fail
              go_ret
              exact ⟨ret_b HB.out, HB1.out⟩
            · have hs : small r = true := by unfold small; simp; omega
              have HS := Lib.hid hs
              clear hs
              go_wp2_with fail
              go_round
              case rel => exact ⟨k + 1, by omega, by go_num, by rw [HN.out, HA.out, HS.out]; rfl⟩
              case measure => simp [intOf]; omega
          · obtain rfl : k = bl.length := by omega
            have hf : fewB bl = true := by
              have := HA.out
              rw [List.take_length] at this
              unfold fewB
              rw [this, decide_eq_true (by omega)]
              rfl
            have HF := Lib.hid hf
            clear hf
            go_wp2_with fail
            go_roundw
            case rel => exact .inr (.inr ⟨rfl, HB1.out, by unfold fewR; rw [HPRE.out, HF.out, decide_eq_true (by omega)]; rfl⟩)
            case measure => simp [intOf]

    · have HF := Lib.hid hf.symm
      clear hf
      go_wp2_with fail
      go_ret
      exact ⟨ret_b HF.out, hB⟩
end Go.Proofs.YtidadjlhnlmfkaaGreatDoor
