/- SlBegin FlCrc FlLay FlWrite FlPut. Conditions: as stated at each. -/
import Derived.Test.YtfjmplkncopffaaGreatDoorKt16
import Derived.Test.YtfjmplkncopffaaGreatDoorKt02
/- A log's begin and roll. Conditions: as stated at each. -/
namespace Go.Proofs.YtfjmplkncopffaaGreatDoor
open Go.RowKit Go.Shelf Go Go.Maps
theorem segD_push {D : DataW Value} {g : List (Nat × Nat)} (hD : IsMap D) (h : SegD D g) (c z : Nat) : SegD (D.put (kI ((g.length : Int) + 1)) (.held (segV c z))) (g ++ [(c, z)]) := by
  refine ⟨fun i => ?_, fun j c' z' hj => ?_⟩
  · by_cases e : i = (g.length : Int) + 1
    · subst e
      rw [has_put_same hD (isKey_kI _)]
      simp
      omega
    · rw [has_put_other (fun e2 => e (kI_inj e2)), h.1 i]
      simp
      omega
  · rw [atI_put hD]
    by_cases hlt : j < g.length
    · rw [List.getElem?_append_left hlt] at hj
      rw [if_neg (by omega)]
      exact h.2 j c' z' hj
    · have hj0 : j = g.length := by
        have := (List.getElem?_eq_some_iff.1 hj).1
        simp at this
        omega
      subst hj0
      simp at hj
      rw [if_pos rfl, hj.1, hj.2]
theorem segD_set {D : DataW Value} {g : List (Nat × Nat)} (hD : IsMap D) (h : SegD D g) (i c z : Nat) (hi : i < g.length) : SegD (D.put (kI ((i : Int) + 1)) (.held (segV c z))) (g.set i (c, z)) := by
  refine ⟨fun j => ?_, fun j c' z' hj => ?_⟩
  · rw [List.length_set]
    by_cases e : j = (i : Int) + 1
    · subst e
      rw [has_put_same hD (isKey_kI _)]
      simp
      omega
    · rw [has_put_other (fun e2 => e (kI_inj e2)), h.1 j]
  · rw [atI_put hD]
    by_cases e : j = i
    · subst e
      rw [List.getElem?_set_self hi] at hj
      injection hj with hj
      injection hj with h1 h2
      rw [if_pos rfl, h1, h2]
    · rw [List.getElem?_set_ne (fun e2 => e e2.symm)] at hj
      rw [if_neg (by omega)]
      exact h.2 j c' z' hj
theorem SegM.put {W : World} {G k : Nat} {g g' : List (Nat × Nat)} (h : SegM W G k g) (hk : k < maxLen) (i : Int) (hi : Ok64 i) (c z : Nat) (hg : ∀ D, IsMap D → SegD D g → SegD (D.put (kI i) (.held (segV c z))) g') :
    ∃ w', (Instr.mapUpdate 57 (.map (some G)) (.int .i64 i) (segV c z)).run Tryz.prog W = .ok () w' ∧ SegM w' G (k + 1) g' ∧ W.grownBy w' (some G) := by
  obtain ⟨D, h1, h2⟩ := h
  obtain ⟨w', e1, e2, e3⟩ := heldI_put h1 Tryz.underlying3 Tryz.underlying57 hi hk (segV c z)
  exact ⟨w', e1, ⟨_, e2, hg D (Held.isMap h1) h2⟩, e3⟩
set_option maxHeartbeats 1600000 in
set_option maxRecDepth 20000 in
theorem begin_ok (W : World) (N : Nat) (Ft : Nat → Prop) (Dk k : Nat) (F : Files) (rm x lf : Int) (L G : Nat) (nm : ByteArray) (sz : Int) (g : List (Nat × Nat))
    (h : LogS W N Ft Dk k F rm x lf false L G nm sz g false) (hl : g.length < 999999) (hn : nmOk nm) (hf : F (fileN nm (g.length + 1)) = none) (hk : k + 1 < maxLen) (hx : 0 ≤ x) (hx2 : x ≤ 100000000) (hlf : lf ≤ 9223372036854775807) (h1 : lf ≠ 1) :
    Calls Tryz.prog 53 #[.pointer (some ⟨L, 0, none⟩), .int .i64 ((g.length : Int) + 1)] W fun e w' => e = .returned (.tuple #[]) ∧ LgPost W N Ft Dk (k + 2) (F.upd (fileN nm (g.length + 1)) (some ([], 0))) rm x (lfA lf) false L G nm sz (g ++ [(0, 0)]) false w' := by
  have c0 := BlkIs.cell h.2.1 0
  have hlt := h.ltL
  have hn6 : nm.size ≤ 1000000 := by have := hn.1; omega
  have hnb := nameB_fileN hn (g.length + 1)
  have hnL := h.2.2.2.1
  go_enter Tryz.func53, Tryz.ntmps53
  go_wp2_with fail
  have hA : Below W.heap.size W W.drew := (Below.refl _ W).drew
  have hD := h.below hA
  go_region_held3 (fun w' => w'.cell? ⟨L, 0, none⟩ = some (.pointer (some ⟨Dk, 0, none⟩)))
    (first
      | go_keep
      | exact (hb1.cell (p := ⟨L, 0, none⟩) hlt).trans c0
      | exact BlkIs.cell hE.2.1 0)
    (first
      | (go_at_call 30; refine (lfile_any _ L Dk nm sz G _ false (g.length + 1) hD.2.1 (by omega) hn6).mono ?_; rintro e w1 ⟨rfl, hb1⟩)
      | (go_at_call 70; have hC := hD.below hb1; refine (create_ok w1 N Ft Dk k F _ rm x lf hC.1 hnb hf (by omega) hx hx2 hlf h1).mono ?_; rintro e w2 ⟨rfl, hD2, hT2⟩; have hE := hC.disk hD2 hT2 (Nat.le_succ k))
      | (go_at_call 26; refine (must_ok _).mono ?_; rintro e w3 ⟨rfl, rfl⟩))
  have hf4 := BlkIs.froz hE.2.1 4
  have c3 := BlkIs.cell hE.2.1 3
  have c4 := BlkIs.cell hE.2.1 4
  have hB1 := hA.trans hb1
  have hT := ((Tn.of_below (p := Ft) hB1).trans hT2)
  have HT := Lib.hid (OwnL.of (L := L) (G := G) hT)
  obtain ⟨w3, hrun, hM3, hg3⟩ := hE.2.2.1.put (by omega) ((g.length : Int) + 1) (by unfold Ok64; omega) 0 0 (fun D h1 h2 => segD_push h1 h2 0 0)
  have hL3 : LogB w3 L Dk nm sz G g.length false := (hg3.block L hE.ltL (fun e => hE.ne (by injection e with e; exact e.symm))).trans hE.2.1
  have c4' := BlkIs.cell hL3 4
  have f4' := BlkIs.froz hL3 4
  unfold segV at hrun
  rw [show ((0 : Nat) : Int) = 0 from rfl] at hrun
  have HF := Lib.hid (hE.last hg3 hM3 (by omega))
  have HT3 := Lib.hid (HT.out.grown hg3 (fun i e => .inl (.inr (.inr (by injection e with e; exact e.symm)))))
  have hz3 := hg3.size
  clear hT hT2 hM3 hg3
  have hlen : ((g ++ [(0, 0)]).length : Nat) = g.length + 1 := by simp
  rw [hlen] at HF
  go_wp2_with fail
  go_end0
  exact ⟨rfl, LgPost.up hnL hlt h.2.2.2.2 h.ltG hB1.size (by rw [size_set]; exact hz3) HF.out (HT3.out.setCell (.inl (.inr (.inl rfl))) _)⟩
theorem OwnL.new {Ft : Nat → Prop} {L G : Nat} {W W1 : World} : ∀ i, i < W.heap.size → OwnL (NewFt Ft W W1) L G i → OwnL Ft L G i := by
  rintro i hi ((h | ⟨h, _⟩) | h)
  · exact .inl h
  · omega
  · exact .inr h
/-- one call behind another. -/
theorem LgPost.trans {W W1 w' : World} {N Dk k k' L G : Nat} {Ft : Nat → Prop} {F F' : Files} {rm x x' lf lf' : Int} {b b' : Bool} {nm : ByteArray} {sz : Int} {g g' : List (Nat × Nat)} {dead dead' : Bool} {k0 : Nat} {F0 : Files} {x0 lf0 : Int} {b0 : Bool} {g0 : List (Nat × Nat)} {dead0 : Bool}
    (h0 : LogS W N Ft Dk k0 F0 rm x0 lf0 b0 L G nm sz g0 dead0) (h1 : LgPost W N Ft Dk k F rm x lf b L G nm sz g dead W1) (h2 : LgPost W1 N (NewFt Ft W W1) Dk k' F' rm x' lf' b' L G nm sz g' dead' w') : LgPost W N Ft Dk k' F' rm x' lf' b' L G nm sz g' dead' w' := by
  have hs := h1.2.size
  have hs2 := h2.2.size
  exact ⟨h2.1.more (newFt_trans hs hs2) (Nat.le_refl _) (newFt_not h0.2.2.2.1 h0.ltL) (newFt_not h0.2.2.2.2 h0.ltG),
    h2.2.os.trans h1.2.os, h2.2.tape.trans h1.2.tape, h2.2.output.trans h1.2.output, Nat.le_trans hs hs2, fun i hi hp => (h2.2.block i (by omega) (fun e => hp (OwnL.new i hi e))).trans (h1.2.block i hi hp)⟩
theorem LgPost.of_below {W W1 w' : World} {N Dk k L G : Nat} {Ft : Nat → Prop} {F : Files} {rm x lf : Int} {b : Bool} {nm : ByteArray} {sz : Int} {g : List (Nat × Nat)} {dead : Bool} {k0 : Nat} {F0 : Files} {x0 lf0 : Int} {b0 : Bool} {g0 : List (Nat × Nat)} {dead0 : Bool}
    (h0 : LogS W N Ft Dk k0 F0 rm x0 lf0 b0 L G nm sz g0 dead0) (hB : Below W.heap.size W W1) (h2 : LgPost W1 N Ft Dk k F rm x lf b L G nm sz g dead w') : LgPost W N Ft Dk k F rm x lf b L G nm sz g dead w' :=
  LgPost.up h0.2.2.2.1 h0.ltL h0.2.2.2.2 h0.ltG hB.size (Nat.le_refl _) h2.1 ((Tn.of_below hB).trans h2.2)
/-- the log behind it, with the blocks it began with and new ones. -/
theorem LgPost.then {W W1 : World} {N Dk k L G : Nat} {Ft : Nat → Prop} {F : Files} {rm x lf : Int} {b : Bool} {nm : ByteArray} {sz : Int} {g : List (Nat × Nat)} {dead : Bool} (h : LgPost W N Ft Dk k F rm x lf b L G nm sz g dead W1) : LogS W1 N (NewFt Ft W W1) Dk k F rm x lf b L G nm sz g dead := h.1
set_option maxHeartbeats 1600000 in
set_option maxRecDepth 20000 in
theorem roll_ok (W : World) (N : Nat) (Ft : Nat → Prop) (Dk k : Nat) (F : Files) (rm x lf : Int) (L G : Nat) (nm : ByteArray) (sz : Int) (g : List (Nat × Nat)) (bs : List UInt8) (z : Nat) (need : Nat)
    (h : LogS W N Ft Dk k F rm x lf false L G nm sz g false) (hl : g.length < 999999) (hn : nmOk nm) (hf : F (fileN nm g.length) = some (bs, z)) (hbs : bs.length ≤ 100000000) (hf2 : F (fileN nm (g.length + 1)) = none) (hk : k + 3 < maxLen) (hx : 0 ≤ x) (hx2 : x ≤ 100000000) (hr : x + need ≤ rm) (hr2 : rm ≤ 1000000000000)
    (hlf : lf ≤ 9223372036854775807) (h1 : lf ≠ 1) (h2 : lf ≠ 2) :
    Calls Tryz.prog 28 #[.pointer (some ⟨L, 0, none⟩), .int .i64 need] W fun e w' => e = .returned (.tuple #[]) ∧
      LgPost W N Ft Dk (k + 3) ((F.upd (fileN nm g.length) (some (bs, bs.length))).upd (fileN nm (g.length + 1)) (some ([], 0))) rm x (lfA (lfA lf)) false L G nm sz (g ++ [(0, 0)]) false w' := by
  have c0 := BlkIs.cell h.2.1 0
  have c4 := BlkIs.cell h.2.1 4
  have h9 : ((g.length : Int) == 999999) = false := by simp; omega
  have hlt : ¬ rm - x < (need : Int) := by omega
  have hlA : lfA lf ≠ 1 := by unfold lfA; split <;> omega
  have hlB : lfA lf ≤ 9223372036854775807 := by unfold lfA; split <;> omega
  have hne : fileN nm (g.length + 1) ≠ fileN nm g.length := fun e => by have := fileN_inj (by omega) (by omega) e; omega
  go_enter Tryz.func28, Tryz.ntmps28
  go_wp2_with (first
    | (go_at_call 37; refine (look_up _ L Dk nm sz G _ false h.2.1 h.1).mono ?_; rintro e w' ⟨rfl, rfl⟩)
    | (go_at_call 54; refine (free_S W N Ft Dk k F rm x lf h.1 hx hx2 (by omega) hr2).mono ?_; rintro e w1 ⟨rfl, hb1⟩))
  have hw1 := h.below hb1
  refine (lsync_ok w1 N Ft Dk k F rm x lf L G nm sz g bs z hw1 (by omega) hn hf hbs (by omega) hx hx2 hlf h1).mono ?_
  rintro e w2 ⟨rfl, hp2⟩
  have c4' := BlkIs.cell hp2.1.2.1 4
  have HP2 := Lib.hid hp2
  have hbeg := Lib.hid (begin_ok w2 N (NewFt Ft w1 w2) Dk (k + 1) (F.upd (fileN nm g.length) (some (bs, bs.length))) rm x (lfA lf) L G nm sz g hp2.1 hl hn (by unfold Files.upd; rw [if_neg hne]; exact hf2) (by omega) hx hx2 hlB hlA)
  clear hp2
  go_wp2_with fail
  refine hbeg.out.mono ?_
  rintro e w3 ⟨rfl, hp3⟩
  have HP := Lib.hid (LgPost.of_below h hb1 (LgPost.trans hw1 HP2.out hp3))
  clear hp3
  go_wp2_with fail
  go_end0
  exact ⟨rfl, HP.out⟩
end Go.Proofs.YtfjmplkncopffaaGreatDoor
/- frame.down, frame.Crc. Conditions: as stated. -/
namespace Go.Proofs.YtfjmplkncopffaaGreatDoor
open Go.RowKit Go
set_option maxHeartbeats 400000 in
theorem fdown_any (s : Nat) (w : World) (h : s < 4294967296) :
    Calls Tryz.prog 89 #[.int .u32 s] w fun e w' => e = .returned (.int .u32 (downN 8 s : Nat)) ∧ w = w' := by
  go_enter Tryz.func89, Tryz.ntmps89
  go_wp2_with fail
  go_loop [0, 4] (fun x i => ∃ k : Nat, k ≤ 8 ∧ i = .int .i64 k ∧ x = .int .u32 (downN k s : Nat)) (fun _ i => 8 - (intOf i).toNat)
  case atStart => exact ⟨0, Nat.zero_le _, rfl, rfl⟩
  case round =>
    obtain ⟨k, hk, rfl, rfl⟩ := hrel
    have hb := downN_lt h k
    generalize hz : downN k s = z at *
    have HZ := Lib.hid hz
    clear hz
    by_cases hlt : k < 8
    · have hx : bits .and .u32 (z : Int) 1 = (z : Int) % 2 := by
        rw [u32_and (z : Int) 1 (by omega) (by omega) (by omega) (by omega)]
        simp
      go_wp2_with fail
      all_goals
        go_round
        case rel =>
          refine ⟨k + 1, by omega, by go_num, ?_⟩
          rw [downN, HZ.out, bitDown]
          first
            | (have hm : ((z : Int) % 2 == 1) = true := by assumption
               have hm2 : z % 2 = 1 := by simp at hm; omega
               rw [if_pos hm2, u32_xor _ _ (by omega) (by omega) (by omega) (by omega)]
               rfl)
            | (have hm : ((z : Int) % 2 == 1) = false := by assumption
               have hm2 : ¬ z % 2 = 1 := by simp at hm; omega
               rw [if_neg hm2]
               rfl)
        case measure => simp [intOf]; omega
    · obtain rfl : k = 8 := by omega
      go_wp2_with fail
      go_ret
      exact ⟨ret_u32 HZ.out.symm, rfl⟩
set_option maxHeartbeats 800000 in
theorem crc_any (A : Option Addr) (B c : Nat) (l : List UInt8) (w : World) (h : Bts w B A l) (hl : l.length ≤ 1000000000) :
    Calls Tryz.prog 68 #[.slice A l.length c] w fun e w' => e = .returned (.int .u32 (crc l : Nat)) ∧ w = w' := by
  have HC := Lib.hid (crc_end l l.length (Nat.le_refl _))
  go_enter Tryz.func68, Tryz.ntmps68
  go_wp2_with fail
  go_loop [3, 8] (fun x i => ∃ k : Nat, k ≤ l.length ∧ i = .int .i64 k ∧ x = .int .u32 (crcReg (l.take k) : Nat)) (fun _ i => l.length - (intOf i).toNat)
  case atStart => exact ⟨0, Nat.zero_le _, rfl, rfl⟩
  case round =>
    obtain ⟨k, hk, rfl, rfl⟩ := hrel
    have hb := crcReg_lt (l.take k)
    by_cases hlt : k < l.length
    · have HN := Lib.hid (crcReg_next l k hlt)
      obtain ⟨ad, hA, _, hcell⟩ := h.at_ hlt
      subst hA
      generalize hz : crcReg (l.take k) = z at *
      have HZ := Lib.hid hz
      clear hz
      generalize hq : l.getD k 0 = q at *
      have HQ := Lib.hid hq
      clear hq
      have hq := q.toNat_lt
      have hx : bits .xor .u32 (z : Int) (q.toNat : Int) = ((z ^^^ q.toNat : Nat) : Int) := u32_xor_nat _ _ (by omega) (by omega)
      have hlt2 : z ^^^ q.toNat < 4294967296 := xor_lt hb (by omega)
      go_wp2_with (go_at_call 89; refine (fdown_any _ _ hlt2).mono ?_; rintro e w' ⟨rfl, rfl⟩)
      go_round
      case rel => exact ⟨k + 1, by omega, by go_num, by rw [HN.out]; rfl⟩
      case measure => simp [intOf]; omega
    · obtain rfl : k = l.length := by omega
      go_wp2_with fail
      go_ret
      exact ⟨ret_u (crc_bits l), rfl⟩
end Go.Proofs.YtfjmplkncopffaaGreatDoor
/- frame.lay. Conditions: as stated. -/
namespace Go.Proofs.YtfjmplkncopffaaGreatDoor
open Go.RowKit Go
set_option maxHeartbeats 800000 in
theorem lay_any (N : Nat) (v : Value) (l : List UInt8) (n : Nat) (W : World) (h : n < 4294967296) (hown : Own5 W N v l) (hN : N ≤ W.heap.size) (hl : l.length ≤ 500000000) :
    Calls Tryz.prog 67 #[v, .int .u32 n] W fun e w' => Gives5 W N (l ++ le4 n) e w' := by
  go_enter Tryz.func67, Tryz.ntmps67
  go_wp2_with fail
  go_loopw [0, 1, 5] (fun x y i wr => ∃ k : Nat, k ≤ 4 ∧ i = .int .i64 k ∧ y = .int .u32 (n / 256 ^ k : Nat) ∧ Own5 wr N x (l ++ (le4 n).take k) ∧ Below N W wr) (fun _ _ i _ => 4 - (intOf i).toNat)
  case atStart => exact ⟨0, Nat.zero_le _, rfl, by simp, by simpa using hown, Below.refl _ _⟩
  case round =>
    obtain ⟨k, hk, rfl, rfl, ho, hb⟩ := hrel
    have HB := Lib.hid hb
    have HO := Lib.hid ho
    have hsz := hb.size
    clear hb ho hown
    by_cases hlt : k < 4
    · have HS := Lib.hid (shr_next n k)
      have HT := Lib.hid (le4_next n k hlt)
      have hml : n / 256 ^ k < 4294967296 := Nat.lt_of_le_of_lt (Nat.div_le_self _ _) h
      have hby := (byte_of (n / 256 ^ k)).symm
      have hlen : (l ++ (le4 n).take k).length ≤ 500000004 := by simp [le4]; omega
      generalize n / 256 ^ k = m at *
      generalize hq : UInt8.ofNat m = q at *
      have HQ := Lib.hid hq
      clear hq
      have hnew := Own5.new wr [q] #[.int .u8 (q.toNat : Int)] rfl (by unfold maxLen; simp)
      have ho2 := own_kept HO.out ((Below.refl wr.heap.size wr).alloc (Nat.le_refl _) (.cells #[.int .u8 (q.toNat : Int)] 5)) (Nat.le_refl _)
      have hb2 := HB.out.alloc (Nat.le_trans hN HB.out.size) (.cells #[.int .u8 (q.toNat : Int)] 5)
      go_wp2_with (at_builtin; refine app5 (.tmp 7) (.tmp 10) rfl rfl N _ (l ++ (le4 n).take k) [q] rfl ho2 _ _ _ rfl hnew.bts (by simp; omega) (by simp; omega) ?_; intro v2 w2 hown2 hg2)
      have hb3 := Lib.hid (grown_below hb2 hN ho2 hg2)
      have HO2 := Lib.hid hown2
      clear hown2 hg2 ho2 hb2 hnew
      go_wp2_with fail
      go_roundw
      case rel => exact ⟨k + 1, by omega, by go_num, by rw [HS.out]; go_num, by rw [HT.out, ← List.append_assoc]; exact HO2.out, hb3.out⟩
      case measure => simp [intOf]; omega
    · obtain rfl : k = 4 := by omega
      go_wp2_with fail
      go_ret
      exact ⟨_, rfl, HO.out, HB.out⟩
end Go.Proofs.YtfjmplkncopffaaGreatDoor
/- frame.Write. Conditions: as stated. -/
namespace Go.Proofs.YtfjmplkncopffaaGreatDoor
open Go.RowKit Go
set_option maxHeartbeats 1600000 in
theorem write_any (A : Option Addr) (B c : Nat) (ll : List (List UInt8)) (W : World) (h : Rws W B A ll) (hB : B ≤ W.heap.size) (hl : ll.length ≤ 1000000) (hr : ∀ r ∈ ll, r.length ≤ 1000000) (ht : took ll ≤ 100000000) :
    Calls Tryz.prog 45 #[.slice A ll.length c] W fun e w' => Wrote W W.heap.size (wr ll) e w' := by
  have HR := Lib.hid hr
  clear hr
  go_enter Tryz.func45, Tryz.ntmps45
  go_wp2_with fail
  go_loopw [4, 9] (fun x i w1 => ∃ k : Nat, k ≤ ll.length ∧ i = .int .i64 k ∧ Own5 w1 W.heap.size x (wr (ll.take k)) ∧ Below W.heap.size W w1) (fun _ i _ => ll.length - (intOf i).toNat)
  case atStart => exact ⟨0, Nat.zero_le _, rfl, Own5.nil _ _, Below.refl _ _⟩
  case round =>
    obtain ⟨k, hk, rfl, ho, hb⟩ := hrel
    rename World => w1
    have HO := Lib.hid ho
    have HB := Lib.hid hb
    clear ho hb
    by_cases hlt : k < ll.length
    · have HN := Lib.hid (wr_next ll k hlt)
      have HL := Lib.hid (wr_len ll k)
      have HL1 := Lib.hid (wr_len ll (k + 1))
      have hmem : ll.getD k [] ∈ ll := by rw [List.getD, List.getElem?_eq_getElem hlt]; exact List.getElem_mem hlt
      have hrl := HR.out _ hmem
      obtain ⟨ad, Ak, ck, rfl, _, hcell, hck, hm, hbts⟩ := (h.below (HB.out.mono hB)).at_ hlt
      clear hmem
      generalize ll.getD k [] = r at *
      generalize wr (ll.take k) = o at *
      have hcrc := crc_lt r
      have ho1 : o.length ≤ 100000000 := Nat.le_trans HL.out ht
      have hbts1 := hbts.more hB
      clear hbts
      go_wp2_with fail
      refine (lay_any _ _ _ _ _ (by omega) HO.out HB.out.size (by omega)).mono ?_
      rintro e w2 ⟨v2, rfl, ho2, hb2⟩
      have HO2 := Lib.hid ho2
      have HB2 := Lib.hid (HB.out.trans hb2)
      have hbts2 := hbts1.below hb2
      clear ho2 hb2
      go_wp2_with fail
      refine (crc_any _ _ _ _ _ hbts2 (by omega)).mono ?_
      rintro e w' ⟨rfl, rfl⟩
      go_wp2_with fail
      refine (lay_any _ _ _ _ _ (by omega) HO2.out HB2.out.size (by rw [List.length_append, le4_length]; omega)).mono ?_
      rintro e w3 ⟨v3, rfl, ho3, hb3⟩
      have HO3 := Lib.hid ho3
      have HB3 := Lib.hid (HB2.out.trans hb3)
      have hbts3 := hbts2.below hb3
      clear hb3
      go_wp2_with (at_builtin; refine app5 (.tmp 25) (.tmp 26) rfl rfl W.heap.size _ (o ++ le4 r.length ++ le4 (crc r)) r rfl ho3 _ _ ck rfl hbts3 (by simp only [List.length_append, le4_length]; omega) HB3.out.size ?_; intro v4 w4 hown4 hg4)
      have HB4 := Lib.hid (grown_below HB3.out (Nat.le_refl _) ho3 hg4)
      have HO4 := Lib.hid hown4
      clear hown4 hg4 ho3
      go_wp2_with fail
      go_roundw
      case rel => exact ⟨k + 1, by omega, by go_num, by rw [HN.out]; exact HO4.out, HB4.out⟩
      case measure => simp [intOf]; omega
    · obtain rfl : k = ll.length := by omega
      go_wp2_with fail
      refine bodyPost_ret (by simp [results, Tryz.results45, go_sem]; rfl) rfl ⟨_, rfl, ?_, HB.out⟩
      have := HO.out
      rw [List.take_length] at this
      exact this
end Go.Proofs.YtfjmplkncopffaaGreatDoor
/- frame.Put. Conditions: as stated. -/
namespace Go.Proofs.YtfjmplkncopffaaGreatDoor
open Go.RowKit Go
set_option maxHeartbeats 400000 in
theorem fput_any (A : Option Addr) (B c : Nat) (l : List UInt8) (w : World) (h : Bts w B A l) (hB : B ≤ w.heap.size) (hl : l.length ≤ c) (hc : c ≤ maxLen) (hm : l.length ≤ 1000000) :
    Calls Tryz.prog 25 #[.slice A l.length c] w fun e w' => Wrote w w.heap.size (rec1 l) e w' := by
  have hr := Rws.one h hB hl hc
  have hw := write_any _ _ 1 [l] _ hr (by simp) (by simp) (by simpa using hm) (by simp [took]; omega)
  rw [wr_one] at hw
  have hb := (Below.refl w.heap.size w).alloc (Nat.le_refl _) (.cells #[.slice A l.length c] 26)
  clear hr
  go_enter Tryz.func25, Tryz.ntmps25
  go_wp2_with fail
  refine hw.mono ?_
  rintro e w2 ⟨v2, rfl, ho2, hb2⟩
  have ho3 := Lib.hid (own_more ho2 (show w.heap.size ≤ _ by simp))
  have hb3 := Lib.hid (hb.trans (hb2.mono (by simp)))
  clear ho2 hb2 hw hb
  go_wp2_with fail
  exact bodyPost_ret (by simp [results, Tryz.results25, go_sem]) rfl ⟨_, rfl, ho3.out, hb3.out⟩
end Go.Proofs.YtfjmplkncopffaaGreatDoor
