/- SlApp SlAppend SlLoad. Conditions: as stated at each. -/
import Derived.Test.YtidadjlhnlmfkaaGreatDoorKt20
import Derived.Test.YtidadjlhnlmfkaaGreatDoorKt05
import Derived.Deep.Cut
import Derived.Test.YtidadjlhnlmfkaaGreatDoorKt19
/- A log's Append: the closure. Conditions: as stated at each. -/
namespace Go.Proofs.YtidadjlhnlmfkaaGreatDoor
open Go.RowKit Go.Shelf Go Go.Maps
/-- Ft's blocks are there. -/
def Low (W : World) (Ft : Nat → Prop) : Prop := ∀ i, Ft i → i < W.heap.size
theorem Low.new {W w' : World} {Ft : Nat → Prop} (h : Low W Ft) (hs : W.heap.size ≤ w'.heap.size) : Low w' (NewFt Ft W w') := by
  rintro i (h1 | ⟨_, h1⟩)
  · have := h i h1
    omega
  · exact h1
theorem Low.up {W w' : World} {Ft : Nat → Prop} (h : Low W Ft) (hs : W.heap.size ≤ w'.heap.size) : Low w' Ft := fun i hi => Nat.lt_of_lt_of_le (h i hi) hs
/-- the place, and what has turned. -/
def AppP (W : World) (N : Nat) (Ft : Nat → Prop) (Dk k : Nat) (F : Files) (rm x lf : Int) (L G : Nat) (nm : ByteArray) (sz : Int) (g : List (Nat × Nat)) (B6 : Nat) (p q : Int) (w' : World) : Prop :=
  LogS w' N (NewFt Ft W w') Dk k F rm x lf false L G nm sz g false ∧ BlkIs w' B6 37 #[.int .i64 p, .int .i64 q] ∧ Tn (fun i => OwnL Ft L G i ∨ i = B6) W w'
theorem set_last {g0 : List (Nat × Nat)} {a b : Nat × Nat} : (g0 ++ [a]).set g0.length b = g0 ++ [b] := by simp
theorem get_last {g0 : List (Nat × Nat)} {a : Nat × Nat} : (g0 ++ [a])[g0.length]? = some a := by simp
theorem LogS.map {W W1 : World} {N Dk k k' L G : Nat} {Ft : Nat → Prop} {F : Files} {rm x lf : Int} {b : Bool} {nm : ByteArray} {sz : Int} {g g' : List (Nat × Nat)} {dead : Bool}
    (h : LogS W N Ft Dk k F rm x lf b L G nm sz g dead) (hg : W.grownBy W1 (some G)) (hM : SegM W1 G k' g') (hl : g'.length = g.length) (hk : k ≤ k') : LogS W1 N Ft Dk k' F rm x lf b L G nm sz g' dead := by
  have hT : Tn (fun i => i = G) W W1 := (Tn.refl _ W).grown hg (fun i e => .inl (by injection e with e; exact e.symm))
  refine ⟨(h.1.keep hT (fun i hi e => h.2.2.2.2 (by rw [← e]; exact hi))).more (fun _ h => h) hk, ?_, hM, h.2.2.2.1, h.2.2.2.2⟩
  rw [hl]
  exact (hT.block L h.ltL (fun e => h.ne e.symm)).trans h.2.1
theorem Tn.tnn {Ft Ft' : Nat → Prop} {L G : Nat} {W W1 W2 : World} (h : Tn (OwnL Ft L G) W W1) (k : Tn Ft' W1 W2) (hf : ∀ i, i < W.heap.size → Ft' i → Ft i) : Tn (OwnL Ft L G) W W2 :=
  ⟨k.os.trans h.os, k.tape.trans h.tape, k.output.trans h.output, Nat.le_trans h.size k.size, fun i hi hp => (k.block i (Nat.lt_of_lt_of_le hi h.size) (fun e => hp (.inl (hf i hi e)))).trans (h.block i hi hp)⟩
theorem below_alk {n : Nat} {W W1 : World} (h : Alk W W1) (_ : n ≤ W.heap.size) : Below n W W1 := ⟨h.2.1, h.2.2.1, h.2.2.2, by rw [h.1]; exact Nat.le_refl _, fun i _ => by rw [h.1]⟩
theorem lfA_two {lf : Int} (h : lf ≤ 9223372036854775807) (h1 : lf ≠ 1) (h2 : lf ≠ 2) (h3 : lf ≠ 3) : lfA (lfA lf) ≠ 1 ∧ lfA (lfA lf) ≤ 9223372036854775807 := by
  by_cases a : 1 < lf
  · have e1 : lfA lf = lf - 1 := if_pos a
    have e2 : lfA (lf - 1) = lf - 1 - 1 := if_pos (by omega)
    rw [e1, e2]
    omega
  · have e1 : lfA lf = lf := if_neg a
    rw [e1, e1]
    omega
theorem alk_drew (W : World) : Alk W W.drew := ⟨rfl, rfl, rfl, rfl⟩
/-- the last segment that is appended to: the one that there was, or a new one. -/
def Rolled (nm : ByteArray) (sz : Int) (k : Nat) (F : Files) (lf : Int) (g0 : List (Nat × Nat)) (c z : Nat) (bs : List UInt8) (sf : Nat) (kt : Nat) (Fl : Files) (lft : Int) (gt : List (Nat × Nat)) (ct zt : Nat) (bst : List UInt8) (sft : Nat) : Prop :=
  ((z : Int) < sz ∧ kt = k ∧ Fl = F ∧ lft = lf ∧ gt = g0 ∧ ct = c ∧ zt = z ∧ bst = bs ∧ sft = sf) ∨
  (sz ≤ (z : Int) ∧ kt = k + 3 ∧ Fl = (F.upd (fileN nm (g0.length + 1)) (some (bs, bs.length))).upd (fileN nm (g0.length + 2)) (some ([], 0)) ∧ lft = lfA (lfA lf) ∧ gt = g0 ++ [(c, z)] ∧ ct = 0 ∧ zt = 0 ∧ bst = [] ∧ sft = 0)
def AppQ (W : World) (N : Nat) (Ft : Nat → Prop) (Dk k : Nat) (F : Files) (rm x lf : Int) (L G : Nat) (nm : ByteArray) (sz : Int) (g0 : List (Nat × Nat)) (c z : Nat) (bs : List UInt8) (sf : Nat) (B6 : Nat) (r : List UInt8) (w' : World) : Prop :=
  ∃ kt Fl lft gt ct zt bst sft, Rolled nm sz k F lf g0 c z bs sf kt Fl lft gt ct zt bst sft ∧
    AppP W N Ft Dk (kt + 2) (Fl.upd (fileN nm (gt.length + 1)) (some (bst ++ rec1 r, sft))) rm (x + (rec1 r).length) (lfA lft) L G nm sz (gt ++ [(ct + 1, zt + (rec1 r).length)]) B6 ((gt.length : Int) + 1) ct w'
set_option maxHeartbeats 3200000 in
set_option maxRecDepth 20000 in
theorem app_any (W : World) (N : Nat) (Ft : Nat → Prop) (Dk k : Nat) (F : Files) (rm x lf : Int) (L G : Nat) (nm : ByteArray) (sz : Int) (g0 : List (Nat × Nat)) (c z : Nat) (bs : List UInt8) (sf : Nat) (B2 B3 B6 : Nat) (A : Option Addr) (cp : Nat) (r : List UInt8)
    (h : LogS W N Ft Dk k F rm x lf false L G nm sz (g0 ++ [(c, z)]) false) (hlow : Low W Ft) (hl : g0.length + 1 < 999999) (hn : nmOk nm) (hf : F (fileN nm (g0.length + 1)) = some (bs, sf)) (hbs : bs.length ≤ 100000000) (hk : k + 5 < maxLen) (hx : 0 ≤ x) (hx2 : x ≤ 100000000) (hm : r.length ≤ 1000000) (hr : x + (rec1 r).length ≤ rm) (hr2 : rm ≤ 1000000000000)
    (hlf : lf ≤ 9223372036854775807) (hN : N ≤ W.heap.size) (hA : Bts W W.heap.size A r) (hcp : r.length ≤ cp) (hcm : cp ≤ maxLen) (hB2 : BlkIs W B2 32 #[.pointer (some ⟨L, 0, none⟩)]) (hB3 : BlkIs W B3 26 #[.slice A r.length cp]) (hB6 : BlkIs W B6 37 #[.int .i64 0, .int .i64 0]) (h2 : ¬ OwnL Ft L G B2) (h6 : ¬ OwnL Ft L G B6) (h26 : B2 ≠ B6) (hc : c ≤ 1000000) (hz : z ≤ 100000000)
    (hok : lf ≠ 1 ∧ (sz ≤ z → lf ≠ 2 ∧ lf ≠ 3 ∧ F (fileN nm (g0.length + 2)) = none)) :
    Calls Tryz.prog 24 #[.pointer (some ⟨B3, 0, none⟩), .pointer (some ⟨B2, 0, none⟩), .pointer (some ⟨B6, 0, none⟩)] W fun e w' => e = .returned (.tuple #[]) ∧
      AppQ W N Ft Dk k F rm x lf L G nm sz g0 c z bs sf B6 r w' := by
  have b2 := hB2.cell 0
  have b3 := hB3.cell 0
  have hlen : (g0 ++ [(c, z)]).length = g0.length + 1 := by simp
  have hL := h.2.1
  rw [hlen] at hL
  have hL' : LogB W L Dk nm sz G ((g0.length : Int) + 1) false := hL
  have hx0 : ∀ w (v u : Value), (Instr.extract (.tuple #[v, u]) 0).run Tryz.prog w = .ok v w := fun _ _ _ => by kernel_rfl
  have hx1 : ∀ w (v u : Value), (Instr.extract (.tuple #[v, u]) 1).run Tryz.prog w = .ok u w := fun _ _ _ => by kernel_rfl
  have hrl : (rec1 r).length ≤ 1000008 := by rw [rec1_length r]; omega
  have hlt2 := hB2.lt
  go_enter Tryz.func24, Tryz.ntmps24
  go_wp2_with fail
  refine (fput_any A W.heap.size cp r W hA (Nat.le_refl _) hcp hcm hm).mono ?_
  rintro e w1 ⟨v, rfl, ho, hb1⟩
  have h1' := h.below hb1
  have hL1 : LogB w1 L Dk nm sz G ((g0.length : Int) + 1) false := (hb1.block L h.ltL).trans hL'
  have b2' := (hb1.cell (p := ⟨B2, 0, none⟩) hlt2).trans b2
  have hfl := Lib.hid (full_any w1 L Dk nm sz G k (g0 ++ [(c, z)]) g0.length c z false hL1 h1'.2.2.1 (by rw [hlen]; omega) get_last)
  obtain ⟨Av, cv, rfl, hv1, hv2⟩ := own_slice ho
  have HO := Lib.hid ho
  clear ho
  go_upto_if 14 with (first
    | (go_at_call 26; refine (must_ok _).mono ?_; rintro e w' ⟨rfl, rfl⟩)
    | (go_at_call 27; refine hfl.out.mono ?_; rintro e w2 ⟨rfl, hk2⟩))
  go_cut [] from 7 (fun wt => ∃ Ftt kt Fl lft gt ct zt bst sft, Rolled nm sz k F lf g0 c z bs sf kt Fl lft gt ct zt bst sft ∧ LogS wt N Ftt Dk kt Fl rm x lft false L G nm sz (gt ++ [(ct, zt)]) false ∧
    Fl (fileN nm (gt.length + 1)) = some (bst, sft) ∧ (bst.length ≤ 100000000 ∧ gt.length < 999999 ∧ ct ≤ 1000000 ∧ zt ≤ 100000000 ∧ kt + 2 < maxLen ∧ lft ≠ 1 ∧ lft ≤ 9223372036854775807) ∧ ((∀ i, i < W.heap.size → Ftt i → Ft i) ∧ Low wt Ftt) ∧ Tn (OwnL Ft L G) W wt ∧ Own5 wt W.heap.size (.slice Av (rec1 r).length cv) (rec1 r))
  case first =>
    have ht := h1'.alk hk2
    have hb2 : Below W.heap.size W w2 := hb1.trans (below_alk hk2 hb1.size)
    have tO : Own5 w2 W.heap.size (.slice Av (rec1 r).length cv) (rec1 r) := own_kept HO.out (below_alk hk2 (Nat.le_refl _)) (Nat.le_refl _)
    have tT : Tn (OwnL Ft L G) W w2 := Tn.of_below hb2
    have c2' := (hb2.cell (p := ⟨B2, 0, none⟩) hlt2).trans b2
    clear hfl
    by_cases hfull : (z : Int) < sz
    · have hdf : decide (sz ≤ (z : Int)) = false := decide_eq_false (by omega)
      rw [hdf]
      have TO := Lib.hid tO
      have HT := Lib.hid ht
      have TT := Lib.hid tT
      clear tO ht tT
      go_wp2_with fail
      go_meet
      case rel => exact ⟨Ft, k, F, lf, g0, c, z, bs, sf, .inl ⟨hfull, rfl, rfl, rfl, rfl, rfl, rfl, rfl, rfl⟩, HT.out, hf, ⟨hbs, by omega, hc, hz, by omega, hok.1, hlf⟩, ⟨fun _ _ h => h, hlow.up hb2.size⟩, TT.out, TO.out⟩
    · obtain ⟨ok2, ok3, okf⟩ := hok.2 (by omega)
      have hdf : decide (sz ≤ (z : Int)) = true := decide_eq_true (by omega)
      rw [hdf]
      have TO := Lib.hid tO
      have HT := Lib.hid ht
      have TT := Lib.hid tT
      have hro := Lib.hid (roll_ok w2 N Ft Dk k F rm x lf L G nm sz (g0 ++ [(c, z)]) bs sf (rec1 r).length ht (by rw [hlen]; omega) hn (by rw [hlen]; exact hf) hbs (by rw [hlen]; exact okf) (by omega) hx hx2 hr hr2 hlf hok.1 ok2)
      clear tO ht tT
      go_wp2_with (go_at_call 28; refine hro.out.mono ?_; rintro e w3 ⟨rfl, hp3⟩)
      go_meet
      case rel =>
        rw [hlen] at hp3
        have hlA : lfA (lfA lf) ≠ 1 ∧ lfA (lfA lf) ≤ 9223372036854775807 := lfA_two hlf hok.1 ok2 ok3
        refine ⟨NewFt Ft w2 w3, k + 3, _, lfA (lfA lf), g0 ++ [(c, z)], 0, 0, [], 0, .inr ⟨by omega, rfl, rfl, rfl, rfl, rfl, rfl, rfl, rfl⟩, hp3.1, ?_, ⟨by simp, by rw [hlen]; omega, by omega, by omega, by omega, hlA.1, hlA.2⟩, ?_, ?_, ?_⟩
        · rw [hlen]
          unfold Files.upd
          rw [if_pos rfl]
        · refine ⟨fun i hi hf' => ?_, (hlow.up hb2.size).new hp3.2.size⟩
          rcases hf' with h9 | ⟨h9, _⟩
          · exact h9
          · have := hb2.size
            omega
        · exact TT.out.trans hp3.2
        · refine Own5.tn TO.out hp3.2 (fun g hg hp => ?_)
          have hgl := (Own5.blk_lt TO.out hg).1
          rcases hp with hp | rfl | rfl
          · have := hlow g hp
            omega
          · have := h.ltL
            omega
          · have := h.ltG
            omega
  case rest =>
    obtain ⟨Ftt, kt, Fl, lft, gt, ct, zt, bst, sft, hRo, ht, htf, ⟨htbs, hgt, hct, hzt, hkt, hlf1, hlft⟩, ⟨hft, htlow⟩, tT, tO⟩ := hcut
    have HR := Lib.hid hRo
    clear hRo hfl HO hok
    have tb2 : BlkIs wc B2 32 _ := hB2.tn tT h2
    have tb6 : BlkIs wc B6 37 _ := hB6.tn tT h6
    have hn2t : ¬ Ftt B2 := fun e => h2 (.inl (hft B2 hlt2 e))
    have hn6t : ¬ Ftt B6 := fun e => h6 (.inl (hft B6 hB6.lt e))
    have tbt := Own5.bts tO
    have tz := tT.size
    have hnb := nameB_fileN hn (gt.length + 1)
    have hn6 : nm.size ≤ 1000000 := by have := hn.1; omega
    have tlen : (gt ++ [(ct, zt)]).length = gt.length + 1 := by simp
    have tL : LogB wc L Dk nm sz G ((gt.length : Int) + 1) false := by
      have := ht.2.1
      rw [tlen] at this
      exact this
    have tA : Below wc.heap.size wc wc.drew := (Below.refl _ wc).drew
    have sB2 := tb2.cell 0
    have sL0 := BlkIs.cell tL 0
    have sL4 := BlkIs.cell tL 4
    have sS : ∀ W', Below wc.heap.size wc W' → W'.cell? ⟨B2, 0, none⟩ = some (.pointer (some ⟨L, 0, none⟩)) ∧ W'.cell? ⟨L, 0, none⟩ = some (.pointer (some ⟨Dk, 0, none⟩)) ∧ W'.cell? ⟨L, 4, none⟩ = some (.int .i64 ((gt.length : Int) + 1)) := fun W' hb =>
      ⟨(hb.cell (p := ⟨B2, 0, none⟩) tb2.lt).trans sB2, (hb.cell (p := ⟨L, 0, none⟩) tL.lt).trans sL0, (hb.cell (p := ⟨L, 4, none⟩) tL.lt).trans sL4⟩
    have SS := Lib.hid sS
    clear sS
    have tD := ht.below tA
    have tLd : LogB wc.drew L Dk nm sz G ((gt.length : Int) + 1) false := tL
    go_wp2_with fail
    go_region_held3 (fun w' => w'.cell? ⟨B2, 0, none⟩ = some (.pointer (some ⟨L, 0, none⟩)) ∧ w'.cell? ⟨L, 0, none⟩ = some (.pointer (some ⟨Dk, 0, none⟩)) ∧ w'.cell? ⟨L, 4, none⟩ = some (.int .i64 ((gt.length : Int) + 1)))
      (first
        | exact SS.out _ tA
        | exact SS.out _ (tA.trans hb3)
        | exact ⟨(tb2.tn tT4 hn2t).cell 0, BlkIs.cell hE.2.1 0, tL4⟩)
      (first
        | (go_at_call 30; refine (lfile_any _ L Dk nm sz G _ false (gt.length + 1) tLd (by omega) hn6).mono ?_; rintro e w3 ⟨rfl, hb3⟩)
        | (go_at_call 26; refine (must_ok _).mono ?_; rintro e w5 ⟨rfl, rfl⟩)
        | (go_at_call 29; have hC := tD.below hb3; have tB3 := tA.trans hb3; refine (append_ok w3 N Ftt Dk kt Fl _ rm x lft Av wc.heap.size cv bst sft (rec1 r) hC.1 hnb htf (by omega) hx hx2 htbs (by omega) hr (by have := tB3.size; omega) (tbt.below tB3) (by have := tB3.size; omega) hlft hlf1).mono ?_; rintro e w4 ⟨rfl, hD4, hT4⟩; have hE := hC.disk hD4 hT4 (Nat.le_succ _); have tT4 := (Tn.of_below (p := Ftt) tB3).trans hT4; have tL4 := BlkIs.cell ((tT4.block L ht.ltL ht.2.2.2.1).trans tL : LogB w4 L Dk nm sz G ((gt.length : Int) + 1) false) 4))
    have t4L : LogB w4 L Dk nm sz G ((gt.length : Int) + 1) false := (tT4.block L ht.ltL ht.2.2.2.1).trans tL
    have t4b2 := tb2.tn tT4 hn2t
    have t4b6 := tb6.tn tT4 hn6t
    have t4T : Tn (OwnL Ft L G) W w4 := tT.tnn tT4 hft
    have t4S : ∀ W', Below w4.heap.size w4 W' → W'.cell? ⟨B2, 0, none⟩ = some (.pointer (some ⟨L, 0, none⟩)) ∧ W'.cell? ⟨L, 3, none⟩ = some (.map (some G)) ∧ W'.cell? ⟨L, 4, none⟩ = some (.int .i64 ((gt.length : Int) + 1)) ∧
        (Instr.lookup 57 (.map (some G)) (.int .i64 ((gt.length : Int) + 1)) false).run Tryz.prog W' = .ok (.agg #[.int .i64 ct, .int .i64 zt]) W' := fun W' hb =>
      ⟨(hb.cell (p := ⟨B2, 0, none⟩) t4b2.lt).trans (t4b2.cell 0), (hb.cell (p := ⟨L, 3, none⟩) t4L.lt).trans (BlkIs.cell t4L 3), (hb.cell (p := ⟨L, 4, none⟩) t4L.lt).trans (BlkIs.cell t4L 4), (hE.2.2.1.same (hb.block G hE.ltG)).look get_last (by rw [tlen]; omega)⟩
    have S4 := Lib.hid t4S
    have HE := Lib.hid hE
    have hb3s : wc.heap.size ≤ w3.heap.size := tB3.size
    have hb4s : w3.heap.size ≤ w4.heap.size := hT4.size
    clear t4S hE hT4 hD4 tL4 hC tB3 hb3 tD tLd tA sB2 sL0 sL4 SS tO tbt tb2 tb6 tL ht tT4 tT
    go_upto_region 5 with fail
    go_cut [5] from 7 (fun s5 wd => s5 = .pointer (some ⟨w4.heap.size, 0, none⟩) ∧ wd = (w4.alloc (.cells #[.int .i64 ct, .int .i64 zt] 66)).drew)
    case first =>
      go_region_held3 (fun w' => w'.cell? ⟨B2, 0, none⟩ = some (.pointer (some ⟨L, 0, none⟩)) ∧ w'.cell? ⟨L, 3, none⟩ = some (.map (some G)) ∧ w'.cell? ⟨L, 4, none⟩ = some (.int .i64 ((gt.length : Int) + 1)) ∧
          (Instr.lookup 57 (.map (some G)) (.int .i64 ((gt.length : Int) + 1)) false).run Tryz.prog w' = .ok (.agg #[.int .i64 ct, .int .i64 zt]) w')
        (first
          | exact S4.out _ (Below.refl _ w4).drew
          | exact S4.out _ (((Below.refl _ w4).alloc (Nat.le_refl _) _).drew)
          | exact S4.out _ (((Below.refl _ w4).drew).alloc (Nat.le_refl _) _))
        (fail)
      all_goals (go_wp2_with fail; go_meet; exact ⟨rfl, rfl⟩)
    case rest =>
      obtain ⟨rfl, rfl⟩ := hcut
      have q5 := BlkIs.new w4 66 #[.int .i64 ct, .int .i64 zt]
      have qB : Below w4.heap.size w4 (w4.alloc (.cells #[.int .i64 ct, .int .i64 zt] 66)).drew := ((Below.refl _ w4).alloc (Nat.le_refl _) _).drew
      have q5' : BlkIs (w4.alloc (.cells #[.int .i64 ct, .int .i64 zt] 66)).drew w4.heap.size 66 #[.int .i64 ct, .int .i64 zt] := q5
      have qE := HE.out.below qB
      have qL : LogB _ L Dk nm sz G ((gt.length : Int) + 1) false := (qB.block L t4L.lt).trans t4L
      have q2 : BlkIs _ B2 32 _ := (qB.block B2 t4b2.lt).trans t4b2
      have q6 : BlkIs _ B6 37 _ := (qB.block B6 t4b6.lt).trans t4b6
      have qT := t4T.trans (Tn.of_below (p := OwnL Ft L G) qB)
      have qz : w4.heap.size < (w4.alloc (.cells #[.int .i64 ct, .int .i64 zt] 66)).drew.heap.size := by simp
      have q56 : w4.heap.size ≠ B6 := fun e => by have := t4b6.lt; omega
      have hL6 : L ≠ B6 := fun e => h6 (.inr (.inl e.symm))
      have hG6 : G ≠ B6 := fun e => h6 (.inr (.inr e.symm))
      have q52 : w4.heap.size ≠ L := fun e => by have := t4L.lt; omega
      have q54 : w4.heap.size ≠ G := fun e => by have := HE.out.ltG; omega
      clear q5 qB S4 HE t4L t4b2 t4b6 t4T
      generalize (w4.alloc (.cells #[.int .i64 ct, .int .i64 zt] 66)).drew = W5 at *
      go_wp2_with fail
      refine still_tail 17 (by kernel_rfl) (by kernel_rfl) (fun W6 hk6 => ?_)
      have rE := qE.alk hk6
      have rL : LogB W6 L Dk nm sz G ((gt.length : Int) + 1) false := hk6.blk qL
      have r2 := hk6.blk q2
      have r5 := hk6.blk q5'
      have r6 := hk6.blk q6
      have rT := qT.alk hk6
      have rz : W5.heap.size = W6.heap.size := by rw [hk6.1]
      obtain ⟨W7, hrun, hM7, hg7⟩ := rE.2.2.1.put (by omega) ((gt.length : Int) + 1) (by unfold Ok64; omega) (ct + 1) (zt + (rec1 r).length) (fun D d1 d2 => by have := segD_set d1 d2 gt.length (ct + 1) (zt + (rec1 r).length) (by simp); rwa [set_last] at this)
      have hrun' : (Instr.mapUpdate 57 (.map (some G)) (.int .i64 ((gt.length : Int) + 1)) (.agg #[.int .i64 ((ct : Int) + 1), .int .i64 ((zt : Int) + ((rec1 r).length : Nat))])).run Tryz.prog W6 = .ok () W7 := hrun
      have c2 := r2.cell 0
      have cL3 := BlkIs.cell rL 3
      have cL4 := BlkIs.cell rL 4
      have c50 := r5.cell 0
      have c51 := r5.cell 1
      simp only [List.take_succ_cons, List.take_zero, List.drop_succ_cons, List.drop_zero]
      repeat still_step
      refine wpStill_nil ?_
      have s7 := rE.map hg7 hM7 (by simp) (Nat.le_succ _)
      have sL : LogB W7 L Dk nm sz G ((gt.length : Int) + 1) false := (hg7.block L rL.lt (fun e => rE.ne (by injection e with e; exact e.symm))).trans rL
      have s2 := r2.grown hg7 (fun e => (SegM.not_blk rE.2.2.1 r2) (by injection e))
      have s5 := r5.grown hg7 (fun e => (SegM.not_blk rE.2.2.1 r5) (by injection e))
      have s6 := r6.grown hg7 (fun e => (SegM.not_blk rE.2.2.1 r6) (by injection e))
      have sT := rT.grown hg7 (fun i e => .inl (.inr (.inr (by injection e with e; exact e.symm))))
      have sz7 : w4.heap.size < W7.heap.size := by have := hg7.size; omega
      have S7 := Lib.hid s7
      have ST := Lib.hid sT
      have f6 := s6.froz 0
      have f61 := s6.froz 1
      have c60 := s6.cell 0
      have c61 := s6.cell 1
      clear hrun hM7 hg7 rE rL r2 r5 r6 rT qE qL q2 q5' q6 qT s7 sT
      go_wp2_with fail
      rw [hrun']
      clear c2 cL3 cL4 c50 c51
      go_wp2_with fail
      have T0 : Tn (fun i => i = B6) W7 W7.drew := (Tn.refl _ W7).alk ⟨rfl, rfl, rfl, rfl⟩
      have hSX : ∀ W', Tn (fun i => i = B6) W7 W' → W'.cell? ⟨B2, 0, none⟩ = some (.pointer (some ⟨L, 0, none⟩)) ∧ W'.cell? ⟨L, 4, none⟩ = some (.int .i64 ((gt.length : Int) + 1)) ∧ W'.cell? ⟨w4.heap.size, 0, none⟩ = some (.int .i64 ct) := fun W' hT =>
        ⟨(s2.tn hT h26).cell 0, BlkIs.cell (BlkIs.tn sL hT hL6) 4, (s5.tn hT q56).cell 0⟩
      have SX := Lib.hid hSX
      clear hSX
      go_region_held3 (fun w' => w'.cell? ⟨B2, 0, none⟩ = some (.pointer (some ⟨L, 0, none⟩)) ∧ w'.cell? ⟨L, 4, none⟩ = some (.int .i64 ((gt.length : Int) + 1)) ∧ w'.cell? ⟨w4.heap.size, 0, none⟩ = some (.int .i64 ct))
        (first
          | exact SX.out _ T0
          | exact SX.out _ (T0.setCell (.inl rfl) _)
          | exact SX.out _ ((T0.setCell (.inl rfl) _).setCell (.inl rfl) _)
          | exact SX.out _ (((T0.setCell (.inl rfl) _).setCell (.inl rfl) _).setCell (.inl rfl) _)
          | exact SX.out _ ((((T0.setCell (.inl rfl) _).setCell (.inl rfl) _).setCell (.inl rfl) _).setCell (.inl rfl) _))
        (fail)
      go_end0
      have T8 := (((((Tn.refl (fun i => i = B6) W7).setCell (x := ⟨B6, 0, none⟩) (.inl rfl) (.int .i64 0)).setCell (x := ⟨B6, 1, none⟩) (.inl rfl) (.int .i64 0)).setCell (x := ⟨B6, 0, none⟩) (.inl rfl) (.int .i64 ((gt.length : Int) + 1))).setCell (x := ⟨B6, 1, none⟩) (.inl rfl) (.int .i64 ct))
      have b8 := (((s6.put 0 (.int .i64 0)).put 1 (.int .i64 0)).put 0 (.int .i64 ((gt.length : Int) + 1))).put 1 (.int .i64 ct)
      have T9 := T8.alk (alk_drew _)
      have z8 := T9.size
      have z6 := hB6.lt
      have hE8 := S7.out.keep T9 (fun i hi e => by
        have e : i = B6 := e
        rw [e] at hi
        rcases hi with (hi | ⟨hi, _⟩) | hi | hi
        · exact hn6t hi
        · omega
        · exact hL6 hi.symm
        · exact hG6 hi.symm)
      have zz := ST.out.size
      refine ⟨rfl, kt, Fl, lft, gt, ct, zt, bst, sft, HR.out, hE8.more (fun i hi => ?_) (Nat.le_refl _) (newFt_not h.2.2.2.1 h.ltL) (newFt_not h.2.2.2.2 h.ltG), by simpa using (alk_drew _).blk b8, (ST.out.mono (fun i _ h => .inl h)).trans (T9.mono (fun i _ h => .inr h))⟩
      by_cases hi2 : i < W.heap.size
      · rcases hi with hi | ⟨hi, _⟩
        · exact .inl (hft i hi2 hi)
        · omega
      · refine .inr ⟨by omega, ?_⟩
        rcases hi with hi | ⟨_, hi⟩
        · have := htlow i hi
          omega
        · omega
end Go.Proofs.YtidadjlhnlmfkaaGreatDoor
/- (*seglog.Log).Append where no error comes. Conditions: as stated at each. -/
namespace Go.Proofs.YtidadjlhnlmfkaaGreatDoor
open Go.RowKit Go.Shelf Go Go.Maps
theorem Tn.from_new {p q : Nat → Prop} {W W5 w' : World} (hB : Below W.heap.size W W5) (hT : Tn p W5 w') (hp : ∀ i, i < W.heap.size → p i → q i) : Tn q W w' :=
  ⟨hT.os.trans hB.os, hT.tape.trans hB.tape, hT.output.trans hB.output, Nat.le_trans hB.size hT.size, fun i hi hq => (hT.block i (Nat.lt_of_lt_of_le hi hB.size) (fun e => hq (hp i hi e))).trans (hB.block i hi)⟩
section
variable (W : World) (t0 t1 t2 t3 t4 : TypeId) (c0 c1 c2 c3 c4 : Array Value)
theorem five_new : BlkIs (((((W.alloc (.cells c0 t0)).alloc (.cells c1 t1)).alloc (.cells c2 t2)).alloc (.cells c3 t3)).alloc (.cells c4 t4)) W.heap.size t0 c0 ∧ BlkIs (((((W.alloc (.cells c0 t0)).alloc (.cells c1 t1)).alloc (.cells c2 t2)).alloc (.cells c3 t3)).alloc (.cells c4 t4)) (W.heap.size + 1) t1 c1 ∧
    BlkIs (((((W.alloc (.cells c0 t0)).alloc (.cells c1 t1)).alloc (.cells c2 t2)).alloc (.cells c3 t3)).alloc (.cells c4 t4)) (W.heap.size + 1 + 1) t2 c2 ∧ BlkIs (((((W.alloc (.cells c0 t0)).alloc (.cells c1 t1)).alloc (.cells c2 t2)).alloc (.cells c3 t3)).alloc (.cells c4 t4)) (W.heap.size + 1 + 1 + 1) t3 c3 ∧
    BlkIs (((((W.alloc (.cells c0 t0)).alloc (.cells c1 t1)).alloc (.cells c2 t2)).alloc (.cells c3 t3)).alloc (.cells c4 t4)) (W.heap.size + 1 + 1 + 1 + 1) t4 c4 ∧ Below W.heap.size W (((((W.alloc (.cells c0 t0)).alloc (.cells c1 t1)).alloc (.cells c2 t2)).alloc (.cells c3 t3)).alloc (.cells c4 t4)) := by
  obtain ⟨a0, a1, a2, a3, _⟩ := four_new W t0 t1 t2 t3 c0 c1 c2 c3 (fun _ => False)
  have a4 := BlkIs.new ((((W.alloc (.cells c0 t0)).alloc (.cells c1 t1)).alloc (.cells c2 t2)).alloc (.cells c3 t3)) t4 c4
  simp only [World.size_alloc] at a4
  exact ⟨a0.alloc _, a1.alloc _, a2.alloc _, a3.alloc _, a4, (four_below W t0 t1 t2 t3 c0 c1 c2 c3).alloc (by simp; omega) _⟩
end
/-- behind an Append: the segments and the files. -/
def AppR (W : World) (N : Nat) (Ft : Nat → Prop) (Dk k : Nat) (F : Files) (rm x lf : Int) (L G : Nat) (nm : ByteArray) (sz : Int) (g0 : List (Nat × Nat)) (c z : Nat) (bs : List UInt8) (sf : Nat) (r : List UInt8) (e : Ending) (w' : World) : Prop :=
  ∃ kt Fl lft gt ct zt bst sft, Rolled nm sz k F lf g0 c z bs sf kt Fl lft gt ct zt bst sft ∧ e = .returned (.tuple #[.agg #[.int .i64 ((gt.length : Int) + 1), .int .i64 ct], .int .i64 0]) ∧
    LgPost W N Ft Dk (kt + 2) (Fl.upd (fileN nm (gt.length + 1)) (some (bst ++ rec1 r, sft))) rm (x + (rec1 r).length) (lfA lft) false L G nm sz (gt ++ [(ct + 1, zt + (rec1 r).length)]) false w'
set_option maxHeartbeats 3200000 in
set_option maxRecDepth 20000 in
theorem append_L (W : World) (N : Nat) (Ft : Nat → Prop) (Dk k : Nat) (F : Files) (rm x lf : Int) (L G : Nat) (nm : ByteArray) (sz : Int) (g0 : List (Nat × Nat)) (c z : Nat) (bs : List UInt8) (sf : Nat) (A : Option Addr) (cp : Nat) (r : List UInt8)
    (h : LogS W N Ft Dk k F rm x lf false L G nm sz (g0 ++ [(c, z)]) false) (hlow : Low W Ft) (hl : g0.length + 1 < 999999) (hn : nmOk nm) (hf : F (fileN nm (g0.length + 1)) = some (bs, sf)) (hbs : bs.length ≤ 100000000) (hk : k + 5 < maxLen) (hx : 0 ≤ x) (hx2 : x ≤ 100000000) (hm : r.length ≤ 1000000) (hr : x + (rec1 r).length ≤ rm) (hr2 : rm ≤ 1000000000000)
    (hlf : lf ≤ 9223372036854775807) (hN : N ≤ W.heap.size) (hA : Bts W W.heap.size A r) (hcp : r.length ≤ cp) (hcm : cp ≤ maxLen) (hc : c ≤ 1000000) (hz : z ≤ 100000000)
    (hok : lf ≠ 1 ∧ (sz ≤ z → lf ≠ 2 ∧ lf ≠ 3 ∧ F (fileN nm (g0.length + 2)) = none)) :
    Calls Tryz.prog 10 #[.pointer (some ⟨L, 0, none⟩), .slice A r.length cp] W fun e w' => AppR W N Ft Dk k F rm x lf L G nm sz g0 c z bs sf r e w' := by
  have hmf : ∀ (fn : Fn) (first cap : Array Value) (w : World), (Instr.makeFunc fn first cap).run Tryz.prog w = .ok (.func fn first cap) w := fun _ _ _ _ => rfl
  have hen : ∀ args w, (callFunc 24 args).run Tryz.prog w = .ok (.enter 24 args) w := enters_of Tryz.func24 (by kernel_rfl) rfl
  obtain ⟨n0, n1, n2, n3, n4, nB⟩ := five_new W 32 26 37 37 33 #[.pointer (some ⟨L, 0, none⟩)] #[.slice A r.length cp] #[.int .i64 0, .int .i64 0] #[.int .i64 0, .int .i64 0] #[.int .i64 0]
  have kB := four_below W 32 26 37 37 #[.pointer (some ⟨L, 0, none⟩)] #[.slice A r.length cp] #[.int .i64 0, .int .i64 0] #[.int .i64 0, .int .i64 0]
  have hlL := h.ltL
  have hlG := h.ltG
  have out : ∀ j, W.heap.size ≤ j → ¬ OwnL Ft L G j := fun j hj e => by
    rcases e with e | rfl | rfl
    · have := hlow j e
      omega
    · omega
    · omega
  have h5 := h.below nB
  have happ := Lib.hid (app_any _ N Ft Dk k F rm x lf L G nm sz g0 c z bs sf _ _ _ A cp r h5 (hlow.up nB.size) hl hn hf hbs hk hx hx2 hm hr hr2 hlf (by have := nB.size; omega) ((hA.below nB).more nB.size) hcp hcm n0 n1 n3 (out _ (Nat.le_refl _)) (out _ (by omega)) (by omega) hc hz hok)
  have hL4 : LogB _ L Dk nm sz G (((g0 ++ [(c, z)]).length : Nat) : Int) false := (kB.block L hlL).trans h.2.1
  have hcall := Lib.hid (call_c 24 _ _ L Dk nm sz G _ (fun y w' => y = 0 ∧ BlkIs w' (W.heap.size + 1 + 1) 37 #[.int .i64 0, .int .i64 0] ∧ AppQ (((((W.alloc (.cells #[.pointer (some ⟨L, 0, none⟩)] 32)).alloc (.cells #[.slice A r.length cp] 26)).alloc (.cells #[.int .i64 0, .int .i64 0] 37)).alloc (.cells #[.int .i64 0, .int .i64 0] 37)).alloc (.cells #[.int .i64 0] 33)) N Ft Dk k F rm x lf L G nm sz g0 c z bs sf (W.heap.size + 1 + 1 + 1) r w') hL4 (hen _) (fun w' hq => absurd hq.1 (by decide)) (happ.out.mono (by
    rintro e w' ⟨rfl, hq⟩
    have hq' := hq
    obtain ⟨kt, Fl, lft, gt, ct, zt, bst, sft, q1, q2, q3, q4⟩ := hq
    refine ⟨?_, .inl ⟨rfl, rfl, ?_, hq'⟩⟩
    · have hs : ((((W.alloc (.cells #[.pointer (some ⟨L, 0, none⟩)] 32)).alloc (.cells #[.slice A r.length cp] 26)).alloc (.cells #[.int .i64 0, .int .i64 0] 37)).alloc (.cells #[.int .i64 0, .int .i64 0] 37)).heap.size = W.heap.size + 1 + 1 + 1 + 1 := by simp
      rw [hs]
      exact n4.tn q4 (fun e => e.elim (out _ (by omega)) (fun e => by omega))
    · exact n2.tn q4 (fun e => e.elim (out _ (by omega)) (fun e => by omega)))))
  clear happ
  go_enter Tryz.func10, Tryz.ntmps10
  go_wp2_with fail
  refine hcall.out.mono ?_
  rintro e w' ⟨y, rfl, ⟨_, rfl, hb4, kt, Fl, lft, gt, ct, zt, bst, sft, hRo, q2, q3, q4⟩ | ⟨rfl, w1, ⟨hy, _⟩, _⟩⟩
  · have c60 := q3.cell 0
    have c61 := q3.cell 1
    have c40 := hb4.cell 0
    have c41 := hb4.cell 1
    have f4 := hb4.froz 0
    have f41 := hb4.froz 1
    have HR := Lib.hid hRo
    have Q2 := Lib.hid q2
    have Q4 := Lib.hid q4
    clear hRo q2 q4 hcall
    go_wp2_with fail
    have b5 := (hb4.put 0 (.int .i64 ((gt.length : Int) + 1))).put 1 (.int .i64 ct)
    have r0 := b5.cell 0
    have r1 := b5.cell 1
    have T8 := ((Tn.refl (fun i => i = W.heap.size + 1 + 1) w').setCell (x := ⟨W.heap.size + 1 + 1, 0, none⟩) (.inl rfl) (.int .i64 ((gt.length : Int) + 1))).setCell (x := ⟨W.heap.size + 1 + 1, 1, none⟩) (.inl rfl) (.int .i64 ct)
    have hE8 := Q2.out.keep T8 (fun i hi e => by
      have e : i = W.heap.size + 1 + 1 := e
      rw [e] at hi
      rcases hi with (hi | ⟨hi, _⟩) | hi | hi
      · exact out _ (by omega) (.inl hi)
      · simp at hi
        omega
      · omega
      · omega)
    have TT := Tn.from_new (q := OwnL Ft L G) nB Q4.out (fun i hi e => e.elim id (fun e => by omega))
    refine bodyPost_ret (v := .tuple #[.agg #[.int .i64 ((gt.length : Int) + 1), .int .i64 ct], .int .i64 0]) (by simp [results, Tryz.results10, go_sem, r0, r1]) rfl ?_
    exact ⟨kt, Fl, lft, gt, ct, zt, bst, sft, HR.out, rfl, LgPost.up h.2.2.2.1 hlL h.2.2.2.2 hlG nB.size T8.size hE8 ((TT.setCell (.inr (by show W.heap.size ≤ W.heap.size + 1 + 1; omega)) _).setCell (.inr (by show W.heap.size ≤ W.heap.size + 1 + 1; omega)) _)⟩
  · exact absurd hy (by decide)
end Go.Proofs.YtidadjlhnlmfkaaGreatDoor
/- A log's load over a disk without files. Conditions: as stated at each. -/
namespace Go.Proofs.YtidadjlhnlmfkaaGreatDoor
open Go.RowKit Go.Shelf Go Go.Maps
attribute [local go_sem] Oper.semAt_some
theorem files_any (W : World) (L : Nat) (s : ByteArray) :
    Calls Tryz.prog 51 #[.pointer (some ⟨L, 0, none⟩), .string s] W fun e w' => e = .returned (.func (.func 74) #[] #[.pointer (some ⟨W.heap.size, 0, none⟩), .pointer (some ⟨W.heap.size + 1, 0, none⟩)]) ∧ w' = (W.alloc (.cells #[.pointer (some ⟨L, 0, none⟩)] 32)).alloc (.cells #[.string s] 9) := by
  have hmf : ∀ (fn : Fn) (first cap : Array Value) (w : World), (Instr.makeFunc fn first cap).run Tryz.prog w = .ok (.func fn first cap) w := fun _ _ _ _ => rfl
  go_enter Tryz.func51, Tryz.ntmps51
  go_wp2_with fail
  go_ret
  exact ⟨rfl, rfl⟩
theorem Below.grownNone {W W' : World} (h : Below W.heap.size W W') : W.grownBy W' none := ⟨h.os, h.tape, h.output, h.size, fun i hi _ => h.block i hi⟩
set_option maxRecDepth 100000 in
set_option maxHeartbeats 1000000 in
theorem files_none (n : Nat) (h1n : 1 ≤ n) (w : World) (B0 B1 L Dk G k : Nat) (N : Nat) (Ft : Nat → Prop) (F : Files) (rm x lf : Int) (nm : ByteArray) (sz : Int) (g : List (Nat × Nat)) (dead : Bool) (s : ByteArray) (Kp : World → World → Prop)
    (h0 : BlkIs w B0 32 #[.pointer (some ⟨L, 0, none⟩)]) (_ : BlkIs w B1 9 #[.string s]) (h : LogS w N Ft Dk k F rm x lf false L G nm sz g dead) (hF : ∀ s, F s = none) :
    SeqStopsK Fence.wide n Tryz.prog 74 #[.pointer (some ⟨B0, 0, none⟩), .pointer (some ⟨B1, 0, none⟩)] (fun x : Empty => x.elim) Kp (fun _ => True) (fun _ => False) 0 w := fun l J Jx W hW hJ _ _ hj => by
  refine callsIn_of_wp Tryz.func74 rfl trivial ?_ rfl
  have c0 := (hW.cell (p := ⟨B0, 0, none⟩) h0.lt).trans (h0.cell 0)
  have hl := h.below hW
  have cL := BlkIs.cell hl.2.1 0
  have hn := Lib.hid (names_none W N Ft Dk k F rm x lf hl.1 hF)
  simp only [Tryz.ntmps74, List.size_toArray, List.length_cons, List.length_nil, Nat.reduceAdd, Nat.reduceSub, Array.replicate_succ, Array.replicate_zero, List.push_toArray, List.append_toArray, List.nil_append, List.cons_append]
  gi_wp2_with fail
  refine ⟨trivial, ?_⟩
  refine (callsIn_wide.2 hn.out).mono ?_
  rintro e w1 ⟨⟨A, cc, rfl⟩, hb⟩
  have HJ := Lib.hid (hJ _ _ _ _ hj (Below.grownNone hb) (fun r e => by cases e))
  clear hj
  gi_wp2_with fail
  gi_loopw [13] (fun i wr => i = .int .i64 0 ∧ J [] wr) (fun _ _ => 0)
  case atStart => exact ⟨rfl, HJ.out⟩
  case round =>
    obtain ⟨rfl, hJs⟩ := hrel
    gi_wp2_with fail
    go_end0
    exact ⟨⟨_, rfl⟩, .inl ⟨[], trivial, hJs⟩⟩
theorem Tn.putObj {p : Nat → Prop} {a b : World} (h : Tn p a b) {D : Nat} (hD : p D ∨ a.heap.size ≤ D) (o : Obj) : Tn p a (b.putObj D o) :=
  ⟨h.os, h.tape, h.output, by rw [show (b.putObj D o).heap.size = b.heap.size from by simp]; exact h.size, fun i hi hp => (World.putObj_heap_other (fun e => by
    rcases hD with hD | hD
    · exact hp (e ▸ hD)
    · omega)).trans (h.block i hi hp)⟩
theorem size_putObj (W : World) (D : Nat) (o : Obj) : (W.putObj D o).heap.size = W.heap.size := by simp
set_option maxRecDepth 100000 in
set_option maxHeartbeats 2000000 in
theorem load_none (W : World) (N : Nat) (Ft : Nat → Prop) (Dk k : Nat) (F : Files) (rm x lf : Int) (L G : Nat) (nm : ByteArray) (sz : Int)
    (h : LogS W N Ft Dk k F rm x lf false L G nm sz [] false) (hlow : Low W Ft) (hF : ∀ s, F s = none) (hn : nmOk nm) (hk : k + 1 < maxLen) (hx : 0 ≤ x) (hx2 : x ≤ 100000000) (hlf : lf ≤ 9223372036854775807) (h1 : lf ≠ 1) :
    CallsIn Fence.wide 5 Tryz.prog 23 #[.pointer (some ⟨L, 0, none⟩)] W fun e w' => e = .returned (.tuple #[]) ∧ LgPost W N Ft Dk (k + 2) (F.upd (fileN nm 1) (some ([], 0))) rm x (lfA lf) false L G nm sz [(0, 0)] false w' := by
  refine callsIn_of_wp_marks Tryz.func23 rfl trivial ?_ rfl
  simp only [Tryz.ntmps23, List.size_toArray, List.length_cons, List.length_nil, Nat.reduceAdd, Nat.reduceSub, Array.replicate_succ, Array.replicate_zero, List.push_toArray, List.append_toArray, List.nil_append, List.cons_append]
  obtain ⟨m0, m1, m2, mT⟩ := three_new W 32 26 3 #[.pointer (some ⟨L, 0, none⟩)] #[.slice none 0 0] #[.int .i64 0] (fun _ => False)
  have mB := three_below W 32 26 3 #[.pointer (some ⟨L, 0, none⟩)] #[.slice none 0 0] #[.int .i64 0]
  have hlL := h.ltL
  have hlG := h.ltG
  have e73 : ∀ args w, (callFunc 74 args).run Tryz.prog w = .ok (.enter 74 args) w := enters_of Tryz.func74 (by kernel_rfl) rfl
  gi_wp2_with fail
  generalize hW3 : (((W.alloc (Obj.cells #[Value.pointer (some { block := L, off := 0 })] 32)).alloc (Obj.cells #[Value.slice none 0 0] 26)).alloc (Obj.cells #[Value.int IntKind.i64 0] 3)) = W3 at *
  have z3 : W3.heap.size = W.heap.size + 3 := by rw [← hW3]; simp
  clear hW3
  refine ⟨trivial, ?_⟩
  refine (callsIn_wide.2 (files_any W3 L _)).mono ?_
  rintro e W5 ⟨rfl, hW5⟩
  have nB : Below W3.heap.size W3 W5 := by rw [hW5]; exact ((Below.refl _ W3).alloc (Nat.le_refl _) _).alloc (by simp) _
  have n0 : BlkIs W5 W3.heap.size 32 #[.pointer (some ⟨L, 0, none⟩)] := by rw [hW5]; exact (BlkIs.new W3 32 _).alloc _
  have n1 : BlkIs W5 (W3.heap.size + 1) 9 #[.string ⟨#[]⟩] := by
    rw [hW5]
    have := BlkIs.new (W3.alloc (.cells #[.pointer (some ⟨L, 0, none⟩)] 32)) 9 #[.string ⟨#[]⟩]
    rwa [World.size_alloc] at this
  have B5 : Below W.heap.size W W5 := mB.trans (nB.mono (by omega))
  have h5 := h.below B5
  clear hW5
  rw [z3] at n0 n1
  gi_wp2_with fail
  refine wpIn_rangeFunc_ownG (α := Empty) rfl (by omega) (gf := 74) rfl trivial e73 (files_none 4 (by omega) W5 _ _ L Dk G k N Ft F rm x lf nm sz [] false _ (Below W5.heap.size) n0 n1 h5 hF) belowK_t (belowK_b (Nat.le_refl _)) (Below.refl _ _) (fun x => x.elim)
    (fun _ X => Below W5.heap.size W5 X) (fun _ _ _ => False) (ownFrom_below (Nat.le_refl _) (Nat.le_refl _)) (fun _ _ _ _ _ hs _ _ => hs) (Below.refl _ _) (fun x => x.elim) ?assign ?body ?done ?stop
  case assign => exact fun l x => x.elim
  case body => exact fun l pre x => x.elim
  case stop =>
    rintro D c pre X _ hh
    exact hh.elim
  case done =>
    rintro D1 xs X hD1 _ hX hK1
    have BX : Below W.heap.size W X := B5.trans (hX.mono B5.size)
    have x0 : BlkIs X W.heap.size 32 _ := ((nB.trans (hX.mono nB.size)).block _ m0.lt).trans m0
    have x2 : BlkIs X (W.heap.size + 1 + 1) 3 _ := ((nB.trans (hX.mono nB.size)).block _ m2.lt).trans m2
    have xc := x0.cell 0
    have hXs := hX.size
    have hK1l : D1 < X.heap.size := (Array.getElem?_eq_some_iff.1 hK1).1
    gi_wp2_with fail
    refine ⟨trivial, ?_⟩
    refine (callsIn_wide.2 (files_any X L _)).mono ?_
    rintro e X5 ⟨rfl, hX5⟩
    have pB : Below X.heap.size X X5 := by rw [hX5]; exact ((Below.refl _ X).alloc (Nat.le_refl _) _).alloc (by simp) _
    have p0 : BlkIs X5 X.heap.size 32 #[.pointer (some ⟨L, 0, none⟩)] := by rw [hX5]; exact (BlkIs.new X 32 _).alloc _
    have p1 : BlkIs X5 (X.heap.size + 1) 9 #[.string ⟨#[46, 110, 101, 119]⟩] := by
      rw [hX5]
      have := BlkIs.new (X.alloc (.cells #[.pointer (some ⟨L, 0, none⟩)] 32)) 9 #[.string ⟨#[46, 110, 101, 119]⟩]
      rwa [World.size_alloc] at this
    have BX5 : Below W.heap.size W X5 := BX.trans (pB.mono BX.size)
    clear hX5
    gi_wp2_with fail
    refine wpIn_rangeFunc_ownG (α := Empty) rfl (by omega) (gf := 74) rfl trivial e73 (files_none 4 (by omega) X5 _ _ L Dk G k N Ft F rm x lf nm sz [] false _ (Below X5.heap.size) p0 p1 (h.below BX5) hF) belowK_t (belowK_b (Nat.le_refl _)) (Below.refl _ _) (fun x => x.elim)
      (fun _ Y => Below X5.heap.size X5 Y) (fun _ _ _ => False) (ownFrom_below (Nat.le_refl _) (Nat.le_refl _)) (fun _ _ _ _ _ hs _ _ => hs) (Below.refl _ _) (fun x => x.elim) ?assign2 ?body2 ?done2 ?stop2
    case assign2 => exact fun l x => x.elim
    case body2 => exact fun l pre x => x.elim
    case stop2 =>
      rintro D c pre Y _ hh
      exact hh.elim
    case done2 =>
      rintro D2 _ Y hD2 _ hY hK2
      have BXY : Below X.heap.size X Y := pB.trans (hY.mono pB.size)
      have BY : Below W.heap.size W Y := BX.trans (BXY.mono BX.size)
      have y0 : BlkIs Y W.heap.size 32 _ := (BXY.block _ x0.lt).trans x0
      have y2 : BlkIs Y (W.heap.size + 1 + 1) 3 _ := (BXY.block _ x2.lt).trans x2
      have yk1 : Y.heap[D1]? = some (.deferred (some [])) := (BXY.block _ hK1l).trans hK1
      have yc := y0.cell 0
      have yE := h.below BY
      have yL4 : Y.cell? ⟨L, 4, none⟩ = some (.int .i64 0) := BlkIs.cell yE.2.1 4
      have hbeg : Calls Tryz.prog 54 #[.pointer (some ⟨L, 0, none⟩), .int .i64 1] Y fun e w' => e = .returned (.tuple #[]) ∧ LgPost Y N Ft Dk (k + 2) (F.upd (fileN nm 1) (some ([], 0))) rm x (lfA lf) false L G nm sz [(0, 0)] false w' :=
        begin_ok Y N Ft Dk k F rm x lf L G nm sz [] yE (by simp) hn (hF _) hk hx hx2 hlf h1
      have HB := Lib.hid hbeg
      clear hbeg
      gi_wp2_with fail
      refine ⟨trivial, ?_⟩
      refine (callsIn_wide.2 HB.out).mono ?_
      rintro e Z ⟨rfl, hZ⟩
      have zl := hY.size
      have z5 := pB.size
      have out : ∀ j, W.heap.size ≤ j → ¬ OwnL Ft L G j := fun j hj e => by
        rcases e with e | rfl | rfl
        · have := hlow j e
          omega
        · omega
        · omega
      have z2 : BlkIs Z (W.heap.size + 1 + 1) 3 _ := y2.tn hZ.2 (out _ (by omega))
      have zc := z2.cell 0
      have HZ := Lib.hid hZ
      clear hZ
      gi_wp2_with fail
      have hK2l : D2 < Y.heap.size := (Array.getElem?_eq_some_iff.1 hK2).1
      have sX := BX.size
      have sXY := BXY.size
      have s5 := B5.size
      have zK2 : Z.heap[D2]? = some (.deferred (some [])) := (HZ.out.2.block D2 hK2l (out _ (by omega))).trans hK2
      have zK1 : (Z.putObj D2 (.deferred none)).heap[D1]? = some (.deferred (some [])) := (World.putObj_heap_other (by omega)).trans ((HZ.out.2.block D1 (by omega) (out _ (by omega))).trans yk1)
      refine ⟨by simp, .inl ⟨_, _, rfl, run_takeDeferred zK2, ?_⟩⟩
      refine ⟨by simp, .inl ⟨_, _, rfl, run_takeDeferred zK1, ?_⟩⟩
      have Tf := ((Tn.refl (fun i => i = D2 ∨ i = D1) Z).putObj (.inl (.inl rfl)) (.deferred none)).putObj (.inl (.inr rfl)) (.deferred none)
      have hE := HZ.out.1.keep Tf (fun i hi e => by
        have hno : ∀ j, W.heap.size ≤ j → j < Y.heap.size → ¬ OwnL (NewFt Ft Y Z) L G j := fun j h1 h2 e => by
          rcases e with (e | ⟨e, _⟩) | e
          · exact out j h1 (.inl e)
          · omega
          · exact out j h1 (.inr e)
        rcases e with rfl | rfl
        · exact hno _ (by omega) hK2l hi
        · exact hno _ (by omega) (by omega) hi)
      exact ⟨_, results_none rfl _ _ _, rfl, LgPost.up h.2.2.2.1 hlL h.2.2.2.2 hlG BY.size Tf.size hE ((((Tn.of_below BY).trans HZ.out.2).putObj (.inr (by omega)) _).putObj (.inr (by omega)) _)⟩
end Go.Proofs.YtidadjlhnlmfkaaGreatDoor
