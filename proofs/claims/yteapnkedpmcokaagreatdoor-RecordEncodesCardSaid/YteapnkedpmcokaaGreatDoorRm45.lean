/- RcDec RcAwake EnRPut EnREncd. Conditions: as stated at each. -/
import Derived.Test.YteapnkedpmcokaaGreatDoorRm43
import Derived.Test.YteapnkedpmcokaaGreatDoorRm44
import Derived.Test.YteapnkedpmcokaaGreatDoorRm21
import Derived.Test.YteapnkedpmcokaaGreatDoorRm26
import Derived.Test.YteapnkedpmcokaaGreatDoorRm27
import Derived.Test.YteapnkedpmcokaaGreatDoorRm28
import Derived.Test.YteapnkedpmcokaaGreatDoorRm30
/- record.Decode over any contract of the reading. Conditions: as stated at each. -/
namespace Go.Proofs.YteapnkedpmcokaaGreatDoor
set_option maxRecDepth 100000
namespace Rc
open Go.RowKit Go Go.Proofs.YteapnkedpmcokaaGreatDoor.Pa
attribute [local go_sem] Oper.semAt_some
/-- a record's cells of the call's own. -/
def RecO (w : World) (N : Nat) (X : List Value) (r : R) : Prop := ∃ v1 v2, X = rc r v1 v2 ∧ En.OwnT w N v1 r.msg.tos ∧ Own5 w N v2 r.msg.body ∧ Ok r
theorem RecO.at_ {w : World} {N : Nat} {X : List Value} {r : R} (h : RecO w N X r) : RecAt w w.heap.size X r := by
  obtain ⟨v1, v2, h1, h2, h3, h4⟩ := h
  exact ⟨v1, v2, h1, En.MsgO.at_ ⟨v1, v2, rfl, h2, h3⟩, h4⟩
theorem RecO.len {w : World} {N : Nat} {X : List Value} {r : R} (h : RecO w N X r) : X.length = 109 := h.at_.len
theorem RecO.below {w w' : World} {N : Nat} {X : List Value} {r : R} (h : RecO w N X r) (hb : Below w.heap.size w w') : RecO w' N X r := by
  obtain ⟨v1, v2, h1, h2, h3, h4⟩ := h
  exact ⟨v1, v2, h1, En.OwnT.below h2 hb, own_kept h3 hb (Nat.le_refl _), h4⟩
theorem RecO.tn {p : Nat → Prop} {w w' : World} {N : Nat} {X : List Value} {r : R} (h : RecO w N X r) (ht : Tn p w w') (hp : ∀ i, N ≤ i → ¬ p i) : RecO w' N X r := by
  obtain ⟨v1, v2, h1, h2, h3, h4⟩ := h
  exact ⟨v1, v2, h1, En.own_tn h2 ht hp, En.own_tn h3 ht hp, h4⟩
theorem RecO.more {w : World} {N M : Nat} {X : List Value} {r : R} (h : RecO w N X r) (hM : M ≤ N) : RecO w M X r := by
  obtain ⟨v1, v2, h1, h2, h3, h4⟩ := h
  exact ⟨v1, v2, h1, h2.more hM, own_more h3 hM, h4⟩
def X0 : List Value := rc (zero 0) (Value.slice none 0 0) (Value.slice none 0 0)
theorem X0_len : X0.length = 109 := rc_length ⟨by simp [zero], zeroS_ok⟩ _ _
theorem run_build_rd (A : Option Addr) (n c : Nat) (w : World) : (Instr.build 68 #[(1, .slice A n c)]).run Tryz.prog w = .ok (.agg (X0 ++ [Value.slice A n c]).toArray) w := by kernel_rfl
theorem run_build_r0 (w : World) : (Instr.build 36 #[]).run Tryz.prog w = .ok (.agg X0.toArray) w := by kernel_rfl
theorem isz_rd : (Tryz.prog.info? 68).map (·.size) = some 110 := by kernel_rfl
theorem X0_one : X0.toArray.all (·.oneCell') = true := by decide +kernel
def DecRP (w : World) (o : Option R) (e : Ending) (w' : World) : Prop := Below w.heap.size w w' ∧
  ((o = none ∧ e = .returned (.tuple #[.agg X0.toArray, .int .i64 160])) ∨ ∃ r X, o = some r ∧ e = .returned (.tuple #[.agg X.toArray, .int .i64 0]) ∧ RecO w' w.heap.size X r)
/-- what reading makes. -/
def GotP (g : Nat) (rd : Option R) (w' : World) : Prop := ∃ r X vr, rd = some r ∧ RdS w' g X vr ∧ RecO w' (g + 1) X r ∧ SmallR r
set_option maxHeartbeats 6400000 in
theorem Decode_of {w : World} {A : Option Addr} {c : Nat} {b : L} (hb : Bts w w.heap.size A b) (hc : b.length ≤ c) (hm : c ≤ maxLen) (hA : A = none → c = 0) (hG : En.GlT w) (rd : Option R)
    (hrd : ∀ W vr, Below w.heap.size w W → RdS W (w.heap.size + 1) X0 vr → RestAt W (w.heap.size + 1) vr b → Calls Tryz.prog 30 #[.pointer (some ⟨w.heap.size + 1, 0, none⟩)] W (StepP W (w.heap.size + 1) (rd = none) (GotP (w.heap.size + 1) rd))) :
    Calls Tryz.prog 11 #[.slice A b.length c] w (DecRP w (rd.bind fun r => if encR r = (b, 0) then some r else none)) := by
  have HX0 := Lib.hid X0_len
  have HIR : Hid ((Tryz.prog.info? 36).map (·.size) = some X0.toArray.size) := Lib.hid (by rw [List.size_toArray, X0_len]; exact isz_r)
  have HSZ : Hid ((X0 ++ [Value.slice A b.length c]).toArray.size = 110) := Lib.hid (by simp [X0_len])
  have HIW : Hid ((Tryz.prog.info? 68).map (·.size) = some (X0 ++ [Value.slice A b.length c]).toArray.size) := Lib.hid (by rw [HSZ.out]; exact isz_rd)
  have HALL : Hid ((X0 ++ [Value.slice A b.length c]).toArray.all (·.oneCell') = true) := Lib.hid (Array.all_eq_true_iff_forall_mem.2 fun u hu => by
    have hu' : u ∈ X0 ++ [Value.slice A b.length c] := by simpa using hu
    rcases List.mem_append.1 hu' with h | h
    · exact (Array.all_eq_true_iff_forall_mem.1 X0_one) u (by simpa using h)
    · rw [List.mem_singleton.1 h]; rfl)
  have HAT : Hid (∀ w3, Below w.heap.size w w3 → BlkIs w3 (w.heap.size + 1) 68 (X0 ++ [Value.slice A b.length c]).toArray → BlkIs w3 w.heap.size 36 X0.toArray →
      Calls Tryz.prog 22 #[.func (.func 30) #[.pointer (some ⟨w.heap.size + 1, 0, none⟩)] #[]] w3 fun e w' => ∃ x, e = .returned (.int .i64 x) ∧ Below w.heap.size w w' ∧ BlkIs w' w.heap.size 36 X0.toArray ∧ ((rd = none ∧ x = 160) ∨ (x = 0 ∧ GotP (w.heap.size + 1) rd w'))) := Lib.hid fun w3 hb3 hk3 h03 => by
    have hlt3 := hk3.lt
    have ga : Below w3.heap.size w3 (w3.alloc (.cells #[.int .i64 0] 39)) := (Below.refl _ _).alloc (Nat.le_refl _) _
    have gb := hb3.trans (ga.mono hb3.size)
    have hsE : (w3.alloc (.cells #[.int .i64 0] 39)).heap.size = w3.heap.size + 1 := by simp
    refine Fa.attempt_m 30 _ w3 (fun x w' => Below w.heap.size w w' ∧ BlkIs w' w.heap.size 36 X0.toArray ∧ ((rd = none ∧ x = 160) ∨ (x = 0 ∧ GotP (w.heap.size + 1) rd w'))) (enters_of Tryz.func30 (by kernel_rfl) rfl _) ?_
    have hE := BlkIs.new w3 39 #[.int .i64 0]
    have hR : RdS (w3.alloc (.cells #[.int .i64 0] 39)) (w.heap.size + 1) X0 (.slice A b.length c) := ⟨hk3.alloc _, X0_len⟩
    have hL : RestAt (w3.alloc (.cells #[.int .i64 0] 39)) (w.heap.size + 1) (.slice A b.length c) b := by
      refine ⟨A, c, rfl, (hb.below gb).more gb.size, fun hl a ha => ?_, hc, hm, hA⟩
      obtain ⟨g1, o1, e1, hg1⟩ := bts_plain hb hl
      rw [e1] at ha
      injection ha with ha
      subst ha
      show g1 ≠ _
      omega
    refine (hrd _ _ gb hR hL).mono ?_
    rintro e w' ⟨hF, h⟩
    have hbw : Below w.heap.size w w' := gb.trans (Tn.below hF (by omega) (fun i hi h => by omega))
    have h0' : BlkIs w' w.heap.size 36 X0.toArray := (h03.alloc _).tn hF (by omega)
    refine ⟨hE.tn hF (by omega), ?_⟩
    rcases h with ⟨h1, rfl⟩ | ⟨rfl, h1⟩
    · exact .inr ⟨160, rfl, hbw.setCell (by show w.heap.size ≤ w3.heap.size; omega) _, h0'.far (by show w.heap.size ≠ w3.heap.size; omega) _, .inl ⟨h1, rfl⟩⟩
    · exact .inl ⟨rfl, hbw, h0', .inr ⟨rfl, h1⟩⟩
  have HENC := Lib.hid (fun (W : World) (X : List Value) (r : R) (hW : Below w.heap.size w W) (h : RecO W (w.heap.size + 2) X r) (hs : SmallR r) => Encode_any h.at_ hs (hG.below hW hG.lt))
  have HEQ := Lib.hid (fun (W : World) (hW : Below w.heap.size w W) (B : Nat) (A' : Option Addr) (m : L) (h : Bts W B A' m) (d : Nat) => En.equal_any h (hb.below hW) d c)
  have HB0 : Hid (Below w.heap.size w (w.alloc (.cells X0.toArray 36))) := Lib.hid ((Below.refl _ w).alloc (Nat.le_refl _) _)
  have HN0 := Lib.hid (BlkIs.new w 36 X0.toArray)
  clear hb hc hm hA hG hrd
  generalize b.length = bn at *
  have HZC : Hid (Tryz.zeroCells36 = X0.toArray) := Lib.hid (by kernel_rfl)
  go_enter Tryz.func11, Tryz.ntmps11
  go_upto_region 1 with fail
  rw [HZC.out]
  go_upto_region 2 with (first
    | (refine build_ops 68 #[(1, .tmp 8)] #[(1, .slice A bn c)] _ (run_build_rd _ _ _ _) rfl (by simp only [List.map_toArray, List.map_cons, List.map_nil]; rfl) rfl ?_)
    | (refine store_bl (.tmp 4) (.tmp 9) 68 (w.heap.size + 1) 68 _ (X0 ++ [Value.slice A bn c]).toArray (BlkIs.new_at _ _ _ _ (by simp)) rfl rfl rfl rfl rfl HIW.out (by rw [HSZ.out]; rfl) HALL.out ?_; intro w3 hb3 ht3)
    | fail)
  have hB3 : Below w.heap.size w w3 := (HB0.out.alloc HB0.out.size _).trans (ht3.below (by simp; omega) (fun i hi h => by omega))
  have h03 : BlkIs w3 w.heap.size 36 X0.toArray := (HN0.out.alloc _).tn ht3 (by omega)
  have HC := Lib.hid (HAT.out w3 hB3 hb3 h03)
  clear hb3 ht3 hB3 h03 HAT HB0 HN0 HALL HIW HSZ HZC
  go_wp2_with fail
  refine HC.out.mono ?_
  rintro e w4 ⟨x, rfl, hb4, h04, ⟨hrd, rfl⟩ | ⟨rfl, r, X, vr, hrd, hR4, hO4, hs4⟩⟩
  · have HB4 := Lib.hid hb4
    have HRD := Lib.hid hrd
    have HN4 := Lib.hid h04
    clear hb4 h04 hrd HC HENC HEQ
    go_wp2_with (first
      | (refine build_ops 36 #[] #[] _ (run_build_r0 _) rfl rfl rfl ?_)
      | (refine store_bl (.tmp 2) (.tmp 14) 36 w.heap.size 36 _ X0.toArray HN4.out rfl rfl rfl rfl rfl HIR.out rfl X0_one ?_; intro w5 hb5 ht5)
      | fail)
    refine ret_sl rfl w.heap.size 36 _ _ hb5 _ rfl rfl Tryz.underlying36 rfl HIR.out rfl ?_
    unfold DecRP
    exact ⟨HB4.out.trans (ht5.below HB4.out.size (fun i hi h => by omega)), .inl ⟨by rw [HRD.out]; rfl, rfl⟩⟩
  · have HB4 := Lib.hid hb4
    have HRD := Lib.hid hrd
    have HN4 := Lib.hid h04
    have HR4 := Lib.hid hR4
    have HO4 := Lib.hid hO4
    have HE4 := Lib.hid (HENC.out w4 X r hb4 hO4 hs4)
    have HIX : Hid ((Tryz.prog.info? 36).map (·.size) = some X.length) := Lib.hid (by rw [hR4.len]; exact isz_r)
    have HIXA : Hid ((Tryz.prog.info? 36).map (·.size) = some X.toArray.size) := Lib.hid (by rw [List.size_toArray, hR4.len]; exact isz_r)
    have HSX : Hid (X0.toArray.size = X.toArray.size) := Lib.hid (by rw [List.size_toArray, List.size_toArray, hR4.len, X0_len])
    have HALX : Hid (X.toArray.all (·.oneCell') = true) := Lib.hid (Array.all_eq_true_iff_forall_mem.2 fun u hu => rc_one hO4.at_ u (by simpa using hu))
    clear hb4 h04 hrd hR4 hO4 hs4 HC HENC
    unfold EncRP at HE4
    have HOP : Hid ((rd.bind fun r => if encR r = (b, 0) then some r else none) = if encR r = (b, 0) then some r else none) := Lib.hid (by rw [HRD.out]; rfl)
    generalize encR r = o at *
    rcases o with ⟨t, z⟩
    dsimp only at HE4
    go_wp2_with (first
      | (refine wpList_load_mid rfl 36 (.tmp 17) rfl (w.heap.size + 1) 0 rfl X _ HR4.out.rng Tryz.underlying36 rfl HIX.out ?_)
      | fail)
    refine HE4.out.mono ?_
    rintro e w5 ⟨hb5, v, rfl, ⟨h1, ho⟩ | ⟨h1, rfl⟩⟩
    · have HB5 := Lib.hid (HB4.out.trans (hb5.mono HB4.out.size))
      have HN5 : Hid (BlkIs w5 w.heap.size 36 X0.toArray) := Lib.hid ((hb5.block _ HN4.out.lt).trans HN4.out)
      have HR5 := Lib.hid (HR4.out.below hb5 HR4.out.lt)
      have HO5 := Lib.hid (HO4.out.below hb5)
      obtain ⟨A5, c5, rfl, _, _⟩ := own_slice ho
      have HQ5 := Lib.hid (HEQ.out w5 HB5.out _ A5 t ho.bts c5)
      subst h1
      clear hb5 ho HE4 HB4 HN4 HR4 HO4 HEQ
      generalize t.length = tn at *
      by_cases hq : t = b
      · subst hq
        rw [beq_self_eq_true] at HQ5
        go_wp2_with (first
          | (refine HQ5.out.mono ?_; rintro e w' ⟨rfl, rfl⟩)
          | (refine wpList_load_mid rfl 36 (.tmp 31) rfl (w.heap.size + 1) 0 rfl X _ HR5.out.rng Tryz.underlying36 rfl HIX.out ?_)
          | (refine store_bl (.tmp 2) (.tmp 32) 36 w.heap.size 36 _ X.toArray HN5.out rfl rfl rfl rfl rfl HIXA.out HSX.out HALX.out ?_; intro w6 hb6 ht6)
          | fail)
        refine ret_sl rfl w.heap.size 36 _ _ hb6 _ rfl rfl Tryz.underlying36 rfl HIXA.out rfl ?_
        unfold DecRP
        exact ⟨HB5.out.trans (ht6.below HB5.out.size (fun i hi h => by omega)), .inr ⟨r, X, by rw [HOP.out]; simp, rfl, (HO5.out.tn ht6 (fun i hi h => by omega)).more (by omega)⟩⟩
      · have hq' : (t == b) = false := by simpa using hq
        rw [hq'] at HQ5
        have HNQ := Lib.hid hq
        clear hq hq'
        go_wp2_with (first
          | (refine HQ5.out.mono ?_; rintro e w' ⟨rfl, rfl⟩)
          | (refine build_ops 36 #[] #[] _ (run_build_r0 _) rfl rfl rfl ?_)
          | (refine store_bl (.tmp 2) (.tmp 30) 36 w.heap.size 36 _ X0.toArray HN5.out rfl rfl rfl rfl rfl HIR.out rfl X0_one ?_; intro w6 hb6 ht6)
          | fail)
        refine ret_sl rfl w.heap.size 36 _ _ hb6 _ rfl rfl Tryz.underlying36 rfl HIR.out rfl ?_
        unfold DecRP
        exact ⟨HB5.out.trans (ht6.below HB5.out.size (fun i hi h => by omega)), .inl ⟨by rw [HOP.out, if_neg (fun h => HNQ.out (congrArg Prod.fst h))], rfl⟩⟩
    · have HB5 := Lib.hid (HB4.out.trans (hb5.mono HB4.out.size))
      have HN5 : Hid (BlkIs w5 w.heap.size 36 X0.toArray) := Lib.hid ((hb5.block _ HN4.out.lt).trans HN4.out)
      have HNZ := Lib.hid h1
      have hz' : (z != 0) = true := by simpa using h1
      clear hb5 HE4 HB4 HN4 HR4 HO4 HEQ
      go_wp2_with (first
        | (refine build_ops 36 #[] #[] _ (run_build_r0 _) rfl rfl rfl ?_)
        | (refine store_bl (.tmp 2) (.tmp 30) 36 w.heap.size 36 _ X0.toArray HN5.out rfl rfl rfl rfl rfl HIR.out rfl X0_one ?_; intro w6 hb6 ht6)
        | fail)
      refine ret_sl rfl w.heap.size 36 _ _ hb6 _ rfl rfl Tryz.underlying36 rfl HIR.out rfl ?_
      unfold DecRP
      exact ⟨HB5.out.trans (ht6.below HB5.out.size (fun i hi h => by omega)), .inl ⟨by rw [HOP.out, if_neg (fun h => HNZ.out (congrArg Prod.snd h))], rfl⟩⟩
end Rc
end Go.Proofs.YteapnkedpmcokaaGreatDoor
/- The closed example of the statements on records. Conditions: the table of powers of ten as it was laid. -/
namespace Go.Proofs.YteapnkedpmcokaaGreatDoor
set_option maxRecDepth 100000
namespace Rc
open Go.RowKit Go Go.Proofs.YteapnkedpmcokaaGreatDoor.Pa
attribute [local go_sem] Oper.semAt_some
/-- a hold's record as it is read. -/
theorem X_hold (p q : L) : ((X0.set 0 (.int .i64 4)).set 107 (.string (str p))).set 108 (.string (str q)) = rc { zero 4 with nm := p, who := q } (Value.slice none 0 0) (Value.slice none 0 0) := by
  generalize hp : str p = sp
  generalize hq : str q = sq
  unfold rc hc
  dsimp only
  rw [hp, hq]
  kernel_rfl
theorem ok_zero (k : Int) : Ok (zero k) := ⟨by simp [zero], zeroS_ok⟩
theorem smallM_zero : En.SmallM zeroM := ⟨by decide, by decide, fun j => by simp [zeroM], by decide, by decide, by decide, by decide, by decide, by decide⟩
theorem small_zero {p q : L} (k : Int) (hp : p.length ≤ 100000) (hq : q.length ≤ 100000) : SmallR { zero k with nm := p, who := q } :=
  ⟨smallM_zero, hp, hq, (by decide : (-9223372036854775808 : Int) ≤ 0), (by decide : (0 : Int) < 9223372036854775808), (by decide : (-9223372036854775808 : Int) ≤ 0), (by decide : (0 : Int) < 9223372036854775808)⟩
def exB : L := [4, 49, 58, 97, 44, 48, 58, 44]
def exR : R := { zero 4 with nm := [97], who := [] }
theorem okEx : Ok exR := ⟨by simp [exR, zero], zeroS_ok⟩
theorem ex_enc : encR exR = (exB, 0) := by decide +kernel
theorem ex_take1 : En.takeS [49, 58, 97, 44, 48, 58, 44] = some ([97], [48, 58, 44]) := by decide +kernel
theorem ex_take2 : En.takeS [48, 58, 44] = some ([], []) := by decide +kernel
theorem ex_num1 : ∃ v, Lib.atoiAll (Pa.ahead 58 [49, 58, 97, 44, 48, 58, 44]) = .ok v := ⟨1, by decide +kernel⟩
theorem ex_num2 : ∃ v, Lib.atoiAll (Pa.ahead 58 [48, 58, 44]) = .ok v := ⟨0, by decide +kernel⟩
theorem ex_read {w W : World} {vr : Value} (hG : En.GlT w) (hW : Below w.heap.size w W) (hR : RdS W (w.heap.size + 1) X0 vr) (hL : RestAt W (w.heap.size + 1) vr exB) :
    Calls Tryz.prog 30 #[.pointer (some ⟨w.heap.size + 1, 0, none⟩)] W (StepP W (w.heap.size + 1) ((some exR) = none) (GotP (w.heap.size + 1) (some exR))) := by
  have hlt := hG.lt
  refine read_4 hR hL _ _ fun w2 vr2 a c d => ?_
  have hG2 : En.GlT w2 := (hG.below hW hlt).below (Tn.below d (N := w.heap.size + 1) (by have := hR.lt; omega) (fun i hi h => by omega)) (by omega)
  refine (rhold2_any a c (by decide) (by omega) hG2 (.inl ex_num1) (fun w' p r _ h => ?_)).mono ?_
  · rw [ex_take1] at h
    injection h with h
    injection h with _ h
    subst h
    exact .inl ex_num2
  · rintro e w' ⟨hF, ⟨h1, rfl⟩ | ⟨p, r, q, s, vr', h1, h2, rfl, h3, h4⟩⟩
    · exact absurd ex_take2 (h1 _ _ _ _ ex_take1)
    · rw [ex_take1] at h1
      injection h1 with h1
      injection h1 with h1a h1b
      subst h1a
      subst h1b
      rw [ex_take2] at h2
      injection h2 with h2
      injection h2 with h2a h2b
      subst h2a
      subst h2b
      rw [X_hold] at h3
      exact ⟨hF, .inr ⟨rfl, exR, _, vr', rfl, h3, ⟨_, _, rfl, En.OwnT.nil _ _, Own5.nil _ _, okEx⟩, small_zero 4 (by decide) (by decide)⟩⟩
theorem run_build_ex (w : World) : (Instr.build 36 #[(0, .int .i64 4), (4, .agg #[.string ⟨#[97]⟩, .string ⟨#[]⟩])]).run Tryz.prog w = .ok (.agg (rc exR (Value.slice none 0 0) (Value.slice none 0 0)).toArray) w := by kernel_rfl
set_option maxHeartbeats 3200000 in
theorem awake16 (w : World) (hG : En.GlT w) : Calls Tryz.prog 7 #[] w fun e w' => e = .returned (.bool true) ∧ Below w.heap.size w w' := by
  have HEN := Lib.hid (Encode_any (w := w) (X := rc exR (Value.slice none 0 0) (Value.slice none 0 0)) (r := exR) (RecO.at_ (N := w.heap.size) ⟨_, _, rfl, En.OwnT.nil _ _, Own5.nil _ _, okEx⟩) (small_zero 4 (by decide) (by decide)) hG)
  rw [ex_enc] at HEN
  unfold EncRP at HEN
  have HDE : Hid (∀ (W : World) (A : Option Addr) (c : Nat), Below w.heap.size w W → Bts W W.heap.size A exB → 8 ≤ c → c ≤ maxLen → (A = none → c = 0) → Calls Tryz.prog 11 #[.slice A 8 c] W (DecRP W (some exR))) := Lib.hid fun W A c hW hb hc hm hA => by
    have hGW := hG.below hW hG.lt
    have := Decode_of (b := exB) hb hc hm hA hGW (some exR) (fun W' vr h1 h2 h3 => ex_read hGW h1 h2 h3)
    rw [show (some exR).bind (fun r => if encR r = (exB, 0) then some r else none) = some exR by show (if encR exR = (exB, 0) then some exR else none) = _; rw [if_pos ex_enc]] at this
    exact this
  clear hG
  go_enter Tryz.func7, Tryz.ntmps7
  go_wp2_with (first
    | (refine build_ops 36 #[(0, .const (.int .i64 4)), (4, .tmp 6)] #[(0, .int .i64 4), (4, .agg #[.string ⟨#[97]⟩, .string ⟨#[]⟩])] _ (run_build_ex _) rfl (by simp only [List.map_toArray, List.map_cons, List.map_nil]; rfl) rfl ?_)
    | fail)
  refine HEN.out.mono ?_
  rintro e w2 ⟨hb2, v, rfl, ⟨_, ho⟩ | ⟨h1, _⟩⟩
  · have HB2 := Lib.hid hb2
    obtain ⟨A2, c2, rfl, hc2, hm2⟩ := own_slice ho
    have HD2 := Lib.hid (HDE.out w2 A2 c2 hb2 ho.bts hc2 hm2 (En.own5_nil ho))
    have HBT := Lib.hid ho.bts
    unfold DecRP at HD2
    clear hb2 ho HEN HDE
    go_wp2_with fail
    refine HD2.out.mono ?_
    rintro e w3 ⟨hb3, ⟨h, _⟩ | ⟨r, X, h, rfl, hO⟩⟩
    · cases h
    · injection h with h
      subst h
      have HB3 := Lib.hid (HB2.out.trans (hb3.mono HB2.out.size))
      have hA := hO
      obtain ⟨v1, v2, hX, _⟩ := hO
      have HX0 : Hid (X[0]? = some (.int .i64 4)) := Lib.hid (by rw [hX]; rfl)
      have hok : Ok exR := okEx
      have HX7 : Hid (X[107]? = some (.string ⟨#[97]⟩)) := Lib.hid (by
        have h1 := rc_length hok v1 v2
        rw [hX]
        rfl)
      have HLX : Hid (X.length = 109) := Lib.hid (by rw [hX]; exact rc_length hok v1 v2)
      have HT3 := Lib.hid ((HBT.out.below hb3).more hb3.size)
      have HALX : Hid (X.toArray.all (·.oneCell') = true) := Lib.hid (Array.all_eq_true_iff_forall_mem.2 fun u hu => rc_one hA.at_ u (by simpa using hu))
      have HIXA : Hid ((Tryz.prog.info? 36).map (·.size) = some X.toArray.size) := Lib.hid (by rw [List.size_toArray, HLX.out]; exact isz_r)
      have HSX : Hid ((Tryz.zeroCells36).size = X.toArray.size) := Lib.hid (by rw [show X.toArray.size = 109 by rw [List.size_toArray, HLX.out]]; kernel_rfl)
      clear hX hA hb3 hok HD2 HB2 HBT
      go_upto_region 3 with (first
        | (refine store_bl (.tmp 3) (.tmp 14) 36 w3.heap.size 36 _ X.toArray (BlkIs.new w3 _ _) rfl rfl rfl rfl rfl HIXA.out HSX.out HALX.out ?_; intro w4 hb4 ht4)
        | fail)
      have hk4 : Below w3.heap.size w3 w4 := ((Below.refl _ w3).alloc (Nat.le_refl _) _).trans (ht4.below (by simp) (fun i hi h => by omega))
      have HB4 := Lib.hid (HB3.out.trans (hk4.mono HB3.out.size))
      have c0 : w4.cell? ⟨w3.heap.size, 0, none⟩ = some (.int .i64 4) := hb4.get HX0.out
      have c107 : w4.cell? ⟨w3.heap.size, 107, none⟩ = some (.string ⟨#[97]⟩) := hb4.get HX7.out
      have hcv : (convert 25 9 (.slice A2 exB.length c2)).run Tryz.prog w4 = .ok (.string ⟨#[4, 49, 58, 97, 44, 48, 58, 44]⟩) w4 := En.conv_str (HT3.out.below hk4) c2
      clear hb4 ht4 hk4 HT3 HB3 HALX HIXA HSX HX0 HX7 HLX
      go_wp2_with fail
      go_ret
      exact ⟨rfl, HB4.out⟩
  · exact absurd rfl h1
end Rc
end Go.Proofs.YteapnkedpmcokaaGreatDoor
/- The document's Put. Conditions: as stated. -/
namespace Go.Proofs.YteapnkedpmcokaaGreatDoor
set_option maxRecDepth 100000
namespace En
open Go.RowKit Go Go.Proofs.YteapnkedpmcokaaGreatDoor.Pa
attribute [local go_sem] Oper.semAt_some
set_option maxHeartbeats 1600000 in
theorem rput_any {w : World} {A : Option Addr} {ls : List L} (h : Rws w w.heap.size A ls) (n c : Nat) (hn : ls.length = n) (ht : (putS ls).length ≤ 100000000) (hG : GlT w) :
    Calls Tryz.prog 29 #[.slice A n c] w (OutP w (putS ls)) := by
  have HEL := Lib.hid (fun k (hk : k < ls.length) => rws_els h hk)
  have HTK : Hid (∀ k, k < ls.length → putS (ls.take (k + 1)) = putS (ls.take k) ++ dec (ls.getD k []).length ++ [58] ++ ls.getD k [] ++ [44]) := Lib.hid fun k hk => put_take hk
  have HLE := Lib.hid (put_le ls)
  have HEND : Hid (putS (ls.take n) = putS ls) := Lib.hid (by rw [← hn, List.take_length])
  have HGT := Lib.hid (fun (X : World) (hX : Below w.heap.size w X) => hG.below hX hG.lt)
  have hnt := put_count ls
  rw [hn] at HEL HTK hnt
  clear h hn hG
  unfold OutP
  go_enter Tryz.func29, Tryz.ntmps29
  go_wp2_with fail
  go_loopw [3, 8] (fun x i wr => ∃ j : Nat, j ≤ n ∧ i = .int .i64 (j : Nat) ∧ Own5 wr w.heap.size x (putS (ls.take j)) ∧ Below w.heap.size w wr) (fun _ i _ => n + 1 - (intOf i).toNat)
  case atStart => exact ⟨0, Nat.zero_le _, rfl, Own5.nil _ _, Below.refl _ _⟩
  case round =>
    obtain ⟨j, hj, rfl, hown, hbel⟩ := hrel
    have HO := Lib.hid hown
    have HB := Lib.hid hbel
    have hN := hbel.size
    obtain ⟨A6, c6, rfl, _, _⟩ := own_slice hown
    clear hown hbel
    by_cases hlt : j < n
    · obtain ⟨g, o, A', c', rfl, hg, hX, hc1, hc2⟩ := HEL.out j hlt
      obtain ⟨hcell, hbt⟩ := hX wr HB.out
      have HXB := Lib.hid (fun X hX' => (hX X hX').2)
      have HK := Lib.hid (HTK.out j hlt)
      have hle := HLE.out (j + 1)
      rw [HK.out] at hle
      simp only [List.length_append, List.length_cons, List.length_nil] at hle
      have HDG := Lib.hid (itoa_any (ls.getD j []).length wr (by omega) (HGT.out _ HB.out))
      have hcat : str (Lib.decDigits (ls.getD j []).length) ++ (⟨#[58]⟩ : ByteArray) = str (dec (ls.getD j []).length ++ [58]) := str_append _ [58]
      have hsz := str_size (Lib.decDigits (ls.getD j []).length)
      have hdl : (Lib.decDigits (ls.getD j []).length).length = (dec (ls.getD j []).length).length := rfl
      have hdb := dec_len2 (v := ((ls.getD j []).length : Int)) (by omega) (by omega)
      rw [show ((ls.getD j []).length : Int).toNat = (ls.getD j []).length from rfl] at hdb
      clear hX hbt
      generalize putS (ls.take j) = lj at *
      generalize ls.getD j [] = p at *
      generalize str (Lib.decDigits p.length) = sd at *
      rw [hdl] at hsz
      generalize dec p.length = d at *
      clear hdl
      generalize hsdd : str (d ++ [58]) = sdd at *
      have HSD := Lib.hid hsdd.symm
      clear hsdd
      generalize hln : lj.length = ln at *
      generalize hpn : p.length = pn at *
      generalize hdn : d.length = dn at *
      have HLN := Lib.hid (And.intro hln (And.intro hpn hdn))
      clear hln hpn hdn
      have hjn : (j : Int) < (n : Int) := by omega
      go_wp2_with (first
        | (go_at_call 46; refine HDG.out.mono ?_; rintro e w2 ⟨rfl, hb2⟩; have HB2 := Lib.hid (HB.out.trans (hb2.mono hN)); have HO2 : Hid (Own5 w2 w.heap.size (.slice A6 ln c6) lj) := Lib.hid (own_kept HO.out hb2 (Nat.le_refl _)); have hN2 := HB2.out.size; clear hb2)
        | (refine lapp5s (.tmp 12) (.tmp 16) rfl rfl (l := lj) (m := d ++ [58]) rfl HO2.out rfl HSD.out (by simp only [List.length_append, List.length_cons, List.length_nil]; rw [HLN.out.1, HLN.out.2.2]; omega) hN2 ?_; intro v4 w4 h1 h2; have HO4 := Lib.hid h1; have HB4 := Lib.hid (HB2.out.grown h2 hN2 (own5_low HO2.out)); have hN4 := HB4.out.size; clear h1 h2)
        | (refine app5 (.tmp 18) (.tmp 19) rfl rfl _ _ _ p rfl HO4.out _ _ _ (by rw [HLN.out.2.1]; rfl) (HXB.out _ HB4.out) (by simp only [List.length_append, List.length_cons, List.length_nil]; rw [HLN.out.1, HLN.out.2.2, HLN.out.2.1]; omega) hN4 ?_; intro v5 w5 h1 h2; have HO5 : Hid (Own5 w5 w.heap.size v5 (lj ++ (d ++ [58]) ++ p)) := Lib.hid h1; have HB5 := Lib.hid (HB4.out.grown h2 hN4 (own5_low HO4.out)); have hN5 := HB5.out.size; clear h1 h2)
        | (refine app5 (.tmp 20) (.tmp 21) rfl rfl _ _ _ [44] rfl (own_kept HO5.out ((Below.refl _ w5).alloc (Nat.le_refl _) _) (Nat.le_refl _)) _ _ _ rfl (bts_new w5 [44] _ _ rfl) (by simp only [List.length_append, List.length_cons, List.length_nil]; rw [HLN.out.1, HLN.out.2.2, HLN.out.2.1]; omega) (by simp; omega) ?_; intro v6 w6 h1 h2; have HO6 : Hid (Own5 w6 w.heap.size v6 (lj ++ (d ++ [58]) ++ p ++ [44])) := Lib.hid h1; have HB6 := Lib.hid ((HB5.out.alloc hN5 _).grown h2 (by simp; omega) (own5_low HO5.out)); clear h1 h2)
        | fail)
      go_roundw
      case rel => exact ⟨j + 1, by omega, by go_num, by rw [HK.out, List.append_assoc _ d [58]]; exact HO6.out, HB6.out⟩
      case measure => simp [intOf]; omega
    · obtain rfl : j = n := by omega
      have hz : ¬ (j : Int) < (j : Int) := by omega
      generalize (putS (ls.take j)).length = ln at *
      rw [HEND.out] at HO
      go_wp2_with fail
      go_ret
      exact ⟨_, rfl, HO.out, HB.out⟩
end En
end Go.Proofs.YteapnkedpmcokaaGreatDoor
/- The document's Encode. Conditions: as stated at each. -/
namespace Go.Proofs.YteapnkedpmcokaaGreatDoor
set_option maxRecDepth 100000
namespace En
open Go.RowKit Go Go.Proofs.YteapnkedpmcokaaGreatDoor.Pa
attribute [local go_sem] Oper.semAt_some
def REncP (w : World) (m : M) (e : Ending) (w' : World) : Prop := Below w.heap.size w w' ∧ ((okB m = true ∧ ∃ v, e = .returned (.tuple #[v, .int .i64 0]) ∧ Own5 w' w.heap.size v (putS (fldS m))) ∨ (okB m = false ∧ e = .returned (.tuple #[.slice none 0 0, .int .i64 150])))
set_option maxHeartbeats 6400000 in
theorem rencode_any {w0 : World} {x : Value} {m : M} (h : MsgAt w0 w0.heap.size x m) (hs : SmallM m) (hG : GlT w0) :
    Calls Tryz.prog 24 #[x] w0 (REncP w0 m) := by
  obtain ⟨A, c, Ab, cb, rfl, hT, hc1, hc2, hB, hb1, hb2, hA⟩ := h
  obtain ⟨s1, s2, s3, s4, s5, s6, s7, s8, s9⟩ := hs
  obtain ⟨id, cls, fr, tos, t, body⟩ := m
  simp only at hT hc1 hc2 hB hb1 hb2 hA s1 s2 s3 s4 s5 s6 s7 s8 s9 ⊢
  have HOK : Hid (okB ⟨id, cls, fr, tos, t, body⟩ = (checkE (fr, tos, t) body.length && (decide (1 ≤ id ∧ id ≤ 1099511627776) && Rt.smallS 20 cls))) := Lib.hid rfl
  have HTOT0 : Hid (okB ⟨id, cls, fr, tos, t, body⟩ = true → (putS (fldS ⟨id, cls, fr, tos, t, body⟩)).length ≤ 600000) := Lib.hid fun h => enc_len h (by show t ≤ 9223372036854775807; omega)
  have HPO : Hid (okB ⟨id, cls, fr, tos, t, body⟩ = true → 1 ≤ id ∧ 0 ≤ t ∧ (∀ a ∈ tos, a.length ≤ 320)) := Lib.hid fun h => by
    obtain ⟨_, _, h3, h4, _, h6, _⟩ := ok_parts h
    exact ⟨h6.1, h3, fun a ha => mail_len (h4 a ha)⟩
  have HFD : Hid (fiveS ⟨id, cls, fr, tos, t, body⟩ ++ tos ++ [body] = fldS ⟨id, cls, fr, tos, t, body⟩) := Lib.hid (fld_is _).symm
  have HFL : Hid ((fiveS ⟨id, cls, fr, tos, t, body⟩).length = 5) := Lib.hid rfl
  have HFV : Hid ((fiveS ⟨id, cls, fr, tos, t, body⟩).getD 0 [] = dec id.toNat ∧ (fiveS ⟨id, cls, fr, tos, t, body⟩).getD 1 [] = cls ∧ (fiveS ⟨id, cls, fr, tos, t, body⟩).getD 2 [] = fr ∧ (fiveS ⟨id, cls, fr, tos, t, body⟩).getD 3 [] = dec t.toNat ∧ (fiveS ⟨id, cls, fr, tos, t, body⟩).getD 4 [] = dec tos.length) := Lib.hid ⟨rfl, rfl, rfl, rfl, rfl⟩
  have HSM : Hid (Rt.smallS 20 cls = (cls.all azB && decide (1 ≤ cls.length ∧ cls.length ≤ 20))) := Lib.hid rfl
  have HEL := Lib.hid hT.els
  have HBO := Lib.hid hB
  have HGT := Lib.hid (fun (X : World) (hX : Below w0.heap.size w0 X) => hG.below hX hG.lt)
  have hsc := str_size cls
  have hse := str_empty cls
  have HAT := Lib.hid (str_at cls)
  have HCV1 := Lib.hid (fun X => run_bts cls (by omega) X)
  have HCV2 := Lib.hid (fun X => run_bts fr (by omega) X)
  have HCK := Lib.hid (fun (X : World) (hb : Below w0.heap.size w0 X) => rCheck_any (w := X) (x := .agg #[.string (str fr), .slice A tos.length c, .int .i64 t]) (e := (fr, tos, t)) ⟨A, c, rfl, (hT.below hb).more hb.size, hc1, hc2⟩ ⟨s2, s3, s4, s5, s6⟩ Ab body.length cb)
  have HSML := Lib.hid (fun X => rsmall_any cls 20 (by omega) X)
  unfold REncP
  have hqn := BlkIs.new w0 27 #[.int .i64 id, .string (str cls), .string (str fr), .slice A tos.length c, .int .i64 t, .slice Ab body.length cb]
  have han : Below w0.heap.size w0 (w0.alloc (.cells #[.int .i64 id, .string (str cls), .string (str fr), .slice A tos.length c, .int .i64 t, .slice Ab body.length cb] 27)) := (Below.refl _ _).alloc (Nat.le_refl _) _
  have HALLS := Lib.hid (fun k (hk : k < cls.length) => And.intro (allK_succ (f := azB) hk) (fun h => allK_false (f := azB) hk h))
  clear hT hB hG s2 s3 hA
  generalize okB ⟨id, cls, fr, tos, t, body⟩ = ok at *
  generalize hFV : fiveS ⟨id, cls, fr, tos, t, body⟩ = FV at *
  generalize hFLD : fldS ⟨id, cls, fr, tos, t, body⟩ = FLD at *
  clear hFV hFLD
  generalize str cls = sc at *
  generalize str fr = sf at *
  generalize hn : tos.length = n at *
  generalize hbn : body.length = bn at *
  have HNN := Lib.hid hn
  have HBL := Lib.hid hbn
  clear hn hbn
  have HQ1 := Lib.hid hqn
  have HB1 := Lib.hid han
  generalize checkE (fr, tos, t) bn = ck at *
  generalize Rt.smallS 20 cls = sm at *
  unfold NumP at HCK
  have HCK1 := Lib.hid (HCK.out _ HB1.out)
  have z0 := (BlkIs.cell hqn 0).trans (rfl : _ = some (Value.int .i64 id))
  have z1 := (BlkIs.cell hqn 1).trans (rfl : _ = some (Value.string sc))
  have z2 := (BlkIs.cell hqn 2).trans (rfl : _ = some (Value.string sf))
  have z3 := (BlkIs.cell hqn 3).trans (rfl : _ = some (Value.slice A n c))
  have z4 := (BlkIs.cell hqn 4).trans (rfl : _ = some (Value.int .i64 t))
  have z5 := (BlkIs.cell hqn 5).trans (rfl : _ = some (Value.slice Ab bn cb))
  clear hqn han HCK HALLS hse
  generalize hcl : cls.length = cl at *
  have HCLL := Lib.hid hcl
  clear hcl
  go_enter Tryz.func24, Tryz.ntmps24
  cases ck with
  | false =>
    have HR : Hid (ok = false) := Lib.hid (by rw [HOK.out, Bool.false_and])
    have en : numE false = 150 := rfl
    rw [en] at HCK1
    go_wp2_with fail
    refine HCK1.out.mono ?_
    rintro e w2 ⟨rfl, hb2⟩
    have HB2 := Lib.hid (HB1.out.trans (hb2.mono HB1.out.size))
    clear hb2
    go_wp2_with fail
    refine bodyPost_ret (results_tmp2 rfl _ _ _) rfl ?_
    exact ⟨HB2.out, .inr ⟨HR.out, rfl⟩⟩
  | true =>
    rw [Bool.true_and] at HOK
    have en : numE true = 0 := rfl
    rw [en] at HCK1
    by_cases hi1 : id < 1
    · have HR : Hid (ok = false) := Lib.hid (by rw [HOK.out, decide_eq_false (by omega), Bool.false_and])
      go_wp2_with (first
        | (go_at_call 40; refine HCK1.out.mono ?_; rintro e w2 ⟨rfl, hb2⟩; have HB2 := Lib.hid (HB1.out.trans (hb2.mono HB1.out.size)); have z02 : w2.cell? ⟨w0.heap.size, 0, none⟩ = some (.int .i64 id) := (hb2.cell (p := ⟨w0.heap.size, 0, none⟩) (HQ1.out.lt)).trans z0; clear hb2)
        | fail)
      refine bodyPost_ret (results_tmp2 rfl _ _ _) rfl ?_
      exact ⟨HB2.out, .inr ⟨HR.out, rfl⟩⟩
    · by_cases hi2 : 1099511627776 < id
      · have HR : Hid (ok = false) := Lib.hid (by rw [HOK.out, decide_eq_false (by omega), Bool.false_and])
        go_wp2_with (first
          | (go_at_call 40; refine HCK1.out.mono ?_; rintro e w2 ⟨rfl, hb2⟩; have HB2 := Lib.hid (HB1.out.trans (hb2.mono HB1.out.size)); have z02 : w2.cell? ⟨w0.heap.size, 0, none⟩ = some (.int .i64 id) := (hb2.cell (p := ⟨w0.heap.size, 0, none⟩) (HQ1.out.lt)).trans z0; clear hb2)
          | fail)
        refine bodyPost_ret (results_tmp2 rfl _ _ _) rfl ?_
        exact ⟨HB2.out, .inr ⟨HR.out, rfl⟩⟩
      · rw [decide_eq_true (by omega : 1 ≤ id ∧ id ≤ 1099511627776), Bool.true_and] at HOK
        cases sm with
        | false =>
          have HR := HOK
          go_wp2_with (first
            | (go_at_call 40; refine HCK1.out.mono ?_; rintro e w2 ⟨rfl, hb2⟩; have HB2 := Lib.hid (HB1.out.trans (hb2.mono HB1.out.size)); have z02 : w2.cell? ⟨w0.heap.size, 0, none⟩ = some (.int .i64 id) := (hb2.cell (p := ⟨w0.heap.size, 0, none⟩) (HQ1.out.lt)).trans z0; have z12 : w2.cell? ⟨w0.heap.size, 1, none⟩ = some (.string sc) := (hb2.cell (p := ⟨w0.heap.size, 1, none⟩) (HQ1.out.lt)).trans z1; clear hb2)
            | (go_at_call 41; refine (HSML.out _).mono ?_; rintro e w3 ⟨rfl, rfl⟩)
            | fail)
          refine bodyPost_ret (results_tmp2 rfl _ _ _) rfl ?_
          exact ⟨HB2.out, .inr ⟨HR.out, rfl⟩⟩
        | true =>
          have HR := HOK
          clear HOK
          go_wp2_with (first
            | (go_at_call 40; refine HCK1.out.mono ?_; rintro e w2 ⟨rfl, hb2⟩; have HBX := Lib.hid (HB1.out.trans (hb2.mono HB1.out.size)); have HQX : Hid (BlkIs w2 w0.heap.size 27 #[.int .i64 id, .string sc, .string sf, .slice A n c, .int .i64 t, .slice Ab bn cb]) := Lib.hid ((hb2.block _ HQ1.out.lt).trans HQ1.out); have z02 : w2.cell? ⟨w0.heap.size, 0, none⟩ = some (.int .i64 id) := (hb2.cell (p := ⟨w0.heap.size, 0, none⟩) (HQ1.out.lt)).trans z0; have z12 : w2.cell? ⟨w0.heap.size, 1, none⟩ = some (.string sc) := (hb2.cell (p := ⟨w0.heap.size, 1, none⟩) (HQ1.out.lt)).trans z1; clear hb2)
            | (go_at_call 41; refine (HSML.out _).mono ?_; rintro e w3 ⟨rfl, rfl⟩)
            | fail)
          clear z0 z1 z2 z3 z4 z5 z02 z12 HB1 HQ1 HCK1 HSML
          obtain ⟨hid1, ht0, hto⟩ := HPO.out HR.out
          have HTO := Lib.hid (fun k (hk : k < n) X => run_bts (tos.getD k []) (by have := hto (tos.getD k []) (by simp [List.getD, HNN.out, hk]); omega) X)
          have HTOT := Lib.hid (HTOT0.out HR.out)
          have HDG0 := Lib.hid (fun X (hX : Below w0.heap.size w0 X) => rdigits_any id X (by omega) (by omega) (HGT.out X hX))
          have HDG3 := Lib.hid (fun X (hX : Below w0.heap.size w0 X) => rdigits_any t X (by omega) (by omega) (HGT.out X hX))
          have HDG4 := Lib.hid (fun X (hX : Below w0.heap.size w0 X) => rdigits_any (n : Int) X (by omega) (by omega) (HGT.out X hX))
          clear hto HPO HTOT0
          unfold OutS at HDG0 HDG3 HDG4
          generalize w2 = wX at *
          have hq5 : BlkIs wX.drew w0.heap.size 27 #[.int .i64 id, .string sc, .string sf, .slice A n c, .int .i64 t, .slice Ab bn cb] := HQX.out
          have hb5 : Below w0.heap.size w0 wX.drew := HBX.out.drew
          clear HQX HBX
          refine wp_region_held_drew (S := (fun Y => BlkIs Y w0.heap.size 27 #[.int .i64 id, .string sc, .string sf, .slice A n c, .int .i64 t, .slice Ab bn cb] ∧ Below w0.heap.size w0 Y)) (by kernel_rfl) (⟨hq5, hb5⟩) (fun hHeld => ?_)
          clear hq5 hb5
          generalize wX.drew = wD at *
          refine wpAnyH_take (i := 0) (v := .pointer (some ⟨w0.heap.size, 0, none⟩)) rfl (by kernel_rfl) (by kernel_rfl) (by kernel_rfl) (fun _ _ _ h => h) (Or.inl ⟨by rfl, fun w hS => by first | (go_simp; done) | (go_simp; with_reducible rfl)⟩) hHeld ?_
          try simp only [Act.put, List.getElem_toArray, List.getElem_cons_zero, List.setIfInBounds_toArray, List.set_cons_zero, List.set_cons_succ]
          refine wpAnyH_take (i := 1) (v := .int .i64 id) rfl (by kernel_rfl) (by kernel_rfl) (by kernel_rfl) (fun _ _ _ h => h) (Or.inl ⟨by rfl, fun w hS => by (have c0 := (BlkIs.cell hS.1 0).trans (rfl : _ = some (Value.int .i64 id)); first | (go_simp; done) | (go_simp; with_reducible rfl))⟩) hHeld ?_
          try simp only [Act.put, List.getElem_toArray, List.getElem_cons_zero, List.getElem_cons_succ, List.setIfInBounds_toArray, List.set_cons_zero, List.set_cons_succ]
          refine wpAnyH_take (i := 3) (v := .pointer (some ⟨w0.heap.size, 1, none⟩)) rfl (by kernel_rfl) (by kernel_rfl) (by kernel_rfl) (fun _ _ _ h => h) (Or.inl ⟨by rfl, fun w hS => by first | (go_simp; done) | (go_simp; with_reducible rfl)⟩) hHeld ?_
          try simp only [Act.put, List.getElem_toArray, List.getElem_cons_zero, List.getElem_cons_succ, List.setIfInBounds_toArray, List.set_cons_zero, List.set_cons_succ]
          refine wpAnyH_take (i := 4) (v := .string sc) rfl (by kernel_rfl) (by kernel_rfl) (by kernel_rfl) (fun _ _ _ h => h) (Or.inl ⟨by rfl, fun w hS => by (have c0 := (BlkIs.cell hS.1 1).trans (rfl : _ = some (Value.string sc)); first | (go_simp; done) | (go_simp; with_reducible rfl))⟩) hHeld ?_
          try simp only [Act.put, List.getElem_toArray, List.getElem_cons_zero, List.getElem_cons_succ, List.setIfInBounds_toArray, List.set_cons_zero, List.set_cons_succ]
          refine wpAnyH_take (i := 6) (v := .pointer (some ⟨w0.heap.size, 2, none⟩)) rfl (by kernel_rfl) (by kernel_rfl) (by kernel_rfl) (fun _ _ _ h => h) (Or.inl ⟨by rfl, fun w hS => by first | (go_simp; done) | (go_simp; with_reducible rfl)⟩) hHeld ?_
          try simp only [Act.put, List.getElem_toArray, List.getElem_cons_zero, List.getElem_cons_succ, List.setIfInBounds_toArray, List.set_cons_zero, List.set_cons_succ]
          refine wpAnyH_take (i := 7) (v := .pointer (some ⟨w0.heap.size, 2, none⟩)) rfl (by kernel_rfl) (by kernel_rfl) (by kernel_rfl) (fun _ _ _ h => h) (Or.inl ⟨by rfl, fun w hS => by first | (go_simp; done) | (go_simp; with_reducible rfl)⟩) hHeld ?_
          try simp only [Act.put, List.getElem_toArray, List.getElem_cons_zero, List.getElem_cons_succ, List.setIfInBounds_toArray, List.set_cons_zero, List.set_cons_succ]
          refine wpAnyH_take (i := 8) (v := .string sf) rfl (by kernel_rfl) (by kernel_rfl) (by kernel_rfl) (fun _ _ _ h => h) (Or.inl ⟨by rfl, fun w hS => by (have c0 := (BlkIs.cell hS.1 2).trans (rfl : _ = some (Value.string sf)); first | (go_simp; done) | (go_simp; with_reducible rfl))⟩) hHeld ?_
          try simp only [Act.put, List.getElem_toArray, List.getElem_cons_zero, List.getElem_cons_succ, List.setIfInBounds_toArray, List.set_cons_zero, List.set_cons_succ]
          refine wpAnyH_take (i := 10) (v := .pointer (some ⟨w0.heap.size, 2, none⟩)) rfl (by kernel_rfl) (by kernel_rfl) (by kernel_rfl) (fun _ _ _ h => h) (Or.inl ⟨by rfl, fun w hS => by first | (go_simp; done) | (go_simp; with_reducible rfl)⟩) hHeld ?_
          try simp only [Act.put, List.getElem_toArray, List.getElem_cons_zero, List.getElem_cons_succ, List.setIfInBounds_toArray, List.set_cons_zero, List.set_cons_succ]
          refine wpAnyH_take (i := 11) (v := .pointer (some ⟨w0.heap.size, 4, none⟩)) rfl (by kernel_rfl) (by kernel_rfl) (by kernel_rfl) (fun _ _ _ h => h) (Or.inl ⟨by rfl, fun w hS => by first | (go_simp; done) | (go_simp; with_reducible rfl)⟩) hHeld ?_
          try simp only [Act.put, List.getElem_toArray, List.getElem_cons_zero, List.getElem_cons_succ, List.setIfInBounds_toArray, List.set_cons_zero, List.set_cons_succ]
          refine wpAnyH_take (i := 12) (v := .int .i64 t) rfl (by kernel_rfl) (by kernel_rfl) (by kernel_rfl) (fun _ _ _ h => h) (Or.inl ⟨by rfl, fun w hS => by (have c0 := (BlkIs.cell hS.1 4).trans (rfl : _ = some (Value.int .i64 t)); first | (go_simp; done) | (go_simp; with_reducible rfl))⟩) hHeld ?_
          try simp only [Act.put, List.getElem_toArray, List.getElem_cons_zero, List.getElem_cons_succ, List.setIfInBounds_toArray, List.set_cons_zero, List.set_cons_succ]
          refine wpAnyH_take (i := 14) (v := .pointer (some ⟨w0.heap.size, 2, none⟩)) rfl (by kernel_rfl) (by kernel_rfl) (by kernel_rfl) (fun _ _ _ h => h) (Or.inl ⟨by rfl, fun w hS => by first | (go_simp; done) | (go_simp; with_reducible rfl)⟩) hHeld ?_
          try simp only [Act.put, List.getElem_toArray, List.getElem_cons_zero, List.getElem_cons_succ, List.setIfInBounds_toArray, List.set_cons_zero, List.set_cons_succ]
          refine wpAnyH_take (i := 15) (v := .pointer (some ⟨w0.heap.size, 3, none⟩)) rfl (by kernel_rfl) (by kernel_rfl) (by kernel_rfl) (fun _ _ _ h => h) (Or.inl ⟨by rfl, fun w hS => by first | (go_simp; done) | (go_simp; with_reducible rfl)⟩) hHeld ?_
          try simp only [Act.put, List.getElem_toArray, List.getElem_cons_zero, List.getElem_cons_succ, List.setIfInBounds_toArray, List.set_cons_zero, List.set_cons_succ]
          refine wpAnyH_take (i := 16) (v := .slice A n c) rfl (by kernel_rfl) (by kernel_rfl) (by kernel_rfl) (fun _ _ _ h => h) (Or.inl ⟨by rfl, fun w hS => by (have c0 := (BlkIs.cell hS.1 3).trans (rfl : _ = some (Value.slice A n c)); first | (go_simp; done) | (go_simp; with_reducible rfl))⟩) hHeld ?_
          try simp only [Act.put, List.getElem_toArray, List.getElem_cons_zero, List.getElem_cons_succ, List.setIfInBounds_toArray, List.set_cons_zero, List.set_cons_succ]
          refine wpAnyH_take (i := 17) (v := .int .i64 n) rfl (by kernel_rfl) (by kernel_rfl) (by kernel_rfl) (fun _ _ _ h => h) (Or.inl ⟨by rfl, fun w hS => by first | (go_simp; done) | (go_simp; with_reducible rfl)⟩) hHeld ?_
          try simp only [Act.put, List.getElem_toArray, List.getElem_cons_zero, List.getElem_cons_succ, List.setIfInBounds_toArray, List.set_cons_zero, List.set_cons_succ]
          refine wpAnyH_join [2, 5, 9, 13, 18] [31, 34, 38, 42, 47] _ _ _ (fun k v X => SlV X v (FV.getD k [])) 2 rfl (by kernel_rfl) (by decide) (by decide) rfl hHeld ?_ ?_
          · intro k i s xs X hk hs hx hS
            obtain ⟨x1, x2, x3, x4, x5, rfl⟩ : ∃ x1 x2 x3 x4 x5, xs = [x1, x2, x3, x4, x5] := by
              match xs, hx with
              | [a, b, c, d, e], _ => exact ⟨a, b, c, d, e, rfl⟩
            clear hx
            match k, hk, hs with
            | 0, hk, hs =>
              obtain rfl : 2 = i := by simpa using hk
              obtain rfl : 31 = s := by simpa using hs
              refine wpOp_step rfl (fun K hK => ?_)
              replace hK : Shut _ := hK
              simp only [setT, List.setIfInBounds_toArray, List.set_cons_succ, List.set_cons_zero]
              have HC := Lib.hid (HDG0.out X hS.2)
              have HS := Lib.hid hS
              clear hS
              go_simp
              go_wp2_with (first
                | (go_at_call 42; refine HC.out.mono ?_; rintro e Y ⟨Ax, cx, rfl, hbt, hc1, hc2, hby⟩; have HBY := Lib.hid hby; have HBT := Lib.hid (And.intro hbt (And.intro hc1 hc2)); clear hbt hc1 hc2 hby)
                | fail)
              refine hK.out _ _ ⟨?v0, ?e0, ?p0, ?s0, ?k0⟩
              case e0 => simp only [setT, List.setIfInBounds_toArray, List.set_cons_succ, List.set_cons_zero] <;> rfl
              case p0 => exact ⟨Ax, cx, by rw [HFV.out.1] <;> rfl, by rw [HFV.out.1]; exact HBT.out.1, by rw [HFV.out.1]; exact HBT.out.2.1, HBT.out.2.2⟩
              case s0 => exact ⟨(HBY.out.block _ HS.out.1.lt).trans HS.out.1, HS.out.2.trans (HBY.out.mono HS.out.2.size)⟩
              case k0 => exact fun j x hj => hj.below HBY.out
            | 1, hk, hs =>
              obtain rfl : 5 = i := by simpa using hk
              obtain rfl : 34 = s := by simpa using hs
              refine wpOp_step rfl (fun K hK => ?_)
              replace hK : Shut _ := hK
              simp only [setT, List.setIfInBounds_toArray, List.set_cons_succ, List.set_cons_zero]
              obtain ⟨cx, Y, hrun, hc1, hc2, hbt, hby, hsz⟩ := HCV1.out X
              have HS := Lib.hid hS
              have HBY := Lib.hid hby
              have HBT := Lib.hid hbt
              clear hS hby hbt
              go_simp
              refine hK.out _ _ ⟨?v1, ?e1, ?p1, ?s1, ?k1⟩
              case e1 => simp only [setT, List.setIfInBounds_toArray, List.set_cons_succ, List.set_cons_zero] <;> rfl
              case p1 => exact ⟨some ⟨X.heap.size, 0, none⟩, cx, by rw [HFV.out.2.1] <;> first | rfl | (rw [HCLL.out] <;> rfl), by rw [HFV.out.2.1]; exact HBT.out.more (by omega), by rw [HFV.out.2.1]; first | exact hc1 | (rw [HCLL.out]; exact hc1), hc2⟩
              case s1 => exact ⟨(HBY.out.block _ HS.out.1.lt).trans HS.out.1, HS.out.2.trans (HBY.out.mono HS.out.2.size)⟩
              case k1 => exact fun j x hj => hj.below HBY.out
            | 2, hk, hs =>
              obtain rfl : 9 = i := by simpa using hk
              obtain rfl : 38 = s := by simpa using hs
              refine wpOp_step rfl (fun K hK => ?_)
              replace hK : Shut _ := hK
              simp only [setT, List.setIfInBounds_toArray, List.set_cons_succ, List.set_cons_zero]
              obtain ⟨cx, Y, hrun, hc1, hc2, hbt, hby, hsz⟩ := HCV2.out X
              have HS := Lib.hid hS
              have HBY := Lib.hid hby
              have HBT := Lib.hid hbt
              clear hS hby hbt
              go_simp
              refine hK.out _ _ ⟨?v2, ?e2, ?p2, ?s2, ?k2⟩
              case e2 => simp only [setT, List.setIfInBounds_toArray, List.set_cons_succ, List.set_cons_zero] <;> rfl
              case p2 => exact ⟨some ⟨X.heap.size, 0, none⟩, cx, by rw [HFV.out.2.2.1] <;> first | rfl | (rw [HCLL.out] <;> rfl), by rw [HFV.out.2.2.1]; exact HBT.out.more (by omega), by rw [HFV.out.2.2.1]; first | exact hc1 | (rw [HCLL.out]; exact hc1), hc2⟩
              case s2 => exact ⟨(HBY.out.block _ HS.out.1.lt).trans HS.out.1, HS.out.2.trans (HBY.out.mono HS.out.2.size)⟩
              case k2 => exact fun j x hj => hj.below HBY.out
            | 3, hk, hs =>
              obtain rfl : 13 = i := by simpa using hk
              obtain rfl : 42 = s := by simpa using hs
              refine wpOp_step rfl (fun K hK => ?_)
              replace hK : Shut _ := hK
              simp only [setT, List.setIfInBounds_toArray, List.set_cons_succ, List.set_cons_zero]
              have HC := Lib.hid (HDG3.out X hS.2)
              have HS := Lib.hid hS
              clear hS
              go_simp
              go_wp2_with (first
                | (go_at_call 42; refine HC.out.mono ?_; rintro e Y ⟨Ax, cx, rfl, hbt, hc1, hc2, hby⟩; have HBY := Lib.hid hby; have HBT := Lib.hid (And.intro hbt (And.intro hc1 hc2)); clear hbt hc1 hc2 hby)
                | fail)
              refine hK.out _ _ ⟨?v3, ?e3, ?p3, ?s3, ?k3⟩
              case e3 => simp only [setT, List.setIfInBounds_toArray, List.set_cons_succ, List.set_cons_zero] <;> rfl
              case p3 => exact ⟨Ax, cx, by rw [HFV.out.2.2.2.1] <;> rfl, by rw [HFV.out.2.2.2.1]; exact HBT.out.1, by rw [HFV.out.2.2.2.1]; exact HBT.out.2.1, HBT.out.2.2⟩
              case s3 => exact ⟨(HBY.out.block _ HS.out.1.lt).trans HS.out.1, HS.out.2.trans (HBY.out.mono HS.out.2.size)⟩
              case k3 => exact fun j x hj => hj.below HBY.out
            | 4, hk, hs =>
              obtain rfl : 18 = i := by simpa using hk
              obtain rfl : 47 = s := by simpa using hs
              refine wpOp_step rfl (fun K hK => ?_)
              replace hK : Shut _ := hK
              simp only [setT, List.setIfInBounds_toArray, List.set_cons_succ, List.set_cons_zero]
              have HC := Lib.hid (HDG4.out X hS.2)
              have HS := Lib.hid hS
              clear hS
              go_simp
              go_wp2_with (first
                | (go_at_call 42; refine HC.out.mono ?_; rintro e Y ⟨Ax, cx, rfl, hbt, hc1, hc2, hby⟩; have HBY := Lib.hid hby; have HBT := Lib.hid (And.intro hbt (And.intro hc1 hc2)); clear hbt hc1 hc2 hby)
                | fail)
              refine hK.out _ _ ⟨?v4, ?e4, ?p4, ?s4, ?k4⟩
              case e4 => simp only [setT, List.setIfInBounds_toArray, List.set_cons_succ, List.set_cons_zero] <;> rfl
              case p4 => exact ⟨Ax, cx, by rw [HFV.out.2.2.2.2] <;> rfl, by rw [HFV.out.2.2.2.2]; exact HBT.out.1, by rw [HFV.out.2.2.2.2]; exact HBT.out.2.1, HBT.out.2.2⟩
              case s4 => exact ⟨(HBY.out.block _ HS.out.1.lt).trans HS.out.1, HS.out.2.trans (HBY.out.mono HS.out.2.size)⟩
              case k4 => exact fun j x hj => hj.below HBY.out
            | k + 5, hk, hs => simp at hk
          intro xs X hx hφ hS
          obtain ⟨x1, x2, x3, x4, x5, rfl⟩ : ∃ x1 x2 x3 x4 x5, xs = [x1, x2, x3, x4, x5] := by
            match xs, hx with
            | [a, b, c, d, e], _ => exact ⟨a, b, c, d, e, rfl⟩
          have hrow := RowP.lit (w := X) #[x1, x2, x3, x4, x5] FV (by rw [HFL.out]; rfl) (by rw [HFL.out]; decide) (fun k l hk => by
            have hk5 : k < 5 := by rw [← HFL.out]; exact (List.getElem?_eq_some_iff.1 hk).1
            have hx5 : ∃ x, [x1, x2, x3, x4, x5][k]? = some x := ⟨_, List.getElem?_eq_getElem (by simpa using hk5)⟩
            obtain ⟨x, hx⟩ := hx5
            refine ⟨x, by simpa using hx, ?_⟩
            have := hφ k x hx
            rwa [show FV.getD k [] = l by simp [List.getD, hk]] at this)
          rw [HFL.out] at hrow
          have HROW := Lib.hid hrow
          have HBX2 := Lib.hid (hS.2.alloc hS.2.size (.cells #[x1, x2, x3, x4, x5] 25))
          have HQX2 := Lib.hid (hS.1.alloc (.cells #[x1, x2, x3, x4, x5] 25))
          have hzX := hS.2.size
          have hlX := hS.1.lt
          have hHeld := hS
          clear hx hS hrow
          obtain ⟨B1, e1, rfl, _, _, _⟩ := hφ 0 x1 rfl
          obtain ⟨B2, e2, rfl, _, _, _⟩ := hφ 1 x2 rfl
          obtain ⟨B3, e3, rfl, _, _, _⟩ := hφ 2 x3 rfl
          obtain ⟨B4, e4, rfl, _, _, _⟩ := hφ 3 x4 rfl
          obtain ⟨B5, e5, rfl, _, _, _⟩ := hφ 4 x5 rfl
          clear hφ
          generalize (FV.getD 0 []).length = m1 at *
          generalize (FV.getD 1 []).length = m2 at *
          generalize (FV.getD 2 []).length = m3 at *
          generalize (FV.getD 3 []).length = m4 at *
          generalize (FV.getD 4 []).length = m5 at *
          simp only [setT, List.setIfInBounds_toArray, List.set_cons_succ, List.set_cons_zero]
          refine wpAnyH_ready (rs := [19]) (by kernel_rfl) (by simp) ?_
          refine AllReadyH.cons rfl (fun K hK => ?_) AllReadyH.nil
          go_simp
          refine hK.out _ _ ?_ (fun hHeld => ?_)
          · exact ⟨HQX2.out, HBX2.out⟩
          clear hK K
          try simp only [Act.put, List.getElem_toArray, List.getElem_cons_zero, List.getElem_cons_succ, List.setIfInBounds_toArray, List.set_cons_zero, List.set_cons_succ]
          refine wpAnyH_take (i := 20) (v := .slice (some ⟨X.heap.size, 0, none⟩) 5 5) rfl (by kernel_rfl) (by kernel_rfl) (by kernel_rfl) (fun _ _ _ h => h) (Or.inl ⟨by rfl, fun w hS => by first | (go_simp; done) | (go_simp; with_reducible rfl)⟩) hHeld ?_
          try simp only [Act.put, List.getElem_toArray, List.getElem_cons_zero, List.getElem_cons_succ, List.setIfInBounds_toArray, List.set_cons_zero, List.set_cons_succ]
          refine wpAnyH_done (by kernel_rfl) ?_ _
          generalize hw7 : X.alloc (.cells #[.slice B1 m1 e1, .slice B2 m2 e2, .slice B3 m3 e3, .slice B4 m4 e4, .slice B5 m5 e5] 25) = w7 at *
          clear hw7 hHeld
          generalize X.heap.size = b6 at *
          have z3 := (BlkIs.cell HQX2.out 3).trans (rfl : _ = some (Value.slice A n c))
          go_wp2_with fail
          go_loopw [4, 53] (fun x5 i wr => ∃ k : Nat, k ≤ n ∧ i = .int .i64 (k : Nat) ∧ Hid (RowP wr b6 x5 (FV ++ tos.take k)) ∧ Hid (Below w0.heap.size w0 wr) ∧ Hid (BlkIs wr w0.heap.size 27 #[.int .i64 id, .string sc, .string sf, .slice A n c, .int .i64 t, .slice Ab bn cb]) ∧ b6 ≤ wr.heap.size) (fun _ i _ => n + 1 - (intOf i).toNat)
          case atStart => exact ⟨0, Nat.zero_le _, rfl, Lib.hid (by rw [List.take_zero, List.append_nil]; exact HROW.out), HBX2, HQX2, by have := (HROW.out.low b6 rfl).2; omega⟩
          case round =>
            obtain ⟨k, hk, rfl, HRW, HBK, HQK, hb6⟩ := hrel
            clear HROW HBX2 HQX2 z3
            by_cases hlt : k < n
            · obtain ⟨g, o, rfl, hg, hXX⟩ := HEL.out k hlt
              have hcell := hXX wr HBK.out
              have hkn : (k : Int) < (n : Int) := by omega
              obtain ⟨cx, w8, hrun, hc1, hc2, hbt, hby, hsz⟩ := HTO.out k hlt wr
              have HTK : Hid (FV ++ tos.take (k + 1) = FV ++ tos.take k ++ [tos.getD k []]) := Lib.hid (by rw [List.take_succ_eq_append_getElem (by rw [HNN.out]; exact hlt), List.append_assoc]; simp [List.getD, HNN.out, hlt])
              have HKL : Hid ((FV ++ tos.take k).length + 1 ≤ 1000000000) := Lib.hid (by rw [List.length_append, HFL.out, List.length_take, HNN.out]; omega)
              have HB8 := Lib.hid (HBK.out.trans (hby.mono HBK.out.size))
              have HQ8 : Hid (BlkIs w8 w0.heap.size 27 #[.int .i64 id, .string sc, .string sf, .slice (some ⟨g, o, none⟩) n c, .int .i64 t, .slice Ab bn cb]) := Lib.hid ((hby.block _ HQK.out.lt).trans HQK.out)
              have HR8 := Lib.hid (HRW.out.below hby)
              have HBT := Lib.hid hbt
              have hlw := fun j hj => (HRW.out.low j hj).2
              obtain ⟨A5, c5, rfl, _, _⟩ := HRW.out.slice
              generalize hfl : (FV ++ tos.take k).length = fl at *
              have HFLL := Lib.hid hfl
              have HLW := Lib.hid hlw
              clear hfl hlw
              clear hXX hbt hby HRW
              generalize tos.getD k [] = p at *
              generalize hpl : p.length = pl at *
              have HPL := Lib.hid hpl
              clear hpl
              generalize str p = sp at *
              have HSW := Lib.hid hsz
              have HBA : Hid (Below w8.heap.size w8 (w8.alloc (.cells #[.slice (some ⟨wr.heap.size, 0, none⟩) pl cx] 25))) := Lib.hid ((Below.refl _ _).alloc (Nat.le_refl _) _)
              have HCE := Lib.hid ((cell_of_row _ w8.heap.size 0 #[.slice (some ⟨wr.heap.size, 0, none⟩) pl cx] 25 (0, 0) (heap_alloc_new w8 _)).trans rfl)
              clear hsz
              go_wp2_with (first
                | (refine lappR (.tmp 57) (.tmp 60) rfl rfl (v := .slice A5 fl c5) (l := p) (A := some ⟨wr.heap.size, 0, none⟩) (c := cx) rfl (HR8.out.below HBA.out) (.inr ⟨(HBT.out.below (HBA.out.mono (by rw [HSW.out]; omega))).more (by rw [World.size_alloc, HSW.out]; omega), fun ad e hc => by (injection e with e; subst e; exact absurd (HLW.out _ hc) (Nat.lt_irrefl _))⟩) (by rw [HPL.out]; exact hc1) hc2 (g := w8.heap.size) (c1 := 1) rfl (by rw [HPL.out]; exact HCE.out) (by rw [HFLL.out]; exact HKL.out) (by rw [World.size_alloc, HSW.out]; omega) ?_; intro v9 w9 h1 h2 h3; have HR9 := Lib.hid h1; have HB9 := Lib.hid ((HB8.out.alloc HB8.out.size (.cells #[.slice (some ⟨wr.heap.size, 0, none⟩) pl cx] 25)).grown h2 (by rw [World.size_alloc, HSW.out]; have := HBK.out.size; omega) (fun j hj => by have := h3 j hj; omega)); have HQ9 := Lib.hid ((HQ8.out.alloc (.cells #[.slice (some ⟨wr.heap.size, 0, none⟩) pl cx] 25)).grown h2 (fun e => by have := h3 _ e; omega)); have hz9 := h2.size; clear h1 h2 h3)
                | fail)
              have hz9' : b6 ≤ w9.heap.size := by rw [World.size_alloc, HSW.out] at hz9; omega
              clear hz9
              go_roundw
              case rel => exact ⟨k + 1, by omega, by go_num, Lib.hid (by rw [HTK.out]; exact HR9.out), HB9, HQ9, hz9'⟩
              case measure => simp [intOf]; omega
            · obtain rfl : k = n := by omega
              have hz : ¬ (k : Int) < (k : Int) := by omega
              have z5 := (BlkIs.cell HQK.out 5).trans (rfl : _ = some (Value.slice Ab bn cb))
              have HTK : Hid (FV ++ tos.take k ++ [body] = FLD) := Lib.hid (by rw [List.take_of_length_le (by rw [HNN.out]; omega)]; exact HFD.out)
              have HKL : Hid ((FV ++ tos.take k).length + 1 ≤ 1000000000) := Lib.hid (by rw [List.length_append, HFL.out, List.length_take, HNN.out]; omega)
              have HBA : Hid (Below wr.heap.size wr (wr.alloc (.cells #[.slice Ab bn cb] 25))) := Lib.hid ((Below.refl _ _).alloc (Nat.le_refl _) _)
              have HCE := Lib.hid ((cell_of_row _ wr.heap.size 0 #[.slice Ab bn cb] 25 (0, 0) (heap_alloc_new wr _)).trans rfl)
              have hel2 := El.old (HBO.out.below HBK.out) HBK.out.size (fun j hj => by have := (HRW.out.low j hj).1; omega)
              obtain ⟨A5, c5, rfl, _, _⟩ := HRW.out.slice
              have HEL2 : Hid (El wr (.slice A5 (FV ++ tos.take k).length c5) Ab body) := Lib.hid hel2
              clear hel2
              generalize hls : FV ++ tos.take k = ls at *
              clear hls
              generalize hfl : ls.length = fl at *
              have HFLL := Lib.hid hfl
              clear hfl
              go_wp2_with (first
                | (refine lappR (.tmp 63) (.tmp 66) rfl rfl (v := .slice A5 fl c5) (l := body) (A := Ab) (c := cb) rfl (HRW.out.below HBA.out) (HEL2.out.below HBA.out) (by rw [HBL.out]; exact hb1) hb2 (g := wr.heap.size) (c1 := 1) rfl (by rw [HBL.out]; exact HCE.out) (by rw [HFLL.out]; exact HKL.out) (by rw [World.size_alloc]; omega) ?_; intro v9 w9 h1 h2 h3; rw [HTK.out] at h1; have HB9 := Lib.hid ((HBK.out.alloc HBK.out.size (.cells #[.slice Ab bn cb] 25)).grown h2 (by rw [World.size_alloc]; have := HBK.out.size; omega) (fun j hj => by have := h3 j hj; omega)); obtain ⟨A9, c9, rfl, _, _⟩ := h1.slice; have HRS := Lib.hid h1.rws; have HPU := Lib.hid (rput_any HRS.out FLD.length c9 rfl (by have := HTOT.out; omega) (HGT.out _ HB9.out)); clear h1 h2 h3)
                | (go_at_call 29; refine HPU.out.mono ?_; rintro e w10 ⟨v10, rfl, ho10, hb10⟩; have HF := Lib.hid (And.intro (own_more ho10 HB9.out.size) (HB9.out.trans (hb10.mono HB9.out.size))); clear ho10 hb10)
                | fail)
              refine bodyPost_ret (results_tmp2 rfl _ _ _) rfl ?_
              exact ⟨HF.out.2, .inl ⟨HR.out, v10, rfl, HF.out.1⟩⟩
end En
end Go.Proofs.YteapnkedpmcokaaGreatDoor
