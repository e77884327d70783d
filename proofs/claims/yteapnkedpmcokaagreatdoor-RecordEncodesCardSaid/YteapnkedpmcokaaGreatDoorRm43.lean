/- RcEnc RcRd RcRead EnPart. Conditions: as stated at each. -/
import Derived.Test.YteapnkedpmcokaaGreatDoorRm42
import Derived.Test.YteapnkedpmcokaaGreatDoorRm31
import Derived.Test.YteapnkedpmcokaaGreatDoorRm30
/- The writer's write at any record; record.Encode. Conditions: as stated at each. -/
namespace Go.Proofs.YteapnkedpmcokaaGreatDoor
set_option maxRecDepth 100000
namespace Rc
open Go.RowKit Go Go.Proofs.YteapnkedpmcokaaGreatDoor.Pa
attribute [local go_sem] Oper.semAt_some
theorem fold_set : ∀ (X pre Z : List Value) (o : Nat), pre.length = o → X.length ≤ Z.length →
    (X.zipIdx o).foldl (fun cs (x : Value × Nat) => cs.setIfInBounds (0 + x.2) x.1) (pre ++ Z).toArray = (pre ++ (X ++ Z.drop X.length)).toArray
  | [], pre, Z, o, _, _ => by simp
  | x :: X, pre, [], o, _, h => by simp at h
  | x :: X, pre, z :: Z, o, ho, h => by
    rw [List.zipIdx_cons, List.foldl_cons]
    have e : (pre ++ z :: Z).toArray.setIfInBounds (0 + o) x = ((pre ++ [x]) ++ Z).toArray := by
      subst ho
      simp
    dsimp only
    rw [e, fold_set X (pre ++ [x]) Z (o + 1) (by simp [ho]) (by simpa using h)]
    simp
theorem built_first {P : Program} {t : TypeId} {it : TypeInfo} {z : Value} {Z : List Value} {n : Nat} {fields : Array Field} {places : List (Nat × Nat)} (hi : P.info? t = some it) (hz : it.zero = some z) (hzc : z.cells = Z.toArray) (hu : P.underlying t = some (.struct fields))
    (hp : fields.toList.mapM (fun f => (P.info? f.type).map fun i => (f.offset, i.size)) = some ((0, n) :: places)) (X : List Value) (hX : X.length = n) (hn : n ≤ Z.length) : P.built t [(0, .agg X.toArray)] = some (X ++ Z.drop n).toArray := by
  subst hX
  unfold Program.built
  simp only [hi, hu, hz, hp, hzc]
  unfold Instr.fill
  simp only [List.getElem?_toArray, List.getElem?_cons_zero, Value.cells, List.size_toArray]
  rw [if_neg (by simp; omega)]
  have e := fold_set X [] Z 0 rfl hn
  rw [List.nil_append, List.nil_append] at e
  rw [← e]
  unfold Instr.fill
  congr 1
  rw [← Array.foldl_toList]
  simp
theorem run_build_w (X : List Value) (hX : X.length = 109) (w : World) : (Instr.build 58 #[(0, .agg X.toArray)]).run Tryz.prog w = .ok (.agg (X ++ [Value.slice none 0 0]).toArray) w := by
  obtain ⟨it, hi⟩ : ∃ it, Tryz.prog.info? 58 = some it := ⟨_, rfl⟩
  have h := built_first (P := Tryz.prog) (t := 58) (Z := rc (zero 0) (Value.slice none 0 0) (Value.slice none 0 0) ++ [Value.slice none 0 0]) (n := 109) (places := [(109, 1)]) hi (z := .agg (rc (zero 0) (Value.slice none 0 0) (Value.slice none 0 0) ++ [Value.slice none 0 0]).toArray) (by
    have : (Tryz.prog.info? 58).bind (·.zero) = some (.agg (rc (zero 0) (Value.slice none 0 0) (Value.slice none 0 0) ++ [Value.slice none 0 0]).toArray) := by kernel_rfl
    rw [hi] at this
    exact this) rfl Tryz.underlying58 (by kernel_rfl) X hX (by decide +kernel)
  rw [show (rc (zero 0) (Value.slice none 0 0) (Value.slice none 0 0) ++ [Value.slice none 0 0] : List Value).drop 109 = [Value.slice none 0 0] by rfl] at h
  exact run_build w _ _ _ h
theorem run_build_wc (X : List Value) (hX : X.length = 109) : ∀ w, (Instr.build 58 #[(0, .agg X.toArray)]).run Tryz.prog w = .ok (.agg (X ++ [Value.slice none 0 0]).toArray) w := fun w => run_build_w X hX w
theorem enc_1 {r : R} (h : r.kind = 1) : encR r = if En.okB r.msg then (1 :: En.putS (En.fldS r.msg), 0) else ([], 150) := by unfold encR; rw [if_pos h]
theorem enc_2 {r : R} (h : r.kind = 2) : encR r = if 1 ≤ r.pid ∧ r.pid ≤ 1099511627776 ∧ 0 ≤ r.pat then (2 :: (eightB r.pid ++ (eightB r.pat ++ r.leaf)), 0) else ([], 160) := by unfold encR; rw [if_neg (by omega), if_pos h]
theorem enc_3 {r : R} (h : r.kind = 3) : encR r = if sealB r.sl then (3 :: bytesS r.sl, 0) else ([], 160) := by unfold encR; rw [if_neg (by omega), if_neg (by omega), if_pos h]
theorem enc_4 {r : R} (h : r.kind = 4) : encR r = if Ho.holdS (r.nm, r.who) then (4 :: En.putS [r.nm, r.who], 0) else ([], 160) := by unfold encR; rw [if_neg (by omega), if_neg (by omega), if_neg (by omega), if_pos h]
theorem enc_5 {r : R} (h : r.kind = 5) : encR r = if Ho.holdS (r.nm, []) then (5 :: En.putS [r.nm], 0) else ([], 160) := by unfold encR; rw [if_neg (by omega), if_neg (by omega), if_neg (by omega), if_neg (by omega), if_pos h]
theorem enc_no {r : R} (h1 : r.kind ≠ 1) (h2 : r.kind ≠ 2) (h3 : r.kind ≠ 3) (h4 : r.kind ≠ 4) (h5 : r.kind ≠ 5) : encR r = ([], 160) := by unfold encR; rw [if_neg h1, if_neg h2, if_neg h3, if_neg h4, if_neg h5]
/-- behind write. -/
def WrR (W : World) (g M : Nat) (X : List Value) (out : L × Int) (e : Ending) (w' : World) : Prop :=
  Fr g M W w' ∧ ((out.2 = 0 ∧ e = .returned (.tuple #[]) ∧ ∃ vb, WrS w' g X vb ∧ Own5 w' M vb out.1) ∨ (out.2 ≠ 0 ∧ e = Fa.bad out.2))
theorem wrr_of {W : World} {g M : Nat} {X : List Value} {ok : Bool} {er : Int} {t : L} {out : L × Int} {e : Ending} {w' : World} (h : WrP W g M X ok er t e w') (ho : out = if ok then (t, 0) else ([], er)) (her : er ≠ 0) : WrR W g M X out e w' := by
  obtain ⟨h1, ⟨rfl, h2, h3⟩ | ⟨rfl, h2⟩⟩ := h
  · subst ho
    exact ⟨h1, .inl ⟨rfl, h2, h3⟩⟩
  · subst ho
    exact ⟨h1, .inr ⟨her, h2⟩⟩
theorem write_no {W : World} {g M : Nat} {X : List Value} {k : Int} (hW : WrS W g X (.slice none 0 0)) (h0 : X[0]? = some (.int .i64 k)) (h1 : k ≠ 1) (h2 : k ≠ 2) (h3 : k ≠ 3) (h4 : k ≠ 4) (h5 : k ≠ 5) :
    Calls Tryz.prog 23 #[.pointer (some ⟨g, 0, none⟩)] W (WrR W g M X ([], 160)) := by
  have ck : W.cell? ⟨g, 0, none⟩ = some (.int .i64 k) := hW.rng 0 _ h0
  have HF : Hid (Fr g M W W) := Lib.hid (Fr.refl _ _ _)
  clear hW h0
  go_enter Tryz.func23, Tryz.ntmps23
  go_wp2_with (first
    | (refine (kind_no k (by simpa using h1) (by simpa using h2) (by simpa using h3) (by simpa using h4) (by simpa using h5) _ _ _).mono ?_; rintro e w' ⟨rfl, rfl⟩)
    | fail)
  refine ⟨rfl, ?_⟩
  unfold WrR
  exact ⟨HF.out, .inr ⟨(by decide : (160 : Int) ≠ 0), rfl⟩⟩
theorem write_any {W : World} {g M B : Nat} {X : List Value} {r : R} (hW : WrS W g X (.slice none 0 0)) (hR : RecAt W B X r) (hB : B ≤ g) (hBM : B ≤ M) (hM : M ≤ W.heap.size) (hs : SmallR r) (hG : En.GlT W) (hlo : 2 < B) :
    Calls Tryz.prog 23 #[.pointer (some ⟨g, 0, none⟩)] W (WrR W g M X (encR r)) := by
  have h0 : X[0]? = some (.int .i64 r.kind) := by
    obtain ⟨v1, v2, rfl, _, _⟩ := hR
    rfl
  have hRec : ∀ w2, Fr g M W w2 → RecAt w2 B X r := fun w2 h => hR.below (h.to_below hB hBM (Nat.le_trans hBM hM))
  have hGl : ∀ w2, Fr g M W w2 → En.GlT w2 := fun w2 h => hG.below (h.to_below (N := 2 + 1) (by omega) (by omega) (by omega)) (Nat.lt_succ_self _)
  by_cases h1 : r.kind = 1
  · rw [h1] at h0
    exact (write_1 hW h0 hM fun w2 vb2 a b c => wmessage_any a b (hRec w2 c) hB (Nat.le_trans hM c.size) hs (by simp) (hGl w2 c)).mono fun e w' h => wrr_of h (enc_1 h1) (by decide)
  by_cases h2 : r.kind = 2
  · rw [h2] at h0
    exact (write_2 hW h0 hM fun w2 vb2 a b c => wpurged_any a b (hRec w2 c) (Nat.le_trans hM c.size) (by simp)).mono fun e w' h => wrr_of h (by rw [enc_2 h2]; by_cases q : 1 ≤ r.pid ∧ r.pid ≤ 1099511627776 ∧ 0 ≤ r.pat <;> simp [q]) (by decide)
  by_cases h3 : r.kind = 3
  · rw [h3] at h0
    exact (write_3 hW h0 hM fun w2 vb2 a b c => wseal_any a b (hRec w2 c) (Nat.le_trans hM c.size) (by simp)).mono fun e w' h => wrr_of h (enc_3 h3) (by decide)
  by_cases h4 : r.kind = 4
  · rw [h4] at h0
    exact (write_4 hW h0 hM fun w2 vb2 a b c => whold_any a b (hRec w2 c) (Nat.le_trans hM c.size) hs (by simp) (hGl w2 c)).mono fun e w' h => wrr_of h (enc_4 h4) (by decide)
  by_cases h5 : r.kind = 5
  · rw [h5] at h0
    exact (write_5 hW h0 hM fun w2 vb2 a b c => wlift_any a b (hRec w2 c) (Nat.le_trans hM c.size) hs (by simp) (hGl w2 c)).mono fun e w' h => wrr_of h (enc_5 h5) (by decide)
  rw [enc_no h1 h2 h3 h4 h5]
  exact write_no hW h0 h1 h2 h3 h4 h5
/-- what Encode answers. -/
def EncRP (w : World) (out : L × Int) (e : Ending) (w' : World) : Prop := Below w.heap.size w w' ∧ ∃ v, e = .returned (.tuple #[v, .int .i64 out.2]) ∧ ((out.2 = 0 ∧ Own5 w' w.heap.size v out.1) ∨ (out.2 ≠ 0 ∧ v = .slice none 0 0))
theorem rc_one {r : R} {w : World} {B : Nat} {X : List Value} (h : RecAt w B X r) : ∀ u ∈ X, u.oneCell' = true := by
  obtain ⟨v1, v2, rfl, ⟨A, c, Ab, cb, e, _⟩, _⟩ := h
  injection e with e
  have e' := congrArg Array.toList e
  simp only [mc] at e'
  injection e' with _ e'
  injection e' with _ e'
  injection e' with _ e'
  injection e' with e1 e'
  injection e' with _ e'
  injection e' with e2 _
  subst e1
  subst e2
  intro u hu
  simp only [rc, mc, pc, hc, List.mem_append, List.mem_cons, List.not_mem_nil, or_false] at hu
  rcases hu with rfl | (rfl | rfl | rfl | rfl | rfl | rfl) | (rfl | hu | rfl) | hu | rfl | rfl
  all_goals first
    | rfl
    | exact bv_one _ _ hu
    | exact sc_one _ _ hu
set_option maxHeartbeats 3200000 in
theorem Encode_any {w : World} {X : List Value} {r : R} (hR : RecAt w w.heap.size X r) (hs : SmallR r) (hG : En.GlT w) :
    Calls Tryz.prog 9 #[.agg X.toArray] w (EncRP w (encR r)) := by
  have HX := Lib.hid hR.len
  have HI : Hid ((Tryz.prog.info? 36).map (·.size) = some X.length) := Lib.hid (by rw [HX.out]; exact isz_r)
  have HSZ : Hid ((X ++ [Value.slice none 0 0]).toArray.size = 110) := Lib.hid (by simp [HX.out])
  have HIW : Hid ((Tryz.prog.info? 58).map (·.size) = some (X ++ [Value.slice none 0 0]).toArray.size) := Lib.hid (by rw [HSZ.out]; exact isz_w)
  have HALL : Hid ((X ++ [Value.slice none 0 0]).toArray.all (·.oneCell') = true) := Lib.hid (Array.all_eq_true_iff_forall_mem.2 fun u hu => by
    have hu' : u ∈ X ++ [Value.slice none 0 0] := by simpa using hu
    rcases List.mem_append.1 hu' with h | h
    · exact rc_one hR u h
    · rw [List.mem_singleton.1 h]; rfl)
  have HBW := Lib.hid (run_build_wc X HX.out)
  have HR1 : Hid ((w.alloc (.cells X.toArray 36)).rangeAt w.heap.size 0 X) := Lib.hid (blk_rng (BlkIs.new w _ _))
  have HAT : Hid (∀ w3, Below w.heap.size w w3 → BlkIs w3 (w.heap.size + 1) 58 (X ++ [Value.slice none 0 0]).toArray →
      Calls Tryz.prog 22 #[.func (.func 23) #[.pointer (some ⟨w.heap.size + 1, 0, none⟩)] #[]] w3 fun e w' => ∃ x, e = .returned (.int .i64 x) ∧ x = (encR r).2 ∧ Below w.heap.size w w' ∧ ((encR r).2 = 0 → ∃ vb, WrS w' (w.heap.size + 1) X vb ∧ Own5 w' w.heap.size vb (encR r).1)) := Lib.hid fun w3 hb3 hk3 => by
    have hlt3 := hk3.lt
    have ga : Below w3.heap.size w3 (w3.alloc (.cells #[.int .i64 0] 39)) := (Below.refl _ _).alloc (Nat.le_refl _) _
    have gb := hb3.trans (ga.mono hb3.size)
    have hsE : (w3.alloc (.cells #[.int .i64 0] 39)).heap.size = w3.heap.size + 1 := by simp
    refine Fa.attempt_m 23 _ w3 (fun x w' => x = (encR r).2 ∧ Below w.heap.size w w' ∧ ((encR r).2 = 0 → ∃ vb, WrS w' (w.heap.size + 1) X vb ∧ Own5 w' w.heap.size vb (encR r).1)) (enters_of Tryz.func23 (by kernel_rfl) rfl _) ?_
    have hE := BlkIs.new w3 39 #[.int .i64 0]
    refine (write_any (g := w.heap.size + 1) (M := w3.heap.size + 1) (B := w.heap.size) (X := X) ⟨hk3.alloc _, HX.out⟩ (hR.below gb) (by omega) (by omega) (by omega) hs (hG.below gb hG.lt) hG.lt).mono ?_
    rintro e w' ⟨hF, h⟩
    have hbw : Below w.heap.size w w' := gb.trans (hF.to_below (by omega) (by omega) (by omega))
    refine ⟨hF.kp _ _ _ (by omega) (by decide) hE, ?_⟩
    rcases h with ⟨h1, rfl, vb, h2, h3⟩ | ⟨h1, rfl⟩
    · exact .inl ⟨rfl, h1.symm, hbw, fun _ => ⟨vb, h2, own_more h3 (by omega)⟩⟩
    · exact .inr ⟨_, rfl, rfl, hbw.setCell (by show w.heap.size ≤ w3.heap.size; omega) _, fun h => absurd h h1⟩
  have HB1 : Hid (Below w.heap.size w (w.alloc (.cells X.toArray 36))) := Lib.hid ((Below.refl _ w).alloc (Nat.le_refl _) _)
  clear hR hs hG
  generalize encR r = o at *
  rcases o with ⟨t, z⟩
  dsimp only at HAT
  go_enter Tryz.func9, Tryz.ntmps9
  go_upto_region 2 with (first
    | (refine wpList_load_mid rfl 36 (.tmp 1) rfl w.heap.size 0 rfl X _ HR1.out Tryz.underlying36 rfl HI.out ?_)
    | (refine build_ops 58 #[(0, .tmp 6)] #[(0, .agg X.toArray)] _ (HBW.out _) rfl (by simp only [List.map_toArray, List.map_cons, List.map_nil]; rfl) rfl ?_)
    | (refine store_bl (.tmp 4) (.tmp 7) 58 (w.heap.size + 1) 58 _ (X ++ [Value.slice none 0 0]).toArray (BlkIs.new_at _ _ _ _ (by simp)) rfl rfl rfl rfl rfl HIW.out (by rw [HSZ.out]; rfl) HALL.out ?_; intro w3 hb3 ht3)
    | fail)
  have hB3 : Below w.heap.size w w3 := (HB1.out.alloc HB1.out.size _).trans (ht3.below (by simp; omega) (fun i hi h => by omega))
  have HC := Lib.hid (HAT.out w3 hB3 hb3)
  clear hb3 ht3 hB3 HAT HR1 HB1 HBW HALL HIW HSZ HI HX
  go_wp2_with fail
  refine HC.out.mono ?_
  rintro e w4 ⟨x, rfl, rfl, hb4, hq⟩
  have HB4 := Lib.hid hb4
  clear hb4 HC
  by_cases hz : x = 0
  · subst hz
    obtain ⟨vb, h5, h6⟩ := hq rfl
    have cb := h5.b
    have HO := Lib.hid h6
    clear hq h5 h6
    go_wp2_with fail
    refine bodyPost_ret (results_tmp2 rfl _ _ _) rfl ?_
    unfold EncRP
    exact ⟨HB4.out, vb, rfl, .inl ⟨rfl, HO.out⟩⟩
  · have hz' : (x != 0) = true := by simpa using hz
    have HZ := Lib.hid hz
    clear hq
    go_wp2_with fail
    refine bodyPost_ret (results_tmp2 rfl _ _ _) rfl ?_
    unfold EncRP
    exact ⟨HB4.out, _, rfl, .inr ⟨HZ.out, rfl⟩⟩
end Rc
end Go.Proofs.YteapnkedpmcokaaGreatDoor
/- The reader under way: cut, text, lift, hold. Conditions: as stated at each. -/
namespace Go.Proofs.YteapnkedpmcokaaGreatDoor
set_option maxRecDepth 100000
namespace Rc
open Go.RowKit Go Go.Proofs.YteapnkedpmcokaaGreatDoor.Pa
attribute [local go_sem] Oper.semAt_some
/-- the reader: a record's cells as far as they are read, and what is left. -/
structure RdS (W : World) (g : Nat) (X : List Value) (vr : Value) : Prop where
  blk : BlkIs W g 68 (X ++ [vr]).toArray
  len : X.length = 109
theorem RdS.b {W : World} {g : Nat} {X : List Value} {vr : Value} (h : RdS W g X vr) : W.cell? ⟨g, 109, none⟩ = some vr := by
  refine h.blk.get ?_
  rw [List.getElem?_append_right (by rw [h.len]; omega), h.len]
  rfl
theorem RdS.at_ {W : World} {g : Nat} {X : List Value} {vr v : Value} (h : RdS W g X vr) {k : Nat} (hk : X[k]? = some v) : W.cell? ⟨g, k, none⟩ = some v := by
  refine h.blk.get ?_
  rw [List.getElem?_append_left (List.getElem?_eq_some_iff.1 hk).1]
  exact hk
theorem RdS.froz {W : World} {g : Nat} {X : List Value} {vr : Value} (h : RdS W g X vr) (k : Nat) : W.frozen? ⟨g, k, none⟩ = false := h.blk.froz k
theorem RdS.rng {W : World} {g : Nat} {X : List Value} {vr : Value} (h : RdS W g X vr) : W.rangeAt g 0 X := rng_l (blk_rng h.blk)
theorem RdS.lt {W : World} {g : Nat} {X : List Value} {vr : Value} (h : RdS W g X vr) : g < W.heap.size := h.blk.lt
theorem RdS.put {W : World} {g : Nat} {X : List Value} {vr : Value} (h : RdS W g X vr) (v : Value) : RdS (W.setCell ⟨g, 109, none⟩ v) g X v := by
  refine ⟨?_, h.len⟩
  have hp := h.blk.put 109 v
  have e : (X ++ [vr]).toArray.setIfInBounds 109 v = (X ++ [v]).toArray := by
    rw [List.setIfInBounds_toArray, List.set_append_right _ _ (by rw [h.len]; omega), h.len]
    rfl
  rwa [e] at hp
theorem RdS.set {W : World} {g : Nat} {X : List Value} {vr : Value} (h : RdS W g X vr) {k : Nat} (hk : k < 109) (v : Value) : RdS (W.setCell ⟨g, k, none⟩ v) g (X.set k v) vr := by
  refine ⟨?_, by rw [List.length_set]; exact h.len⟩
  have hp := h.blk.put k v
  have e : (X ++ [vr]).toArray.setIfInBounds k v = (X.set k v ++ [vr]).toArray := by
    rw [List.setIfInBounds_toArray, List.set_append_left _ _ (by rw [h.len]; exact hk)]
  rwa [e] at hp
theorem RdS.below {w w' : World} {g M : Nat} {X : List Value} {vr : Value} (h : RdS w g X vr) (hb : Below M w w') (hM : g < M) : RdS w' g X vr := ⟨(hb.block _ hM).trans h.blk, h.len⟩
/-- bytes that are left, apart from block g. -/
def RestAt (W : World) (g : Nat) (v : Value) (l : L) : Prop := ∃ A c, v = .slice A l.length c ∧ Bts W W.heap.size A l ∧ (0 < l.length → ∀ a, A = some a → a.block ≠ g) ∧ l.length ≤ c ∧ c ≤ maxLen ∧ (A = none → c = 0)
theorem RestAt.below {w w' : World} {g : Nat} {v : Value} {l : L} (h : RestAt w g v l) (hb : Below w.heap.size w w') : RestAt w' g v l := by
  obtain ⟨A, c, h1, h2, h3⟩ := h
  exact ⟨A, c, h1, (h2.below hb).more hb.size, h3⟩
theorem RestAt.far {w : World} {g : Nat} {v : Value} {l : L} (h : RestAt w g v l) (k : Nat) (u : Value) : RestAt (w.setCell ⟨g, k, none⟩ u) g v l := by
  obtain ⟨A, c, h1, h2, h3, h4⟩ := h
  refine ⟨A, c, h1, fun j x hj => ?_, h3, h4⟩
  obtain ⟨ad, e, hb, hc⟩ := h2 j x hj
  have hjl : j < l.length := by
    have := (List.getElem?_eq_some_iff.1 hj).1
    simpa [bv] using this
  have hne := h3 (by omega) ad e
  refine ⟨ad, e, by simpa [World.setCell] using hb, ?_⟩
  rw [World.cell?_setCell_other _ _ _ _ (fun e2 => hne (by
    have := congrArg Addr.block e2
    rw [blk_add] at this
    first | exact this | exact this.symm))]
  exact hc
theorem RestAt.of_own {w : World} {g N : Nat} {v : Value} {l : L} (h : Own5 w N v l) (hg : g < N) : RestAt w g v l := by
  obtain ⟨A, c, rfl, h1, h2⟩ := own_slice h
  refine ⟨A, c, rfl, h.bts, fun hl a ha => ?_, h1, h2, En.own5_nil h⟩
  subst ha
  have := (h.lt a.block rfl).1
  omega
/-- a slice's beginning and what stands behind. -/
theorem run_upto {A : Option Addr} {n c k : Nat} (hk : k ≤ c) (w : World) : (Instr.slice 25 (.slice A n c) none (some (.int .i64 k)) none).run Tryz.prog w = .ok (.slice A k c) w := by
  obtain ⟨i, hi, hz, h0, h1⟩ := info_parts info5
  cases A with
  | none =>
    simp [Instr.slice, run_underlying Tryz.underlying25, Instr.sliceBounds, Instr.sliceBound, asIntOf, Sem.run_bind, hk, sizeOf, typeInfo, hi]
  | some a =>
    simp [Instr.slice, run_underlying Tryz.underlying25, Instr.sliceBounds, Instr.sliceBound, asIntOf, Sem.run_bind, hk, sizeOf, typeInfo, hi, En.tx_add0]
theorem run_from {W : World} {B g o : Nat} {l : L} {c : Nat} (h : Bts W B (some ⟨g, o, none⟩) l) (k : Nat) (hk : k ≤ l.length) (hc : l.length ≤ c) : ∃ o', (∀ w, (Instr.slice 25 (.slice (some ⟨g, o, none⟩) l.length c) (some (.int .i64 k)) none none).run Tryz.prog w = .ok (.slice (some ⟨g, o', none⟩) (l.length - k) (c - k)) w) ∧ Bts W B (some ⟨g, o', none⟩) (l.drop k) := by
  rcases Nat.lt_or_ge k c with h1 | h1
  · exact ⟨o + k, fun w => cut45 g o l.length c k hk h1 w, bts_drop h k⟩
  · obtain rfl : k = c := by omega
    refine ⟨o, fun w => ?_, by rw [List.drop_eq_nil_of_le (by omega)]; exact Cs.nil⟩
    obtain ⟨i, hi, hz, h0, h2⟩ := info_parts info5
    have e1 : (k : Int) ≤ (l.length : Int) := by omega
    simp [Instr.slice, run_underlying Tryz.underlying25, Instr.sliceBounds, Instr.sliceBound, asIntOf, Sem.run_bind, hk, sizeOf, typeInfo, hi]
/-- what may have turned: block g. -/
abbrev Gn (g : Nat) (w w' : World) : Prop := Tn (fun i => i = g) w w'
theorem gn_put {g k : Nat} {w w' : World} (h : Gn g w w') (v : Value) : Gn g w (w'.setCell ⟨g, k, none⟩ v) := Tn.setCell h (.inl rfl) v
def CutRP (W : World) (g : Nat) (X : List Value) (l : L) (n : Nat) (e : Ending) (w' : World) : Prop :=
  Gn g W w' ∧ ((n ≤ l.length ∧ ∃ v vr, e = .returned v ∧ RdS w' g X vr ∧ RestAt w' g vr (l.drop n) ∧ RestAt w' g v (l.take n)) ∨ (l.length < n ∧ e = Fa.bad 160))
set_option maxHeartbeats 1600000 in
theorem rcut_any {W : World} {g : Nat} {X : List Value} {vr : Value} {l : L} (hR : RdS W g X vr) (hL : RestAt W g vr l) (n : Nat) (hn : 0 < n) :
    Calls Tryz.prog 47 #[.pointer (some ⟨g, 0, none⟩), .int .i64 n] W (CutRP W g X l n) := by
  have HL := Lib.hid hL
  obtain ⟨A, c, rfl, hb, hne, hc, hm, hA⟩ := hL
  by_cases hlt : n ≤ l.length
  · obtain ⟨g', o, rfl, hg'⟩ := bts_plain hb (by omega)
    obtain ⟨o', hrun, hd⟩ := run_from hb n hlt hc
    have hup : ∀ w, (Instr.slice 25 (.slice (some ⟨g', o, none⟩) l.length c) none (some (.int .i64 n)) none).run Tryz.prog w = .ok (.slice (some ⟨g', o, none⟩) n c) w := fun w => run_upto (by omega) w
    have HR := Lib.hid hR
    have hgg : g' ≠ g := hne (by omega) ⟨g', o, none⟩ rfl
    have HD : Hid (RestAt W g (.slice (some ⟨g', o', none⟩) (l.length - n) (c - n)) (l.drop n)) := Lib.hid ⟨_, c - n, by rw [List.length_drop], hd, fun _ a ha => by injection ha with ha; subst ha; exact hgg, by rw [List.length_drop]; omega, by omega, fun e => by cases e⟩
    have HT : Hid (RestAt W g (.slice (some ⟨g', o, none⟩) n c) (l.take n)) := Lib.hid ⟨_, c, by rw [List.length_take, Nat.min_eq_left hlt], hb.take n, fun _ a ha => by injection ha with ha; subst ha; exact hgg, by rw [List.length_take]; omega, hm, fun e => by cases e⟩
    have HLE := Lib.hid hlt
    have hlt' : (n : Int) ≤ (l.length : Int) := by omega
    have cb := hR.b
    have cf := hR.froz 109
    clear hR HL hb hne hc hm hA hd hn hlt hg' hgg
    generalize hln : l.length = ln at *
    have HLN := Lib.hid hln
    clear hln
    generalize ln - n = m at *
    generalize c - n = c' at *
    go_enter Tryz.func47, Tryz.ntmps47
    go_wp2_with (first
      | (go_at_call 60; refine (need_t (by first | rfl | (simp; done) | (simp; omega)) _).mono ?_; rintro e w' ⟨rfl, rfl⟩)
      | fail)
    go_ret
    unfold CutRP
    exact ⟨gn_put (Tn.refl _ _) _, .inl ⟨by rw [HLN.out]; exact HLE.out, _, _, rfl, HR.out.put _, HD.out.far 109 _, HT.out.far 109 _⟩⟩
  · have HR := Lib.hid hR
    have HLT : Hid (l.length < n) := Lib.hid (by omega)
    have hlt' : ¬ (n : Int) ≤ (l.length : Int) := by omega
    have cb := hR.b
    clear hR HL hb hne hc hm hA hn hlt
    generalize hln : l.length = ln at *
    have HLN := Lib.hid hln
    clear hln
    go_enter Tryz.func47, Tryz.ntmps47
    go_wp2_with (first
      | (go_at_call 60; refine (need_f (by first | rfl | (simp; done) | (simp; omega)) _).mono ?_; rintro e w' ⟨rfl, rfl⟩)
      | fail)
    refine ⟨rfl, ?_⟩
    unfold CutRP
    exact ⟨Tn.refl _ _, .inr ⟨by rw [HLN.out]; exact HLT.out, rfl⟩⟩
def TextP (W : World) (g : Nat) (X : List Value) (l : L) (e : Ending) (w' : World) : Prop :=
  Gn g W w' ∧ ((En.takeS l = none ∧ e = Fa.bad 160) ∨ ∃ p r vr, En.takeS l = some (p, r) ∧ e = .returned (.string (str p)) ∧ RdS w' g X vr ∧ RestAt w' g vr r)
set_option maxHeartbeats 1600000 in
theorem rtext_any {W : World} {g : Nat} {X : List Value} {vr : Value} {l : L} (hR : RdS W g X vr) (hL : RestAt W g vr l) (hl : l.length ≤ 1000000) (hG : En.GlT W) (hE : En.GlO W (Pa.ahead 58 l)) :
    Calls Tryz.prog 165 #[.pointer (some ⟨g, 0, none⟩)] W (TextP W g X l) := by
  obtain ⟨A, c, rfl, hb, hne, hc, hm, hA⟩ := hL
  have HT := Lib.hid (En.take_or hb (Nat.le_refl _) c hc hm hA hl hG hE)
  have HR := Lib.hid hR
  have cb := hR.b
  have hlt := hR.lt
  unfold En.TakeP at HT
  clear hR hb hne hc hm hA hG hE
  generalize l.length = ln at *
  go_enter Tryz.func165, Tryz.ntmps165
  go_wp2_with fail
  refine HT.out.mono ?_
  rintro e w2 ⟨hb2, ⟨htk, v, rfl, _⟩ | ⟨p, r, htk, v1, v2, rfl, ho1, ho2⟩⟩
  · have HTK := Lib.hid htk
    have HF2 : Hid (Gn g W w2) := Lib.hid (Tn.of_below hb2)
    clear HT hb2 cb htk
    go_wp2_with (first
      | (go_at_call 60; refine (need_f (by first | rfl | (simp; done)) _).mono ?_; rintro e w' ⟨rfl, rfl⟩)
      | fail)
    refine ⟨rfl, ?_⟩
    unfold TextP
    exact ⟨HF2.out, .inl ⟨HTK.out, rfl⟩⟩
  · have HTK := Lib.hid htk
    have HF2 : Hid (Gn g W w2) := Lib.hid (Tn.of_below hb2)
    have HR2 := Lib.hid (HR.out.below hb2 hlt)
    have HO2 := Lib.hid (RestAt.of_own ho2 hlt)
    have HO1 := Lib.hid (RestAt.of_own ho1 hlt)
    obtain ⟨A1, c1, rfl, _, _⟩ := own_slice ho1
    have hcv : ∀ u, (convert 25 9 (.slice A1 p.length c1)).run Tryz.prog (w2.setCell ⟨g, 109, none⟩ u) = .ok (.string (str p)) (w2.setCell ⟨g, 109, none⟩ u) := fun u => by
      obtain ⟨A', c', e, hb', _⟩ := HO1.out.far 109 u
      injection e with e1 e2 e3
      subst e1
      subst e3
      exact En.conv_str hb' c1
    have cb2 := HR2.out.b
    have cf2 := HR2.out.froz 109
    obtain ⟨A2, c2, rfl, _, _⟩ := own_slice ho2
    clear HT hb2 cb ho1 ho2 HO1 htk
    generalize hsp : str p = sp at *
    have HSP := Lib.hid hsp
    clear hsp
    generalize p.length = pn at *
    generalize r.length = rn at *
    go_wp2_with (first
      | (go_at_call 60; refine (need_t (by first | rfl | (simp; done)) _).mono ?_; rintro e w' ⟨rfl, rfl⟩)
      | fail)
    go_ret
    unfold TextP
    exact ⟨gn_put HF2.out _, .inr ⟨p, r, _, HTK.out, by rw [HSP.out]; rfl, HR2.out.put _, HO2.out.far 109 _⟩⟩
def LiftP (W : World) (g : Nat) (X : List Value) (l : L) (e : Ending) (w' : World) : Prop :=
  Gn g W w' ∧ ((En.takeS l = none ∧ e = Fa.bad 160) ∨ ∃ p r vr, En.takeS l = some (p, r) ∧ e = .returned (.tuple #[]) ∧ RdS w' g (X.set 107 (.string (str p))) vr ∧ RestAt w' g vr r)
set_option maxHeartbeats 1600000 in
theorem rlift_any {W : World} {g : Nat} {X : List Value} {vr : Value} {l : L} (hR : RdS W g X vr) (hL : RestAt W g vr l) (hl : l.length ≤ 1000000) (hG : En.GlT W) (hE : En.GlO W (Pa.ahead 58 l)) :
    Calls Tryz.prog 161 #[.pointer (some ⟨g, 0, none⟩)] W (LiftP W g X l) := by
  have HT := Lib.hid (rtext_any hR hL hl hG hE)
  unfold TextP at HT
  have hX : ∃ v, X[107]? = some v := ⟨_, List.getElem?_eq_getElem (by rw [hR.len]; omega)⟩
  obtain ⟨v107, hX⟩ := hX
  have HX := Lib.hid hX
  clear hR hL hG hE hl hX
  go_enter Tryz.func161, Tryz.ntmps161
  go_wp2_with fail
  refine HT.out.mono ?_
  rintro e w2 ⟨hF, ⟨htk, rfl⟩ | ⟨p, r, vr2, htk, rfl, hr2, hl2⟩⟩
  · refine ⟨rfl, ?_⟩
    unfold LiftP
    exact ⟨hF, .inl ⟨htk, rfl⟩⟩
  · have HTK := Lib.hid htk
    have HF2 := Lib.hid hF
    have HR2 := Lib.hid hr2
    have HL2 := Lib.hid hl2
    have c107 := hr2.at_ HX.out
    have f107 := hr2.froz 107
    clear htk hF hr2 hl2 HT
    generalize hsp : str p = sp at *
    have HSP := Lib.hid hsp
    clear hsp
    go_wp2_with fail
    go_end0
    unfold LiftP
    exact ⟨gn_put HF2.out _, .inr ⟨p, r, vr2, HTK.out, rfl, by rw [HSP.out]; exact HR2.out.set (by omega) _, HL2.out.far 107 _⟩⟩
def HoldP (W : World) (g : Nat) (X : List Value) (l : L) (e : Ending) (w' : World) : Prop :=
  Gn g W w' ∧ (((∀ p r q s, En.takeS l = some (p, r) → En.takeS r ≠ some (q, s)) ∧ e = Fa.bad 160) ∨ ∃ p r q s vr, En.takeS l = some (p, r) ∧ En.takeS r = some (q, s) ∧ e = .returned (.tuple #[]) ∧ RdS w' g ((X.set 107 (.string (str p))).set 108 (.string (str q))) vr ∧ RestAt w' g vr s)
set_option maxHeartbeats 1600000 in
theorem rhold2_any {W : World} {g : Nat} {X : List Value} {vr : Value} {l : L} (hR : RdS W g X vr) (hL : RestAt W g vr l) (hl : l.length ≤ 1000000) (hgl : 2 < g) (hG : En.GlT W) (hE : En.GlO W (Pa.ahead 58 l)) (hE2 : ∀ w' p r, Gn g W w' → En.takeS l = some (p, r) → En.GlO w' (Pa.ahead 58 r)) :
    Calls Tryz.prog 160 #[.pointer (some ⟨g, 0, none⟩)] W (HoldP W g X l) := by
  have HT := Lib.hid (rlift_any hR hL hl hG hE)
  unfold LiftP at HT
  have hX : ∃ v, X[108]? = some v := ⟨_, List.getElem?_eq_getElem (by rw [hR.len]; omega)⟩
  obtain ⟨v108, hX⟩ := hX
  have HX := Lib.hid hX
  have HLR : Hid (∀ p r, En.takeS l = some (p, r) → r.length ≤ 1000000) := Lib.hid fun p r h => by have := En.take_less h; omega
  have hlt := hR.lt
  have HG : Hid (∀ w', Gn g W w' → En.GlT w') := Lib.hid fun w' h => hG.below (Tn.below h (N := g) (by omega) (fun i hi h => by omega)) hgl
  have HE2 := Lib.hid hE2
  clear hR hL hG hE hl hX hE2
  go_enter Tryz.func160, Tryz.ntmps160
  go_wp2_with fail
  refine HT.out.mono ?_
  rintro e w2 ⟨hF, ⟨htk, rfl⟩ | ⟨p, r, vr2, htk, rfl, hr2, hl2⟩⟩
  · refine ⟨rfl, ?_⟩
    unfold HoldP
    exact ⟨hF, .inl ⟨fun p r q s h => (by rw [htk] at h; cases h), rfl⟩⟩
  · have HT2 := Lib.hid (rtext_any hr2 hl2 (HLR.out _ _ htk) (HG.out _ hF) (HE2.out _ _ _ hF htk))
    unfold TextP at HT2
    have HTK := Lib.hid htk
    have HF2 := Lib.hid hF
    have HX2 : Hid ((X.set 107 (.string (str p)))[108]? = some v108) := Lib.hid (by rw [List.getElem?_set_ne (by omega)]; exact HX.out)
    clear htk hF hr2 hl2 HT HX
    generalize hXX : X.set 107 (.string (str p)) = X2 at *
    have HXX := Lib.hid hXX
    clear hXX
    go_wp2_with fail
    refine HT2.out.mono ?_
    rintro e w3 ⟨hF3, ⟨htk3, rfl⟩ | ⟨q, s, vr3, htk3, rfl, hr3, hl3⟩⟩
    · refine ⟨rfl, ?_⟩
      unfold HoldP
      exact ⟨HF2.out.trans hF3, .inl ⟨fun p' r' q s h => (by rw [HTK.out] at h; injection h with h; injection h with _ h; subst h; rw [htk3]; exact fun h => nomatch h), rfl⟩⟩
    · have HTK3 := Lib.hid htk3
      have HF3 : Hid (Gn g W w3) := Lib.hid (HF2.out.trans hF3)
      have HR3 := Lib.hid hr3
      have HL3 := Lib.hid hl3
      have c108 := hr3.at_ HX2.out
      have f108 := hr3.froz 108
      clear htk3 hF3 hr3 hl3 HT2
      generalize hsp : str q = sp at *
      have HSP := Lib.hid hsp
      clear hsp
      go_wp2_with fail
      go_end0
      unfold HoldP
      exact ⟨gn_put HF3.out _, .inr ⟨p, r, q, s, vr3, HTK.out, HTK3.out, rfl, by rw [HSP.out, HXX.out]; exact HR3.out.set (by omega) _, HL3.out.far 108 _⟩⟩
end Rc
end Go.Proofs.YteapnkedpmcokaaGreatDoor
/- The reader's read at each kind, at no bytes, at no kind. Conditions: as stated at each. -/
namespace Go.Proofs.YteapnkedpmcokaaGreatDoor
set_option maxRecDepth 100000
namespace Rc
open Go.RowKit Go Go.Proofs.YteapnkedpmcokaaGreatDoor.Pa
attribute [local go_sem] Oper.semAt_some
/-- behind a step of reading: it failed, or G. -/
def StepP (W : World) (g : Nat) (bad : Prop) (G : World → Prop) (e : Ending) (w' : World) : Prop := Gn g W w' ∧ ((bad ∧ e = Fa.bad 160) ∨ (e = .returned (.tuple #[]) ∧ G w'))
theorem byte_at {w : World} {g : Nat} {v : Value} {c : UInt8} (h : RestAt w g v [c]) : ∃ gb o cp, v = .slice (some ⟨gb, o, none⟩) 1 cp ∧ w.cell? ⟨gb, o, none⟩ = some (.int .u8 (c.toNat : Int)) := by
  obtain ⟨A, cp, rfl, hb, _⟩ := h
  obtain ⟨gb, o, rfl, _⟩ := bts_plain hb (by simp)
  obtain ⟨ad, e, _, hc⟩ := hb.at_ (k := 0) (by simp)
  injection e with e
  subst e
  rw [add_at] at hc
  exact ⟨gb, o, cp, rfl, hc⟩
theorem read_nil {W : World} {g : Nat} {X : List Value} {vr : Value} (hR : RdS W g X vr) (hL : RestAt W g vr []) (bad : Prop) (G : World → Prop) (hb : bad) :
    Calls Tryz.prog 30 #[.pointer (some ⟨g, 0, none⟩)] W (StepP W g bad G) := by
  have HC := Lib.hid (rcut_any hR hL 1 (by omega))
  unfold CutRP at HC
  have HB := Lib.hid hb
  clear hR hL hb
  go_enter Tryz.func30, Tryz.ntmps30
  go_wp2_with fail
  refine HC.out.mono ?_
  rintro e w2 ⟨hF, ⟨h, _⟩ | ⟨_, rfl⟩⟩
  · exact absurd h (by simp)
  · refine ⟨rfl, ?_⟩
    unfold StepP
    exact ⟨hF, .inl ⟨HB.out, rfl⟩⟩
set_option maxHeartbeats 1600000 in
theorem read_no {W : World} {g : Nat} {X : List Value} {vr : Value} {k : UInt8} {b : L} (hR : RdS W g X vr) (hL : RestAt W g vr (k :: b)) (bad : Prop) (G : World → Prop) (hb : bad) (h1 : k ≠ 1) (h2 : k ≠ 2) (h3 : k ≠ 3) (h4 : k ≠ 4) (h5 : k ≠ 5) :
    Calls Tryz.prog 30 #[.pointer (some ⟨g, 0, none⟩)] W (StepP W g bad G) := by
  have HC := Lib.hid (rcut_any hR hL 1 (by omega))
  unfold CutRP at HC
  have HB := Lib.hid hb
  have hz : ∀ n : Nat, n < 256 → k ≠ UInt8.ofNat n → ((k.toNat : Int) == (n : Int)) = false := fun n hn h => by
    rw [beq_eq_false_iff_ne]
    intro e
    have e' : k.toNat = n := by omega
    exact h (by rw [← e']; simp)
  have q1 := hz 1 (by omega) h1
  have q2 := hz 2 (by omega) h2
  have q3 := hz 3 (by omega) h3
  have q4 := hz 4 (by omega) h4
  have q5 := hz 5 (by omega) h5
  have HZ := Lib.hid (And.intro q1 (And.intro q2 (And.intro q3 (And.intro q4 q5))))
  have hX : ∃ v, X[0]? = some v := ⟨_, List.getElem?_eq_getElem (by rw [hR.len]; omega)⟩
  obtain ⟨v0, hX⟩ := hX
  have HX := Lib.hid hX
  clear hR hL hb hz q1 q2 q3 q4 q5 hX h1 h2 h3 h4 h5
  go_enter Tryz.func30, Tryz.ntmps30
  go_wp2_with fail
  refine HC.out.mono ?_
  rintro e w2 ⟨hF, ⟨_, v, vr2, rfl, hr2, hl2, hv⟩ | ⟨h, rfl⟩⟩
  · rw [List.take_succ_cons, List.take_zero] at hv
    obtain ⟨gb, o, cp, rfl, hc⟩ := byte_at hv
    have c0 := hr2.at_ HX.out
    have f0 := hr2.froz 0
    have hk8 := k.toNat_lt
    have HF2 := Lib.hid hF
    have HR2 := Lib.hid (hr2.set (by omega : 0 < 109) (.int .i64 (k.toNat : Int)))
    clear hr2 hl2 hv hF HC
    generalize k.toNat = kn at *
    go_wp2_with (first
      | (go_at_call 39; refine (kind_no _ HZ.out.1 HZ.out.2.1 HZ.out.2.2.1 HZ.out.2.2.2.1 HZ.out.2.2.2.2 _ _ _).mono ?_; rintro e w' ⟨rfl, rfl⟩)
      | fail)
    refine ⟨rfl, ?_⟩
    unfold StepP
    exact ⟨gn_put HF2.out _, .inl ⟨HB.out, rfl⟩⟩
  · exact absurd h (by simp)
set_option maxHeartbeats 1600000 in
theorem read_1 {W : World} {g : Nat} {X : List Value} {vr : Value} {b : L} (hR : RdS W g X vr) (hL : RestAt W g vr (1 :: b)) (bad : Prop) (G : World → Prop)
    (hm : ∀ w2 vr2, RdS w2 g (X.set 0 (.int .i64 1)) vr2 → RestAt w2 g vr2 b → Gn g W w2 → Calls Tryz.prog 162 #[.pointer (some ⟨g, 0, none⟩)] w2 (StepP w2 g bad G)) :
    Calls Tryz.prog 30 #[.pointer (some ⟨g, 0, none⟩)] W (StepP W g bad G) := by
  have HC := Lib.hid (rcut_any hR hL 1 (by omega))
  unfold CutRP at HC
  have HM := Lib.hid hm
  have hX : ∃ v, X[0]? = some v := ⟨_, List.getElem?_eq_getElem (by rw [hR.len]; omega)⟩
  obtain ⟨v0, hX⟩ := hX
  have HX := Lib.hid hX
  clear hR hL hX hm
  go_enter Tryz.func30, Tryz.ntmps30
  go_wp2_with fail
  refine HC.out.mono ?_
  rintro e w2 ⟨hF, ⟨_, v, vr2, rfl, hr2, hl2, hv⟩ | ⟨h, rfl⟩⟩
  · rw [List.take_succ_cons, List.take_zero] at hv
    rw [List.drop_succ_cons, List.drop_zero] at hl2
    obtain ⟨gb, o, cp, rfl, hc⟩ := byte_at hv
    have hc' : w2.cell? ⟨gb, o, none⟩ = some (.int .u8 1) := hc
    have c0 := hr2.at_ HX.out
    have f0 := hr2.froz 0
    have HF2 : Hid (Gn g W (w2.setCell ⟨g, 0, none⟩ (.int .i64 1))) := Lib.hid (gn_put hF _)
    have HK := Lib.hid (HM.out _ _ (hr2.set (by omega : 0 < 109) (.int .i64 1)) (hl2.far 0 (.int .i64 1)) HF2.out)
    clear hr2 hl2 hv hF HC hc HM
    have hmt : ∀ (w : World), (method 312 85 (.pointer (some ⟨g, 0, none⟩)) "scriptorium/record.message").run Tryz.prog w = .ok (162, .pointer (some ⟨g, 0, none⟩)) w := fun _ => by kernel_rfl
    go_wp2_with (first
      | (go_at_call 39; refine (of_1 _ _ _).mono ?_; rintro e w' ⟨rfl, rfl⟩)
      | fail)
    refine HK.out.mono ?_
    rintro e w3 ⟨hF3, ⟨hb, rfl⟩ | ⟨rfl, hg⟩⟩
    · refine ⟨rfl, ?_⟩
      unfold StepP
      exact ⟨HF2.out.trans hF3, .inl ⟨hb, rfl⟩⟩
    · have HF3 : Hid (Gn g W w3) := Lib.hid (HF2.out.trans hF3)
      have HGG := Lib.hid hg
      clear hF3 hg HK hmt
      go_wp2_with fail
      go_end0
      unfold StepP
      exact ⟨HF3.out, .inr ⟨rfl, HGG.out⟩⟩
  · exact absurd h (by simp)
set_option maxHeartbeats 1600000 in
theorem read_2 {W : World} {g : Nat} {X : List Value} {vr : Value} {b : L} (hR : RdS W g X vr) (hL : RestAt W g vr (2 :: b)) (bad : Prop) (G : World → Prop)
    (hm : ∀ w2 vr2, RdS w2 g (X.set 0 (.int .i64 2)) vr2 → RestAt w2 g vr2 b → Gn g W w2 → Calls Tryz.prog 163 #[.pointer (some ⟨g, 0, none⟩)] w2 (StepP w2 g bad G)) :
    Calls Tryz.prog 30 #[.pointer (some ⟨g, 0, none⟩)] W (StepP W g bad G) := by
  have HC := Lib.hid (rcut_any hR hL 1 (by omega))
  unfold CutRP at HC
  have HM := Lib.hid hm
  have hX : ∃ v, X[0]? = some v := ⟨_, List.getElem?_eq_getElem (by rw [hR.len]; omega)⟩
  obtain ⟨v0, hX⟩ := hX
  have HX := Lib.hid hX
  clear hR hL hX hm
  go_enter Tryz.func30, Tryz.ntmps30
  go_wp2_with fail
  refine HC.out.mono ?_
  rintro e w2 ⟨hF, ⟨_, v, vr2, rfl, hr2, hl2, hv⟩ | ⟨h, rfl⟩⟩
  · rw [List.take_succ_cons, List.take_zero] at hv
    rw [List.drop_succ_cons, List.drop_zero] at hl2
    obtain ⟨gb, o, cp, rfl, hc⟩ := byte_at hv
    have hc' : w2.cell? ⟨gb, o, none⟩ = some (.int .u8 2) := hc
    have c0 := hr2.at_ HX.out
    have f0 := hr2.froz 0
    have HF2 : Hid (Gn g W (w2.setCell ⟨g, 0, none⟩ (.int .i64 2))) := Lib.hid (gn_put hF _)
    have HK := Lib.hid (HM.out _ _ (hr2.set (by omega : 0 < 109) (.int .i64 2)) (hl2.far 0 (.int .i64 2)) HF2.out)
    clear hr2 hl2 hv hF HC hc HM
    have hmt : ∀ (w : World), (method 312 85 (.pointer (some ⟨g, 0, none⟩)) "scriptorium/record.purged").run Tryz.prog w = .ok (163, .pointer (some ⟨g, 0, none⟩)) w := fun _ => by kernel_rfl
    go_wp2_with (first
      | (go_at_call 39; refine (of_2 _ _ _).mono ?_; rintro e w' ⟨rfl, rfl⟩)
      | fail)
    refine HK.out.mono ?_
    rintro e w3 ⟨hF3, ⟨hb, rfl⟩ | ⟨rfl, hg⟩⟩
    · refine ⟨rfl, ?_⟩
      unfold StepP
      exact ⟨HF2.out.trans hF3, .inl ⟨hb, rfl⟩⟩
    · have HF3 : Hid (Gn g W w3) := Lib.hid (HF2.out.trans hF3)
      have HGG := Lib.hid hg
      clear hF3 hg HK hmt
      go_wp2_with fail
      go_end0
      unfold StepP
      exact ⟨HF3.out, .inr ⟨rfl, HGG.out⟩⟩
  · exact absurd h (by simp)
set_option maxHeartbeats 1600000 in
theorem read_3 {W : World} {g : Nat} {X : List Value} {vr : Value} {b : L} (hR : RdS W g X vr) (hL : RestAt W g vr (3 :: b)) (bad : Prop) (G : World → Prop)
    (hm : ∀ w2 vr2, RdS w2 g (X.set 0 (.int .i64 3)) vr2 → RestAt w2 g vr2 b → Gn g W w2 → Calls Tryz.prog 164 #[.pointer (some ⟨g, 0, none⟩)] w2 (StepP w2 g bad G)) :
    Calls Tryz.prog 30 #[.pointer (some ⟨g, 0, none⟩)] W (StepP W g bad G) := by
  have HC := Lib.hid (rcut_any hR hL 1 (by omega))
  unfold CutRP at HC
  have HM := Lib.hid hm
  have hX : ∃ v, X[0]? = some v := ⟨_, List.getElem?_eq_getElem (by rw [hR.len]; omega)⟩
  obtain ⟨v0, hX⟩ := hX
  have HX := Lib.hid hX
  clear hR hL hX hm
  go_enter Tryz.func30, Tryz.ntmps30
  go_wp2_with fail
  refine HC.out.mono ?_
  rintro e w2 ⟨hF, ⟨_, v, vr2, rfl, hr2, hl2, hv⟩ | ⟨h, rfl⟩⟩
  · rw [List.take_succ_cons, List.take_zero] at hv
    rw [List.drop_succ_cons, List.drop_zero] at hl2
    obtain ⟨gb, o, cp, rfl, hc⟩ := byte_at hv
    have hc' : w2.cell? ⟨gb, o, none⟩ = some (.int .u8 3) := hc
    have c0 := hr2.at_ HX.out
    have f0 := hr2.froz 0
    have HF2 : Hid (Gn g W (w2.setCell ⟨g, 0, none⟩ (.int .i64 3))) := Lib.hid (gn_put hF _)
    have HK := Lib.hid (HM.out _ _ (hr2.set (by omega : 0 < 109) (.int .i64 3)) (hl2.far 0 (.int .i64 3)) HF2.out)
    clear hr2 hl2 hv hF HC hc HM
    have hmt : ∀ (w : World), (method 312 85 (.pointer (some ⟨g, 0, none⟩)) "scriptorium/record.seal").run Tryz.prog w = .ok (164, .pointer (some ⟨g, 0, none⟩)) w := fun _ => by kernel_rfl
    go_wp2_with (first
      | (go_at_call 39; refine (of_3 _ _ _).mono ?_; rintro e w' ⟨rfl, rfl⟩)
      | fail)
    refine HK.out.mono ?_
    rintro e w3 ⟨hF3, ⟨hb, rfl⟩ | ⟨rfl, hg⟩⟩
    · refine ⟨rfl, ?_⟩
      unfold StepP
      exact ⟨HF2.out.trans hF3, .inl ⟨hb, rfl⟩⟩
    · have HF3 : Hid (Gn g W w3) := Lib.hid (HF2.out.trans hF3)
      have HGG := Lib.hid hg
      clear hF3 hg HK hmt
      go_wp2_with fail
      go_end0
      unfold StepP
      exact ⟨HF3.out, .inr ⟨rfl, HGG.out⟩⟩
  · exact absurd h (by simp)
set_option maxHeartbeats 1600000 in
theorem read_4 {W : World} {g : Nat} {X : List Value} {vr : Value} {b : L} (hR : RdS W g X vr) (hL : RestAt W g vr (4 :: b)) (bad : Prop) (G : World → Prop)
    (hm : ∀ w2 vr2, RdS w2 g (X.set 0 (.int .i64 4)) vr2 → RestAt w2 g vr2 b → Gn g W w2 → Calls Tryz.prog 160 #[.pointer (some ⟨g, 0, none⟩)] w2 (StepP w2 g bad G)) :
    Calls Tryz.prog 30 #[.pointer (some ⟨g, 0, none⟩)] W (StepP W g bad G) := by
  have HC := Lib.hid (rcut_any hR hL 1 (by omega))
  unfold CutRP at HC
  have HM := Lib.hid hm
  have hX : ∃ v, X[0]? = some v := ⟨_, List.getElem?_eq_getElem (by rw [hR.len]; omega)⟩
  obtain ⟨v0, hX⟩ := hX
  have HX := Lib.hid hX
  clear hR hL hX hm
  go_enter Tryz.func30, Tryz.ntmps30
  go_wp2_with fail
  refine HC.out.mono ?_
  rintro e w2 ⟨hF, ⟨_, v, vr2, rfl, hr2, hl2, hv⟩ | ⟨h, rfl⟩⟩
  · rw [List.take_succ_cons, List.take_zero] at hv
    rw [List.drop_succ_cons, List.drop_zero] at hl2
    obtain ⟨gb, o, cp, rfl, hc⟩ := byte_at hv
    have hc' : w2.cell? ⟨gb, o, none⟩ = some (.int .u8 4) := hc
    have c0 := hr2.at_ HX.out
    have f0 := hr2.froz 0
    have HF2 : Hid (Gn g W (w2.setCell ⟨g, 0, none⟩ (.int .i64 4))) := Lib.hid (gn_put hF _)
    have HK := Lib.hid (HM.out _ _ (hr2.set (by omega : 0 < 109) (.int .i64 4)) (hl2.far 0 (.int .i64 4)) HF2.out)
    clear hr2 hl2 hv hF HC hc HM
    have hmt : ∀ (w : World), (method 312 85 (.pointer (some ⟨g, 0, none⟩)) "scriptorium/record.hold").run Tryz.prog w = .ok (160, .pointer (some ⟨g, 0, none⟩)) w := fun _ => by kernel_rfl
    go_wp2_with (first
      | (go_at_call 39; refine (of_4 _ _ _).mono ?_; rintro e w' ⟨rfl, rfl⟩)
      | fail)
    refine HK.out.mono ?_
    rintro e w3 ⟨hF3, ⟨hb, rfl⟩ | ⟨rfl, hg⟩⟩
    · refine ⟨rfl, ?_⟩
      unfold StepP
      exact ⟨HF2.out.trans hF3, .inl ⟨hb, rfl⟩⟩
    · have HF3 : Hid (Gn g W w3) := Lib.hid (HF2.out.trans hF3)
      have HGG := Lib.hid hg
      clear hF3 hg HK hmt
      go_wp2_with fail
      go_end0
      unfold StepP
      exact ⟨HF3.out, .inr ⟨rfl, HGG.out⟩⟩
  · exact absurd h (by simp)
set_option maxHeartbeats 1600000 in
theorem read_5 {W : World} {g : Nat} {X : List Value} {vr : Value} {b : L} (hR : RdS W g X vr) (hL : RestAt W g vr (5 :: b)) (bad : Prop) (G : World → Prop)
    (hm : ∀ w2 vr2, RdS w2 g (X.set 0 (.int .i64 5)) vr2 → RestAt w2 g vr2 b → Gn g W w2 → Calls Tryz.prog 161 #[.pointer (some ⟨g, 0, none⟩)] w2 (StepP w2 g bad G)) :
    Calls Tryz.prog 30 #[.pointer (some ⟨g, 0, none⟩)] W (StepP W g bad G) := by
  have HC := Lib.hid (rcut_any hR hL 1 (by omega))
  unfold CutRP at HC
  have HM := Lib.hid hm
  have hX : ∃ v, X[0]? = some v := ⟨_, List.getElem?_eq_getElem (by rw [hR.len]; omega)⟩
  obtain ⟨v0, hX⟩ := hX
  have HX := Lib.hid hX
  clear hR hL hX hm
  go_enter Tryz.func30, Tryz.ntmps30
  go_wp2_with fail
  refine HC.out.mono ?_
  rintro e w2 ⟨hF, ⟨_, v, vr2, rfl, hr2, hl2, hv⟩ | ⟨h, rfl⟩⟩
  · rw [List.take_succ_cons, List.take_zero] at hv
    rw [List.drop_succ_cons, List.drop_zero] at hl2
    obtain ⟨gb, o, cp, rfl, hc⟩ := byte_at hv
    have hc' : w2.cell? ⟨gb, o, none⟩ = some (.int .u8 5) := hc
    have c0 := hr2.at_ HX.out
    have f0 := hr2.froz 0
    have HF2 : Hid (Gn g W (w2.setCell ⟨g, 0, none⟩ (.int .i64 5))) := Lib.hid (gn_put hF _)
    have HK := Lib.hid (HM.out _ _ (hr2.set (by omega : 0 < 109) (.int .i64 5)) (hl2.far 0 (.int .i64 5)) HF2.out)
    clear hr2 hl2 hv hF HC hc HM
    have hmt : ∀ (w : World), (method 312 85 (.pointer (some ⟨g, 0, none⟩)) "scriptorium/record.lift").run Tryz.prog w = .ok (161, .pointer (some ⟨g, 0, none⟩)) w := fun _ => by kernel_rfl
    go_wp2_with (first
      | (go_at_call 39; refine (of_5 _ _ _).mono ?_; rintro e w' ⟨rfl, rfl⟩)
      | fail)
    refine HK.out.mono ?_
    rintro e w3 ⟨hF3, ⟨hb, rfl⟩ | ⟨rfl, hg⟩⟩
    · refine ⟨rfl, ?_⟩
      unfold StepP
      exact ⟨HF2.out.trans hF3, .inl ⟨hb, rfl⟩⟩
    · have HF3 : Hid (Gn g W w3) := Lib.hid (HF2.out.trans hF3)
      have HGG := Lib.hid hg
      clear hF3 hg HK hmt
      go_wp2_with fail
      go_end0
      unfold StepP
      exact ⟨HF3.out, .inr ⟨rfl, HGG.out⟩⟩
  · exact absurd h (by simp)
end Rc
end Go.Proofs.YteapnkedpmcokaaGreatDoor
/- Decode's closures: a part, a text, a number. Conditions: as stated at each. -/
namespace Go.Proofs.YteapnkedpmcokaaGreatDoor
set_option maxRecDepth 100000
namespace En
open Go.RowKit Go Go.Proofs.YteapnkedpmcokaaGreatDoor.Pa
attribute [local go_sem] Oper.semAt_some
/-- block R holds what is left. -/
def RdS (w : World) (N R : Nat) (l : L) : Prop := ∃ A c, BlkIs w R 25 #[.slice A l.length c] ∧ Bts w N A l ∧ l.length ≤ c ∧ c ≤ maxLen ∧ (A = none → c = 0)
theorem RdS.tn {p : Nat → Prop} {w w' : World} {N R : Nat} {l : L} (h : RdS w N R l) (ht : Tn p w w') (hR : ¬ p R) (hN : N ≤ w.heap.size) (hp : ∀ i, i < N → ¬ p i) : RdS w' N R l := by
  obtain ⟨A, c, h1, h2, h3⟩ := h
  exact ⟨A, c, h1.tn ht hR, h2.below (ht.below hN hp), h3⟩
abbrev partV (R : Nat) : Value := .func (.func 173) #[] #[.pointer (some ⟨R, 0, none⟩)]
abbrev textV (P : Nat) : Value := .func (.func 174) #[] #[.pointer (some ⟨P, 0, none⟩)]
abbrev numV (T : Nat) : Value := .func (.func 175) #[] #[.pointer (some ⟨T, 0, none⟩)]
def PartQ (w : World) (N R : Nat) (l : L) (e : Ending) (w' : World) : Prop := Tn (fun k => k = R) w w' ∧
  ((takeS l = none ∧ e = Fa.bad 150) ∨ ∃ p r, takeS l = some (p, r) ∧ RdS w' N R r ∧ ∃ A c, e = .returned (.slice A p.length c) ∧ Bts w' N A p ∧ p.length ≤ c ∧ c ≤ maxLen)
set_option maxHeartbeats 1600000 in
theorem part_any {w : World} {N R : Nat} {l : L} (h : RdS w N R l) (hNR : N ≤ R) (hl : l.length ≤ 1000000) (hG : GlT w) (hE : GlE w) :
    Calls Tryz.prog 173 #[.pointer (some ⟨R, 0, none⟩)] w (PartQ w N R l) := by
  obtain ⟨A, c, hR, hb, hc, hm, hA⟩ := h
  have hRlt := hR.lt
  have hNw : N ≤ w.heap.size := by omega
  have hC := ecut_any hb hNw c hc hm hA hl hG hE
  unfold CutP at hC
  have HC := Lib.hid hC
  have HR := Lib.hid hR
  have y0 := (hR.cell 0).trans (rfl : _ = some (Value.slice A l.length c))
  clear hC hR hb hG hE hA
  unfold PartQ
  generalize hll : l.length = ln at *
  have HLN := Lib.hid hll
  clear hll
  generalize takeS l = tk at *
  go_enter Tryz.func173, Tryz.ntmps173
  go_wp2_with fail
  refine HC.out.mono ?_
  rintro e w' ⟨hb, ⟨hn, rfl⟩ | ⟨p, r, hs, A1, c1, A2, c2, rfl, h1, h2, h3, h4, h5, h6, h7, h8⟩⟩
  · have HT := Lib.hid (Tn.of_below (p := fun k => k = R) hb)
    clear hb HC
    go_wp2_with (first
      | (go_at_call 126; refine (ned_f rfl _).mono ?_; rintro e w' ⟨rfl, rfl⟩)
      | fail)
    first | exact ⟨rfl, HT.out, .inl ⟨hn, rfl⟩⟩ | exact ⟨HT.out, .inl ⟨hn, rfl⟩⟩ | exact ⟨rfl, HT.out, .inl ⟨hn, rfl, rfl⟩⟩
  · have hR' : BlkIs w' R 25 #[.slice A ln c] := (hb.block _ HR.out.lt).trans HR.out
    have z0 := (hR'.cell 0).trans (rfl : _ = some (Value.slice A ln c))
    have zf := hR'.froz 0
    have hbN := hb.mono hNw
    have HF : Hid (Tn (fun k => k = R) w (w'.setCell ⟨R, 0, none⟩ (.slice A2 r.length c2)) ∧ RdS (w'.setCell ⟨R, 0, none⟩ (.slice A2 r.length c2)) N R r ∧ Bts (w'.setCell ⟨R, 0, none⟩ (.slice A2 r.length c2)) N A1 p) := Lib.hid (by
      have hst : Below N w (w'.setCell ⟨R, 0, none⟩ (.slice A2 r.length c2)) := hbN.setCell hNR _
      exact ⟨(Tn.of_below (p := fun k => k = R) hb).setCell (.inl rfl) _, ⟨A2, c2, hR'.put 0 _, h5.below hst, h6, Nat.le_trans h7 hm, h8⟩, h1.below hst⟩)
    clear hb hR' hbN HC h1 h5
    generalize hpn : p.length = pn at *
    have HPN := Lib.hid hpn
    clear hpn
    generalize r.length = rn at *
    go_wp2_with (first
      | (go_at_call 126; refine (ned_t rfl _).mono ?_; rintro e w' ⟨rfl, rfl⟩)
      | fail)
    go_ret
    exact ⟨HF.out.1, .inr ⟨p, r, hs, HF.out.2.1, A1, c1, by rw [HPN.out]; rfl, HF.out.2.2, by rw [HPN.out]; exact h2, Nat.le_trans h3 hm⟩⟩
def TextQ (w : World) (N R : Nat) (l : L) (e : Ending) (w' : World) : Prop := Tn (fun k => k = R) w w' ∧
  ((takeS l = none ∧ e = Fa.bad 150) ∨ ∃ p r, takeS l = some (p, r) ∧ RdS w' N R r ∧ e = .returned (.string (str p)))
set_option maxHeartbeats 1600000 in
theorem text_any {w : World} {N R P : Nat} {l : L} (h : RdS w N R l) (hP : BlkIs w P 185 #[partV R]) (hNR : N ≤ R) (hl : l.length ≤ 1000000) (hG : GlT w) (hE : GlE w) :
    Calls Tryz.prog 174 #[.pointer (some ⟨P, 0, none⟩)] w (TextQ w N R l) := by
  have hC := part_any h hNR hl hG hE
  unfold PartQ at hC
  have HC := Lib.hid hC
  have y0 := (hP.cell 0).trans (rfl : _ = some (partV R))
  clear hC hP hG hE h
  unfold TextQ
  go_enter Tryz.func174, Tryz.ntmps174
  go_wp2_with fail
  refine HC.out.mono ?_
  rintro e w' ⟨ht, ⟨hn, rfl⟩ | ⟨p, r, hs, hr, A, c, rfl, hb, hc, hm⟩⟩
  · first | exact ⟨rfl, ht, .inl ⟨hn, rfl⟩⟩ | exact ⟨ht, .inl ⟨hn, rfl⟩⟩
  · have hcv := conv_str hb c
    have HF := Lib.hid (And.intro ht hr)
    clear ht hr hb HC
    generalize p.length = pn at *
    go_wp2_with fail
    go_ret
    exact ⟨HF.out.1, .inr ⟨p, r, hs, HF.out.2, rfl⟩⟩
def NumQ (w : World) (N R : Nat) (l : L) (e : Ending) (w' : World) : Prop := Tn (fun k => k = R) w w' ∧
  ((takeS l = none ∧ e = Fa.bad 150) ∨ ∃ p r, takeS l = some (p, r) ∧ (((∀ v, Lib.parseIntB 64 p ≠ .ok v) ∧ e = Fa.bad 150) ∨ ∃ v, Lib.parseIntB 64 p = .ok v ∧ RdS w' N R r ∧ e = .returned (.int .i64 v)))
set_option maxHeartbeats 1600000 in
theorem num_any {w : World} {N R P T : Nat} {l : L} (h : RdS w N R l) (hP : BlkIs w P 185 #[partV R]) (hT : BlkIs w T 129 #[textV P]) (hNR : N ≤ R) (hl : l.length ≤ 1000000) (hG : GlT w) (hE : GlE w) (hgN : 6 < N ∧ 7 < N) :
    Calls Tryz.prog 175 #[.pointer (some ⟨T, 0, none⟩)] w (NumQ w N R l) := by
  have hC := text_any h hP hNR hl hG hE
  unfold TextQ at hC
  have HC := Lib.hid hC
  have y0 := (hT.cell 0).trans (rfl : _ = some (textV P))
  have hNw : N ≤ w.heap.size := by obtain ⟨_, _, h1, _⟩ := h; have := h1.lt; omega
  have HGE := Lib.hid (fun (X : World) (hX : Tn (fun k => k = R) w X) => hE.below (hX.below hNw fun i hi e => by omega) hgN)
  have HPL : Hid (∀ p r, takeS l = some (p, r) → p.length ≤ 1000000) := Lib.hid fun p r e => (take_iff.1 e).2
  clear hC hP hT hG hE h
  unfold NumQ
  generalize takeS l = tk at *
  go_enter Tryz.func175, Tryz.ntmps175
  go_wp2_with fail
  refine HC.out.mono ?_
  rintro e w' ⟨ht, ⟨hn, rfl⟩ | ⟨p, r, hs, hr, rfl⟩⟩
  · first | exact ⟨rfl, ht, .inl ⟨hn, rfl⟩⟩ | exact ⟨ht, .inl ⟨hn, rfl⟩⟩
  · have HPI := Lib.hid (parse_int p (HPL.out p r hs) w' (HGE.out w' ht))
    have HF := Lib.hid (And.intro ht hr)
    clear ht hr HC
    have HS := Lib.hid hs
    clear hs
    generalize hsp : str p = sp at *
    clear hsp
    go_wp2_with fail
    refine HPI.out.mono ?_
    rintro e w2 ⟨hb2, ⟨v, hv, rfl⟩ | ⟨hv, v, M, rfl⟩⟩
    · have HT2 : Hid (Tn (fun k => k = R) w w2) := Lib.hid (HF.out.1.trans (Tn.of_below hb2))
      have HR2 : Hid (RdS w2 N R r) := Lib.hid (HF.out.2.tn (p := fun _ => False) (Tn.of_below hb2) (fun e => e) (by have := HF.out.1.size; omega) (fun _ _ e => e))
      have HV := Lib.hid hv
      clear hb2 hv HPI
      go_wp2_with (first
        | (go_at_call 126; refine (ned_t rfl _).mono ?_; rintro e w' ⟨rfl, rfl⟩)
        | fail)
      go_ret
      exact ⟨HT2.out, .inr ⟨p, r, HS.out, .inr ⟨v, HV.out, HR2.out, rfl⟩⟩⟩
    · have HT2 : Hid (Tn (fun k => k = R) w w2) := Lib.hid (HF.out.1.trans (Tn.of_below hb2))
      have HV := Lib.hid hv
      clear hb2 hv HPI
      go_wp2_with (first
        | (go_at_call 126; refine (ned_f rfl _).mono ?_; rintro e w' ⟨rfl, rfl⟩)
        | fail)
      first | exact ⟨rfl, HT2.out, .inr ⟨p, r, HS.out, .inl ⟨HV.out, rfl⟩⟩⟩ | exact ⟨HT2.out, .inr ⟨p, r, HS.out, .inl ⟨HV.out, rfl⟩⟩⟩ | exact ⟨rfl, HT2.out, .inr ⟨p, r, HS.out, .inl ⟨HV.out, rfl, rfl⟩⟩⟩
end En
end Go.Proofs.YteapnkedpmcokaaGreatDoor
