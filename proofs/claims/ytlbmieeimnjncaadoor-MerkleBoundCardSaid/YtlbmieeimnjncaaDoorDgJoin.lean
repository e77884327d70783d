/- Contracts of the sum of parts, and of one. Conditions: as stated at each. -/
import Derived.Test.YtlbmieeimnjncaaDoorDgEnd
namespace Go.Proofs.YtlbmieeimnjncaaDoor
set_option maxRecDepth 100000
open Go.RowKit Go
structure JnW (N : Nat) (W wr : World) (cur : List Value) : Prop where
  r : ∃ z, BlkIs wr N 22 z ∧ z.size = 32
  b : BlkIs wr (N + 1) 65 cur.toArray
  glob : Glob wr
  below : Below N W wr
theorem JnW.more {N : Nat} {W w w' : World} {cur : List Value} (h : JnW N W w cur) (k : Below w.heap.size w w') : JnW N W w' cur := by
  have hlt := h.b.lt
  refine ⟨?_, (k.block _ h.b.lt).trans h.b, h.glob.below k h.glob.size, h.below.trans (k.mono (by omega))⟩
  obtain ⟨z, hz, hs⟩ := h.r
  exact ⟨z, (k.block _ hz.lt).trans hz, hs⟩
theorem JnW.put {N : Nat} {W w w' : World} {cur cur' : List Value} (h : JnW N W w cur) (hb : BlkIs w' (N + 1) 65 cur'.toArray) (k : Tn (fun i => i = N + 1) w w') (hN : 2 ≤ N) : JnW N W w' cur' := by
  have hlt := h.b.lt
  have hb0 : Below N w w' := k.below (by omega) (fun i hi h => by omega)
  refine ⟨?_, hb, h.glob.below hb0 hN, h.below.trans hb0⟩
  obtain ⟨z, hz, hs⟩ := h.r
  exact ⟨z, hz.tn k (by omega), hs⟩
theorem build_init (w : World) : (Instr.build 65 #[(0, .agg (wv init8.l).toArray)]).run Tryd.prog w = .ok (.agg (stv init8 (List.replicate 64 0) 0).toArray) w := by kernel_rfl
theorem build_one {P : Program} {ops : Array Oper} {rest : List Oper} {o : Oper} {a : Act} {w : World} {Q : Exit → Act → World → Prop} (x : Operand) (t : TypeId) (u v : Value)
    (hrun : ∀ w, (Instr.build t #[(0, u)]).run P w = .ok v w) (ho : o.op = .build t #[(0, x)]) (hx : a.eval x = u) (hgd : o.guard = none)
    (h : wpList P ops Q rest (a.put o.dst v) w) : wpList P ops Q (o :: rest) a w := by
  refine wpList_plain hgd fun K hK => ?_
  unfold Oper.wp execOp
  simp only [ho, List.map_toArray, List.map_cons, List.map_nil, hx, Sem.run_bind, hrun, Result.andThen, Sem.run_pure]
  exact hK _ _ h
theorem with_zc (s : S8) (blk m : List UInt8) (A : Option Addr) (B c : Nat) (l : List UInt8) (z n : Nat) (w : World) (hS : StOK s blk m) (hl : Bts w B A l) (hB : B ≤ w.heap.size) (hz : m.length = z) (hn : l.length = n) (hc : n ≤ c) (hc2 : c ≤ maxLen) (hm : z + n ≤ 1000000000) (hg : Glob w) :
    Calls Tryd.prog 26 #[.agg (stv s blk z).toArray, .slice A n c] w fun e w' => (∃ s' blk', e = .returned (.agg (stv s' blk' (z + n)).toArray) ∧ StOK s' blk' (m ++ l)) ∧ Below w.heap.size w w' := by
  subst hz
  subst hn
  refine (with_any s blk m A B c l w hS hl hB hc hc2 hm hg).mono fun e w' h => ?_
  obtain ⟨⟨v, rfl, s', blk', hS', rfl⟩, hb⟩ := h
  exact ⟨⟨s', blk', by rw [List.length_append], hS'⟩, hb⟩
theorem flat_next (ll : List (List UInt8)) (k : Nat) (h : k < ll.length) : (ll.take (k + 1)).flatten = (ll.take k).flatten ++ ll.getD k [] := by
  rw [List.take_succ_eq_append_getElem h, List.flatten_append]
  simp [List.getD_eq_getElem?_getD, h]
theorem flat_le (ll : List (List UInt8)) (k : Nat) : (ll.take k).flatten.length ≤ ll.flatten.length := by
  have e : ll.flatten = (ll.take k).flatten ++ (ll.drop k).flatten := by rw [← List.flatten_append, List.take_append_drop]
  rw [e, List.length_append]
  omega
theorem flat_get_le (ll : List (List UInt8)) (k : Nat) (h : k < ll.length) : (ll.take k).flatten.length + (ll.getD k []).length ≤ ll.flatten.length := by
  have := flat_le ll (k + 1)
  rw [flat_next ll k h, List.length_append] at this
  exact this
set_option maxRecDepth 100000 in
set_option maxHeartbeats 1600000 in
theorem join_any (A : Option Addr) (B c : Nat) (ll : List (List UInt8)) (w : World) (h : Rws w B A ll) (hB : B ≤ w.heap.size) (hl : ll.length ≤ 1000000000) (hm : ll.flatten.length ≤ 900000000) (hg : Glob w) :
    Calls Tryd.prog 17 #[.slice A ll.length c] w fun e w' => e = .returned (.agg (bv (sha ll.flatten)).toArray) ∧ Below w.heap.size w w' := by
  have GS := Lib.hid hg.size
  have h2 := GS.out
  obtain ⟨z, hz, hzr⟩ := zero44
  have HZ := Lib.hid hz
  have HI8 : Hid ((Tryd.prog.info? 62).map (·.size) = some (wv init8.l).length) := Lib.hid (by rw [isz41, wv_length, S8.length])
  have HI0 := Lib.hid (isz44s init8 (List.replicate 64 0) 0 (by simp))
  have HO0 : Hid (z.size = (stv init8 (List.replicate 64 0) 0).toArray.size) := Lib.hid (by rw [hz, List.size_toArray, stv_length _ _ _ (by simp)])
  have hbi := build_init
  have hga := fun o => (hg.alloc o).first
  clear hz
  generalize hS0 : stv init8 (List.replicate 64 0) 0 = S0 at *
  have HS0 := Lib.hid hS0
  have HA0 : Hid (S0.toArray.all (·.oneCell') = true) := Lib.hid (by rw [← hS0]; exact stv_all _ _ _)
  clear hS0
  generalize wv init8.l = W0 at *
  go_enter Tryd.func17, Tryd.ntmps17
  go_wp2_with (first
    | (with_reducible refine wpList_load_mid rfl 62 (.global 0) rfl 0 0 rfl W0 _ (hga _) Tryd.underlying62 rfl HI8.out ?_)
    | (with_reducible refine build_one (.tmp 6) 65 _ _ hbi rfl rfl rfl ?_)
    | (refine store_bl (.tmp 3) (.tmp 7) 65 (w.heap.size + 1) 65 z S0.toArray (BlkIs.new_at (w.alloc _) _ _ _ (by simp)) rfl rfl rfl rfl rfl HI0.out HO0.out HA0.out ?_; intro w1 hb1 ht1; have hJ1 : JnW w.heap.size w w1 S0 := JnW.put ⟨⟨_, (BlkIs.new _ _ _).alloc _, rfl⟩, BlkIs.new_at (w.alloc _) _ _ _ (by simp), (hg.alloc _).alloc _, ((Below.refl _ _).alloc (Nat.le_refl _) _).alloc (by simp) _⟩ hb1 ht1 h2)
    | fail)
  have HJ := Lib.hid hJ1
  clear hb1 ht1 hJ1 hbi hga hzr
  go_loopw [10] (fun i wr => ∃ (k : Nat) (s' : S8) (blk' : List UInt8), k ≤ ll.length ∧ i = .int .i64 k ∧ StOK s' blk' (ll.take k).flatten ∧ JnW w.heap.size w wr (stv s' blk' (ll.take k).flatten.length)) (fun i _ => ll.length - (intOf i).toNat)
  case atStart => exact ⟨0, init8, List.replicate 64 0, by omega, rfl, by simpa using StOK.nil (List.replicate 64 0) (by simp), by show JnW w.heap.size w w1 (stv init8 (List.replicate 64 0) 0); rw [HS0.out]; exact HJ.out⟩
  case round =>
    clear HJ hg
    obtain ⟨k, s', blk', hk, rfl, hS, hJ⟩ := hrel
    by_cases hlt : k < ll.length
    · obtain ⟨ad, Ak, ck, rfl, had, hcell, hck, hmx, hbt⟩ := (h.below (hJ.below.mono hB)).at_ hlt
      have HT := Lib.hid (flat_next ll k hlt)
      have hle := flat_get_le ll k hlt
      have hBw : B ≤ wr.heap.size := Nat.le_trans hB hJ.below.size
      generalize ll.getD k [] = part at *
      generalize hM : (ll.take k).flatten = mm at *
      have HMM := Lib.hid hM
      clear hM
      obtain ⟨zz, hzz⟩ : ∃ z, z = mm.length := ⟨_, rfl⟩
      rw [← hzz] at hle hJ
      have HZZ : Hid (mm.length = zz) := Lib.hid hzz.symm
      obtain ⟨pn, hpn⟩ : ∃ n, n = part.length := ⟨_, rfl⟩
      rw [← hpn] at hle hcell hck
      have HPN : Hid (part.length = pn) := Lib.hid hpn.symm
      clear hzz hpn
      have HS := Lib.hid hS
      have HI := Lib.hid (isz44s s' blk' zz hS.len)
      have HL : Hid ((stv s' blk' zz).length = 73) := Lib.hid (stv_length _ _ _ hS.len)
      have hbm : Hid (ck ≤ maxLen) := Lib.hid hmx
      clear hS hmx
      go_wp2_with (first
        | (with_reducible refine load_blk (.tmp 3) 65 (w.heap.size + 1) 65 _ hJ.b rfl rfl rfl _ Tryd.underlying65 rfl HI.out ?_)
        | (go_at_call 26; refine (with_zc s' blk' mm Ak B ck part zz pn _ HS.out hbt hBw HZZ.out HPN.out hck hbm.out (by omega) hJ.glob).mono ?_; rintro e w3 ⟨⟨s1, blk1, rfl, hS1⟩, hb3⟩; have hJ3 := hJ.more hb3; have HI3 := Lib.hid (isz44s s1 blk1 (zz + pn) hS1.len); have HQ3 : Hid ((stv s' blk' zz).toArray.size = (stv s1 blk1 (zz + pn)).toArray.size) := Lib.hid (by rw [List.size_toArray, List.size_toArray, HL.out, stv_length _ _ _ hS1.len]))
        | (refine store_bl (.tmp 3) (.tmp 16) 65 (w.heap.size + 1) 65 _ (stv s1 blk1 (zz + pn)).toArray hJ3.b rfl rfl rfl rfl rfl HI3.out HQ3.out (stv_all _ _ _) ?_; intro w4 hb4 ht4; have hJ4 := hJ3.put hb4 ht4 h2)
        | fail)
      go_roundw
      case rel => exact ⟨k + 1, s1, blk1, by omega, by go_num, by rw [HT.out]; exact hS1, by rw [HT.out, List.length_append, HZZ.out, HPN.out]; exact hJ4⟩
      case measure => simp [intOf]; omega
    · obtain rfl : k = ll.length := by omega
      rw [List.take_length] at hS hJ
      generalize hMM : ll.flatten = M at *
      have HMM := Lib.hid hMM
      clear hMM
      obtain ⟨zM, hzM⟩ : ∃ z, z = M.length := ⟨_, rfl⟩
      rw [← hzM] at hJ hm
      have HL : Hid (M.length = zM) := Lib.hid hzM.symm
      clear hzM
      have HS := Lib.hid hS
      have HI := Lib.hid (isz44s s' blk' zM hS.len)
      obtain ⟨z0, hr, hz0⟩ := hJ.r
      have hJb := hJ.b
      have hJl := hJ.below
      have hJg := hJ.glob
      have hJt := hJ.b.lt
      have HI24 : Hid ((Tryd.prog.info? 22).map (·.size) = some (bv (sha M)).toArray.size) := Lib.hid (by rw [isz24, List.size_toArray, bv_length, sha_length])
      have HZ0 : Hid (z0.size = (bv (sha M)).toArray.size) := Lib.hid (by rw [hz0, List.size_toArray, bv_length, sha_length])
      have he := fun w hg => end_any s' blk' M zM w HS.out HL.out hm hg
      have hall := bv_all (sha M)
      generalize hX : (bv (sha M)).toArray = X at *
      have HX := Lib.hid hX
      have HA := Lib.hid hall
      have HE := Lib.hid he
      clear hS hz0 hJ hX hall he
      go_wp2_with (first
        | (with_reducible refine load_blk (.tmp 3) 65 (w.heap.size + 1) 65 _ hJb rfl rfl rfl _ Tryd.underlying65 rfl HI.out ?_)
        | (go_at_call 27; refine (HE.out _ hJg).mono ?_; rintro e w3 ⟨rfl, hb3⟩; have hr3 : BlkIs w3 w.heap.size 22 z0 := (hb3.block _ hr.lt).trans hr)
        | (refine store_bl (.tmp 2) (.tmp 19) 22 w.heap.size 22 z0 X hr3 rfl rfl rfl rfl rfl HI24.out HZ0.out HA.out ?_; intro w4 hb4 ht4)
        | fail)
      refine ret_blk rfl w.heap.size 22 X hb4 _ rfl Tryd.underlying22 rfl HI24.out rfl ⟨by rw [HMM.out, HX.out], ?_⟩
      have h9 : Below w.heap.size w3 w4 := ht4.below (Nat.le_trans (by omega) hb3.size) (fun i hi h => by omega)
      exact (hJl.trans (hb3.mono (by omega))).trans h9
end Go.Proofs.YtlbmieeimnjncaaDoor
