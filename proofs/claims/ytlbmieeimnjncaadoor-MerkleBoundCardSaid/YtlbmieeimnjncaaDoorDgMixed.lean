/- Contract of the words behind a block. Conditions: as stated at each. -/
import Derived.Test.YtlbmieeimnjncaaDoorDgSpread
namespace Go.Proofs.YtlbmieeimnjncaaDoor
set_option maxRecDepth 100000
open Go.RowKit Go
/-- the two tables of the package. -/
structure Glob (w : World) : Prop where
  first : w.rangeAt 0 0 (wv init8.l)
  added : w.rangeAt 1 0 (wv kk)
  size : 2 ≤ w.heap.size
theorem rangeAt_below {w w' : World} {N b o : Nat} {cs : List Value} (h : w.rangeAt b o cs) (hb : Below N w w') (hN : b < N) : w'.rangeAt b o cs := fun j v hj => (hb.cell (p := ⟨b, o + j, none⟩) hN).trans (h j v hj)
theorem Glob.below {w w' : World} {N : Nat} (h : Glob w) (hb : Below N w w') (hN : 2 ≤ N) : Glob w' :=
  ⟨rangeAt_below h.first hb (by omega), rangeAt_below h.added hb (by omega), Nat.le_trans h.size hb.size⟩
theorem Glob.alk {w w' : World} (h : Glob w) (k : Alk w w') : Glob w' := h.below (k.below w.heap.size) h.size
theorem Glob.alloc {w : World} (h : Glob w) (o : Obj) : Glob (w.alloc o) := h.below ((Below.refl w.heap.size w).alloc (Nat.le_refl _) o) h.size
theorem Glob.get {w : World} (h : Glob w) {k : Nat} (hk : k < 64) : w.cell? ⟨1, k, none⟩ = some (.int .u32 ((kk.getD k 0 : Nat) : Int)) := by
  have := h.added k _ (wv_get kk k (by simpa [kk] using hk))
  rwa [Nat.zero_add] at this
theorem isz5 : (Tryd.prog.info? 5).map (·.size) = some 1 := by kernel_rfl
theorem isz37 : (Tryd.prog.info? 58).map (·.size) = some 1 := by kernel_rfl
theorem isz41 : (Tryd.prog.info? 62).map (·.size) = some 8 := by kernel_rfl
theorem isz42 : (Tryd.prog.info? 63).map (·.size) = some 64 := by kernel_rfl
theorem isz24 : (Tryd.prog.info? 22).map (·.size) = some 32 := by kernel_rfl
theorem isz44 : (Tryd.prog.info? 65).map (·.size) = some 73 := by kernel_rfl
theorem run_index {P : Program} {t e : TypeId} {n : Nat} (ht : P.underlying t = some (.array n e)) {ik : IntKind} (hu : P.underlying e = some (.int ik)) (he : (P.info? e).map (·.size) = some 1) (cs : Array Value) (k : Nat) (v : Value) (hk : k < n) (hv : cs[k]? = some v) (w : World) :
    (Instr.index t (.agg cs) (.int .i64 k)).run P w = .ok v w := by
  cases hq : P.info? e with
  | none => simp [hq] at he
  | some i =>
    have hs : i.size = 1 := by simpa [hq] using he
    simp [Instr.index, asIntOf, Sem.run_bind, run_underlying ht, hk, sizeOf, typeInfo, hq, hs, part, isAgg, run_underlying hu, hv]
theorem ch_val {e f g : Nat} (he : e < 4294967296) (hf : f < 4294967296) (hg : g < 4294967296) :
    bits .or .u32 (bits .and .u32 (e : Int) (f : Int)) (bits .and .u32 (bits .xor .u32 (if IntKind.u32.signed = true then -1 else IntKind.u32.max) (e : Int)) (g : Int)) = ((chf e f g : Nat) : Int) := by
  rw [show (if IntKind.u32.signed = true then (-1 : Int) else IntKind.u32.max) = ((4294967295 : Nat) : Int) from rfl, u32_xor_nat _ _ (by decide) he, u32_and_nat _ _ he hf, u32_and_nat _ _ (xor_lt' (by decide) he) hg,
    u32_or_nat _ _ (and_lt _ he) (and_lt _ (xor_lt' (by decide) he))]
  rfl
theorem maj_val {a b c : Nat} (ha : a < 4294967296) (hb : b < 4294967296) (hc : c < 4294967296) :
    bits .or .u32 (bits .or .u32 (bits .and .u32 (a : Int) (b : Int)) (bits .and .u32 (a : Int) (c : Int))) (bits .and .u32 (b : Int) (c : Int)) = ((maj a b c : Nat) : Int) := by
  rw [u32_and_nat _ _ ha hb, u32_and_nat _ _ ha hc, u32_and_nat _ _ hb hc, u32_or_nat _ _ (and_lt _ ha) (and_lt _ ha), u32_or_nat _ _ (or_lt (and_lt _ ha) (and_lt _ ha)) (and_lt _ hb)]
  rfl
theorem rnd_a (r : S8) (c x : Nat) : Value.int .u32 ((((r.h : Int) + (rot3 6 11 25 r.e : Nat) + (chf r.e r.f r.g : Nat) + (c : Nat) + (x : Nat) + (rot3 2 13 22 r.a : Nat)) % 4294967296 + (maj r.a r.b r.c : Nat)) % 4294967296) = .int .u32 ((rnd r c x).a : Nat) := by
  congr 1
  show _ = ((add32 (add32 (tee r c x) (rot3 2 13 22 r.a)) (maj r.a r.b r.c) : Nat) : Int)
  unfold tee add32
  omega
theorem rnd_e (r : S8) (c x : Nat) : Value.int .u32 (((r.d : Int) + ((r.h : Int) + (rot3 6 11 25 r.e : Nat) + (chf r.e r.f r.g : Nat) + (c : Nat) + (x : Nat))) % 4294967296) = .int .u32 ((rnd r c x).e : Nat) := by
  congr 1
  show _ = ((add32 r.d (tee r c x) : Nat) : Int)
  unfold tee add32
  omega
def out8 (s r : S8) : Array Value := #[.int .u32 (((s.a : Int) + (r.a : Int)) % 4294967296), .int .u32 (((s.b : Int) + (r.b : Int)) % 4294967296), .int .u32 (((s.c : Int) + (r.c : Int)) % 4294967296), .int .u32 (((s.d : Int) + (r.d : Int)) % 4294967296), .int .u32 (((s.e : Int) + (r.e : Int)) % 4294967296), .int .u32 (((s.f : Int) + (r.f : Int)) % 4294967296), .int .u32 (((s.g : Int) + (r.g : Int)) % 4294967296), .int .u32 (((s.h : Int) + (r.h : Int)) % 4294967296)]
theorem out8_eq (s r : S8) : out8 s r = (wv (sum8 s r).l).toArray := by
  have h : ∀ a b : Nat, ((a : Int) + (b : Int)) % 4294967296 = ((add32 a b : Nat) : Int) := fun a b => by unfold add32; omega
  simp [out8, wv, S8.l, sum8, h]
structure MxW (s : S8) (blk : List UInt8) (N : Nat) (W wr : World) : Prop where
  b0 : BlkIs wr N 62 (wv s.l).toArray
  b1 : BlkIs wr (N + 1) 63 (bv blk).toArray
  r : ∃ z, BlkIs wr (N + 1 + 1) 62 z ∧ z.size = 8
  glob : Glob wr
  below : Below N W wr
theorem MxW.alk {s : S8} {blk : List UInt8} {N : Nat} {W wr w1 : World} (h : MxW s blk N W wr) (k : Alk wr w1) : MxW s blk N W w1 :=
  ⟨k.blk h.b0, k.blk h.b1, let ⟨z, hz, hs⟩ := h.r; ⟨z, k.blk hz, hs⟩, h.glob.alk k, h.below.trans (k.below _)⟩
theorem MxW.more {s : S8} {blk : List UInt8} {N : Nat} {W wr w1 : World} (h : MxW s blk N W wr) (k : Below wr.heap.size wr w1) : MxW s blk N W w1 := by
  refine ⟨(k.block _ h.b0.lt).trans h.b0, (k.block _ h.b1.lt).trans h.b1, ?_, h.glob.below k h.glob.size, h.below.trans (k.mono (Nat.le_of_lt h.b0.lt))⟩
  obtain ⟨z, hz, hs⟩ := h.r
  exact ⟨z, (k.block _ hz.lt).trans hz, hs⟩
set_option maxRecDepth 100000 in
set_option maxHeartbeats 800000 in
theorem mixed_any (s : S8) (blk : List UInt8) (w : World) (hs : s.ok) (hb : blk.length = 64) (hg : Glob w) :
    Calls Tryd.prog 32 #[.agg (wv s.l).toArray, .agg (bv blk).toArray] w fun e w' => e = .returned (.agg (wv (mix s blk).l).toArray) ∧ Below w.heap.size w w' := by
  have HB := Lib.hid hb
  have HO := Lib.hid hs
  clear hb hs
  have h2 := hg.size
  go_enter Tryd.func32, Tryd.ntmps32
  go_wp2_with fail
  obtain ⟨W, hW⟩ : ∃ W, W = ((w.alloc (Obj.cells (wv s.l).toArray 62)).alloc (Obj.cells (bv blk).toArray 63)).alloc (Obj.cells #[Value.int IntKind.u32 0, Value.int IntKind.u32 0, Value.int IntKind.u32 0, Value.int IntKind.u32 0, Value.int IntKind.u32 0, Value.int IntKind.u32 0, Value.int IntKind.u32 0, Value.int IntKind.u32 0] 62) := ⟨_, rfl⟩
  have hM : MxW s blk w.heap.size w W := by
    subst hW
    exact ⟨((BlkIs.new _ _ _).alloc _).alloc _, (BlkIs.new_at (w.alloc _) _ _ _ (by simp)).alloc _, ⟨_, BlkIs.new_at ((w.alloc _).alloc _) _ _ _ (by simp), rfl⟩, ((hg.alloc _).alloc _).alloc _, (((Below.refl _ _).alloc (Nat.le_refl _) _).alloc (by simp) _).alloc (by simp; omega) _⟩
  rw [← hW]
  clear hW hg h2
  have c0 := hM.b0.get (i := 0) rfl
  have c1 := hM.b0.get (i := 1) rfl
  have c2 := hM.b0.get (i := 2) rfl
  have c3 := hM.b0.get (i := 3) rfl
  have c4 := hM.b0.get (i := 4) rfl
  have c5 := hM.b0.get (i := 5) rfl
  have c6 := hM.b0.get (i := 6) rfl
  have c7 := hM.b0.get (i := 7) rfl
  obtain ⟨X, hX⟩ : ∃ X, X = (wv (wl blk 64)).toArray := ⟨_, rfl⟩
  have hsp := fun w => spread_any blk w HB.out
  rw [← hX] at hsp
  have HX : Hid (∀ k, k < 64 → X[k]? = some (.int .u32 (((wl blk 64).getD k 0 : Nat) : Int))) := Lib.hid (fun k hk => by
    rw [hX]
    have := wv_get (wl blk 64) k (by rw [wl_length]; exact hk)
    simpa using this)
  have HI : Hid ((Tryd.prog.info? 63).map (·.size) = some (bv blk).toArray.size) := Lib.hid (by rw [isz42]; simp [bv_length, HB.out])
  clear hX
  go_quiet (fail)
  have hM1 := hM.alk (Alk.drewN W nq)
  generalize W.drewN nq = W1 at *
  clear c0 c1 c2 c3 c4 c5 c6 c7 hM
  go_wp2_with (first
    | (with_reducible refine load_blk (.tmp 3) 63 (w.heap.size + 1) 63 _ hM1.b1 rfl rfl rfl _ Tryd.underlying63 rfl HI.out ?_)
    | (go_at_call 36; refine (hsp _).mono ?_; rintro e w2 ⟨rfl, hb2⟩; have hM2 := hM1.more hb2))
  clear hM1 hb2 hsp
  have HM2 := Lib.hid hM2
  clear hM2
  go_loopw [5, 6, 7, 8, 9, 10, 11, 12, 34] (fun a b c d e f g h i wr => ∃ k : Nat, k ≤ 64 ∧ i = .int .i64 k ∧ a = .int .u32 ((rnds blk s k).a : Nat) ∧ b = .int .u32 ((rnds blk s k).b : Nat) ∧ c = .int .u32 ((rnds blk s k).c : Nat) ∧ d = .int .u32 ((rnds blk s k).d : Nat) ∧ e = .int .u32 ((rnds blk s k).e : Nat) ∧ f = .int .u32 ((rnds blk s k).f : Nat) ∧ g = .int .u32 ((rnds blk s k).g : Nat) ∧ h = .int .u32 ((rnds blk s k).h : Nat) ∧ MxW s blk w.heap.size w wr) (fun _ _ _ _ _ _ _ _ i _ => 64 - (intOf i).toNat)
  case atStart => exact ⟨0, by omega, rfl, rfl, rfl, rfl, rfl, rfl, rfl, rfl, rfl, HM2.out⟩
  case round =>
    obtain ⟨k, hk, rfl, rfl, rfl, rfl, rfl, rfl, rfl, rfl, rfl, hM⟩ := hrel
    have HR := Lib.hid (rnds_ok blk HO.out k)
    have HS : Hid (rnds blk s (k + 1) = rnd (rnds blk s k) (kk.getD k 0) ((wl blk 64).getD k 0)) := Lib.hid rfl
    by_cases hlt : k < 64
    · have hidx := fun w => run_index (P := Tryd.prog) Tryd.underlying76 Tryd.underlying58 isz37 X k _ hlt (HX.out k hlt) w
      have hkc := hM.glob.get hlt
      have k64 : (k : Int) < 64 := by omega
      generalize rnds blk s k = r at *
      generalize (wl blk 64).getD k 0 = x at *
      generalize kk.getD k 0 = c at *
      have he4 := HR.out.2.2.2.2.1
      have ha0 := HR.out.1
      go_wp2_with fail
      go_quiet ((go_at_call 37; exact quiet_q (fun w => turned_any _ 6 11 25 w he4 (by omega) (by omega) (by omega) (by omega) (by omega) (by omega)) _ _))
      have hM3 := hM.alk (Alk.drewN wr nq)
      generalize wr.drewN nq = w3 at *
      clear hM hkc hidx
      go_wp2_with (go_at_call 37; refine (turned_any _ 2 13 22 _ ha0 (by omega) (by omega) (by omega) (by omega) (by omega) (by omega)).mono ?_; rintro e w' ⟨rfl, rfl⟩)
      go_roundw
      case rel =>
        refine ⟨k + 1, by omega, by go_num, ?_, by rw [HS.out]; rfl, by rw [HS.out]; rfl, by rw [HS.out]; rfl, ?_, by rw [HS.out]; rfl, by rw [HS.out]; rfl, by rw [HS.out]; rfl, hM3⟩
        · rw [HS.out, ch_val HR.out.2.2.2.2.1 HR.out.2.2.2.2.2.1 HR.out.2.2.2.2.2.2.1, maj_val HR.out.1 HR.out.2.1 HR.out.2.2.1]
          exact rnd_a r c x
        · rw [HS.out, ch_val HR.out.2.2.2.2.1 HR.out.2.2.2.2.2.1 HR.out.2.2.2.2.2.2.1]
          exact rnd_e r c x
      case measure => simp [intOf]; omega
    · obtain rfl : k = 64 := by omega
      have c0 := hM.b0.get (i := 0) rfl
      have c1 := hM.b0.get (i := 1) rfl
      have c2 := hM.b0.get (i := 2) rfl
      have c3 := hM.b0.get (i := 3) rfl
      have c4 := hM.b0.get (i := 4) rfl
      have c5 := hM.b0.get (i := 5) rfl
      have c6 := hM.b0.get (i := 6) rfl
      have c7 := hM.b0.get (i := 7) rfl
      have HE : Hid (mix s blk = sum8 s (rnds blk s 64)) := Lib.hid rfl
      clear HS
      generalize rnds blk s 64 = r at *
      obtain ⟨z, hr, hz⟩ := hM.r
      have HI8 : Hid ((Tryd.prog.info? 62).map (·.size) = some (out8 s r).size) := Lib.hid isz41
      have HZ : Hid (z.size = (out8 s r).size) := Lib.hid hz
      clear hz
      go_wp2_with (refine store_blk (.tmp 4) (.tmp 115) 62 (w.heap.size + 1 + 1) 62 z (out8 s r) hr rfl rfl rfl rfl HI8.out HZ.out (by rw [out8_eq]; exact wv_all _) ?_; intro w9 hr9 ht9)
      refine ret_blk rfl (w.heap.size + 1 + 1) 62 (out8 s r) hr9 _ rfl Tryd.underlying62 rfl HI8.out rfl ⟨by rw [HE.out, out8_eq], ?_⟩
      have h9 : Below w.heap.size wr w9 := ht9.below (Nat.le_of_lt hM.b0.lt) (fun i hi h => by omega)
      exact Below.trans hM.below h9
end Go.Proofs.YtlbmieeimnjncaaDoor
