/- (*seglog.Log).Append where no error comes. Conditions: as stated at each. -/
import Derived.Test.YtidadjlhnlmfkaaGreatDoorSlApp
namespace Go.Proofs.YtidadjlhnlmfkaaGreatDoor
open Go.RowKit Go.Shelf Go Go.Maps
theorem Tn.from_new {p q : Nat → Prop} {W W5 w' : World} (hB : Below W.heap.size W W5) (hT : Tn p W5 w') (hp : ∀ i, i < W.heap.size → p i → q i) : Tn q W w' :=
  ⟨hT.os.trans hB.os, hT.tape.trans hB.tape, hT.output.trans hB.output, Nat.le_trans hB.size hT.size, fun i hi hq => (hT.block i (Nat.lt_of_lt_of_le hi hB.size) (fun e => hq (hp i hi e))).trans (hB.block i hi)⟩
section
variable (W : World) (t0 t1 t2 t3 t4 : TypeId) (c0 c1 c2 c3 c4 : Array Value)
theorem five_new : BlkIs (((((W.alloc (.cells c0 t0)).alloc (.cells c1 t1)).alloc (.cells c2 t2)).alloc (.cells c3 t3)).alloc (.cells c4 t4)) W.heap.size t0 c0 ∧ BlkIs (((((W.alloc (.cells c0 t0)).alloc (.cells c1 t1)).alloc (.cells c2 t2)).alloc (.cells c3 t3)).alloc (.cells c4 t4)) (W.heap.size + 1) t1 c1 ∧
    BlkIs (((((W.alloc (.cells c0 t0)).alloc (.cells c1 t1)).alloc (.cells c2 t2)).alloc (.cells c3 t3)).alloc (.cells c4 t4)) (W.heap.size + 1 + 1) t2 c2 ∧ BlkIs (((((W.alloc (.cells c0 t0)).alloc (.cells c1 t1)).alloc (.cells c2 t2)).alloc (.cells c3 t3)).alloc (.cells c4 t4)) (W.heap.size + 1 + 1 + 1) t3 c3 ∧
    BlkIs (((((W.alloc (.cells c0 t0)).alloc (.cells c1 t1)).alloc (.cells c2 t2)).alloc (.cells c3 t3)).alloc (.cells c4 t4)) (W.heap.size + 1 + 1 + 1 + 1) t4 c4 ∧ Below W.heap.size W (((((W.alloc (.cells c0 t0)).alloc (.cells c1 t1)).alloc (.cells c2 t2)).alloc (.cells c3 t3)).alloc (.cells c4 t4)) := by
  obtain ⟨a0, a1, a2, a3, _⟩ := four_new W t0 t1 t2 t3 c0 c1 c2 c3 (fun _ => False)
  have a4 := BlkIs.new ((((W.alloc (.cells c0 t0)).alloc (.cells c1 t1)).alloc (.cells c2 t2)).alloc (.cells c3 t3)) t4 c4
  simp only [World.size_alloc] at a4
  exact ⟨a0.alloc _, a1.alloc _, a2.alloc _, a3.alloc _, a4, (four_below W t0 t1 t2 t3 c0 c1 c2 c3).alloc (by simp; omega) _⟩
end
/-- behind an Append: the segments and the files. -/
def AppR (W : World) (N : Nat) (Ft : Nat → Prop) (Dk k : Nat) (F : Files) (rm x lf : Int) (L G : Nat) (nm : ByteArray) (sz : Int) (g0 : List (Nat × Nat)) (c z : Nat) (bs : List UInt8) (sf : Nat) (r : List UInt8) (e : Ending) (w' : World) : Prop :=
  ∃ kt Fl lft gt ct zt bst sft, Rolled nm sz k F lf g0 c z bs sf kt Fl lft gt ct zt bst sft ∧ e = .returned (.tuple #[.agg #[.int .i64 ((gt.length : Int) + 1), .int .i64 ct], .int .i64 0]) ∧
    LgPost W N Ft Dk (kt + 2) (Fl.upd (fileN nm (gt.length + 1)) (some (bst ++ rec1 r, sft))) rm (x + (rec1 r).length) (lfA lft) false L G nm sz (gt ++ [(ct + 1, zt + (rec1 r).length)]) false w'
set_option maxHeartbeats 3200000 in
set_option maxRecDepth 20000 in
theorem append_L (W : World) (N : Nat) (Ft : Nat → Prop) (Dk k : Nat) (F : Files) (rm x lf : Int) (L G : Nat) (nm : ByteArray) (sz : Int) (g0 : List (Nat × Nat)) (c z : Nat) (bs : List UInt8) (sf : Nat) (A : Option Addr) (cp : Nat) (r : List UInt8)
    (h : LogS W N Ft Dk k F rm x lf false L G nm sz (g0 ++ [(c, z)]) false) (hlow : Low W Ft) (hl : g0.length + 1 < 999999) (hn : nmOk nm) (hf : F (fileN nm (g0.length + 1)) = some (bs, sf)) (hbs : bs.length ≤ 100000000) (hk : k + 5 < maxLen) (hx : 0 ≤ x) (hx2 : x ≤ 100000000) (hm : r.length ≤ 1000000) (hr : x + (rec1 r).length ≤ rm) (hr2 : rm ≤ 1000000000000)
    (hlf : lf ≤ 9223372036854775807) (hN : N ≤ W.heap.size) (hA : Bts W W.heap.size A r) (hcp : r.length ≤ cp) (hcm : cp ≤ maxLen) (hc : c ≤ 1000000) (hz : z ≤ 100000000)
    (hok : lf ≠ 1 ∧ (sz ≤ z → lf ≠ 2 ∧ lf ≠ 3 ∧ F (fileN nm (g0.length + 2)) = none)) :
    Calls Tryz.prog 10 #[.pointer (some ⟨L, 0, none⟩), .slice A r.length cp] W fun e w' => AppR W N Ft Dk k F rm x lf L G nm sz g0 c z bs sf r e w' := by
  have hmf : ∀ (fn : Fn) (first cap : Array Value) (w : World), (Instr.makeFunc fn first cap).run Tryz.prog w = .ok (.func fn first cap) w := fun _ _ _ _ => rfl
  have hen : ∀ args w, (callFunc 24 args).run Tryz.prog w = .ok (.enter 24 args) w := enters_of Tryz.func24 (by kernel_rfl) rfl
  obtain ⟨n0, n1, n2, n3, n4, nB⟩ := five_new W 32 26 37 37 33 #[.pointer (some ⟨L, 0, none⟩)] #[.slice A r.length cp] #[.int .i64 0, .int .i64 0] #[.int .i64 0, .int .i64 0] #[.int .i64 0]
  have kB := four_below W 32 26 37 37 #[.pointer (some ⟨L, 0, none⟩)] #[.slice A r.length cp] #[.int .i64 0, .int .i64 0] #[.int .i64 0, .int .i64 0]
  have hlL := h.ltL
  have hlG := h.ltG
  have out : ∀ j, W.heap.size ≤ j → ¬ OwnL Ft L G j := fun j hj e => by
    rcases e with e | rfl | rfl
    · have := hlow j e
      omega
    · omega
    · omega
  have h5 := h.below nB
  have happ := Lib.hid (app_any _ N Ft Dk k F rm x lf L G nm sz g0 c z bs sf _ _ _ A cp r h5 (hlow.up nB.size) hl hn hf hbs hk hx hx2 hm hr hr2 hlf (by have := nB.size; omega) ((hA.below nB).more nB.size) hcp hcm n0 n1 n3 (out _ (Nat.le_refl _)) (out _ (by omega)) (by omega) hc hz hok)
  have hL4 : LogB _ L Dk nm sz G (((g0 ++ [(c, z)]).length : Nat) : Int) false := (kB.block L hlL).trans h.2.1
  have hcall := Lib.hid (call_c 24 _ _ L Dk nm sz G _ (fun y w' => y = 0 ∧ BlkIs w' (W.heap.size + 1 + 1) 37 #[.int .i64 0, .int .i64 0] ∧ AppQ (((((W.alloc (.cells #[.pointer (some ⟨L, 0, none⟩)] 32)).alloc (.cells #[.slice A r.length cp] 26)).alloc (.cells #[.int .i64 0, .int .i64 0] 37)).alloc (.cells #[.int .i64 0, .int .i64 0] 37)).alloc (.cells #[.int .i64 0] 33)) N Ft Dk k F rm x lf L G nm sz g0 c z bs sf (W.heap.size + 1 + 1 + 1) r w') hL4 (hen _) (fun w' hq => absurd hq.1 (by decide)) (happ.out.mono (by
    rintro e w' ⟨rfl, hq⟩
    have hq' := hq
    obtain ⟨kt, Fl, lft, gt, ct, zt, bst, sft, q1, q2, q3, q4⟩ := hq
    refine ⟨?_, .inl ⟨rfl, rfl, ?_, hq'⟩⟩
    · have hs : ((((W.alloc (.cells #[.pointer (some ⟨L, 0, none⟩)] 32)).alloc (.cells #[.slice A r.length cp] 26)).alloc (.cells #[.int .i64 0, .int .i64 0] 37)).alloc (.cells #[.int .i64 0, .int .i64 0] 37)).heap.size = W.heap.size + 1 + 1 + 1 + 1 := by simp
      rw [hs]
      exact n4.tn q4 (fun e => e.elim (out _ (by omega)) (fun e => by omega))
    · exact n2.tn q4 (fun e => e.elim (out _ (by omega)) (fun e => by omega)))))
  clear happ
  go_enter Tryz.func10, Tryz.ntmps10
  go_wp2_with fail
  refine hcall.out.mono ?_
  rintro e w' ⟨y, rfl, ⟨_, rfl, hb4, kt, Fl, lft, gt, ct, zt, bst, sft, hRo, q2, q3, q4⟩ | ⟨rfl, w1, ⟨hy, _⟩, _⟩⟩
  · have c60 := q3.cell 0
    have c61 := q3.cell 1
    have c40 := hb4.cell 0
    have c41 := hb4.cell 1
    have f4 := hb4.froz 0
    have f41 := hb4.froz 1
    have HR := Lib.hid hRo
    have Q2 := Lib.hid q2
    have Q4 := Lib.hid q4
    clear hRo q2 q4 hcall
    go_wp2_with fail
    have b5 := (hb4.put 0 (.int .i64 ((gt.length : Int) + 1))).put 1 (.int .i64 ct)
    have r0 := b5.cell 0
    have r1 := b5.cell 1
    have T8 := ((Tn.refl (fun i => i = W.heap.size + 1 + 1) w').setCell (x := ⟨W.heap.size + 1 + 1, 0, none⟩) (.inl rfl) (.int .i64 ((gt.length : Int) + 1))).setCell (x := ⟨W.heap.size + 1 + 1, 1, none⟩) (.inl rfl) (.int .i64 ct)
    have hE8 := Q2.out.keep T8 (fun i hi e => by
      have e : i = W.heap.size + 1 + 1 := e
      rw [e] at hi
      rcases hi with (hi | ⟨hi, _⟩) | hi | hi
      · exact out _ (by omega) (.inl hi)
      · simp at hi
        omega
      · omega
      · omega)
    have TT := Tn.from_new (q := OwnL Ft L G) nB Q4.out (fun i hi e => e.elim id (fun e => by omega))
    refine bodyPost_ret (v := .tuple #[.agg #[.int .i64 ((gt.length : Int) + 1), .int .i64 ct], .int .i64 0]) (by simp [results, Tryz.results10, go_sem, r0, r1]) rfl ?_
    exact ⟨kt, Fl, lft, gt, ct, zt, bst, sft, HR.out, rfl, LgPost.up h.2.2.2.1 hlL h.2.2.2.2 hlG nB.size T8.size hE8 ((TT.setCell (.inr (by show W.heap.size ≤ W.heap.size + 1 + 1; omega)) _).setCell (.inr (by show W.heap.size ≤ W.heap.size + 1 + 1; omega)) _)⟩
  · exact absurd hy (by decide)
end Go.Proofs.YtidadjlhnlmfkaaGreatDoor
