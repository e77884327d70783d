/- SlRewr. Conditions: as stated at each. -/
import Derived.Test.YtidadjlhnlmfkaaGreatDoorKt34
import Derived.Test.YtidadjlhnlmfkaaGreatDoorKt25
import Derived.Test.YtidadjlhnlmfkaaGreatDoorKt05
/- Rewrite, whenever the power fails. Conditions: as stated at each. -/
namespace Go.Proofs.YtidadjlhnlmfkaaGreatDoor
open Go.RowKit Go.Shelf Go Go.Maps
/-- the files when a segment's has got those bytes by way of the spare. -/
def RewF (F : Files) (fl : ByteArray) (news : List UInt8) : Files :=
  (((((F.upd (fl ++ ⟨#[46, 110, 101, 119]⟩) (some ([], 0))).upd (fl ++ ⟨#[46, 110, 101, 119]⟩) (some ([] ++ news, 0))).upd (fl ++ ⟨#[46, 110, 101, 119]⟩) (some ([] ++ news, ([] ++ news).length))).upd (fl ++ ⟨#[46, 110, 101, 119]⟩) none).upd fl (some ([] ++ news, ([] ++ news).length)))
theorem RewF.same {F : Files} {fl : ByteArray} {news : List UInt8} : RewF F fl news fl = some (news, news.length) := by
  unfold RewF Files.upd
  rw [if_pos rfl, List.nil_append]
theorem RewF.other {F : Files} {fl : ByteArray} {news : List UInt8} (h : F (fl ++ ⟨#[46, 110, 101, 119]⟩) = none) {t : ByteArray} (ht : t ≠ fl) : RewF F fl news t = F t := by
  unfold RewF Files.upd
  rw [if_neg ht]
  by_cases e : t = fl ++ ⟨#[46, 110, 101, 119]⟩
  · rw [if_pos e, e, h]
  · simp only [if_neg e]
def RewA (W : World) (N : Nat) (Ft : Nat → Prop) (Dk k : Nat) (F : Files) (rm x lf : Int) (L G : Nat) (nm : ByteArray) (sz : Int) (g : List (Nat × Nat)) (j n : Nat) (news : List UInt8) (w' : World) : Prop :=
  LgPost W N Ft Dk (k + 5) (RewF F (fileN nm (j + 1)) news) rm (x + news.length - lenOf F (fileN nm (j + 1))) (lfA (lfA (lfA (lfA lf)))) false L G nm sz (g.set j (n, news.length)) false w'
def RewD (W : World) (N : Nat) (Ft : Nat → Prop) (Dk k : Nat) (F : Files) (rm x : Int) (L G : Nat) (nm : ByteArray) (sz : Int) (g : List (Nat × Nat)) (j : Nat) (news : List UInt8) (dd : Bool) (w' : World) : Prop :=
  ∃ F' x', CutR F (fileN nm (j + 1) ++ ⟨#[46, 110, 101, 119]⟩) news x F' x' ∧ LgPost W N Ft Dk (k + 4) F' rm x' 1 true L G nm sz g dd w'
set_option maxHeartbeats 3200000 in
set_option maxRecDepth 20000 in
theorem rewr1_any (W : World) (N : Nat) (Ft : Nat → Prop) (Dk k : Nat) (F : Files) (rm x lf : Int) (L G : Nat) (nm : ByteArray) (sz : Int) (g : List (Nat × Nat)) (B0 B1 B2 j c z : Nat) (A : Option Addr) (cp : Nat) (ll : List (List UInt8))
    (h : LogS W N Ft Dk k F rm x lf false L G nm sz g false) (hlow : Low W Ft) (hl : g.length < 999999) (hn : nmOk nm) (hj : g[j]? = some (c, z)) (hlen : lenOf F (fileN nm (j + 1)) ≤ 100000000) (hsp : F (fileN nm (j + 1) ++ ⟨#[46, 110, 101, 119]⟩) = none)
    (hk : k + 5 < maxLen) (hx : 0 ≤ x) (hx2 : x + took ll ≤ 100000000) (hr : x + took ll ≤ rm) (hlm : lf ≤ 9223372036854775807) (hN : N ≤ W.heap.size)
    (hR : Rws W W.heap.size A ll) (hll : ll.length ≤ 1000000) (hlr : ∀ r ∈ ll, r.length ≤ 1000000)
    (h0 : BlkIs W B0 32 #[.pointer (some ⟨L, 0, none⟩)]) (h1 : BlkIs W B1 3 #[.int .i64 ((j : Int) + 1)]) (h2 : BlkIs W B2 22 #[.slice A ll.length cp])
    (o0 : ¬ OwnL Ft L G B0) (o1 : ¬ OwnL Ft L G B1) (o2 : ¬ OwnL Ft L G B2) :
    Calls Tryz.prog 44 #[.pointer (some ⟨B0, 0, none⟩), .pointer (some ⟨B1, 0, none⟩), .pointer (some ⟨B2, 0, none⟩)] W fun e w' =>
      (e = .returned (.tuple #[]) ∧ RewA W N Ft Dk k F rm x lf L G nm sz g j ll.length (wr ll) w') ∨ (e = bad 10 ∧ RewD W N Ft Dk k F rm x L G nm sz g j (wr ll) false w') := by
  have c0 := h0.cell 0
  have c1 := h1.cell 0
  have c2 := h2.cell 0
  have hlL := h.ltL
  have hlG := h.ltG
  have hjl := (List.getElem?_eq_some_iff.1 hj).1
  have hx0 : ∀ w (v u : Value), (Instr.extract (.tuple #[v, u]) 0).run Tryz.prog w = .ok v w := fun _ _ _ => by kernel_rfl
  have hx1 : ∀ w (v u : Value), (Instr.extract (.tuple #[v, u]) 1).run Tryz.prog w = .ok u w := fun _ _ _ => by kernel_rfl
  go_enter Tryz.func44, Tryz.ntmps44
  go_wp2_with fail
  refine (find_there _ L Dk nm sz G k _ g j c z false h.2.1 h.2.2.1 (by omega) hj).mono ?_
  rintro e w1 ⟨rfl, hb1⟩
  have c22 := (hb1.cell (p := ⟨B2, 0, none⟩) h2.lt).trans c2
  have HW := Lib.hid (write_any A w1.heap.size cp ll w1 ((hR.below hb1).more hb1.size) (Nat.le_refl _) hll hlr (by omega))
  clear c2
  go_wp2_with fail
  refine HW.out.mono ?_
  rintro e w2 ⟨v, rfl, ho, hb2⟩
  obtain ⟨A1, c9, rfl, hc1, hc1m⟩ := own_slice ho
  have hwl : (wr ll).length = took ll := wr_length ll
  have B2' : Below W.heap.size W w2 := hb1.trans (hb2.mono hb1.size)
  have hz2 := B2'.size
  have HWB : Hid (WB w2 W.heap.size A1 (wr ll)) := Lib.hid ⟨ho.bts, fun ad e => by
    subst e
    have := (Own5.blk_lt ho (g := ad.block) rfl).1
    have := hb1.size
    omega⟩
  generalize hnw : wr ll = news at *
  generalize hnn : ll.length = n at *
  have HNW := Lib.hid (And.intro hnw hnn)
  clear hnw hnn
  have h3 := h.below B2'
  have b0 : BlkIs w2 B0 32 _ := (B2'.block B0 h0.lt).trans h0
  have b1 : BlkIs w2 B1 3 _ := (B2'.block B1 h1.lt).trans h1
  have b2 : BlkIs w2 B2 22 _ := (B2'.block B2 h2.lt).trans h2
  have d0 := b0.cell 0
  have d1 := b1.cell 0
  have hrep := replace_L w2 N Ft Dk k F rm x lf L G nm sz g (j + 1) A1 c9 news h3 (fun i hi => by have := hlow i hi; omega) (by omega) hn hsp (by omega) hx (by omega) (by omega) hlen hlm (by omega)
    (fun W' w' hb hT => HWB.out.bts hb hT (fun i hi => hlow i hi))
  rw [show ((j + 1 : Nat) : Int) = (j : Int) + 1 from by omega] at hrep
  have HREP := Lib.hid hrep
  have HWL := Lib.hid hwl
  clear ho hrep hwl HW
  go_wp2_with fail
  refine (must_ok _).mono ?_
  rintro e w' ⟨rfl, rfl⟩
  go_wp2_with fail
  refine HREP.out.mono ?_
  rintro e w4 ⟨hc, hT4⟩
  have n0 : ¬ Ft B0 := fun e => o0 (.inl e)
  have n1 : ¬ Ft B1 := fun e => o1 (.inl e)
  have n2 : ¬ Ft B2 := fun e => o2 (.inl e)
  have e0 := b0.tn hT4 n0
  have e1 := b1.tn hT4 n1
  have e2 := b2.tn hT4 n2
  have hTW : Tn (OwnL Ft L G) W w4 := (Tn.of_below B2').trans (OwnL.of hT4)
  have f0 := e0.cell 0
  clear HREP d0 d1 c0 c1 c22
  rcases hc with ⟨rfl, hE⟩ | ⟨rfl, F', x', hcut, hE⟩
  · have hlk := look_up w4 L Dk nm sz G _ false hE.2.1 hE.1
    have HE := Lib.hid hE
    have HTW := Lib.hid hTW
    have HLK := Lib.hid hlk
    clear hE hTW hlk hT4 hb1 hb2
    go_wp2_with fail
    refine HLK.out.mono ?_
    rintro e w' ⟨rfl, rfl⟩
    go_wp2_with fail
    refine (must_ok _).mono ?_
    rintro e w' ⟨rfl, rfl⟩
    go_wp2_with fail
    refine still_tail 10 (by kernel_rfl) (by kernel_rfl) (fun W6 hk6 => ?_)
    have rE := HE.out.alk hk6
    have r0 := hk6.blk e0
    have r1 := hk6.blk e1
    have r2 := hk6.blk e2
    have rT := HTW.out.alk hk6
    have rz : w4.heap.size = W6.heap.size := by rw [hk6.1]
    obtain ⟨W7, hrun, hM7, hg7⟩ := rE.2.2.1.put (by omega) ((j : Int) + 1) (by unfold Ok64; omega) n news.length (fun D d1 d2 => segD_set d1 d2 j n news.length hjl)
    have hrun' : (Instr.mapUpdate 57 (.map (some G)) (.int .i64 ((j : Int) + 1)) (.agg #[.int .i64 (n : Int), .int .i64 (news.length : Int)])).run Tryz.prog W6 = .ok () W7 := hrun
    have q0 := r0.cell 0
    have q1 := r1.cell 0
    have q2 := r2.cell 0
    have cL3 := BlkIs.cell rE.2.1 3
    have s7 := rE.map hg7 hM7 (by simp) (Nat.le_succ _)
    have sT := rT.grown hg7 (fun i e => .inl (.inr (.inr (by injection e with e; exact e.symm))))
    have S7 := Lib.hid s7
    have ST := Lib.hid sT
    have hz7 := Lib.hid hg7.size
    clear hrun hM7 hg7 rE r0 r1 r2 rT s7 sT
    simp only [List.take_succ_cons, List.take_zero, List.drop_succ_cons, List.drop_zero]
    repeat still_step
    refine wpStill_nil ?_
    go_wp2_with fail
    go_end0
    refine .inl ⟨rfl, ?_⟩
    rw [HNW.out.1, HNW.out.2]
    unfold RewA
    refine LgPost.up (w1 := w4) h.2.2.2.1 hlL h.2.2.2.2 hlG hz2 (by have := hz7.out; omega) ?_ ST.out
    exact S7.out
  · have hlk := look_down w4 L Dk nm sz G _ false hE.2.1 hE.1
    have HE := Lib.hid hE
    have HTW := Lib.hid hTW
    have HLK := Lib.hid hlk
    have HCUT := Lib.hid hcut
    clear hE hTW hlk hT4 hcut
    go_wp2_with fail
    refine HLK.out.mono ?_
    rintro e w' ⟨rfl, rfl⟩
    have hD : RewD W N Ft Dk k F rm x L G nm sz g j (wr ll) false w4 := by
      rw [HNW.out.1]
      exact ⟨F', x', HCUT.out, LgPost.up (w1 := w4) h.2.2.2.1 hlL h.2.2.2.2 hlG hz2 (Nat.le_refl _) HE.out HTW.out⟩
    unfold bad
    exact ⟨rfl, .inr ⟨rfl, hD⟩⟩
set_option maxHeartbeats 1600000 in
set_option maxRecDepth 20000 in
theorem rewr_any (W : World) (N : Nat) (Ft : Nat → Prop) (Dk k : Nat) (F : Files) (rm x lf : Int) (L G : Nat) (nm : ByteArray) (sz : Int) (g : List (Nat × Nat)) (j c z : Nat) (A : Option Addr) (cp : Nat) (ll : List (List UInt8))
    (h : LogS W N Ft Dk k F rm x lf false L G nm sz g false) (hlow : Low W Ft) (hl : g.length < 999999) (hn : nmOk nm) (hj : g[j]? = some (c, z)) (hlen : lenOf F (fileN nm (j + 1)) ≤ 100000000) (hsp : F (fileN nm (j + 1) ++ ⟨#[46, 110, 101, 119]⟩) = none)
    (hk : k + 5 < maxLen) (hx : 0 ≤ x) (hx2 : x + took ll ≤ 100000000) (hr : x + took ll ≤ rm) (hlm : lf ≤ 9223372036854775807) (hN : N ≤ W.heap.size)
    (hR : Rws W W.heap.size A ll) (hll : ll.length ≤ 1000000) (hlr : ∀ r ∈ ll, r.length ≤ 1000000) :
    Calls Tryz.prog 17 #[.pointer (some ⟨L, 0, none⟩), .int .i64 ((j : Int) + 1), .slice A ll.length cp] W fun e w' =>
      (e = .returned (.int .i64 0) ∧ RewA W N Ft Dk k F rm x lf L G nm sz g j ll.length (wr ll) w') ∨ (e = .returned (.int .i64 10) ∧ RewD W N Ft Dk k F rm x L G nm sz g j (wr ll) true w') := by
  have hmf : ∀ (fn : Go.Fn) (first cap : Array Value) (w : World), (Instr.makeFunc fn first cap).run Tryz.prog w = .ok (.func fn first cap) w := fun _ _ _ _ => rfl
  have hen : ∀ args w, (callFunc 44 args).run Tryz.prog w = .ok (.enter 44 args) w := enters_of Tryz.func44 (by kernel_rfl) rfl
  obtain ⟨m0, m1, m2, m3, _⟩ := four_new W 32 3 22 33 #[.pointer (some ⟨L, 0, none⟩)] #[.int .i64 ((j : Int) + 1)] #[.slice A ll.length cp] #[.int .i64 0] (fun _ => False)
  have mB := four_below W 32 3 22 33 #[.pointer (some ⟨L, 0, none⟩)] #[.int .i64 ((j : Int) + 1)] #[.slice A ll.length cp] #[.int .i64 0]
  have B3 := three_below W 32 3 22 #[.pointer (some ⟨L, 0, none⟩)] #[.int .i64 ((j : Int) + 1)] #[.slice A ll.length cp]
  have zz : (((W.alloc (.cells #[.pointer (some ⟨L, 0, none⟩)] 32)).alloc (.cells #[.int .i64 ((j : Int) + 1)] 3)).alloc (.cells #[.slice A ll.length cp] 22)).heap.size = W.heap.size + 1 + 1 + 1 := by simp
  have hlL := h.ltL
  have hlG := h.ltG
  have out : ∀ i, W.heap.size ≤ i → ¬ OwnL Ft L G i := fun i hi e => by
    rcases e with e | rfl | rfl
    · have := hlow i e
      omega
    · omega
    · omega
  have hs := rewr1_any _ N Ft Dk k F rm x lf L G nm sz g W.heap.size (W.heap.size + 1) (W.heap.size + 1 + 1) j c z A cp ll (h.below mB) (hlow.up mB.size) hl hn hj hlen hsp hk hx hx2 hr hlm (by have := mB.size; omega) ((hR.below mB).more mB.size) hll hlr m0 m1 m2 (out _ (Nat.le_refl _)) (out _ (by omega)) (out _ (by omega))
  have hL2 : LogB _ L Dk nm sz G g.length false := (B3.block L hlL).trans h.2.1
  have hcall := Lib.hid (call_c 44 _ _ L Dk nm sz G g.length (fun y w' => (y = 0 ∧ RewA W N Ft Dk k F rm x lf L G nm sz g j ll.length (wr ll) w') ∨ (y = 10 ∧ RewD W N Ft Dk k F rm x L G nm sz g j (wr ll) false w')) hL2 (hen _)
    (fun w' hq => by
      rcases hq with ⟨e, _⟩ | ⟨_, F', x', _, q⟩
      · exact absurd e (by decide)
      · exact ⟨false, BlkIs.cell q.1.2.1 5, BlkIs.froz q.1.2.1 5⟩) (hs.mono (by
    rintro e w' hq
    rw [zz]
    have hz := mB.size
    rcases hq with ⟨rfl, q1, q2⟩ | ⟨rfl, F', x', hcut, q1, q2⟩
    · exact ⟨m3.tn q2 (out _ (by omega)), .inl ⟨rfl, .inl ⟨rfl, LgPost.of_below h mB ⟨q1, q2⟩⟩⟩⟩
    · refine ⟨m3.tn q2 (out _ (by omega)), .inr ⟨10, rfl, .inr ⟨rfl, F', x', hcut, ?_⟩⟩⟩
      have T8 := (Tn.refl (fun i => i = W.heap.size + 1 + 1 + 1) w').setCell (x := ⟨W.heap.size + 1 + 1 + 1, 0, none⟩) (.inl rfl) (.int .i64 10)
      have hlow4 : (W.heap.size + 1 + 1 + 1 : Nat) < ((((W.alloc (.cells #[.pointer (some ⟨L, 0, none⟩)] 32)).alloc (.cells #[.int .i64 ((j : Int) + 1)] 3)).alloc (.cells #[.slice A ll.length cp] 22)).alloc (.cells #[.int .i64 0] 33)).heap.size := by simp
      have hE := q1.keep T8 (fun i hi e => by
        have e : i = W.heap.size + 1 + 1 + 1 := e
        subst e
        rcases hi with (hi | ⟨hi, _⟩) | hi | hi
        · exact out _ (by omega) (.inl hi)
        · omega
        · omega
        · omega)
      exact LgPost.up h.2.2.2.1 hlL h.2.2.2.2 hlG hz T8.size hE (((Tn.of_below mB).trans q2).setCell (.inr (by show W.heap.size ≤ W.heap.size + 1 + 1 + 1; omega)) _))))
  clear hs
  go_enter Tryz.func17, Tryz.ntmps17
  go_wp2_with fail
  refine hcall.out.mono ?_
  rintro e w' ⟨y, rfl, ⟨hy, hq⟩ | ⟨rfl, w1, hq, rfl⟩⟩
  · rcases hq with ⟨rfl, hq⟩ | ⟨rfl, _⟩
    · have HQ := Lib.hid hq
      clear hq hcall
      go_wp2_with fail
      go_ret
      exact .inl ⟨rfl, HQ.out⟩
    · exact absurd rfl hy
  · rcases hq with ⟨e, _⟩ | ⟨_, F', x', hcut, q1, q2⟩
    · exact absurd e (by decide)
    · have HQ := Lib.hid (LgPost.up h.2.2.2.1 hlL h.2.2.2.2 hlG (Nat.le_refl _) (Nat.le_of_eq (size_set w1 ⟨L, 5, none⟩ (.bool true)).symm) (q1.set (dead' := true) ⟨rfl, rfl⟩) (q2.setCell (x := ⟨L, 5, none⟩) (.inl (.inr (.inl rfl))) (.bool true)))
      have HCUT := Lib.hid hcut
      generalize w1.setCell ⟨L, 5, none⟩ (.bool true) = w' at *
      clear q1 q2 hcall hcut
      go_wp2_with fail
      go_ret
      exact .inr ⟨rfl, F', x', HCUT.out, HQ.out⟩
end Go.Proofs.YtidadjlhnlmfkaaGreatDoor
