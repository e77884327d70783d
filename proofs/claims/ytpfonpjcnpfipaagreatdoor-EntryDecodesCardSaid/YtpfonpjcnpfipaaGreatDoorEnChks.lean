/- entry.Check; the document's Check. Conditions: as stated at each. -/
import Derived.Test.YtpfonpjcnpfipaaGreatDoorEnChk
namespace Go.Proofs.YtpfonpjcnpfipaaGreatDoor
set_option maxRecDepth 100000
namespace En
open Go.RowKit Go Go.Proofs.YtpfonpjcnpfipaaGreatDoor.Pa
attribute [local go_sem] Oper.semAt_some
/-- an error's number: 0 where it may be. -/
def numE (b : Bool) : Int := if b = true then 0 else 150
def NumP (w : World) (b : Bool) (e : Ending) (w' : World) : Prop := e = .returned (.int .i64 (numE b)) ∧ Below w.heap.size w w'
def ChkQ (N : Nat) (W : World) (b : Bool) (x : Int) (w' : World) : Prop := x = numE b ∧ Below N W w'
set_option maxHeartbeats 1600000 in
theorem chk1_any {W : World} {N E R S : Nat} {x0 x1 x2 : Value} {b : Bool} {A2 : Option Addr} {n2 c2 : Nat} (hN : N ≤ W.heap.size) (hNE : N ≤ E)
    (hR : BlkIs W R 26 #[x0, x1, x2]) (hS : BlkIs W S 22 #[.slice A2 n2 c2]) (hE : BlkIs W E 29 #[.int .i64 0])
    (hc : Calls Tryz.prog 19 #[.agg #[x0, x1, x2], .slice A2 n2 c2] W (CheckP W b)) :
    Calls Tryz.prog 18 #[.pointer (some ⟨R, 0, none⟩), .pointer (some ⟨S, 0, none⟩)] W fun e w' => BlkIs w' E 29 #[.int .i64 0] ∧ ((e = .returned (.tuple #[]) ∧ ChkQ N W b 0 w') ∨ ∃ x, e = Fa.bad x ∧ ChkQ N W b x (w'.setCell ⟨E, 0, none⟩ (.int .i64 x))) := by
  have HC := Lib.hid hc
  have HE := Lib.hid hE
  have z0 := (hR.cell 0).trans (rfl : _ = some x0)
  have z1 := (hR.cell 1).trans (rfl : _ = some x1)
  have z2 := (hR.cell 2).trans (rfl : _ = some x2)
  have y0 := (hS.cell 0).trans (rfl : _ = some (Value.slice A2 n2 c2))
  clear hc hE hR hS
  unfold ChkQ
  go_enter Tryz.func18, Tryz.ntmps18
  go_wp2_with fail
  refine HC.out.mono ?_
  rintro e w' ⟨hb, ⟨rfl, rfl⟩ | ⟨rfl, rfl⟩⟩
  · have HE' : Hid (BlkIs w' E 29 #[.int .i64 0]) := Lib.hid ((hb.block _ HE.out.lt).trans HE.out)
    have HB := Lib.hid (hb.mono hN)
    clear hb HC
    go_wp2_with fail
    go_end0
    first | exact ⟨HE'.out, .inl ⟨rfl, rfl, HB.out⟩⟩ | exact ⟨HE'.out, .inl ⟨rfl, HB.out⟩⟩
  · have HE' : BlkIs w' E 29 #[.int .i64 0] := (hb.block _ HE.out.lt).trans HE.out
    exact ⟨rfl, HE', .inr ⟨_, rfl, rfl, (hb.mono hN).setCell hNE _⟩⟩
set_option maxHeartbeats 1600000 in
theorem Check_any {w : World} {x : Value} {e : Env} (h : EnvAt w w.heap.size x e) (hs : SmallE e) (A2 : Option Addr) (n2 c2 : Nat) :
    Calls Tryz.prog 9 #[x, .slice A2 n2 c2] w (NumP w (checkE e n2)) := by
  have hX := h
  obtain ⟨A, c, rfl, _, _, _⟩ := h
  have HCH := Lib.hid (fun (X : World) (hb : Below w.heap.size w X) => check_any ((hX.below hb).more hb.size) hs A2 n2 c2)
  unfold NumP
  generalize checkE e n2 = res at *
  clear hX hs
  obtain ⟨ff, ps, v⟩ := e
  simp only at HCH ⊢
  generalize str ff = s0 at *
  generalize ps.length = n at *
  have k0 := BlkIs.new w 26 #[.string s0, .slice A n c, .int .i64 v]
  have k1 := BlkIs.new (w.alloc (.cells #[.string s0, .slice A n c, .int .i64 v] 26)) 22 #[.slice A2 n2 c2]
  rw [World.size_alloc] at k1
  have kB : Below w.heap.size w ((w.alloc (.cells #[.string s0, .slice A n c, .int .i64 v] 26)).alloc (.cells #[.slice A2 n2 c2] 22)) := ((Below.refl _ w).alloc (Nat.le_refl _) _).alloc (by simp) _
  have HKB := Lib.hid (And.intro kB (And.intro (k0.alloc (.cells #[.slice A2 n2 c2] 22)) k1))
  have HAT : Hid (∀ w2, Below w.heap.size w w2 → BlkIs w2 w.heap.size 26 #[.string s0, .slice A n c, .int .i64 v] → BlkIs w2 (w.heap.size + 1) 22 #[.slice A2 n2 c2] →
      Calls Tryz.prog 10 #[.func (.func 18) #[] #[.pointer (some ⟨w.heap.size, 0, none⟩), .pointer (some ⟨w.heap.size + 1, 0, none⟩)]] w2 fun r w' => ∃ x, r = .returned (.int .i64 x) ∧ ChkQ w.heap.size (w2.alloc (.cells #[.int .i64 0] 29)) res x w') := Lib.hid fun w2 g1 g2 g3 => by
    refine Fa.attempt_c 18 _ w2 _ (enters_of Tryz.func18 (by kernel_rfl) rfl _) ?_
    have ga : Below w2.heap.size w2 (w2.alloc (.cells #[.int .i64 0] 29)) := (Below.refl _ _).alloc (Nat.le_refl _) _
    have gb := g1.trans (ga.mono g1.size)
    exact chk1_any gb.size g1.size (g2.alloc _) (g3.alloc _) (BlkIs.new w2 _ _) (HCH.out _ gb)
  clear k0 k1 kB HCH
  go_enter Tryz.func9, Tryz.ntmps9
  go_wp2_with fail
  refine (HAT.out _ HKB.out.1 HKB.out.2.1 HKB.out.2.2).mono ?_
  rintro r w3 ⟨x, rfl, rfl, hbel⟩
  have HB3 : Hid (Below w.heap.size w w3) := Lib.hid ((HKB.out.1.alloc HKB.out.1.size _).trans hbel)
  clear hbel HAT HKB
  go_wp2_with fail
  go_ret
  exact ⟨rfl, HB3.out⟩
theorem check_is (e : Env) (n : Nat) : checkE e n = (decide (e.2.1.length ≤ 100) && (renvB e && decide (n ≤ 500000))) := by
  unfold checkE envB renvB
  rw [show decide (1 ≤ e.2.1.length ∧ e.2.1.length ≤ 100) = (decide (1 ≤ e.2.1.length) && decide (e.2.1.length ≤ 100)) from Bool.decide_and _ _]
  cases (e.1.isEmpty || mailS e.1) <;> cases decide (1 ≤ e.2.1.length) <;> cases decide (e.2.1.length ≤ 100) <;> simp
set_option maxHeartbeats 1600000 in
theorem rCheck_any {w : World} {x : Value} {e : Env} (h : EnvAt w w.heap.size x e) (hs : SmallE e) (A2 : Option Addr) (n2 c2 : Nat) :
    Calls Tryz.prog 30 #[x, .slice A2 n2 c2] w (NumP w (checkE e n2)) := by
  have hX := h
  obtain ⟨A, c, rfl, _, _, _⟩ := h
  have HCH := Lib.hid (fun (X : World) (hb : Below w.heap.size w X) => renvelope_any ((hX.below hb).more hb.size) hs)
  have HIS := Lib.hid (check_is e n2)
  unfold NumP
  generalize checkE e n2 = res at *
  generalize renvB e = rb at *
  clear hX hs
  obtain ⟨ff, ps, v⟩ := e
  simp only at HCH HIS ⊢
  generalize str ff = s0 at *
  generalize ps.length = n at *
  have k0 := BlkIs.new w 26 #[.string s0, .slice A n c, .int .i64 v]
  have HB1 : Hid (Below w.heap.size w (w.alloc (.cells #[.string s0, .slice A n c, .int .i64 v] 26))) := Lib.hid ((Below.refl _ w).alloc (Nat.le_refl _) _)
  have z0 := (k0.cell 0).trans (rfl : _ = some (Value.string s0))
  have z1 := (k0.cell 1).trans (rfl : _ = some (Value.slice A n c))
  have z2 := (k0.cell 2).trans (rfl : _ = some (Value.int .i64 v))
  have HC1 := Lib.hid (HCH.out _ HB1.out)
  clear k0 HCH
  go_enter Tryz.func30, Tryz.ntmps30
  by_cases hn : (100 : Int) < n
  · have HR : Hid (res = false) := Lib.hid (by rw [HIS.out, decide_eq_false (by omega : ¬ n ≤ 100)]; rfl)
    go_wp2_with fail
    go_ret
    exact ⟨by rw [HR.out]; rfl, HB1.out⟩
  · rw [decide_eq_true (by omega : n ≤ 100), Bool.true_and] at HIS
    cases rb with
    | false =>
      go_wp2_with fail
      refine HC1.out.mono ?_
      rintro e w2 ⟨rfl, hb2⟩
      have HB2 := Lib.hid (HB1.out.trans (hb2.mono HB1.out.size))
      clear hb2
      go_wp2_with fail
      go_ret
      exact ⟨by rw [HIS.out]; rfl, HB2.out⟩
    | true =>
      rw [Bool.true_and] at HIS
      by_cases hb : n2 ≤ 500000
      · have hb' : ¬ (500000 : Int) < n2 := by omega
        rw [decide_eq_true hb] at HIS
        go_wp2_with fail
        refine HC1.out.mono ?_
        rintro e w2 ⟨rfl, hb2⟩
        have HB2 := Lib.hid (HB1.out.trans (hb2.mono HB1.out.size))
        clear hb2
        go_wp2_with fail
        go_ret
        exact ⟨by rw [HIS.out]; rfl, HB2.out⟩
      · have hb' : (500000 : Int) < n2 := by omega
        rw [decide_eq_false hb] at HIS
        go_wp2_with fail
        refine HC1.out.mono ?_
        rintro e w2 ⟨rfl, hb2⟩
        have HB2 := Lib.hid (HB1.out.trans (hb2.mono HB1.out.size))
        clear hb2
        go_wp2_with fail
        go_ret
        exact ⟨by rw [HIS.out]; rfl, HB2.out⟩
end En
end Go.Proofs.YtpfonpjcnpfipaaGreatDoor
