/- PaIter PaEach. Conditions: as stated at each. -/
import Derived.RangeFuncNested
import Derived.RangeFuncBound
import Derived.RangeFuncBox
import Derived.RangeFuncCalls
import Derived.RangeFuncLeaves
import Derived.Shelf.Abstract
import Derived.Shelf.RegionOpen
import Derived.WalkKit
import Derived.OwnWalkIn
import Derived.TacticsInMore
import Derived.LoopNIn
import Derived.LoopIn
import Derived.Test.YteapnkedpmcokaaGreatDoorRm18
/- The iterator over what stands between points; whether all of it fits. Conditions: as stated at each. -/
namespace Go.Proofs.YteapnkedpmcokaaGreatDoor
set_option maxRecDepth 100000
namespace Pa
open Go.RowKit Go.Shelf Go
attribute [local go_sem] Oper.semAt_some
abbrev Part : Type := { p : List UInt8 // p.length ≤ 1000000 }
def encP (x : Part) : Array Value := #[.string (str x.1)]
def szOf : Value → Nat
  | .string s => s.size
  | _ => 0
def oneB : Value → Nat
  | .bool true => 1
  | _ => 0
/-- between two rounds. -/
def PaSt (x3 x4 x5 : Value) (left : List (List UInt8)) : Prop :=
  ∃ (a r : List UInt8) (f : Bool), x3 = .string (str a) ∧ x4 = .string (str r) ∧ x5 = .bool f ∧ a.length ≤ 1000000 ∧ r.length ≤ 1000000 ∧ left = a :: (if f then parts r else [])
theorem grown_drewN (w : World) (n : Nat) : w.grownBy (w.drewN n) none := ⟨rfl, rfl, rfl, Nat.le_refl _, fun _ _ _ => rfl⟩
theorem below_drewN (w : World) (N n : Nat) : Below N w (w.drewN n) := ⟨rfl, rfl, rfl, Nat.le_refl _, fun _ _ => rfl⟩
theorem cut_st {l : List UInt8} (h : l.length ≤ 1000000) : PaSt (.string (str (ahead 46 l))) (.string (str (behind 46 l))) (.bool (has 46 l)) (parts l) := by
  refine ⟨_, _, _, rfl, rfl, rfl, Nat.le_trans (ahead_len _ _) h, ?_, ?_⟩
  · by_cases hm : (46 : UInt8) ∈ l
    · have := behind_len hm; omega
    · rw [(ahead_no hm).2]; simp
  · rw [parts_cut l]
    cases has 46 l <;> rfl
theorem cut_less {r : List UInt8} : 2 * szOf (.string (str (behind 46 r))) + oneB (.bool (has 46 r)) < 2 * szOf (.string (str r)) + 1 := by
  simp only [szOf, str_size]
  by_cases hm : (46 : UInt8) ∈ r
  · have := behind_len hm
    rw [has_t hm]; simp only [oneB]; omega
  · rw [has_f hm, (ahead_no hm).2]; simp [oneB]
set_option maxHeartbeats 1600000 in
theorem atoms_stops (n : Nat) (hn : 1 ≤ n) (w : World) (V N : Nat) (l : List UInt8) (hV : w.heap[V]? = some (.cells #[.string (str l)] 9 (0, 0))) (hN : N ≤ w.heap.size) (hm : l.length ≤ 1000000) :
    SeqStopsK Fence.wide n Tryz.prog 149 #[.pointer (some ⟨V, 0, none⟩)] encP (Below N) (fun xs => xs.map Subtype.val = parts l) (fun pre => pre.map Subtype.val <+: parts l) (l.length + 1) w := fun lp J Jx W hW hJ hJx hY h0 => by
  refine callsIn_of_wp Tryz.func149 rfl trivial ?_ rfl
  have hVl : V < w.heap.size := (Array.getElem?_eq_some_iff.1 hV).1
  have hv : W.cell? ⟨V, 0, none⟩ = some (.string (str l)) := (hW.cell (p := ⟨V, 0, none⟩) hVl).trans (cell_of_row w V 0 _ 9 (0, 0) hV)
  have hNW := hW.mono hN
  simp only [Tryz.ntmps149, List.size_toArray, List.length_cons, List.length_nil, Nat.reduceAdd, Nat.reduceSub, Array.replicate_succ, Array.replicate_zero, List.push_toArray, List.append_toArray, List.nil_append, List.cons_append]
  gi_wp2_with fail
  refine ⟨trivial, ?_⟩
  refine (callsIn_wide.2 (cut_any 46 l _ hm)).mono ?_
  rintro e w1 ⟨rfl, k0, rfl⟩
  have HST := Lib.hid (cut_st hm)
  have HJ := Lib.hid (hJ _ _ _ _ h0 (grown_drewN W k0) (fun r e => by cases e))
  have HK := Lib.hid (hNW.trans (below_drewN W N k0))
  clear h0
  generalize W.drewN k0 = w1 at *
  generalize str (ahead 46 l) = s3 at *
  generalize str (behind 46 l) = s4 at *
  generalize has 46 l = b5 at *
  gi_wp2_with fail
  gi_loopw [3, 4, 5] (fun x3 x4 x5 wr => ∃ pre left, J pre wr ∧ Below N w wr ∧ PaSt x3 x4 x5 left ∧ pre.map Subtype.val ++ left = parts l) (fun _ x4 x5 _ => 2 * szOf x4 + oneB x5)
  case atStart => exact ⟨[], parts l, HJ.out, HK.out, HST.out, rfl⟩
  case round =>
    obtain ⟨pre, left, hj, hk, hs, he⟩ := hrel
    obtain ⟨a, r, f, rfl, rfl, rfl, ha, hr, hleft⟩ := hs
    have hlen : pre.length < l.length + 1 := by
      have h1 := congrArg List.length he
      have h2 := parts_len l
      rw [hleft] at h1
      simp at h1
      omega
    obtain ⟨fn, tmps, assign, body, hy, hR⟩ := hY pre ⟨a, ha⟩ wr hj hlen
    dsimp only [encP] at hy
    have HE := Lib.hid he
    have HL := Lib.hid hleft
    have HR := Lib.hid hr
    clear he hj hleft hr
    gi_wp2_with fail
    refine hR.mono ?_
    rintro e W3 (⟨rfl, hJ3, hK3⟩ | ⟨rfl, hJx3⟩)
    · have HJ3 := Lib.hid hJ3
      have HK3 := Lib.hid (hk.trans hK3)
      clear hJ3 hR hy
      cases f with
      | false =>
        gi_wp2_with fail
        go_end0
        refine ⟨⟨_, rfl⟩, .inl ⟨_, ?_, HJ3.out⟩⟩
        rw [← HE.out, HL.out]
        simp
      | true =>
        have HC := Lib.hid (fun W => cut_any 46 r W HR.out)
        have HS2 := Lib.hid (cut_st HR.out)
        have HM2 := Lib.hid (cut_less (r := r))
        gi_wp2_with fail
        refine ⟨trivial, ?_⟩
        refine (callsIn_wide.2 (HC.out _)).mono ?_
        rintro e w4 ⟨rfl, k4, rfl⟩
        have HJ4 := Lib.hid (hJ _ _ _ _ HJ3.out (grown_drewN W3 k4) (fun r e => by cases e))
        have HK4 := Lib.hid (HK3.out.trans (below_drewN W3 N k4))
        generalize W3.drewN k4 = w5 at *
        generalize str (ahead 46 r) = t3 at *
        generalize str (behind 46 r) = t4 at *
        generalize has 46 r = t5 at *
        gi_wp2_with fail
        go_roundw
        case rel => exact ⟨_, _, HJ4.out, HK4.out, HS2.out, by rw [← HE.out, HL.out]; simp⟩
        case measure => exact HM2.out
    · gi_wp2_with fail
      go_end0
      refine ⟨⟨_, rfl⟩, .inr ⟨_, ?_, hJx3⟩⟩
      rw [← HE.out, HL.out]
      exact ⟨_, by rw [List.map_append, List.append_assoc]; rfl⟩
end Pa
end Go.Proofs.YteapnkedpmcokaaGreatDoor
/- path.each, Domain, Mailbox. Conditions: as stated at each. -/
namespace Go.Proofs.YteapnkedpmcokaaGreatDoor
set_option maxRecDepth 100000
namespace Pa
open Go.RowKit Go.Shelf Go
attribute [local go_sem] Oper.semAt_some
theorem atoms_any (s : ByteArray) (W : World) :
    Calls Tryz.prog 145 #[.string s] W fun e w' => e = .returned (.func (.func 149) #[] #[.pointer (some ⟨W.heap.size, 0, none⟩)]) ∧ w' = W.alloc (.cells #[.string s] 9) := by
  go_enter Tryz.func145, Tryz.ntmps145
  go_wp2_with fail
  go_ret
  exact ⟨rfl, rfl⟩
/-- between two rounds. -/
def EaI (N : Nat) (g : FuncId) (f : List UInt8 → Bool) (W0 : World) (pre : List Part) (X : World) : Prop :=
  Boxed X N 83 (.func (.func g) #[] #[]) ∧ Boxed X (N + 1) 4 (.bool false) ∧ (pre.map Subtype.val).all f = true ∧ Below N W0 X ∧ N + 3 ≤ X.heap.size
def EaX (N : Nat) (f : List UInt8 → Bool) (W0 : World) (c : Code) (pre : List Part) (X : World) : Prop :=
  c = .ret ∧ Boxed X (N + 1) 4 (.bool false) ∧ (pre.map Subtype.val).all f = false ∧ Below N W0 X ∧ N + 3 ≤ X.heap.size
theorem eaI_own {N B : Nat} (h : N + 3 ≤ B) (g : FuncId) (f : List UInt8 → Bool) (W0 : World) : OwnFrom B (EaI N g f W0) := by
  rintro xs X X' row ⟨h1, h2, h3, h4, h5⟩ hg hr
  refine ⟨h1.kept hg (fun e => ?_), h2.kept hg (fun e => ?_), h3, h4.grown hg (by omega) (fun k e => by have := (hr k e).1; omega), Nat.le_trans h5 hg.size⟩
  · have := (hr N e.symm).1
    omega
  · have := (hr (N + 1) e.symm).1
    omega
theorem eaX_own {N B : Nat} (h : N + 3 ≤ B) (f : List UInt8 → Bool) (W0 : World) (c : Code) : OwnFrom B (EaX N f W0 c) := by
  rintro xs X X' row ⟨h1, h2, h3, h4, h5⟩ hg hr
  refine ⟨h1, h2.kept hg (fun e => ?_), h3, h4.grown hg (by omega) (fun k e => by have := (hr k e).1; omega), Nat.le_trans h5 hg.size⟩
  have := (hr (N + 1) e.symm).1
  omega
set_option maxHeartbeats 1600000 in
theorem each_in (g : FuncId) (f : List UInt8 → Bool) (eg : ∀ args w, (callFunc g args).run Tryz.prog w = .ok (.enter g args) w)
    (hg : ∀ p w, p.length ≤ 1000000 → Calls Tryz.prog g #[.string (str p)] w fun e w' => e = .returned (.bool (f p)) ∧ w = w') (l : List UInt8) (hm : l.length ≤ 1000000) (W : World) :
    CallsIn Fence.wide 8 Tryz.prog 139 #[.string (str l), .func (.func g) #[] #[]] W fun e w' => e = .returned (.bool ((parts l).all f)) ∧ Below W.heap.size W w' := by
  refine callsIn_of_wp_marks Tryz.func139 rfl trivial ?_ rfl
  simp only [Tryz.ntmps139, List.size_toArray, List.length_cons, List.length_nil, Nat.reduceAdd, Nat.reduceSub, Array.replicate_succ, Array.replicate_zero, List.push_toArray, List.append_toArray, List.nil_append, List.cons_append]
  gi_wp2_with fail
  refine ⟨trivial, ?_⟩
  refine (callsIn_wide.2 (atoms_any _ _)).mono ?_
  rintro e w' ⟨rfl, rfl⟩
  have k1 := ((Boxed.new W 83 (.func (.func g) #[] #[])).alloc (.cells #[.bool false] 4)).alloc (.cells #[.string (str l)] 9)
  have k2 : Boxed (((W.alloc (.cells #[.func (.func g) #[] #[]] 83)).alloc (.cells #[.bool false] 4)).alloc (.cells #[.string (str l)] 9)) (W.heap.size + 1) 4 (.bool false) := by
    have := (Boxed.new (W.alloc (.cells #[.func (.func g) #[] #[]] 83)) 4 (.bool false)).alloc (.cells #[.string (str l)] 9)
    rwa [World.size_alloc] at this
  have k3 : Boxed (((W.alloc (.cells #[.func (.func g) #[] #[]] 83)).alloc (.cells #[.bool false] 4)).alloc (.cells #[.string (str l)] 9)) (W.heap.size + 2) 9 (.string (str l)) := by
    have := Boxed.new ((W.alloc (.cells #[.func (.func g) #[] #[]] 83)).alloc (.cells #[.bool false] 4)) 9 (.string (str l))
    rwa [World.size_alloc, World.size_alloc] at this
  have kB : Below W.heap.size W (((W.alloc (.cells #[.func (.func g) #[] #[]] 83)).alloc (.cells #[.bool false] 4)).alloc (.cells #[.string (str l)] 9)) := (((Below.refl _ W).alloc (Nat.le_refl _) _).alloc (by simp) _).alloc (by simp; omega) _
  have kz : W.heap.size + 3 = (((W.alloc (.cells #[.func (.func g) #[] #[]] 83)).alloc (.cells #[.bool false] 4)).alloc (.cells #[.string (str l)] 9)).heap.size := by simp
  gi_wp2_with fail
  generalize ((W.alloc (.cells #[.func (.func g) #[] #[]] 83)).alloc (.cells #[.bool false] 4)).alloc (.cells #[.string (str l)] 9) = W3 at *
  refine wpIn_rangeFunc_ownG rfl (by omega) (gf := 149) (lb := #[.pointer (some ⟨W.heap.size + 2, 0, none⟩)]) rfl trivial (enters_of Tryz.func149 (by kernel_rfl) rfl)
    (atoms_stops 7 (by omega) W3 (W.heap.size + 2) W.heap.size l k3 (by omega) hm) belowK_t (belowK_b (by omega)) (Below.refl _ _) (fun _ => rfl)
    (EaI W.heap.size g f W) (EaX W.heap.size f W) (eaI_own (by omega) g f W) (fun c => eaX_own (by omega) f W c) ⟨k1, k2, rfl, kB, by omega⟩
    (fun x => { tmps := #[.string (str l), .func (.func g) #[] #[], undef, .pointer (some ⟨W.heap.size, 0, none⟩), .pointer (some ⟨W.heap.size + 1, 0, none⟩), .string (str x.1), .string (str l), .func (.func 149) #[] #[.pointer (some ⟨W.heap.size + 2, 0, none⟩)], .string (str x.1), undef, undef, undef, undef], defers := [] }) ?assign ?body ?done ?stop
  case assign =>
    intro lp x X K' hK'
    dsimp only [encP]
    gi_wp2
    exact hK'
  case body =>
    rintro lp pre ⟨p, hp1⟩ X ⟨b1, b2, b3, b4, b5⟩ hlen
    dsimp only
    have c1 := b1.cell
    have c2 := b2.cell
    have f2 := b2.frozen
    have l1 := b1.lt
    have l2 := b2.lt
    have HG := Lib.hid (fun w => hg p w hp1)
    have B3 : Hid (((pre ++ [(⟨p, hp1⟩ : Part)]).map Subtype.val).all f = f p) := Lib.hid (by rw [List.map_append, List.all_append, b3]; simp)
    have B1 := Lib.hid b1
    have B2 := Lib.hid b2
    have B4 := Lib.hid b4
    clear b1 b2 b3 b4 k1 k2 k3
    generalize hf : f p = fp at *
    gi_wp2_with fail
    refine ⟨trivial, CallsIn.inRound lp (callsIn_wide.2 ((HG.out _).mono ?_))⟩
    rintro e w' ⟨rfl, rfl⟩
    cases fp with
    | true =>
      gi_wp2_with fail
      exact ⟨KeepsFrom.refl _ _, Below.refl _ _, B1.out, B2.out, B3.out, B4.out, b5⟩
    | false =>
      gi_wp2_with fail
      exact ⟨(KeepsOthers.setCell _ _ _).from _, rfl, B2.out.set _, B3.out, B4.out.setCell (by show W.heap.size ≤ W.heap.size + 1; omega) _, by simpa using b5⟩
  case done =>
    rintro D xs X hD hS ⟨b1, b2, b3, b4, b5⟩ hKd
    have HA : Hid (true = (parts l).all f) := Lib.hid (by rw [← hS]; exact b3.symm)
    have c2 := b2.cell
    have f2 := b2.frozen
    have hDX : D < X.heap.size := (Array.getElem?_eq_some_iff.1 hKd).1
    have hK2 : (X.setCell ⟨W.heap.size + 1, 0, none⟩ (.bool true)).heap[D]? = some (.deferred (some [])) := (KeepsOthers.setCell _ _ _).same D _ hKd rfl
    have hb2 : Below W.heap.size W (X.setCell ⟨W.heap.size + 1, 0, none⟩ (.bool true)) := b4.setCell (by show W.heap.size ≤ W.heap.size + 1; omega) _
    have B2 := (b2.set (.bool true)).kept (grownBy_putObj' _ D (.deferred none)) (by intro e; injection e with e; omega)
    have hb3 : Below W.heap.size W ((X.setCell ⟨W.heap.size + 1, 0, none⟩ (.bool true)).putObj D (.deferred none)) := hb2.grown (grownBy_putObj' _ D (.deferred none)) (by have := hb2.size; omega) (fun k e => by injection e with e; omega)
    have c3 := B2.cell
    clear hS b1 b2 b3 b4 k1 k2 k3 hg
    gi_wp2
    refine ⟨by simp, .inl ⟨_, _, rfl, run_takeDeferred hK2, ?_⟩⟩
    generalize (X.setCell ⟨W.heap.size + 1, 0, none⟩ (.bool true)).putObj D (.deferred none) = Z at *
    exact ⟨.bool true, by simp [results, Tryz.results139, go_sem, c3], by rw [HA.out], hb3⟩
  case stop =>
    rintro D c pre X hD hSp ⟨rfl, b2, b3, b4, b5⟩ hKd
    have HA : Hid (false = (parts l).all f) := Lib.hid (by
      obtain ⟨t, ht⟩ := hSp
      rw [← ht, List.all_append, b3]; rfl)
    have hDX : D < X.heap.size := (Array.getElem?_eq_some_iff.1 hKd).1
    have B2 := b2.kept (grownBy_putObj' _ D (.deferred none)) (by intro e; injection e with e; omega)
    have hb3 : Below W.heap.size W (X.putObj D (.deferred none)) := b4.grown (grownBy_putObj' _ D (.deferred none)) (by omega) (fun k e => by injection e with e; omega)
    have c3 := B2.cell
    clear hSp b2 b3 b4 k1 k2 k3 hg
    gi_wp2
    refine ⟨by simp, .inl ⟨_, _, rfl, run_takeDeferred hKd, ?_⟩⟩
    generalize X.putObj D (.deferred none) = Z at *
    exact ⟨.bool false, by simp [results, Tryz.results139, go_sem, c3], by rw [HA.out], hb3⟩
theorem each_any (g : FuncId) (f : List UInt8 → Bool) (eg : ∀ args w, (callFunc g args).run Tryz.prog w = .ok (.enter g args) w)
    (hg : ∀ p w, p.length ≤ 1000000 → Calls Tryz.prog g #[.string (str p)] w fun e w' => e = .returned (.bool (f p)) ∧ w = w') (l : List UInt8) (hm : l.length ≤ 1000000) (W : World) :
    Calls Tryz.prog 139 #[.string (str l), .func (.func g) #[] #[]] W fun e w' => e = .returned (.bool ((parts l).all f)) ∧ Below W.heap.size W w' := callsIn_wide.1 (each_in g f eg hg l hm W)
theorem each_lab (l : List UInt8) (hm : l.length ≤ 1000000) (W : World) :
    Calls Tryz.prog 139 #[.string (str l), .func (.func 147) #[] #[]] W fun e w' => e = .returned (.bool ((parts l).all labS)) ∧ Below W.heap.size W w' :=
  each_any _ labS (enters_of Tryz.func147 (by kernel_rfl) rfl) (fun p w h => label_any p w h) l hm W
theorem each_at (l : List UInt8) (hm : l.length ≤ 1000000) (W : World) :
    Calls Tryz.prog 139 #[.string (str l), .func (.func 140) #[] #[]] W fun e w' => e = .returned (.bool ((parts l).all atS)) ∧ Below W.heap.size W w' :=
  each_any _ atS (enters_of Tryz.func140 (by kernel_rfl) rfl) (fun p w h => atom_any p w h) l hm W
theorem domain_any (l : List UInt8) (hm : l.length ≤ 140737488355328) (W : World) :
    Calls Tryz.prog 141 #[.string (str l)] W fun e w' => e = .returned (.bool (domS l)) ∧ Below W.heap.size W w' := by
  have hsz := str_size l
  by_cases h : l.length ≤ 255
  · have HE := Lib.hid (each_lab l (by omega))
    have hd : domS l = (parts l).all labS := by unfold domS; rw [decide_eq_true h]; simp
    rw [hd]
    generalize (parts l).all labS = b at *
    generalize str l = s at *
    cases b with
    | false =>
      go_enter Tryz.func141, Tryz.ntmps141
      go_wp2_with (first | (refine (HE.out _).mono ?_; rintro e w' ⟨rfl, hb⟩) | fail)
      go_ret
      exact ⟨rfl, hb⟩
    | true =>
      go_enter Tryz.func141, Tryz.ntmps141
      go_wp2_with (first | (refine (HE.out _).mono ?_; rintro e w' ⟨rfl, hb⟩) | fail)
      go_ret
      exact ⟨rfl, hb⟩
  · have hd : domS l = false := by unfold domS; rw [decide_eq_false h]; simp
    rw [hd]
    generalize str l = s at *
    go_enter Tryz.func141, Tryz.ntmps141
    go_wp2_with fail
    go_ret
    exact ⟨rfl, Below.refl _ _⟩
theorem mailbox_any (l : List UInt8) (hm : l.length ≤ 140737488355328) (W : World) :
    Calls Tryz.prog 129 #[.string (str l)] W fun e w' => e = .returned (.bool (mailS l)) ∧ Below W.heap.size W w' := by
  have HC := Lib.hid (fun W => pcut_any l W hm)
  obtain ⟨q1, q2⟩ := loc_len l
  have hsz := str_size (loc l)
  have HE : (loc l).length ≤ 64 → Hid (∀ W, Calls Tryz.prog 139 #[.string (str (loc l)), .func (.func 140) #[] #[]] W fun e w' => e = .returned (.bool ((parts (loc l)).all atS)) ∧ Below W.heap.size W w') := fun h => Lib.hid (each_at (loc l) (by omega))
  have HD := Lib.hid (domain_any (dom l) (by omega))
  have hms : mailS l = (decide ((loc l).length ≤ 64) && (parts (loc l)).all atS && domS (dom l)) := rfl
  have HB : Hid (∀ n, Below W.heap.size W (W.drewN n)) := Lib.hid (fun n => ⟨rfl, rfl, rfl, Nat.le_refl _, fun _ _ => rfl⟩)
  rw [hms]
  clear hms q1 q2
  generalize (parts (loc l)).all atS = b at *
  generalize domS (dom l) = d at *
  generalize str (dom l) = sd at *
  generalize hlo : (loc l).length = n at *
  generalize str (loc l) = sl at *
  by_cases h : n ≤ 64
  · replace HE := HE h
    rw [decide_eq_true h, Bool.true_and]
    cases b with
    | false =>
      go_enter Tryz.func129, Tryz.ntmps129
      go_wp2_with (first
        | (refine (HC.out _).mono ?_; rintro e w' ⟨rfl, k, rfl⟩)
        | (refine (HE.out _).mono ?_; rintro e w' ⟨rfl, hb⟩)
        | fail)
      go_ret
      exact ⟨rfl, (HB.out _).trans hb⟩
    | true =>
      go_enter Tryz.func129, Tryz.ntmps129
      go_wp2_with (first
        | (go_at_call 138; refine (HC.out _).mono ?_; rintro e w' ⟨rfl, k, rfl⟩)
        | (go_at_call 139; refine (HE.out _).mono ?_; rintro e w' ⟨rfl, hb⟩)
        | (go_at_call 141; refine (HD.out _).mono ?_; rintro e w'' ⟨rfl, hb2⟩)
        | fail)
      go_ret
      exact ⟨rfl, ((HB.out _).trans hb).trans (hb2.mono ((HB.out k).trans hb).size)⟩
  · clear HE
    rw [decide_eq_false h]
    go_enter Tryz.func129, Tryz.ntmps129
    go_wp2_with (first
      | (refine (HC.out _).mono ?_; rintro e w' ⟨rfl, k, rfl⟩)
      | fail)
    go_ret
    exact ⟨rfl, HB.out _⟩
end Pa
end Go.Proofs.YteapnkedpmcokaaGreatDoor
