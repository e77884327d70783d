/- path.each, Domain, Mailbox. Conditions: as stated at each. -/
import Derived.Test.YtpfonpjcnpfipaaGreatDoorPaIter
namespace Go.Proofs.YtpfonpjcnpfipaaGreatDoor
set_option maxRecDepth 100000
namespace Pa
open Go.RowKit Go.Shelf Go
attribute [local go_sem] Oper.semAt_some
theorem atoms_any (s : ByteArray) (W : World) :
    Calls Tryz.prog 65 #[.string s] W fun e w' => e = .returned (.func (.func 85) #[] #[.pointer (some ⟨W.heap.size, 0, none⟩)]) ∧ w' = W.alloc (.cells #[.string s] 9) := by
  go_enter Tryz.func65, Tryz.ntmps65
  go_wp2_with fail
  go_ret
  exact ⟨rfl, rfl⟩
/-- between two rounds. -/
def EaI (N : Nat) (g : FuncId) (f : List UInt8 → Bool) (W0 : World) (pre : List Part) (X : World) : Prop :=
  Boxed X N 65 (.func (.func g) #[] #[]) ∧ Boxed X (N + 1) 4 (.bool false) ∧ (pre.map Subtype.val).all f = true ∧ Below N W0 X ∧ N + 3 ≤ X.heap.size
def EaX (N : Nat) (f : List UInt8 → Bool) (W0 : World) (c : Code) (pre : List Part) (X : World) : Prop :=
  c = .ret ∧ Boxed X (N + 1) 4 (.bool false) ∧ (pre.map Subtype.val).all f = false ∧ Below N W0 X ∧ N + 3 ≤ X.heap.size
theorem eaI_own {N B : Nat} (h : N + 3 ≤ B) (g : FuncId) (f : List UInt8 → Bool) (W0 : World) : OwnFrom B (EaI N g f W0) := by
  rintro xs X X' row ⟨h1, h2, h3, h4, h5⟩ hg hr
  refine ⟨h1.kept hg (fun e => ?_), h2.kept hg (fun e => ?_), h3, h4.grown hg (by omega) (fun k e => by have := (hr k e).1; omega), Nat.le_trans h5 hg.size⟩
  · have := (hr N e.symm).1
    omega
  · have := (hr (N + 1) e.symm).1
    omega
theorem eaX_own {N B : Nat} (h : N + 3 ≤ B) (f : List UInt8 → Bool) (W0 : World) (c : Code) : OwnFrom B (EaX N f W0 c) := by
  rintro xs X X' row ⟨h1, h2, h3, h4, h5⟩ hg hr
  refine ⟨h1, h2.kept hg (fun e => ?_), h3, h4.grown hg (by omega) (fun k e => by have := (hr k e).1; omega), Nat.le_trans h5 hg.size⟩
  have := (hr (N + 1) e.symm).1
  omega
set_option maxHeartbeats 1600000 in
theorem each_in (g : FuncId) (f : List UInt8 → Bool) (eg : ∀ args w, (callFunc g args).run Tryz.prog w = .ok (.enter g args) w)
    (hg : ∀ p w, p.length ≤ 1000000 → Calls Tryz.prog g #[.string (str p)] w fun e w' => e = .returned (.bool (f p)) ∧ w = w') (l : List UInt8) (hm : l.length ≤ 1000000) (W : World) :
    CallsIn Fence.wide 8 Tryz.prog 49 #[.string (str l), .func (.func g) #[] #[]] W fun e w' => e = .returned (.bool ((parts l).all f)) ∧ Below W.heap.size W w' := by
  refine callsIn_of_wp_marks Tryz.func49 rfl trivial ?_ rfl
  simp only [Tryz.ntmps49, List.size_toArray, List.length_cons, List.length_nil, Nat.reduceAdd, Nat.reduceSub, Array.replicate_succ, Array.replicate_zero, List.push_toArray, List.append_toArray, List.nil_append, List.cons_append]
  gi_wp2_with fail
  refine ⟨trivial, ?_⟩
  refine (callsIn_wide.2 (atoms_any _ _)).mono ?_
  rintro e w' ⟨rfl, rfl⟩
  have k1 := ((Boxed.new W 65 (.func (.func g) #[] #[])).alloc (.cells #[.bool false] 4)).alloc (.cells #[.string (str l)] 9)
  have k2 : Boxed (((W.alloc (.cells #[.func (.func g) #[] #[]] 65)).alloc (.cells #[.bool false] 4)).alloc (.cells #[.string (str l)] 9)) (W.heap.size + 1) 4 (.bool false) := by
    have := (Boxed.new (W.alloc (.cells #[.func (.func g) #[] #[]] 65)) 4 (.bool false)).alloc (.cells #[.string (str l)] 9)
    rwa [World.size_alloc] at this
  have k3 : Boxed (((W.alloc (.cells #[.func (.func g) #[] #[]] 65)).alloc (.cells #[.bool false] 4)).alloc (.cells #[.string (str l)] 9)) (W.heap.size + 2) 9 (.string (str l)) := by
    have := Boxed.new ((W.alloc (.cells #[.func (.func g) #[] #[]] 65)).alloc (.cells #[.bool false] 4)) 9 (.string (str l))
    rwa [World.size_alloc, World.size_alloc] at this
  have kB : Below W.heap.size W (((W.alloc (.cells #[.func (.func g) #[] #[]] 65)).alloc (.cells #[.bool false] 4)).alloc (.cells #[.string (str l)] 9)) := (((Below.refl _ W).alloc (Nat.le_refl _) _).alloc (by simp) _).alloc (by simp; omega) _
  have kz : W.heap.size + 3 = (((W.alloc (.cells #[.func (.func g) #[] #[]] 65)).alloc (.cells #[.bool false] 4)).alloc (.cells #[.string (str l)] 9)).heap.size := by simp
  gi_wp2_with fail
  generalize ((W.alloc (.cells #[.func (.func g) #[] #[]] 65)).alloc (.cells #[.bool false] 4)).alloc (.cells #[.string (str l)] 9) = W3 at *
  refine wpIn_rangeFunc_ownG rfl (by omega) (gf := 85) (lb := #[.pointer (some ⟨W.heap.size + 2, 0, none⟩)]) rfl trivial (enters_of Tryz.func85 (by kernel_rfl) rfl)
    (atoms_stops 7 (by omega) W3 (W.heap.size + 2) W.heap.size l k3 (by omega) hm) belowK_t (belowK_b (by omega)) (Below.refl _ _) (fun _ => rfl)
    (EaI W.heap.size g f W) (EaX W.heap.size f W) (eaI_own (by omega) g f W) (fun c => eaX_own (by omega) f W c) ⟨k1, k2, rfl, kB, by omega⟩
    (fun x => { tmps := #[.string (str l), .func (.func g) #[] #[], undef, .pointer (some ⟨W.heap.size, 0, none⟩), .pointer (some ⟨W.heap.size + 1, 0, none⟩), .string (str x.1), .string (str l), .func (.func 85) #[] #[.pointer (some ⟨W.heap.size + 2, 0, none⟩)], .string (str x.1), undef, undef, undef, undef], defers := [] }) ?assign ?body ?done ?stop
  case assign =>
    intro lp x X K' hK'
    dsimp only [encP]
    gi_wp2
    exact hK'
  case body =>
    rintro lp pre ⟨p, hp1⟩ X ⟨b1, b2, b3, b4, b5⟩ hlen
    dsimp only
    have c1 := b1.cell
    have c2 := b2.cell
    have f2 := b2.frozen
    have l1 := b1.lt
    have l2 := b2.lt
    have HG := Lib.hid (fun w => hg p w hp1)
    have B3 : Hid (((pre ++ [(⟨p, hp1⟩ : Part)]).map Subtype.val).all f = f p) := Lib.hid (by rw [List.map_append, List.all_append, b3]; simp)
    have B1 := Lib.hid b1
    have B2 := Lib.hid b2
    have B4 := Lib.hid b4
    clear b1 b2 b3 b4 k1 k2 k3
    generalize hf : f p = fp at *
    gi_wp2_with fail
    refine ⟨trivial, CallsIn.inRound lp (callsIn_wide.2 ((HG.out _).mono ?_))⟩
    rintro e w' ⟨rfl, rfl⟩
    cases fp with
    | true =>
      gi_wp2_with fail
      exact ⟨KeepsFrom.refl _ _, Below.refl _ _, B1.out, B2.out, B3.out, B4.out, b5⟩
    | false =>
      gi_wp2_with fail
      exact ⟨(KeepsOthers.setCell _ _ _).from _, rfl, B2.out.set _, B3.out, B4.out.setCell (by show W.heap.size ≤ W.heap.size + 1; omega) _, by simpa using b5⟩
  case done =>
    rintro D xs X hD hS ⟨b1, b2, b3, b4, b5⟩ hKd
    have HA : Hid (true = (parts l).all f) := Lib.hid (by rw [← hS]; exact b3.symm)
    have c2 := b2.cell
    have f2 := b2.frozen
    have hDX : D < X.heap.size := (Array.getElem?_eq_some_iff.1 hKd).1
    have hK2 : (X.setCell ⟨W.heap.size + 1, 0, none⟩ (.bool true)).heap[D]? = some (.deferred (some [])) := (KeepsOthers.setCell _ _ _).same D _ hKd rfl
    have hb2 : Below W.heap.size W (X.setCell ⟨W.heap.size + 1, 0, none⟩ (.bool true)) := b4.setCell (by show W.heap.size ≤ W.heap.size + 1; omega) _
    have B2 := (b2.set (.bool true)).kept (grownBy_putObj' _ D (.deferred none)) (by intro e; injection e with e; omega)
    have hb3 : Below W.heap.size W ((X.setCell ⟨W.heap.size + 1, 0, none⟩ (.bool true)).putObj D (.deferred none)) := hb2.grown (grownBy_putObj' _ D (.deferred none)) (by have := hb2.size; omega) (fun k e => by injection e with e; omega)
    have c3 := B2.cell
    clear hS b1 b2 b3 b4 k1 k2 k3 hg
    gi_wp2
    refine ⟨by simp, .inl ⟨_, _, rfl, run_takeDeferred hK2, ?_⟩⟩
    generalize (X.setCell ⟨W.heap.size + 1, 0, none⟩ (.bool true)).putObj D (.deferred none) = Z at *
    exact ⟨.bool true, by simp [results, Tryz.results49, go_sem, c3], by rw [HA.out], hb3⟩
  case stop =>
    rintro D c pre X hD hSp ⟨rfl, b2, b3, b4, b5⟩ hKd
    have HA : Hid (false = (parts l).all f) := Lib.hid (by
      obtain ⟨t, ht⟩ := hSp
      rw [← ht, List.all_append, b3]; rfl)
    have hDX : D < X.heap.size := (Array.getElem?_eq_some_iff.1 hKd).1
    have B2 := b2.kept (grownBy_putObj' _ D (.deferred none)) (by intro e; injection e with e; omega)
    have hb3 : Below W.heap.size W (X.putObj D (.deferred none)) := b4.grown (grownBy_putObj' _ D (.deferred none)) (by omega) (fun k e => by injection e with e; omega)
    have c3 := B2.cell
    clear hSp b2 b3 b4 k1 k2 k3 hg
    gi_wp2
    refine ⟨by simp, .inl ⟨_, _, rfl, run_takeDeferred hKd, ?_⟩⟩
    generalize X.putObj D (.deferred none) = Z at *
    exact ⟨.bool false, by simp [results, Tryz.results49, go_sem, c3], by rw [HA.out], hb3⟩
theorem each_any (g : FuncId) (f : List UInt8 → Bool) (eg : ∀ args w, (callFunc g args).run Tryz.prog w = .ok (.enter g args) w)
    (hg : ∀ p w, p.length ≤ 1000000 → Calls Tryz.prog g #[.string (str p)] w fun e w' => e = .returned (.bool (f p)) ∧ w = w') (l : List UInt8) (hm : l.length ≤ 1000000) (W : World) :
    Calls Tryz.prog 49 #[.string (str l), .func (.func g) #[] #[]] W fun e w' => e = .returned (.bool ((parts l).all f)) ∧ Below W.heap.size W w' := callsIn_wide.1 (each_in g f eg hg l hm W)
theorem each_lab (l : List UInt8) (hm : l.length ≤ 1000000) (W : World) :
    Calls Tryz.prog 49 #[.string (str l), .func (.func 67) #[] #[]] W fun e w' => e = .returned (.bool ((parts l).all labS)) ∧ Below W.heap.size W w' :=
  each_any _ labS (enters_of Tryz.func67 (by kernel_rfl) rfl) (fun p w h => label_any p w h) l hm W
theorem each_at (l : List UInt8) (hm : l.length ≤ 1000000) (W : World) :
    Calls Tryz.prog 49 #[.string (str l), .func (.func 50) #[] #[]] W fun e w' => e = .returned (.bool ((parts l).all atS)) ∧ Below W.heap.size W w' :=
  each_any _ atS (enters_of Tryz.func50 (by kernel_rfl) rfl) (fun p w h => atom_any p w h) l hm W
theorem domain_any (l : List UInt8) (hm : l.length ≤ 140737488355328) (W : World) :
    Calls Tryz.prog 51 #[.string (str l)] W fun e w' => e = .returned (.bool (domS l)) ∧ Below W.heap.size W w' := by
  have hsz := str_size l
  by_cases h : l.length ≤ 255
  · have HE := Lib.hid (each_lab l (by omega))
    have hd : domS l = (parts l).all labS := by unfold domS; rw [decide_eq_true h]; simp
    rw [hd]
    generalize (parts l).all labS = b at *
    generalize str l = s at *
    cases b with
    | false =>
      go_enter Tryz.func51, Tryz.ntmps51
      go_wp2_with (first | (refine (HE.out _).mono ?_; rintro e w' ⟨rfl, hb⟩) | fail)
      go_ret
      exact ⟨rfl, hb⟩
    | true =>
      go_enter Tryz.func51, Tryz.ntmps51
      go_wp2_with (first | (refine (HE.out _).mono ?_; rintro e w' ⟨rfl, hb⟩) | fail)
      go_ret
      exact ⟨rfl, hb⟩
  · have hd : domS l = false := by unfold domS; rw [decide_eq_false h]; simp
    rw [hd]
    generalize str l = s at *
    go_enter Tryz.func51, Tryz.ntmps51
    go_wp2_with fail
    go_ret
    exact ⟨rfl, Below.refl _ _⟩
theorem mailbox_any (l : List UInt8) (hm : l.length ≤ 140737488355328) (W : World) :
    Calls Tryz.prog 35 #[.string (str l)] W fun e w' => e = .returned (.bool (mailS l)) ∧ Below W.heap.size W w' := by
  have HC := Lib.hid (fun W => pcut_any l W hm)
  obtain ⟨q1, q2⟩ := loc_len l
  have hsz := str_size (loc l)
  have HE : (loc l).length ≤ 64 → Hid (∀ W, Calls Tryz.prog 49 #[.string (str (loc l)), .func (.func 50) #[] #[]] W fun e w' => e = .returned (.bool ((parts (loc l)).all atS)) ∧ Below W.heap.size W w') := fun h => Lib.hid (each_at (loc l) (by omega))
  have HD := Lib.hid (domain_any (dom l) (by omega))
  have hms : mailS l = (decide ((loc l).length ≤ 64) && (parts (loc l)).all atS && domS (dom l)) := rfl
  have HB : Hid (∀ n, Below W.heap.size W (W.drewN n)) := Lib.hid (fun n => ⟨rfl, rfl, rfl, Nat.le_refl _, fun _ _ => rfl⟩)
  rw [hms]
  clear hms q1 q2
  generalize (parts (loc l)).all atS = b at *
  generalize domS (dom l) = d at *
  generalize str (dom l) = sd at *
  generalize hlo : (loc l).length = n at *
  generalize str (loc l) = sl at *
  by_cases h : n ≤ 64
  · replace HE := HE h
    rw [decide_eq_true h, Bool.true_and]
    cases b with
    | false =>
      go_enter Tryz.func35, Tryz.ntmps35
      go_wp2_with (first
        | (refine (HC.out _).mono ?_; rintro e w' ⟨rfl, k, rfl⟩)
        | (refine (HE.out _).mono ?_; rintro e w' ⟨rfl, hb⟩)
        | fail)
      go_ret
      exact ⟨rfl, (HB.out _).trans hb⟩
    | true =>
      go_enter Tryz.func35, Tryz.ntmps35
      go_wp2_with (first
        | (go_at_call 48; refine (HC.out _).mono ?_; rintro e w' ⟨rfl, k, rfl⟩)
        | (go_at_call 49; refine (HE.out _).mono ?_; rintro e w' ⟨rfl, hb⟩)
        | (go_at_call 51; refine (HD.out _).mono ?_; rintro e w'' ⟨rfl, hb2⟩)
        | fail)
      go_ret
      exact ⟨rfl, ((HB.out _).trans hb).trans (hb2.mono ((HB.out k).trans hb).size)⟩
  · clear HE
    rw [decide_eq_false h]
    go_enter Tryz.func35, Tryz.ntmps35
    go_wp2_with (first
      | (refine (HC.out _).mono ?_; rintro e w' ⟨rfl, k, rfl⟩)
      | fail)
    go_ret
    exact ⟨rfl, HB.out _⟩
end Pa
end Go.Proofs.YtpfonpjcnpfipaaGreatDoor
