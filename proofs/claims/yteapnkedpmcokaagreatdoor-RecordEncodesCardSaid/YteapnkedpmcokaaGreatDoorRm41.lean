/- RcWrD. Conditions: as stated at each. -/
import Derived.Test.YteapnkedpmcokaaGreatDoorRm40
import Derived.Test.YteapnkedpmcokaaGreatDoorRm27
/- The writer's hold and lift. Conditions: as stated at each. -/
namespace Go.Proofs.YteapnkedpmcokaaGreatDoor
set_option maxRecDepth 100000
namespace Rc
open Go.RowKit Go Go.Proofs.YteapnkedpmcokaaGreatDoor.Pa
attribute [local go_sem] Oper.semAt_some
theorem put_two_len {a c : L} (h1 : a.length ≤ 100000) (h2 : c.length ≤ 100000) : (En.putS [a, c]).length ≤ 200064 := by
  have := En.put_len 100000 [a, c] (fun p hp => by
    rcases List.mem_cons.1 hp with rfl | hp
    · exact h1
    · rcases List.mem_cons.1 hp with rfl | hp
      · exact h2
      · cases hp) (by omega)
  simp at this
  omega
theorem put_one_len {a : L} (h1 : a.length ≤ 100000) : (En.putS [a]).length ≤ 100032 := by
  have := En.put_len 100000 [a] (fun p hp => by
    rcases List.mem_cons.1 hp with rfl | hp
    · exact h1
    · cases hp) (by omega)
  simp at this
  omega
set_option maxHeartbeats 6400000 in
theorem wlift_any {W : World} {g M B : Nat} {X : List Value} {vb : Value} {l : L} {r : R} (hW : WrS W g X vb) (hO : Own5 W M vb l) (hR : RecAt W B X r) (hM : M ≤ W.heap.size) (hs : SmallR r) (hl : l.length ≤ 100) (hG : En.GlT W) :
    Calls Tryz.prog 102 #[.pointer (some ⟨g, 0, none⟩)] W (WrP W g M X (Ho.holdS (r.nm, [])) 160 (l ++ En.putS [r.nm])) := by
  obtain ⟨v1, v2, rfl, _, hk⟩ := hR
  have hh := (fields hW.rng hk).h
  have c107 : W.cell? ⟨g, 107, none⟩ = some (.string (str r.nm)) := hh 0 _ rfl
  have HMY : Hid (∀ X, Calls Tryz.prog 106 #[.agg #[.string (str r.nm), .string ⟨#[]⟩]] X fun e w' => e = .returned (.bool (Ho.holdS (r.nm, []))) ∧ Below X.heap.size X w') := Lib.hid (fun (X : World) => rmay_any r.nm [] X hs.nm (by simp))
  have HC0 := Lib.hid (En.run_bts r.nm (by have := hs.nm; omega))
  have HTL := Lib.hid (put_one_len hs.nm)
  have HGT := Lib.hid (fun (X : World) (hX : Below W.heap.size W X) => hG.below hX hG.lt)
  have HPU : Hid (∀ (X : World) (A : Option Addr) (c : Nat), Below W.heap.size W X → Bts X X.heap.size A r.nm → r.nm.length ≤ c → c ≤ maxLen → Calls Tryz.prog 107 #[.slice (some ⟨X.heap.size, 0, none⟩) 1 1] (X.alloc (.cells #[.slice A r.nm.length c] 25)) (En.OutP (X.alloc (.cells #[.slice A r.nm.length c] 25)) (En.putS [r.nm]))) := Lib.hid fun X A c hX hx h1 h2 =>
    En.put_any ((Rws.one hx (Nat.le_refl _) h1 h2).more (by simp)) 1 1 rfl (by have := HTL.out; omega) (HGT.out _ (hX.alloc hX.size _))
  have HW := Lib.hid hW
  have HO := Lib.hid hO
  unfold En.OutP at HPU
  clear hh hk hW hO hs hG
  generalize rc r v1 v2 = X at *
  generalize Ho.holdS (r.nm, []) = ok at *
  generalize En.putS [r.nm] = t at *
  generalize str r.nm = s0 at *
  generalize r.nm = nm at *
  have hgl := HW.out.lt
  go_enter Tryz.func102, Tryz.ntmps102
  go_wp2_with fail
  refine (HMY.out _).mono ?_
  rintro e w3 ⟨rfl, hb3⟩
  have HB3 := Lib.hid hb3
  have HW3 := Lib.hid (HW.out.below HB3.out hgl)
  have HO3 := Lib.hid (own_kept HO.out HB3.out (Nat.le_refl _))
  have HF3 : Hid (Fr g M W w3) := Lib.hid (fr_below HB3.out)
  have hsz3 := HB3.out.size
  clear hb3 HMY HW HO c107
  cases ok with
  | false =>
    go_wp2_with (first
      | (go_at_call 60; refine (need_f (by first | rfl | (simp; done)) _).mono ?_; rintro e w' ⟨rfl, rfl⟩)
      | fail)
    refine ⟨rfl, ?_⟩
    unfold WrP
    exact ⟨HF3.out, .inr ⟨rfl, rfl⟩⟩
  | true =>
    go_wp2_with (first
      | (go_at_call 60; refine (need_t (by first | rfl | (simp; done)) _).mono ?_; rintro e w' ⟨rfl, rfl⟩)
      | fail)
    have HB5 : Hid (Below W.heap.size W w3.drew) := Lib.hid HB3.out.drew
    have HW5 : Hid (WrS w3.drew g X vb) := Lib.hid ⟨HW3.out.blk, HW3.out.len⟩
    have HO5 : Hid (Own5 w3.drew M vb l) := Lib.hid HO3.out
    have HF5 : Hid (Fr g M W w3.drew) := Lib.hid HF3.out.drew
    have hsz5 : W.heap.size ≤ w3.drew.heap.size := hsz3
    clear HB3 HW3 HO3 HF3 hsz3
    refine wp_region_key ((fun Y => WrS Y g X vb)) 12 (by kernel_rfl) (HW5.out) (fun hHeld => ?_)
    generalize w3.drew = w5 at *
    refine wpAnyK_take (i := 0) (v := .pointer (some ⟨g, 0, none⟩)) rfl (by kernel_rfl) (by kernel_rfl) (by kernel_rfl) (by kernel_rfl) (fun _ _ _ h => h) (Or.inl ⟨by rfl, fun w hS => by first | (go_simp; done) | (go_simp; with_reducible rfl)⟩) hHeld ?_
    try simp only [Act.put, List.getElem_toArray, List.getElem_cons_zero, List.setIfInBounds_toArray, List.set_cons_zero, List.set_cons_succ]
    refine wpAnyK_take (i := 1) (v := .pointer (some ⟨g, 0, none⟩)) rfl (by kernel_rfl) (by kernel_rfl) (by kernel_rfl) (by kernel_rfl) (fun _ _ _ h => h) (Or.inl ⟨by rfl, fun w hS => by first | (go_simp; done) | (go_simp; with_reducible rfl)⟩) hHeld ?_
    try simp only [Act.put, List.getElem_toArray, List.getElem_cons_zero, List.getElem_cons_succ, List.setIfInBounds_toArray, List.set_cons_zero, List.set_cons_succ]
    refine wpAnyK_take (i := 2) (v := .pointer (some ⟨g, 0, none⟩)) rfl (by kernel_rfl) (by kernel_rfl) (by kernel_rfl) (by kernel_rfl) (fun _ _ _ h => h) (Or.inl ⟨by rfl, fun w hS => by (have c := hS.b; first | (go_simp; done) | (go_simp; with_reducible rfl))⟩) hHeld ?_
    try simp only [Act.put, List.getElem_toArray, List.getElem_cons_zero, List.getElem_cons_succ, List.setIfInBounds_toArray, List.set_cons_zero, List.set_cons_succ]
    refine wpAnyK_take (i := 3) (v := .pointer (some ⟨g, 109, none⟩)) rfl (by kernel_rfl) (by kernel_rfl) (by kernel_rfl) (by kernel_rfl) (fun _ _ _ h => h) (Or.inl ⟨by rfl, fun w hS => by first | (go_simp; done) | (go_simp; with_reducible rfl)⟩) hHeld ?_
    try simp only [Act.put, List.getElem_toArray, List.getElem_cons_zero, List.getElem_cons_succ, List.setIfInBounds_toArray, List.set_cons_zero, List.set_cons_succ]
    refine wpAnyK_take (i := 4) (v := vb) rfl (by kernel_rfl) (by kernel_rfl) (by kernel_rfl) (by kernel_rfl) (fun _ _ _ h => h) (Or.inl ⟨by rfl, fun w hS => by (have c := hS.b; first | (go_simp; done) | (go_simp; with_reducible rfl))⟩) hHeld ?_
    try simp only [Act.put, List.getElem_toArray, List.getElem_cons_zero, List.getElem_cons_succ, List.setIfInBounds_toArray, List.set_cons_zero, List.set_cons_succ]
    refine wpAnyK_take (i := 5) (v := .string s0) rfl (by kernel_rfl) (by kernel_rfl) (by kernel_rfl) (by kernel_rfl) (fun _ _ _ h => h) (Or.inl ⟨by rfl, fun w hS => by first | (go_simp; done) | (go_simp; with_reducible rfl)⟩) hHeld ?_
    try simp only [Act.put, List.getElem_toArray, List.getElem_cons_zero, List.getElem_cons_succ, List.setIfInBounds_toArray, List.set_cons_zero, List.set_cons_succ]
    obtain ⟨c0, Z, hrun0, h0c, h0m, h0b, h0k, h0s⟩ := HC0.out w5
    have HWY := Lib.hid (HW5.out.below h0k HW5.out.lt)
    refine wpAnyK_ready (rs := [6]) (by kernel_rfl) (by simp) ?_
    refine AllReadyK.cons rfl (fun K hK => ?_) AllReadyK.nil
    go_simp
    refine hK.out _ _ ?_ (fun hHeld => ?_)
    · exact HWY.out
    clear hK K
    try simp only [Act.put, List.getElem_toArray, List.getElem_cons_zero, List.getElem_cons_succ, List.setIfInBounds_toArray, List.set_cons_zero, List.set_cons_succ]
    have HBW := Lib.hid (HB5.out.trans (h0k.mono hsz5))
    have hszZ := h0k.size
    have HWZ := Lib.hid (HWY.out.alloc (.cells #[.slice (some ⟨w5.heap.size, 0, none⟩) nm.length c0] 25))
    have HOZ : Hid (Own5 (Z.alloc (.cells #[.slice (some ⟨w5.heap.size, 0, none⟩) nm.length c0] 25)) M vb l) := Lib.hid (own_kept HO5.out (h0k.trans ((Below.refl _ Z).alloc hszZ _)) (Nat.le_refl _))
    have HFZ : Hid (Fr g M W (Z.alloc (.cells #[.slice (some ⟨w5.heap.size, 0, none⟩) nm.length c0] 25))) := Lib.hid ((HF5.out.on h0k).alloc _)
    have HPV := Lib.hid (HPU.out Z (some ⟨w5.heap.size, 0, none⟩) c0 HBW.out (h0b.more (by omega)) h0c h0m)
    clear HPU HBW HW5 HO5 HF5 HB5 HWY hrun0 h0c h0m h0b h0k h0s HC0 hHeld
    have hHeld := HWZ.out
    generalize nm.length = n0 at *
    generalize w5.heap.size = b0 at *
    refine wpAnyK_ready (rs := [7]) (by kernel_rfl) (by simp) ?_
    refine AllReadyK.cons rfl (fun K hK => ?_) AllReadyK.nil
    go_simp
    refine hK.out _ _ ?_ (fun hHeld => ?_)
    · exact HWZ.out
    clear hK K
    try simp only [Act.put, List.getElem_toArray, List.getElem_cons_zero, List.getElem_cons_succ, List.setIfInBounds_toArray, List.set_cons_zero, List.set_cons_succ]
    have hszA : Z.heap.size ≤ (Z.alloc (.cells #[.slice (some ⟨b0, 0, none⟩) n0 c0] 25)).heap.size := by simp
    generalize Z.alloc (.cells #[.slice (some ⟨b0, 0, none⟩) n0 c0] 25) = w7 at *
    refine wpAnyK_ready (rs := [8]) (by kernel_rfl) (by simp) ?_
    refine AllReadyK.cons rfl (fun K hK => ?_) AllReadyK.nil
    go_simp
    go_wp2_with ((refine HPV.out.mono ?_; rintro e w8 ⟨v8, rfl, ho8, hb8⟩))
    refine hK.out _ _ ?_ (fun hHeld => ?_)
    · exact HWZ.out.below hb8 HWZ.out.lt
    clear hK K
    try simp only [Act.put, List.getElem_toArray, List.getElem_cons_zero, List.getElem_cons_succ, List.setIfInBounds_toArray, List.set_cons_zero, List.set_cons_succ]
    have HW8 := Lib.hid (HWZ.out.below hb8 HWZ.out.lt)
    have HO8 := Lib.hid (own_kept HOZ.out hb8 (Nat.le_refl _))
    have HF8 : Hid (Fr g M W w8) := Lib.hid (HFZ.out.on hb8)
    have HV8 := Lib.hid ho8
    obtain ⟨A8, c8, rfl, _, _⟩ := own_slice ho8
    have hsz8 := hb8.size
    clear ho8 hb8 HPV HWZ HOZ HFZ
    refine wpAnyK_ready (rs := [9]) (by kernel_rfl) (by simp) ?_
    refine AllReadyK.cons rfl (fun K hK => ?_) AllReadyK.nil
    (refine En.step5 (.tmp 17) (.tmp 21) rfl rfl (N := M) (l := l) (m := t) rfl HO8.out (c := c8) rfl HV8.out.bts (by have := HTL.out; omega) (by omega) ?_; intro v9 w9 h9 g9; obtain ⟨A9, c9, rfl, _, _⟩ := own_slice h9)
    refine hK.out _ _ ?_ (fun hHeld => ?_)
    · exact HW8.out.own HO8.out g9
    clear hK K
    try simp only [Act.put, List.getElem_toArray, List.getElem_cons_zero, List.getElem_cons_succ, List.setIfInBounds_toArray, List.set_cons_zero, List.set_cons_succ]
    have HF9 : Hid (Fr g M W w9) := Lib.hid (Fr.app HF8.out HO8.out g9)
    have HW9 : Hid (WrS w9 g X vb) := Lib.hid (HW8.out.own HO8.out g9)
    have HO9 : Hid (Own5 w9 M (.slice A9 (l ++ t).length c9) (l ++ t)) := Lib.hid h9
    clear h9 g9 HW8 HO8 HF8 HV8
    generalize (l ++ t).length = n9 at *
    refine wpAnyK_take (i := 10) (v := .pointer (some ⟨g, 0, none⟩)) rfl (by kernel_rfl) (by kernel_rfl) (by kernel_rfl) (by kernel_rfl) (fun _ _ _ h => h) (Or.inl ⟨by rfl, fun w hS => by (have c := HW9.out.b; first | (go_simp; done) | (go_simp; with_reducible rfl))⟩) hHeld ?_
    try simp only [Act.put, List.getElem_toArray, List.getElem_cons_zero, List.getElem_cons_succ, List.setIfInBounds_toArray, List.set_cons_zero, List.set_cons_succ]
    refine wpAnyK_take (i := 11) (v := .pointer (some ⟨g, 109, none⟩)) rfl (by kernel_rfl) (by kernel_rfl) (by kernel_rfl) (by kernel_rfl) (fun _ _ _ h => h) (Or.inl ⟨by rfl, fun w hS => by first | (go_simp; done) | (go_simp; with_reducible rfl)⟩) hHeld ?_
    try simp only [Act.put, List.getElem_toArray, List.getElem_cons_zero, List.getElem_cons_succ, List.setIfInBounds_toArray, List.set_cons_zero, List.set_cons_succ]
    have cb := HW9.out.b
    have cf := HW9.out.froz
    refine wpAnyK_ready (rs := [12]) (by kernel_rfl) (by simp) ?_
    refine AllReadyK.late rfl (by kernel_rfl) (fun K hK => ?_) AllReadyK.nil
    go_simp
    refine hK.out _ _ ?_ (fun _ => ?_)
    · trivial
    clear hK K
    try simp only [Act.put, List.getElem_toArray, List.getElem_cons_zero, List.getElem_cons_succ, List.setIfInBounds_toArray, List.set_cons_zero, List.set_cons_succ]
    refine wpAnyK_done (by kernel_rfl) ?_ _
    go_wp2_with fail
    go_end0
    unfold WrP
    exact ⟨HF9.out.put 109 _, .inl ⟨rfl, rfl, .slice A9 n9 c9, HW9.out.put _, En.own_far HO9.out (fun g' hg' e => En.own_blk HO9.out HW9.out.blk (by decide) (by rw [hg', e])) _⟩⟩
set_option maxHeartbeats 6400000 in
theorem whold_any {W : World} {g M B : Nat} {X : List Value} {vb : Value} {l : L} {r : R} (hW : WrS W g X vb) (hO : Own5 W M vb l) (hR : RecAt W B X r) (hM : M ≤ W.heap.size) (hs : SmallR r) (hl : l.length ≤ 100) (hG : En.GlT W) :
    Calls Tryz.prog 101 #[.pointer (some ⟨g, 0, none⟩)] W (WrP W g M X (Ho.holdS (r.nm, r.who)) 160 (l ++ En.putS [r.nm, r.who])) := by
  obtain ⟨v1, v2, rfl, _, hk⟩ := hR
  have hh := (fields hW.rng hk).h
  have c107 : W.cell? ⟨g, 107, none⟩ = some (.string (str r.nm)) := hh 0 _ rfl
  have c108 : W.cell? ⟨g, 108, none⟩ = some (.string (str r.who)) := hh 1 _ rfl
  have HMY := Lib.hid (fun (X : World) => rmay_any r.nm r.who X hs.nm hs.who)
  have HC0 := Lib.hid (En.run_bts r.nm (by have := hs.nm; omega))
  have HC1 := Lib.hid (En.run_bts r.who (by have := hs.who; omega))
  have HTL := Lib.hid (put_two_len hs.nm hs.who)
  have HGT := Lib.hid (fun (X : World) (hX : Below W.heap.size W X) => hG.below hX hG.lt)
  have HPU : Hid (∀ (X : World) (x y : Value), Below W.heap.size W X → En.SlV X x r.nm → En.SlV X y r.who → Calls Tryz.prog 107 #[.slice (some ⟨X.heap.size, 0, none⟩) 2 2] (X.alloc (.cells #[x, y] 25)) (En.OutP (X.alloc (.cells #[x, y] 25)) (En.putS [r.nm, r.who]))) := Lib.hid fun X x y hX hx hy =>
    En.put_any ((En.rws_two hx hy).more (by simp)) 2 2 rfl (by have := HTL.out; omega) (HGT.out _ (hX.alloc hX.size _))
  have HW := Lib.hid hW
  have HO := Lib.hid hO
  unfold En.OutP En.SlV at HPU
  clear hh hk hW hO hs hG
  generalize rc r v1 v2 = X at *
  generalize Ho.holdS (r.nm, r.who) = ok at *
  generalize En.putS [r.nm, r.who] = t at *
  generalize str r.nm = s0 at *
  generalize str r.who = s1 at *
  generalize r.nm = nm at *
  generalize r.who = wh at *
  have hgl := HW.out.lt
  have hne : W.heap.size ≠ g := by omega
  have HW1 := Lib.hid (HW.out.alloc (.cells #[.string s0, .string s1] 34))
  have HB1 : Hid (Below W.heap.size W (W.alloc (.cells #[.string s0, .string s1] 34))) := Lib.hid ((Below.refl _ W).alloc (Nat.le_refl _) _)
  have HP1 := Lib.hid (BlkIs.new W 34 #[.string s0, .string s1])
  go_enter Tryz.func101, Tryz.ntmps101
  go_wp2_with fail
  generalize W.alloc (.cells #[.string s0, .string s1] 34) = w1 at *
  refine (HMY.out _).mono ?_
  rintro e w3 ⟨rfl, hb3⟩
  have HB3 := Lib.hid (HB1.out.trans (hb3.mono HB1.out.size))
  have HW3 := Lib.hid (HW.out.below HB3.out hgl)
  have HO3 := Lib.hid (own_kept HO.out HB3.out (Nat.le_refl _))
  have HF3 : Hid (Fr g M W w3) := Lib.hid (fr_below HB3.out)
  have HP3 : Hid (BlkIs w3 W.heap.size 34 #[.string s0, .string s1]) := Lib.hid ((hb3.block _ HP1.out.lt).trans HP1.out)
  have hsz3 := HB3.out.size
  clear hb3 HMY HW1 HB1 HP1 HW HO c107 c108
  cases ok with
  | false =>
    go_wp2_with (first
      | (go_at_call 60; refine (need_f (by first | rfl | (simp; done)) _).mono ?_; rintro e w' ⟨rfl, rfl⟩)
      | fail)
    refine ⟨rfl, ?_⟩
    unfold WrP
    exact ⟨HF3.out, .inr ⟨rfl, rfl⟩⟩
  | true =>
    go_wp2_with (first
      | (go_at_call 60; refine (need_t (by first | rfl | (simp; done)) _).mono ?_; rintro e w' ⟨rfl, rfl⟩)
      | fail)
    have HB5 : Hid (Below W.heap.size W w3.drew) := Lib.hid HB3.out.drew
    have HW5 : Hid (WrS w3.drew g X vb) := Lib.hid ⟨HW3.out.blk, HW3.out.len⟩
    have HO5 : Hid (Own5 w3.drew M vb l) := Lib.hid HO3.out
    have HF5 : Hid (Fr g M W w3.drew) := Lib.hid HF3.out.drew
    have HP5 : Hid (BlkIs w3.drew W.heap.size 34 #[.string s0, .string s1]) := Lib.hid HP3.out
    have hsz5 : W.heap.size ≤ w3.drew.heap.size := hsz3
    clear HB3 HW3 HO3 HF3 HP3 hsz3
    refine wp_region_key ((fun Y => WrS Y g X vb ∧ BlkIs Y W.heap.size 34 #[.string s0, .string s1])) 16 (by kernel_rfl) (⟨HW5.out, HP5.out⟩) (fun hHeld => ?_)
    generalize w3.drew = w5 at *
    refine wpAnyK_take (i := 0) (v := .pointer (some ⟨g, 0, none⟩)) rfl (by kernel_rfl) (by kernel_rfl) (by kernel_rfl) (by kernel_rfl) (fun _ _ _ h => h) (Or.inl ⟨by rfl, fun w hS => by first | (go_simp; done) | (go_simp; with_reducible rfl)⟩) hHeld ?_
    try simp only [Act.put, List.getElem_toArray, List.getElem_cons_zero, List.setIfInBounds_toArray, List.set_cons_zero, List.set_cons_succ]
    refine wpAnyK_take (i := 1) (v := .pointer (some ⟨g, 0, none⟩)) rfl (by kernel_rfl) (by kernel_rfl) (by kernel_rfl) (by kernel_rfl) (fun _ _ _ h => h) (Or.inl ⟨by rfl, fun w hS => by first | (go_simp; done) | (go_simp; with_reducible rfl)⟩) hHeld ?_
    try simp only [Act.put, List.getElem_toArray, List.getElem_cons_zero, List.getElem_cons_succ, List.setIfInBounds_toArray, List.set_cons_zero, List.set_cons_succ]
    refine wpAnyK_take (i := 2) (v := .pointer (some ⟨g, 0, none⟩)) rfl (by kernel_rfl) (by kernel_rfl) (by kernel_rfl) (by kernel_rfl) (fun _ _ _ h => h) (Or.inl ⟨by rfl, fun w hS => by (have c := hS.1.b; first | (go_simp; done) | (go_simp; with_reducible rfl))⟩) hHeld ?_
    try simp only [Act.put, List.getElem_toArray, List.getElem_cons_zero, List.getElem_cons_succ, List.setIfInBounds_toArray, List.set_cons_zero, List.set_cons_succ]
    refine wpAnyK_take (i := 3) (v := .pointer (some ⟨g, 109, none⟩)) rfl (by kernel_rfl) (by kernel_rfl) (by kernel_rfl) (by kernel_rfl) (fun _ _ _ h => h) (Or.inl ⟨by rfl, fun w hS => by first | (go_simp; done) | (go_simp; with_reducible rfl)⟩) hHeld ?_
    try simp only [Act.put, List.getElem_toArray, List.getElem_cons_zero, List.getElem_cons_succ, List.setIfInBounds_toArray, List.set_cons_zero, List.set_cons_succ]
    refine wpAnyK_take (i := 4) (v := vb) rfl (by kernel_rfl) (by kernel_rfl) (by kernel_rfl) (by kernel_rfl) (fun _ _ _ h => h) (Or.inl ⟨by rfl, fun w hS => by (have c := hS.1.b; first | (go_simp; done) | (go_simp; with_reducible rfl))⟩) hHeld ?_
    try simp only [Act.put, List.getElem_toArray, List.getElem_cons_zero, List.getElem_cons_succ, List.setIfInBounds_toArray, List.set_cons_zero, List.set_cons_succ]
    refine wpAnyK_take (i := 5) (v := .pointer (some ⟨W.heap.size, 0, none⟩)) rfl (by kernel_rfl) (by kernel_rfl) (by kernel_rfl) (by kernel_rfl) (fun _ _ _ h => h) (Or.inl ⟨by rfl, fun w hS => by first | (go_simp; done) | (go_simp; with_reducible rfl)⟩) hHeld ?_
    try simp only [Act.put, List.getElem_toArray, List.getElem_cons_zero, List.getElem_cons_succ, List.setIfInBounds_toArray, List.set_cons_zero, List.set_cons_succ]
    refine wpAnyK_take (i := 6) (v := .string s0) rfl (by kernel_rfl) (by kernel_rfl) (by kernel_rfl) (by kernel_rfl) (fun _ _ _ h => h) (Or.inl ⟨by rfl, fun w hS => by (have c := (hS.2.cell 0).trans (rfl : _ = some (Value.string s0)); first | (go_simp; done) | (go_simp; with_reducible rfl))⟩) hHeld ?_
    try simp only [Act.put, List.getElem_toArray, List.getElem_cons_zero, List.getElem_cons_succ, List.setIfInBounds_toArray, List.set_cons_zero, List.set_cons_succ]
    refine wpAnyK_take (i := 8) (v := .pointer (some ⟨W.heap.size, 1, none⟩)) rfl (by kernel_rfl) (by kernel_rfl) (by kernel_rfl) (by kernel_rfl) (fun _ _ _ h => h) (Or.inl ⟨by rfl, fun w hS => by first | (go_simp; done) | (go_simp; with_reducible rfl)⟩) hHeld ?_
    try simp only [Act.put, List.getElem_toArray, List.getElem_cons_zero, List.getElem_cons_succ, List.setIfInBounds_toArray, List.set_cons_zero, List.set_cons_succ]
    refine wpAnyK_take (i := 9) (v := .string s1) rfl (by kernel_rfl) (by kernel_rfl) (by kernel_rfl) (by kernel_rfl) (fun _ _ _ h => h) (Or.inl ⟨by rfl, fun w hS => by (have c := (hS.2.cell 1).trans (rfl : _ = some (Value.string s1)); first | (go_simp; done) | (go_simp; with_reducible rfl))⟩) hHeld ?_
    try simp only [Act.put, List.getElem_toArray, List.getElem_cons_zero, List.getElem_cons_succ, List.setIfInBounds_toArray, List.set_cons_zero, List.set_cons_succ]
    refine wpAnyK_ready (rs := [7, 10]) (by kernel_rfl) (by simp) ?_
    refine AllReadyK.cons rfl (fun K hK => ?_) (AllReadyK.cons rfl (fun K hK => ?_) AllReadyK.nil)
    obtain ⟨c0, w6, hrun0, h0c, h0m, h0b, h0k, h0s⟩ := HC0.out w5
    replace h0s := Lib.hid h0s
    have HS6 : Hid (WrS w6 g X vb ∧ BlkIs w6 W.heap.size 34 #[.string s0, .string s1]) := Lib.hid (And.intro (HW5.out.below h0k HW5.out.lt) ((h0k.block _ HP5.out.lt).trans HP5.out))
    clear hHeld
    go_simp
    refine hK.out _ _ ?_ (fun hHeld => ?_)
    · exact HS6.out
    clear hK K
    try simp only [Act.put, List.getElem_toArray, List.getElem_cons_zero, List.getElem_cons_succ, List.setIfInBounds_toArray, List.set_cons_zero, List.set_cons_succ]
    clear hHeld
    obtain ⟨c1, Z, hrun1, h1c, h1m, h1b, h1k, h1s⟩ := HC1.out w6
    replace h1s := Lib.hid h1s
    have HS7 : Hid (WrS Z g X vb ∧ BlkIs Z W.heap.size 34 #[.string s0, .string s1]) := Lib.hid (And.intro (HS6.out.1.below h1k HS6.out.1.lt) ((h1k.block _ HS6.out.2.lt).trans HS6.out.2))
    refine wpAnyK_ready (rs := [10]) (by kernel_rfl) (by simp) ?_
    refine AllReadyK.cons rfl (fun K hK => ?_) AllReadyK.nil
    go_simp
    refine hK.out _ _ ?_ (fun hHeld => ?_)
    · exact HS7.out
    clear hK K
    try simp only [Act.put, List.getElem_toArray, List.getElem_cons_zero, List.getElem_cons_succ, List.setIfInBounds_toArray, List.set_cons_zero, List.set_cons_succ]
    have HBZ : Hid (Below w5.heap.size w5 Z) := Lib.hid (h0k.trans (h1k.mono h0k.size))
    have HT0 := Lib.hid ((h0b.below (h1k.mono (by have := h0s.out; omega))).more (by have := h0s.out; have := h1k.size; omega : w5.heap.size + 1 ≤ Z.heap.size))
    have HT1 := Lib.hid (h1b.more (by have := h1s.out; omega : w6.heap.size + 1 ≤ Z.heap.size))
    have hcs := And.intro h0c (And.intro h0m (And.intro h1c h1m))
    clear hrun0 hrun1 h0c h0m h0b h0k h0s h1c h1m h1b h1k h1s HS6 hHeld
    generalize w5.heap.size = b0 at HT0 ⊢
    generalize w6.heap.size = b1 at HT1 ⊢
    clear w6
    rotate_left
    obtain ⟨c1, w6, hrun1, h1c, h1m, h1b, h1k, h1s⟩ := HC1.out w5
    replace h1s := Lib.hid h1s
    have HS6 : Hid (WrS w6 g X vb ∧ BlkIs w6 W.heap.size 34 #[.string s0, .string s1]) := Lib.hid (And.intro (HW5.out.below h1k HW5.out.lt) ((h1k.block _ HP5.out.lt).trans HP5.out))
    clear hHeld
    go_simp
    refine hK.out _ _ ?_ (fun hHeld => ?_)
    · exact HS6.out
    clear hK K
    try simp only [Act.put, List.getElem_toArray, List.getElem_cons_zero, List.getElem_cons_succ, List.setIfInBounds_toArray, List.set_cons_zero, List.set_cons_succ]
    clear hHeld
    obtain ⟨c0, Z, hrun0, h0c, h0m, h0b, h0k, h0s⟩ := HC0.out w6
    replace h0s := Lib.hid h0s
    have HS7 : Hid (WrS Z g X vb ∧ BlkIs Z W.heap.size 34 #[.string s0, .string s1]) := Lib.hid (And.intro (HS6.out.1.below h0k HS6.out.1.lt) ((h0k.block _ HS6.out.2.lt).trans HS6.out.2))
    refine wpAnyK_ready (rs := [7]) (by kernel_rfl) (by simp) ?_
    refine AllReadyK.cons rfl (fun K hK => ?_) AllReadyK.nil
    go_simp
    refine hK.out _ _ ?_ (fun hHeld => ?_)
    · exact HS7.out
    clear hK K
    try simp only [Act.put, List.getElem_toArray, List.getElem_cons_zero, List.getElem_cons_succ, List.setIfInBounds_toArray, List.set_cons_zero, List.set_cons_succ]
    have HBZ : Hid (Below w5.heap.size w5 Z) := Lib.hid (h1k.trans (h0k.mono h1k.size))
    have HT1 := Lib.hid ((h1b.below (h0k.mono (by have := h1s.out; omega))).more (by have := h1s.out; have := h0k.size; omega : w5.heap.size + 1 ≤ Z.heap.size))
    have HT0 := Lib.hid (h0b.more (by have := h0s.out; omega : w6.heap.size + 1 ≤ Z.heap.size))
    have hcs := And.intro h0c (And.intro h0m (And.intro h1c h1m))
    clear hrun0 hrun1 h0c h0m h0b h0k h0s h1c h1m h1b h1k h1s HS6 hHeld
    generalize w5.heap.size = b1 at HT1 ⊢
    generalize w6.heap.size = b0 at HT0 ⊢
    clear w6
    all_goals
      clear HC0 HC1
      have HHeld := HS7.out
      have hHeld := HS7.out
      have HBW := Lib.hid (HB5.out.trans (HBZ.out.mono hsz5))
      have hszZ := HBZ.out.size
      have HWZ := Lib.hid (HS7.out.1.alloc (.cells #[.slice (some ⟨b0, 0, none⟩) nm.length c0, .slice (some ⟨b1, 0, none⟩) wh.length c1] 25))
      have HPZ : Hid (BlkIs (Z.alloc (.cells #[.slice (some ⟨b0, 0, none⟩) nm.length c0, .slice (some ⟨b1, 0, none⟩) wh.length c1] 25)) W.heap.size 34 #[.string s0, .string s1]) := Lib.hid (HS7.out.2.alloc (.cells #[.slice (some ⟨b0, 0, none⟩) nm.length c0, .slice (some ⟨b1, 0, none⟩) wh.length c1] 25))
      have HOZ : Hid (Own5 (Z.alloc (.cells #[.slice (some ⟨b0, 0, none⟩) nm.length c0, .slice (some ⟨b1, 0, none⟩) wh.length c1] 25)) M vb l) := Lib.hid (own_kept HO5.out (HBZ.out.trans ((Below.refl _ Z).alloc hszZ _)) (Nat.le_refl _))
      have HFZ : Hid (Fr g M W (Z.alloc (.cells #[.slice (some ⟨b0, 0, none⟩) nm.length c0, .slice (some ⟨b1, 0, none⟩) wh.length c1] 25))) := Lib.hid ((HF5.out.on HBZ.out).alloc _)
      have HPV := Lib.hid (HPU.out Z (.slice (some ⟨b0, 0, none⟩) nm.length c0) (.slice (some ⟨b1, 0, none⟩) wh.length c1) HBW.out ⟨_, c0, rfl, HT0.out, hcs.1, hcs.2.1⟩ ⟨_, c1, rfl, HT1.out, hcs.2.2.1, hcs.2.2.2⟩)
      clear HPU HT0 HT1 hcs HS7 HBW HW5 HO5 HF5 HP5 HB5 HHeld
      generalize nm.length = n0 at *
      generalize wh.length = n1 at *
      refine wpAnyK_ready (rs := [11]) (by kernel_rfl) (by simp) ?_
      refine AllReadyK.cons rfl (fun K hK => ?_) AllReadyK.nil
      go_simp
      refine hK.out _ _ ?_ (fun hHeld => ?_)
      · exact ⟨HWZ.out, HPZ.out⟩
      clear hK K
      try simp only [Act.put, List.getElem_toArray, List.getElem_cons_zero, List.getElem_cons_succ, List.setIfInBounds_toArray, List.set_cons_zero, List.set_cons_succ]
      have hszA : Z.heap.size ≤ (Z.alloc (.cells #[.slice (some ⟨b0, 0, none⟩) n0 c0, .slice (some ⟨b1, 0, none⟩) n1 c1] 25)).heap.size := by simp
      generalize Z.alloc (.cells #[.slice (some ⟨b0, 0, none⟩) n0 c0, .slice (some ⟨b1, 0, none⟩) n1 c1] 25) = w7 at *
      refine wpAnyK_ready (rs := [12]) (by kernel_rfl) (by simp) ?_
      refine AllReadyK.cons rfl (fun K hK => ?_) AllReadyK.nil
      go_simp
      go_wp2_with ((refine HPV.out.mono ?_; rintro e w8 ⟨v8, rfl, ho8, hb8⟩))
      refine hK.out _ _ ?_ (fun hHeld => ?_)
      · exact ⟨HWZ.out.below hb8 HWZ.out.lt, (hb8.block _ HPZ.out.lt).trans HPZ.out⟩
      clear hK K
      try simp only [Act.put, List.getElem_toArray, List.getElem_cons_zero, List.getElem_cons_succ, List.setIfInBounds_toArray, List.set_cons_zero, List.set_cons_succ]
      have HW8 := Lib.hid (HWZ.out.below hb8 HWZ.out.lt)
      have HP8 : Hid (BlkIs w8 W.heap.size 34 #[.string s0, .string s1]) := Lib.hid ((hb8.block _ HPZ.out.lt).trans HPZ.out)
      have HO8 := Lib.hid (own_kept HOZ.out hb8 (Nat.le_refl _))
      have HF8 : Hid (Fr g M W w8) := Lib.hid (HFZ.out.on hb8)
      have HV8 := Lib.hid ho8
      obtain ⟨A8, c8, rfl, _, _⟩ := own_slice ho8
      have hsz8 := hb8.size
      clear ho8 hb8 HPV HWZ HPZ HOZ HFZ
      refine wpAnyK_ready (rs := [13]) (by kernel_rfl) (by simp) ?_
      refine AllReadyK.cons rfl (fun K hK => ?_) AllReadyK.nil
      (refine En.step5 (.tmp 15) (.tmp 23) rfl rfl (N := M) (l := l) (m := t) rfl HO8.out (c := c8) rfl HV8.out.bts (by have := HTL.out; omega) (by omega) ?_; intro v9 w9 h9 g9; obtain ⟨A9, c9, rfl, _, _⟩ := own_slice h9)
      refine hK.out _ _ ?_ (fun hHeld => ?_)
      · exact ⟨HW8.out.own HO8.out g9, En.blk_own HO8.out HP8.out (by decide) g9⟩
      clear hK K
      try simp only [Act.put, List.getElem_toArray, List.getElem_cons_zero, List.getElem_cons_succ, List.setIfInBounds_toArray, List.set_cons_zero, List.set_cons_succ]
      have HF9 : Hid (Fr g M W w9) := Lib.hid (Fr.app HF8.out HO8.out g9)
      have HW9 : Hid (WrS w9 g X vb) := Lib.hid (HW8.out.own HO8.out g9)
      have HO9 : Hid (Own5 w9 M (.slice A9 (l ++ t).length c9) (l ++ t)) := Lib.hid h9
      clear h9 g9 HW8 HO8 HF8 HV8
      generalize (l ++ t).length = n9 at *
      refine wpAnyK_take (i := 14) (v := .pointer (some ⟨g, 0, none⟩)) rfl (by kernel_rfl) (by kernel_rfl) (by kernel_rfl) (by kernel_rfl) (fun _ _ _ h => h) (Or.inl ⟨by rfl, fun w hS => by (have c := HW9.out.b; first | (go_simp; done) | (go_simp; with_reducible rfl))⟩) hHeld ?_
      try simp only [Act.put, List.getElem_toArray, List.getElem_cons_zero, List.getElem_cons_succ, List.setIfInBounds_toArray, List.set_cons_zero, List.set_cons_succ]
      refine wpAnyK_take (i := 15) (v := .pointer (some ⟨g, 109, none⟩)) rfl (by kernel_rfl) (by kernel_rfl) (by kernel_rfl) (by kernel_rfl) (fun _ _ _ h => h) (Or.inl ⟨by rfl, fun w hS => by first | (go_simp; done) | (go_simp; with_reducible rfl)⟩) hHeld ?_
      try simp only [Act.put, List.getElem_toArray, List.getElem_cons_zero, List.getElem_cons_succ, List.setIfInBounds_toArray, List.set_cons_zero, List.set_cons_succ]
      have cb := HW9.out.b
      have cf := HW9.out.froz
      refine wpAnyK_ready (rs := [16]) (by kernel_rfl) (by simp) ?_
      refine AllReadyK.late rfl (by kernel_rfl) (fun K hK => ?_) AllReadyK.nil
      go_simp
      refine hK.out _ _ ?_ (fun _ => ?_)
      · trivial
      clear hK K
      try simp only [Act.put, List.getElem_toArray, List.getElem_cons_zero, List.getElem_cons_succ, List.setIfInBounds_toArray, List.set_cons_zero, List.set_cons_succ]
      refine wpAnyK_done (by kernel_rfl) ?_ _
      go_wp2_with fail
      go_end0
      unfold WrP
      exact ⟨HF9.out.put 109 _, .inl ⟨rfl, rfl, .slice A9 n9 c9, HW9.out.put _, En.own_far HO9.out (fun g' hg' e => En.own_blk HO9.out HW9.out.blk (by decide) (by rw [hg', e])) _⟩⟩
end Rc
end Go.Proofs.YteapnkedpmcokaaGreatDoor
