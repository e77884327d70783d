/- HoldMore's walk. Conditions: as stated at each. -/
import Derived.Test.YtamjellnmlgbeaaHoLLift
namespace Go.Proofs.Ytamjellnmlgbeaa
set_option maxRecDepth 100000
namespace Ho
open Go.RowKit Go Go.Proofs.Ytamjellnmlgbeaa.Pa Go.Proofs.Ytamjellnmlgbeaa.Rt
theorem OkH.place {l : List R} {h : R} (hok : OkH l) (h1 : h.1.length ≤ 140737488355328) (h2 : h.2.length ≤ 140737488355328) : OkH (placeS l h) := by
  unfold placeS
  split
  · intro r hr
    rcases List.mem_append.1 hr with hr | hr
    · exact hok r hr
    · rw [List.mem_singleton.1 hr]; exact ⟨h1, h2⟩
  · intro r hr
    cases hr
theorem OkH.lift {l : List R} (hok : OkH l) (nm : L) : OkH (liftS l nm) := by
  unfold liftS
  split
  · exact fun r hr => hok r (lift_sub hr)
  · intro r hr
    cases hr
theorem lift_err (l : List R) (nm : L) : liftE l nm = 0 ∨ liftE l nm = 3 := by
  unfold liftE
  split
  · exact .inl rfl
  · exact .inr rfl
theorem cov_less' {l : List R} {nm : L} {fr : L} {to : List L} (hc : covS l fr to = false) : covS (liftS l nm) fr to = false := by
  cases h : covS (liftS l nm) fr to with
  | false => rfl
  | true => rw [cov_less h] at hc; cases hc
/-- while the law's boxes stay. -/
structure Mo (w0 : World) (H E : Array Value) (X : World) : Prop where
  bel : Below w0.heap.size w0 X
  hb : BlkIs X w0.heap.size 24 H
  eb : BlkIs X (w0.heap.size + 1) 29 E
theorem Mo.next {w0 X Y : World} {H E : Array Value} (h : Mo w0 H E X) (k : Below X.heap.size X Y) : Mo w0 H E Y :=
  ⟨h.bel.trans (k.mono h.bel.size), (k.block _ h.hb.lt).trans h.hb, (k.block _ h.eb.lt).trans h.eb⟩
theorem mo_start (w0 : World) (H E : Array Value) : Mo w0 H E ((w0.alloc (.cells H 24)).alloc (.cells E 29)) := by
  have h2 := BlkIs.new (w0.alloc (.cells H 24)) 29 E
  simp only [World.size_alloc] at h2
  exact ⟨(below_b w0 _).alloc (by simp) _, (BlkIs.new w0 _ H).alloc _, h2⟩
set_option maxHeartbeats 6400000 in
theorem lmore_any {w0 : World} {A : Option Addr} {l : List R} {h : R} {v : Value} {e : Env} (hp : Prs w0 w0.heap.size A (cvR l)) (c : Nat) (hok : OkH l) (h1 : h.1.length ≤ 140737488355328) (h2 : h.2.length ≤ 140737488355328) (s : ByteArray) (he : EnvAt w0 w0.heap.size v e) (hoe : OkE e) :
    Calls Try.prog 6 #[.slice A l.length c, .agg #[.string (str h.1), .string (str h.2)], .string s, v] w0 fun e w' => e = .returned (.bool true) ∧ Below w0.heap.size w0 w' := by
  obtain ⟨T, tc, rfl, ht⟩ := he
  obtain ⟨fr, to, at'⟩ := e
  dsimp only at ht hoe ⊢
  rw [show s = str s.data.toList by simp [str]]
  generalize s.data.toList = nm
  have HA := Lib.hid awake_any
  have HF := Lib.hid (fun X => few_any A T l.length c to.length tc (str fr) at' X)
  have HST := Lib.hid (mo_start w0 #[.string (str h.1), .string (str h.2)] #[.string (str fr), .slice T to.length tc, .int .i64 at'])
  by_cases hl : l.length ≤ 101 ∧ to.length ≤ 20
  · have HP := Lib.hid (fun X (hX : Below w0.heap.size w0 X) => place_any (h := h) (hp.below hX) hX.size l.length c rfl (by omega) hok h1 h2)
    have HLF := Lib.hid (fun X (hX : Below w0.heap.size w0 X) => lift_any nm (hp.below hX) hX.size l.length c rfl (by omega) hok)
    have HCV := Lib.hid (fun X (hX : Below w0.heap.size w0 X) => covers_any (hp.below hX) (ht.below hX) hX.size l.length c to.length tc at' rfl rfl (by omega) (by omega) hok hoe.1 hoe.2)
    have hsl := placeS_len l h
    have hsz := liftS_len l nm
    have HCZ : Hid (∀ X A3 c3, Below w0.heap.size w0 X → Prs X X.heap.size A3 (cvR (liftS l nm)) → Calls Try.prog 15 #[.slice A3 (liftS l nm).length c3, .agg #[.string (str fr), .slice T to.length tc, .int .i64 at']] X fun e w' => e = .returned (.bool (covS (liftS l nm) fr to)) ∧ Below X.heap.size X w') := Lib.hid fun X A3 c3 hX g3 => covers_any g3 ((ht.below hX).more hX.size) (Nat.le_refl _) _ c3 to.length tc at' rfl rfl (by omega) (by omega) (hok.lift nm) hoe.1 hoe.2
    have HCX : Hid (∀ X A3 c3, Below w0.heap.size w0 X → Prs X X.heap.size A3 (cvR (placeS l h)) → Calls Try.prog 15 #[.slice A3 (placeS l h).length c3, .agg #[.string (str fr), .slice T to.length tc, .int .i64 at']] X fun e w' => e = .returned (.bool (covS (placeS l h) fr to)) ∧ Below X.heap.size X w') := Lib.hid fun X A3 c3 hX g3 => covers_any g3 ((ht.below hX).more hX.size) (Nat.le_refl _) _ c3 to.length tc at' rfl rfl (by omega) (by omega) (hok.place h1 h2) hoe.1 hoe.2
    have HLX : Hid (placeE l h = 0 → ∀ X A3 c3, Prs X X.heap.size A3 (cvR (placeS l h)) → Calls Try.prog 12 #[.slice A3 (placeS l h).length c3, .string (str h.1)] X (OutE X l 0)) := Lib.hid fun h0 X A3 c3 g3 => by
      have := lift_any h.1 g3 (Nat.le_refl _) _ c3 rfl (by omega) (hok.place h1 h2)
      rw [(lift_place h0).1, (lift_place h0).2] at this
      exact this
    have HS : Hid (∀ X A3 c3, Below w0.heap.size w0 X → Prs X X.heap.size A3 (cvR l) → Calls Try.prog 11 #[.slice A3 l.length c3, .slice A l.length c] X fun e w' => e = .returned (.bool true) ∧ Below X.heap.size X w') := Lib.hid fun X A3 c3 hX g3 => same_yes g3 ((hp.below hX).more hX.size) (Nat.le_refl _) _ c3 c rfl (by omega)
    have HMO := Lib.hid (fun h0 h3 => cov_more (l := l) (h := h) (fr := fr) (to := to) h0 h3)
    have HLE := Lib.hid (cov_less' (l := l) (nm := nm) (fr := fr) (to := to))
    have HER := Lib.hid (lift_err l nm)
    rw [decide_eq_true hl] at HF
    unfold OutE at HP HLF HLX
    generalize hE : placeE l h = E at *
    generalize placeS l h = t at *
    generalize hm : t.length = m at *
    have HM := Lib.hid hm
    generalize liftE l nm = E2 at *
    generalize liftS l nm = z at *
    generalize hmz : z.length = mz at *
    have HZ := Lib.hid hmz
    generalize covS l fr to = c0 at *
    generalize covS t fr to = ct at *
    generalize covS z fr to = cz at *
    clear hp hok h1 h2 hl hsl hm hsz hmz hE ht hoe
    generalize hn : l.length = n at *
    have HN := Lib.hid hn
    clear hn
    generalize to.length = tn at *
    generalize str h.1 = s0 at *
    generalize str h.2 = s1 at *
    generalize str fr = sf at *
    generalize str nm = sn at *
    go_enter Try.func6, Try.ntmps6
    go_wp2_with fail
    generalize (w0.alloc (.cells #[.string s0, .string s1] 24)).alloc (.cells #[.string sf, .slice T tn tc, .int .i64 at'] 29) = w1 at *
    refine (HA.out _).mono ?_
    rintro e w2 ⟨rfl, hb2⟩
    have HST2 := Lib.hid (HST.out.next hb2)
    have x0 := (BlkIs.cell HST2.out.eb 0).trans (rfl : _ = some (Value.string sf))
    have x1 := (BlkIs.cell HST2.out.eb 1).trans (rfl : _ = some (Value.slice T tn tc))
    have x2 := (BlkIs.cell HST2.out.eb 2).trans (rfl : _ = some (Value.int .i64 at'))
    clear hb2 HST HA
    go_wp2_with fail
    refine (HF.out _).mono ?_
    rintro e w3 ⟨rfl, hb3⟩
    have HST3 := Lib.hid (HST2.out.next hb3)
    have y0 := (BlkIs.cell HST3.out.hb 0).trans (rfl : _ = some (Value.string s0))
    have y1 := (BlkIs.cell HST3.out.hb 1).trans (rfl : _ = some (Value.string s1))
    clear hb3 HST2 HF x0 x1 x2
    go_wp2_with fail
    refine (HP.out _ HST3.out.bel).mono ?_
    rintro e w4 ⟨v4, rfl, ho4, hb4⟩
    obtain ⟨A4, c4, rfl, _, _⟩ := ho4.slice
    rw [HM.out]
    have HST4 := Lib.hid (HST3.out.next hb4)
    have HO4 := Lib.hid (OwnH.prs ho4)
    clear hb4 ho4 HST3 y0 y1 HP
    by_cases h0 : E = 0
    · have HLX2 := Lib.hid (HLX.out h0)
      have HMO2 := Lib.hid (fun h3 => HMO.out h0 h3)
      subst h0
      have y0 := (BlkIs.cell HST4.out.hb 0).trans (rfl : _ = some (Value.string s0))
      clear HLX HMO
      go_wp2_with fail
      refine (HLX2.out _ _ _ HO4.out).mono ?_
      rintro e w5 ⟨v5, rfl, ho5, hb5⟩
      obtain ⟨A5, c5, rfl, _, _⟩ := ho5.slice
      rw [HN.out]
      have HST5 := Lib.hid (HST4.out.next hb5)
      have HO5 := Lib.hid (OwnH.prs ho5)
      have HO45 := Lib.hid (HO4.out.below hb5 |>.more hb5.size)
      clear hb5 ho5 HST4 y0 HO4 HLX2
      have x0 := (BlkIs.cell (HST5.out.eb) 0).trans (rfl : _ = some (Value.string sf))
      have x1 := (BlkIs.cell (HST5.out.eb) 1).trans (rfl : _ = some (Value.slice T tn tc))
      have x2 := (BlkIs.cell (HST5.out.eb) 2).trans (rfl : _ = some (Value.int .i64 at'))
      go_wp2_with fail
      refine (HCV.out _ HST5.out.bel).mono ?_
      rintro e w6 ⟨rfl, hb6⟩
      have HST6 := Lib.hid (HST5.out.next hb6)
      have HO6 := Lib.hid (HO5.out.below hb6 |>.more hb6.size)
      have HO46 := Lib.hid (HO45.out.below hb6 |>.more hb6.size)
      clear hb6 HST5 HO5 HO45 x0 x1 x2
      cases c0 with
      | true =>
        obtain rfl : ct = true := HMO2.out (by simp)
        have x0 := (BlkIs.cell (HST6.out.eb) 0).trans (rfl : _ = some (Value.string sf))
        have x1 := (BlkIs.cell (HST6.out.eb) 1).trans (rfl : _ = some (Value.slice T tn tc))
        have x2 := (BlkIs.cell (HST6.out.eb) 2).trans (rfl : _ = some (Value.int .i64 at'))
        go_wp2_with fail
        refine (HCX.out _ _ _ HST6.out.bel HO46.out).mono ?_
        rintro e w7 ⟨rfl, hb7⟩
        have HST7 := Lib.hid (HST6.out.next hb7)
        have HO7 := Lib.hid (HO6.out.below hb7 |>.more hb7.size)
        clear hb7 HST6 HO6 HO46 x0 x1 x2
        go_wp2_with fail
        refine (HS.out _ _ _ HST7.out.bel HO7.out).mono ?_
        rintro e w8 ⟨rfl, hb8⟩
        have HST8 := Lib.hid (HST7.out.next hb8)
        clear hb8 HST7 HO7
        go_wp2_with fail
        refine (HLF.out _ HST8.out.bel).mono ?_
        rintro e w9 ⟨v9, rfl, ho9, hb9⟩
        obtain ⟨A9, c9, rfl, _, _⟩ := ho9.slice
        rw [HZ.out]
        have HST9 := Lib.hid (HST8.out.next hb9)
        have HO9 := Lib.hid (OwnH.prs ho9)
        clear hb9 ho9
        have x0 := (BlkIs.cell (HST9.out.eb) 0).trans (rfl : _ = some (Value.string sf))
        have x1 := (BlkIs.cell (HST9.out.eb) 1).trans (rfl : _ = some (Value.slice T tn tc))
        have x2 := (BlkIs.cell (HST9.out.eb) 2).trans (rfl : _ = some (Value.int .i64 at'))
        rcases HER.out with rfl | rfl
        · go_wp2_with (first | (go_at_call 15; refine (HCV.out _ HST9.out.bel).mono ?_; rintro e w10 ⟨rfl, hb10⟩; have HST10 := Lib.hid (HST9.out.next hb10); clear hb10) | fail)
          go_ret
          exact ⟨rfl, HST10.out.bel⟩
        · go_wp2_with fail
          go_ret
          exact ⟨rfl, HST9.out.bel⟩
      | false =>
        go_wp2_with fail
        refine (HS.out _ _ _ HST6.out.bel HO6.out).mono ?_
        rintro e w8 ⟨rfl, hb8⟩
        have HST8 := Lib.hid (HST6.out.next hb8)
        clear hb8 HST6 HO6 HO46
        go_wp2_with fail
        refine (HLF.out _ HST8.out.bel).mono ?_
        rintro e w9 ⟨v9, rfl, ho9, hb9⟩
        obtain ⟨A9, c9, rfl, _, _⟩ := ho9.slice
        rw [HZ.out]
        have HST9 := Lib.hid (HST8.out.next hb9)
        have HO9 := Lib.hid (OwnH.prs ho9)
        clear hb9 ho9
        have x0 := (BlkIs.cell (HST9.out.eb) 0).trans (rfl : _ = some (Value.string sf))
        have x1 := (BlkIs.cell (HST9.out.eb) 1).trans (rfl : _ = some (Value.slice T tn tc))
        have x2 := (BlkIs.cell (HST9.out.eb) 2).trans (rfl : _ = some (Value.int .i64 at'))
        rcases HER.out with rfl | rfl
        · obtain rfl : cz = false := HLE.out (by simp)
          go_wp2_with fail
          refine (HCV.out _ HST9.out.bel).mono ?_
          rintro e w10 ⟨rfl, hb10⟩
          have HO10 := Lib.hid (HO9.out.below hb10 |>.more hb10.size)
          have HST10 := Lib.hid (HST9.out.next hb10)
          clear hb10 x0 x1 x2
          have x0 := (BlkIs.cell (HST10.out.eb) 0).trans (rfl : _ = some (Value.string sf))
          have x1 := (BlkIs.cell (HST10.out.eb) 1).trans (rfl : _ = some (Value.slice T tn tc))
          have x2 := (BlkIs.cell (HST10.out.eb) 2).trans (rfl : _ = some (Value.int .i64 at'))
          go_wp2_with fail
          refine (HCZ.out _ _ _ HST10.out.bel HO10.out).mono ?_
          rintro e w11 ⟨rfl, hb11⟩
          have HST11 := Lib.hid (HST10.out.next hb11)
          clear hb11
          go_wp2_with fail
          go_ret
          exact ⟨rfl, HST11.out.bel⟩
        · go_wp2_with fail
          go_ret
          exact ⟨rfl, HST9.out.bel⟩
    · have hE0 : (E == 0) = false := by simpa using h0
      go_wp2_with fail
      refine (HLF.out _ HST4.out.bel).mono ?_
      rintro e w9 ⟨v9, rfl, ho9, hb9⟩
      obtain ⟨A9, c9, rfl, _, _⟩ := ho9.slice
      rw [HZ.out]
      have HST9 := Lib.hid (HST4.out.next hb9)
      have HO9 := Lib.hid (OwnH.prs ho9)
      clear hb9 ho9
      have x0 := (BlkIs.cell (HST9.out.eb) 0).trans (rfl : _ = some (Value.string sf))
      have x1 := (BlkIs.cell (HST9.out.eb) 1).trans (rfl : _ = some (Value.slice T tn tc))
      have x2 := (BlkIs.cell (HST9.out.eb) 2).trans (rfl : _ = some (Value.int .i64 at'))
      rcases HER.out with rfl | rfl
      · cases c0 with
        | true =>
          go_wp2_with (first | (go_at_call 15; refine (HCV.out _ HST9.out.bel).mono ?_; rintro e w10 ⟨rfl, hb10⟩; have HST10 := Lib.hid (HST9.out.next hb10); clear hb10) | fail)
          go_ret
          exact ⟨rfl, HST10.out.bel⟩
        | false =>
          obtain rfl : cz = false := HLE.out (by simp)
          go_wp2_with fail
          refine (HCV.out _ HST9.out.bel).mono ?_
          rintro e w10 ⟨rfl, hb10⟩
          have HO10 := Lib.hid (HO9.out.below hb10 |>.more hb10.size)
          have HST10 := Lib.hid (HST9.out.next hb10)
          clear hb10 x0 x1 x2
          have x0 := (BlkIs.cell (HST10.out.eb) 0).trans (rfl : _ = some (Value.string sf))
          have x1 := (BlkIs.cell (HST10.out.eb) 1).trans (rfl : _ = some (Value.slice T tn tc))
          have x2 := (BlkIs.cell (HST10.out.eb) 2).trans (rfl : _ = some (Value.int .i64 at'))
          go_wp2_with fail
          refine (HCZ.out _ _ _ HST10.out.bel HO10.out).mono ?_
          rintro e w11 ⟨rfl, hb11⟩
          have HST11 := Lib.hid (HST10.out.next hb11)
          clear hb11
          go_wp2_with fail
          go_ret
          exact ⟨rfl, HST11.out.bel⟩
      · go_wp2_with fail
        go_ret
        exact ⟨rfl, HST9.out.bel⟩
  · rw [decide_eq_false hl] at HF
    clear hp hok h1 h2 hl ht hoe
    generalize l.length = n at *
    generalize to.length = tn at *
    generalize str h.1 = s0 at *
    generalize str h.2 = s1 at *
    generalize str fr = sf at *
    generalize str nm = sn at *
    go_enter Try.func6, Try.ntmps6
    go_wp2_with fail
    generalize (w0.alloc (.cells #[.string s0, .string s1] 24)).alloc (.cells #[.string sf, .slice T tn tc, .int .i64 at'] 29) = w1 at *
    refine (HA.out _).mono ?_
    rintro e w2 ⟨rfl, hb2⟩
    have HST2 := Lib.hid (HST.out.next hb2)
    have x0 := (BlkIs.cell HST2.out.eb 0).trans (rfl : _ = some (Value.string sf))
    have x1 := (BlkIs.cell HST2.out.eb 1).trans (rfl : _ = some (Value.slice T tn tc))
    have x2 := (BlkIs.cell HST2.out.eb 2).trans (rfl : _ = some (Value.int .i64 at'))
    clear hb2 HST HA
    go_wp2_with fail
    refine (HF.out _).mono ?_
    rintro e w3 ⟨rfl, hb3⟩
    go_wp2_with fail
    go_ret
    exact ⟨rfl, HST2.out.bel.trans (hb3.mono HST2.out.bel.size)⟩
end Ho
end Go.Proofs.Ytamjellnmlgbeaa
