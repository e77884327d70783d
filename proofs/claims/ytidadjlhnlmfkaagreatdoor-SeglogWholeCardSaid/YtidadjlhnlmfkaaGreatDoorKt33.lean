/- SlKept SlKeptN DkRenL. Conditions: as stated at each. -/
import Derived.Test.YtidadjlhnlmfkaaGreatDoorKt32
import Derived.Test.YtidadjlhnlmfkaaGreatDoorKt06
import Derived.Test.YtidadjlhnlmfkaaGreatDoorKt03
import Derived.Test.YtidadjlhnlmfkaaGreatDoorKt23
import Derived.Test.YtidadjlhnlmfkaaGreatDoorKt11
/- The walk of SeglogKept. Conditions: none but that the input is read. -/
namespace Go.Proofs.YtidadjlhnlmfkaaGreatDoor
open Go.RowKit Go.Shelf Go
theorem rws_of {w : World} {B : Nat} {A : Option Addr} {vs : List Value} {ll : List (List UInt8)} (h : Cs w B A vs) (hr : RowVs w B vs ll) : Rws w B A ll := fun k r hk => by
  have hlt : k < vs.length := by have := (List.getElem?_eq_some_iff.1 hk).1; rw [hr.1]; exact this
  obtain ⟨ad, e, hb, hc⟩ := h k vs[k] (List.getElem?_eq_getElem hlt)
  obtain ⟨Ak, ck, e2, h3, h4, h5⟩ := hr.2 k r vs[k] hk (List.getElem?_eq_getElem hlt)
  exact ⟨ad, Ak, ck, e, hb, by rw [hc, e2], h3, h4, h5⟩
theorem RowVs.app {w : World} {B : Nat} {vs us : List Value} {ll mm : List (List UInt8)} (h : RowVs w B vs ll) (h' : RowVs w B us mm) : RowVs w B (vs ++ us) (ll ++ mm) := by
  refine ⟨by rw [List.length_append, List.length_append, h.1, h'.1], fun k r u hr hu => ?_⟩
  by_cases hk : k < ll.length
  · rw [List.getElem?_append_left hk] at hr
    rw [List.getElem?_append_left (by rw [h.1]; exact hk)] at hu
    exact h.2 k r u hr hu
  · rw [List.getElem?_append_right (by omega)] at hr
    rw [List.getElem?_append_right (by rw [h.1]; omega), h.1] at hu
    exact h'.2 _ r u hr hu
theorem slice22_hi (A : Option Addr) (n c k : Nat) (hk : k ≤ n) (hc : n ≤ c) (w' : World) : (Instr.slice 22 (.slice A n c) none (some (.int .i64 k)) none).run Tryz.prog w' = .ok (.slice A k c) w' := by
  obtain ⟨i, hi, hz, h0, h1⟩ := info_parts info22
  have e1 : (k : Int) ≤ (c : Int) := by omega
  have e2 : k ≤ c := by omega
  simp [Instr.slice, run_underlying Tryz.underlying22, Instr.sliceBounds, Instr.sliceBound, asIntOf, Sem.run_bind, e2, sizeOf, typeInfo, hi, add_0]
set_option maxRecDepth 100000 in
set_option maxHeartbeats 6400000 in
theorem kept_any (W : World) (sz : Int) (A : Option Addr) (c : Nat) (al : List (List UInt8)) (hRa : Rws W W.heap.size A al) (hla : al.length ≤ c) (hca : c ≤ maxLen) (B : Option Addr) (d : Nat) (bl : List (List UInt8)) (hRb : Rws W W.heap.size B bl) (hlb : bl.length ≤ d) (hdb : d ≤ maxLen)
    (n : Int) (hn : n ≤ 9223372036854775807) (K : Option Addr) (kc : Nat) (ks : List Int) (hks : ∀ (j : Nat) u, ks[j]? = some u → ∃ ad, K = some ad ∧ ad.block < W.heap.size ∧ W.cell? (ad.add j) = some (.int .i64 u)) (hkl : ks.length ≤ kc) (hkc : kc ≤ maxLen) :
    Calls Tryz.prog 3 #[.int .i64 sz, .slice A al.length c, .slice B bl.length d, .int .i64 n, .slice K ks.length kc] W fun e w' => e = .returned (.bool true) ∧ Below W.heap.size W w' := by
  have hx0 : ∀ w (v u : Value), (Instr.extract (.tuple #[v, u]) 0).run Tryz.prog w = .ok v w := fun _ _ _ => by kernel_rfl
  have hx1 : ∀ w (v u : Value), (Instr.extract (.tuple #[v, u]) 1).run Tryz.prog w = .ok u w := fun _ _ _ => by kernel_rfl
  have HKS := Lib.hid hks
  clear hks
  go_enter Tryz.func3, Tryz.ntmps3
  go_wp2_with fail
  refine (awake_any W).mono ?_
  rintro e w1 ⟨rfl, hb1⟩
  have nA := BlkIs.new w1 28 #[.int .i64 0, .slice none 0 0, .slice A al.length c, .int .i64 0, .slice none 0 0, .int .i64 0, .slice none 0 0, .slice B bl.length d, .int .i64 0, .slice K ks.length kc]
  have B2 : Below W.heap.size W (w1.alloc (.cells #[.int .i64 0, .slice none 0 0, .slice A al.length c, .int .i64 0, .slice none 0 0, .int .i64 0, .slice none 0 0, .slice B bl.length d, .int .i64 0, .slice K ks.length kc] 28)) := hb1.alloc hb1.size _
  go_wp2_with fail
  generalize (w1.alloc (.cells #[.int .i64 0, .slice none 0 0, .slice A al.length c, .int .i64 0, .slice none 0 0, .int .i64 0, .slice none 0 0, .slice B bl.length d, .int .i64 0, .slice K ks.length kc] 28)) = w2 at *
  refine (few_two w2 w1.heap.size A B K c d ks.length kc al bl nA ((hRa.below B2).more B2.size) ((hRb.below B2).more B2.size) (by omega) (by omega) (by omega)).mono ?_
  rintro e w3 ⟨rfl, hb3⟩
  have B3 := B2.trans (hb3.mono B2.size)
  cases hf : fewR al bl ks.length with
  | false =>
    go_wp2_with fail
    go_ret
    exact ⟨rfl, B3⟩
  | true =>
    by_cases hs : sz < 1
    · go_wp2_with fail
      go_ret
      exact ⟨rfl, B3⟩
    · have hfa : fewB al = true := by unfold fewR at hf; rw [Bool.and_eq_true] at hf; exact hf.1
      have hfb : fewB bl = true := by unfold fewR at hf; rw [Bool.and_eq_true, Bool.and_eq_true] at hf; exact hf.2.1
      have HFA := Lib.hid hfa
      have HFB := Lib.hid hfb
      have hal : al.length ≤ 20 := (few_len hfa).1
      have hbl : bl.length ≤ 20 := (few_len hfb).1
      clear hfa hfb hf nA
      go_wp2_with fail
      refine (new_A w3 1048576 (by omega)).mono ?_
      rintro e w4 ⟨Dk, Ft, rfl, h4, hlow, hge, hb4⟩
      have ho := Lib.hid (open_new w4 w3.heap.size Ft Dk 0 _ 1048576 0 0 ⟨#[120]⟩ sz h4 hlow (fun _ => rfl) nmOk_x (by omega) (by unfold maxLen; omega) (by omega) (by omega) (by omega) (by omega))
      clear h4
      go_wp2_with fail
      refine ho.out.mono ?_
      rintro e w5 ⟨L, G, Ft2, rfl, h5, hlow2, hf2, hL2, hG2, hT2⟩
      have s3 := B3.size
      have s4 := hb4.size
      have s5 := hT2.size
      have B5 : Below W.heap.size W w5 := (B3.trans (hb4.mono s3)).trans (hT2.below (by omega) (fun i hi e => by have := hge i e; omega))
      have hft2 : ∀ i, Ft2 i → W.heap.size ≤ i := fun i hi => by
        by_cases hlt : i < w4.heap.size
        · have := hge i (hf2 i hlt hi)
          omega
        · omega
      have hFK : FileK ⟨#[120]⟩ (Files.upd (fun _ => none) (fileN ⟨#[120]⟩ 1) (some ([], 0))) [] [] 0 := by
        refine ⟨fun j u hj => by simp at hj, by unfold Files.upd; exact if_pos rfl, Nat.le_refl _, fun t ht => ?_⟩
        unfold Files.upd at ht
        by_cases e : t = fileN ⟨#[120]⟩ 1
        · exact ⟨1, Nat.le_refl _, Nat.le_refl _, e⟩
        · rw [if_neg e] at ht
          exact absurd rfl ht
      have hI0 : KA W w3.heap.size Dk L G sz al 0 w5 := ⟨[], [], 0, Ft2, ⟨_, h5, hFK⟩, by simp, by simp, hlow2, hft2, B5, by omega, by omega, by omega⟩
      have HI0 := Lib.hid hI0
      clear ho h5 hI0 hT2 hFK
      go_wp2_with fail
      go_loopw [49] (fun i wr => ∃ k : Nat, k ≤ al.length ∧ i = .int .i64 k ∧ KA W w3.heap.size Dk L G sz al k wr) (fun i _ => al.length - (intOf i).toNat)
      case atStart => exact ⟨0, Nat.zero_le _, rfl, HI0.out⟩
      case round =>
        obtain ⟨k, hk, rfl, hI⟩ := hrel
        have hbw : Below W.heap.size W wr := by
          obtain ⟨S0, s, m, Ft, h1, h2, h4, h5, h6, h7, h8, h9, h10⟩ := hI
          exact h7
        have hRw := (hRa.below hbw).more hbw.size
        by_cases hlt : k < al.length
        · obtain ⟨ad, Ak, ck, rfl, _, hcell, hck, hm, hbt⟩ := hRw.at_ hlt
          have hnx := Lib.hid (ka_next hI HFA.out hlt Ak ck hbt hck hm)
          clear hI hbt hbw hRw
          generalize al.getD k [] = r at *
          go_wp2_with fail
          refine hnx.out.mono ?_
          rintro e w6 ⟨⟨p, q, rfl⟩, hI6⟩
          have HI6 := Lib.hid (hI6.below ((Below.refl _ w6).alloc (Nat.le_refl _) (.cells #[.int .i64 p, .int .i64 q] 37)))
          clear hI6 hnx
          go_wp2_with fail
          go_roundw
          case rel => exact ⟨k + 1, by omega, by go_num, HI6.out⟩
          case measure => simp [intOf]; omega
        · obtain rfl : k = al.length := by omega
          have HSY := Lib.hid (sync_K hI HFA.out)
          clear hI hRw hbw HI0
          go_wp2_with fail
          refine HSY.out.mono ?_
          rintro e w6 ⟨rfl, hS6⟩
          have HAR := Lib.hid (arm_K bl n hn hS6)
          clear hS6
          go_wp2_with fail
          refine HAR.out.mono ?_
          rintro e w7 ⟨rfl, hB7⟩
          have HB7 := Lib.hid hB7
          clear hB7 HAR HSY
          go_wp2_with fail
          go_loopw [70] (fun i wr => ∃ j : Nat, j ≤ bl.length ∧ i = .int .i64 j ∧ KB W w3.heap.size Dk L G sz al bl j wr) (fun i _ => bl.length - (intOf i).toNat)
          case atStart => exact ⟨0, Nat.zero_le _, rfl, HB7.out⟩
          case round =>
            obtain ⟨j, hj, rfl, hI⟩ := hrel
            have hbw : Below W.heap.size W wr := by
              obtain ⟨S0, s, m, Ft, q, h0, h1, h2, h3, h5, h6, h7, h8, h9, h10, h11⟩ := hI
              exact h7
            have hRw := (hRb.below hbw).more hbw.size
            by_cases hlt : j < bl.length
            · obtain ⟨ad, Ak, ck, rfl, _, hcell, hck, hm, hbt⟩ := hRw.at_ hlt
              have hnx := Lib.hid (kb_next hI HFA.out HFB.out hlt Ak ck hbt hck hm)
              clear hI hbt hbw hRw
              generalize bl.getD j [] = r at *
              go_wp2_with fail
              refine hnx.out.mono ?_
              rintro e w8 ⟨⟨v, rfl⟩, hI8⟩
              have HI8 := Lib.hid hI8
              clear hI8 hnx
              go_wp2_with fail
              go_roundw
              case rel => exact ⟨j + 1, by omega, by go_num, HI8.out⟩
              case measure => simp [intOf]; omega
            · obtain rfl : j = bl.length := by omega
              have HST := Lib.hid (start_K hI HFA.out HFB.out K kc ks hkl HKS.out)
              clear hI hRw hbw HB7
              go_wp2_with fail
              refine HST.out.mono ?_
              rintro e w8 ⟨rfl, hD8⟩
              have HOP := Lib.hid (open_K hD8 HFA.out HFB.out sz (by omega))
              clear hD8 HST
              go_wp2_with fail
              refine HOP.out.mono ?_
              rintro e w9 ⟨L9, G9, S, rfl, hO9⟩
              obtain ⟨F, Ft3, x9, lf9, k9, hL, hF, hSl, hB9, hN9, hfl, hle1, hle2, hmem⟩ := hO9
              have hsg := segments_L w9 w3.heap.size Ft3 Dk k9 F 1048576 x9 lf9 L9 G9 ⟨#[120]⟩ sz (gS S) hL (by rw [gS_length]; omega)
              rw [gS_length] at hsg
              have HG := Lib.hid hsg
              have HL9 := Lib.hid hL
              have HFL := Lib.hid (And.intro hfl (And.intro hle1 hle2))
              clear hsg hL hfl hle1 hle2 HOP
              go_wp2_with fail
              refine HG.out.mono ?_
              rintro e w10 ⟨Ag, cg, rfl, hrow, hb10⟩
              have hHas := has_of_own_I hrow (by rw [nums_length])
              have HH := Lib.hid hHas
              have B10 : Below W.heap.size W w10 := hB9.trans (hb10.mono hB9.size)
              have HL10 := Lib.hid (HL9.out.below hb10)
              have HRa := Lib.hid ((hRa.below B10).more B10.size)
              have HRb := Lib.hid ((hRb.below B10).more B10.size)
              clear hrow hHas HG HL9
              go_wp2_with fail
              go_loopw [20, 92] (fun v i wr => ∃ j : Nat, j ≤ S.length ∧ i = .int .i64 j ∧ OwnR wr w10.heap.size v (S.take j).flatten ∧ Below w10.heap.size w10 wr) (fun _ i _ => S.length - (intOf i).toNat)
              case atStart => exact ⟨0, Nat.zero_le _, rfl, OwnR.nil _ _, Below.refl _ _⟩
              case round =>
                obtain ⟨j, hj, rfl, hO, hBw⟩ := hrel
                by_cases hlt : j < S.length
                · obtain ⟨s, hs'⟩ : ∃ s, S[j]? = some s := ⟨S[j], List.getElem?_eq_getElem hlt⟩
                  have hnums : (nums S.length)[j]?.getD 0 = (j : Int) + 1 := by simp [nums, hlt]
                  have hcell : ∃ b off, Ag = some ⟨b, off, none⟩ ∧ wr.cell? ⟨b, off + j, none⟩ = some (.int .i64 ((j : Int) + 1)) := by
                    rcases HH.out with ⟨_, h0⟩ | ⟨b, off, cap, h1, h2, h3⟩
                    · have := nums_length S.length
                      rw [h0] at this
                      simp at this
                      omega
                    · injection h1 with h1
                      have h4 := h3 j (by rw [nums_length]; exact hlt)
                      rw [hnums] at h4
                      exact ⟨b, off, h1, (hBw.cell (p := ⟨b, off + j, none⟩) h2).trans h4⟩
                  obtain ⟨b, off, rfl, hcj⟩ := hcell
                  have hm2 := hmem s (List.mem_of_getElem? hs')
                  obtain ⟨sf, hfs⟩ := hF j s hs'
                  have hLw := HL10.out.below hBw
                  have hra0 := records_L wr w3.heap.size Ft3 Dk k9 F 1048576 x9 lf9 L9 G9 ⟨#[120]⟩ sz (gS S) j _ _ (YtidadjlhnlmfkaaGreatDoor.wr s) sf hLw (by rw [gS_length]; omega) nmOk_x (gS_get hs') hfs (by rw [wr_length]; omega)
                  rw [recs_wr0 s (fun r hr => by have := hm2.2 r hr; omega)] at hra0
                  have hra := Lib.hid hra0
                  clear hra0
                  have hvl : (S.take j).flatten.length ≤ 40 := by
                    have h1 : (S.take j).flatten.length ≤ S.flatten.length := by
                      have h2 := congrArg List.length (congrArg List.flatten (List.take_append_drop j S))
                      rw [List.flatten_append, List.length_append] at h2
                      omega
                    have := HFL.out.2.2
                    omega
                  have hfn := flat_next hs'
                  generalize (S.take j).flatten = fl at *
                  have HFN := Lib.hid hfn
                  clear hfn
                  obtain ⟨Av, cv, rfl, _, _⟩ := hO.slice
                  obtain ⟨vs, o1, o2, o3⟩ := hO
                  have hsl20 : s.length ≤ 12320 := Nat.le_trans (took_len s) hm2.1
                  clear hm2 hLw hfs
                  go_wp2_with fail
                  refine hra.out.mono ?_
                  rintro e w11 ⟨A8, c8, rfl, hO8, hb8⟩
                  obtain ⟨us, u1, u2, u3⟩ := hO8
                  have hbsz := hBw.size
                  have o1' : w11.ownsRow w10.heap.size 26 1 (.slice Av fl.length cv) vs.length vs := by rw [o2]; exact own_kept o1 hb8 (Nat.le_refl _)
                  have u1' := Cs.of_own u1
                  have hone := one_of_own u2 u3
                  have hbs8 := hb8.size
                  have B8 := hBw.trans (hb8.mono hbsz)
                  have HO3 := Lib.hid (fun (k : Nat) (r : List UInt8) (u : Value) (hr : fl[k]? = some r) (hu : vs[k]? = some u) => (own_kept (o3 k r u hr hu) hb8 (Nat.le_refl _) : Own5 w11 w10.heap.size u r))
                  have HU3 := Lib.hid u3
                  have O2 := Lib.hid o2
                  have U2 := Lib.hid u2
                  have hvs : vs.length + s.length ≤ 1000000000 := by omega
                  have hsz8 : w10.heap.size ≤ w11.heap.size := by omega
                  clear o1 o3 u1 u3 hra o2 u2
                  go_wp2_with (at_builtin; refine appR (.tmp 96) (.tmp 99) rfl (by rfl) w10.heap.size _ vs us rfl o1' _ A8 s.length c8 rfl U2.out u1' hone hvs hsz8 ?_; intro v9 w12 o9 g9)
                  have o1'' : w11.ownsRow w10.heap.size 26 1 (.slice Av fl.length cv) fl.length vs := by have := o1'; rw [O2.out] at this; exact this
                  have hON := OwnR.joined hbsz o1'' O2.out HO3.out U2.out HU3.out o9 g9
                  rw [← HFN.out] at hON
                  have B9 := grown_below B8 (Nat.le_refl _) o1' g9
                  have HON := Lib.hid hON
                  have HB9 := Lib.hid B9
                  clear o9 g9 o1' o1'' HO3 HU3 u1' hone hON B9
                  go_wp2_with fail
                  go_roundw
                  case rel => exact ⟨j + 1, by omega, by go_num, HON.out, HB9.out⟩
                  case measure => simp [intOf]; omega
                · obtain rfl : j = S.length := by omega
                  rw [List.take_length] at hO
                  generalize S.flatten = gl at *
                  obtain ⟨A9, c9, rfl, hc9, _⟩ := hO.slice
                  have hbw9 := hBw.size
                  obtain ⟨va, ca, ra⟩ := (HRa.out.below hBw).vals
                  obtain ⟨vb, cb, rb⟩ := (HRb.out.below hBw).vals
                  have hva := ra.1
                  have hvb := rb.1
                  have hoa := ra.one
                  have hob := rb.one
                  have n0 : wr.ownsRow wr.heap.size 26 1 (.slice none 0 0) ([] : List Value).length [] := World.ownsRow_nil wr wr.heap.size 26 1
                  have HRA := Lib.hid ra
                  have HRB := Lib.hid rb
                  have HO := Lib.hid hO
                  have HBW := Lib.hid hBw
                  have hgl : gl.length ≤ 40 := by have := HFL.out.2.2; omega
                  have hz1 : ([] : List Value).length + al.length ≤ 1000000000 := by simp; omega
                  have hz2 : va.length + bl.length ≤ 1000000000 := by omega
                  have hg1 : (al.length : Int) ≤ (gl.length : Int) := by have := HFL.out.2.1; omega
                  have hg2 : gl.length ≤ al.length + bl.length := HFL.out.2.2
                  clear ra rb hO hBw
                  go_wp2_with (first
                    | (at_builtin; refine appR (.const (.slice none 0 0)) (.tmp 102) rfl (by rfl) wr.heap.size _ [] va rfl n0 _ A al.length c rfl hva ca hoa hz1 (Nat.le_refl _) ?_; intro v9 w12 o9 g9; have o9' : w12.ownsRow wr.heap.size 26 1 v9 va.length va := by { simpa using o9 }; have b12 : Below wr.heap.size wr w12 := grown_below (Below.refl _ wr) (Nat.le_refl _) n0 g9; have cb' := cb.below (b12.mono hbw9); have hs12 := b12.size; clear o9 g9)
                    | (at_builtin; refine appR (.tmp 103) (.tmp 104) rfl (by rfl) wr.heap.size _ va vb rfl o9' _ B bl.length d rfl hvb cb' hob hz2 hs12 ?_; intro v10 w13 o10 g10; have b13 : Below wr.heap.size wr w13 := grown_below b12 (Nat.le_refl _) o9' g10; obtain ⟨A10, c10, rfl, hc10, hm10⟩ := own_slice o10; have hml0 : (va ++ vb).length = al.length + bl.length := (by rw [List.length_append, hva, hvb]); generalize hml : (va ++ vb).length = ml at *; have hg3 : (gl.length : Int) ≤ (ml : Int) := (by omega); have hsl := slice22_hi A10 ml c10 gl.length (by omega) hc10; have O10 := Lib.hid o10; clear o10 g10))
                  have hs13 := b13.size
                  have hR13 := ((HRA.out.append HRB.out).below (b13.mono hbw9)).rws (by omega) O10.out
                  have hRt : Rws w13 w13.heap.size A10 gl := fun k r hk => by
                    rw [HFL.out.1, List.getElem?_take] at hk
                    split at hk
                    · exact hR13 k r hk
                    · cases hk
                  have hO13 := (HO.out.kept b13 (Nat.le_refl _)).rws
                  have HS := Lib.hid (same_any A9 A10 w13.heap.size c9 c10 gl w13 hO13 hRt (by unfold maxLen; omega))
                  have BW := B10.trans ((HBW.out.trans (b13.mono hbw9)).mono B10.size)
                  clear hR13 hRt hO13
                  refine HS.out.mono ?_
                  rintro e w14 ⟨rfl, hb14⟩
                  have BW2 := BW.trans (hb14.mono BW.size)
                  go_wp2_with fail
                  go_ret
                  exact ⟨rfl, BW2⟩
end Go.Proofs.YtidadjlhnlmfkaaGreatDoor
/- A parameter of ints. Conditions: none. -/
namespace Go.Proofs.YtidadjlhnlmfkaaGreatDoor
open Go.ChangeShapes Go.WideShapes Go.ChangeAt Go.RowKit
def IsN (W : World) (v : Value) : Prop := ∃ A c, ∃ l : List Int, v = .slice A l.length c ∧ (∀ (j : Nat) u, l[j]? = some u → ∃ ad, A = some ad ∧ ad.block < W.heap.size ∧ W.cell? (ad.add j) = some (.int .i64 u)) ∧ l.length ≤ c ∧ c ≤ maxLen
theorem wf_le {n : Int} (h : (Lit.int .i64 n).wf = true) : n ≤ 9223372036854775807 := by
  have h2 : -9223372036854775808 ≤ n ∧ n ≤ 9223372036854775807 := by
    simpa [Lit.wf, IntKind.min, IntKind.max, IntKind.signed, IntKind.bits] using h
  exact h2.2
section
variable {H : Type} {enc : TypeId × Value → H}
set_option maxRecDepth 100000 in
theorem open_n {W : World} {v : Value} {d : DataW H} {p : List MemPlace} (hv : Value.okWide Tryz.prog W .any 0 23 v) (h : DataW.Trod enc Tryz.prog W 0 (fun _ => true) true 23 v d p) : IsN W v := by
  obtain ⟨a0, len0, cap0, rfl⟩ := okWide_slice Tryz.underlying23 hv
  obtain ⟨fuel, hf⟩ := h
  rcases open_ints Tryz.underlying23 Tryz.underlying3 (by kernel_rfl) hf with ⟨hcs, _⟩ | ⟨x, l, c, zs, hcs, _, hl, hm, hz, _, hcell, hwz⟩
  · simp [Value.cells] at hcs
    obtain ⟨rfl, rfl, rfl⟩ := hcs
    exact ⟨none, 0, [], rfl, fun j u hj => by simp at hj, by simp, by unfold maxLen; omega⟩
  · simp [Value.cells] at hcs
    obtain ⟨rfl, rfl, rfl⟩ := hcs
    have hz' : zs.length = cap0 := by simpa using hz
    refine ⟨some x, cap0, zs.take len0, by rw [List.length_take, Nat.min_eq_left (by omega)], fun j u hj => ?_, by rw [List.length_take]; omega, hm⟩
    have hlt : j < len0 := by
      have := (List.getElem?_eq_some_iff.1 hj).1
      rw [List.length_take] at this
      omega
    have hc := hcell j (by omega)
    have hu : zs.getD j 0 = u := by
      rw [List.getElem?_take, if_pos hlt] at hj
      rw [List.getD, hj]
      rfl
    rw [hu] at hc
    refine ⟨x, rfl, ?_, hc⟩
    have := World.block_lt_of_cell? W _ hc
    rwa [blk_add] at this
end
end Go.Proofs.YtidadjlhnlmfkaaGreatDoor
/- (*disk.Disk).Rename where the file is there, whenever the power fails. Conditions: as stated at each. -/
namespace Go.Proofs.YtidadjlhnlmfkaaGreatDoor
open Go.RowKit Go.Shelf Go
/-- behind Rename. -/
def Renamed (W : World) (N : Nat) (Ft : Nat → Prop) (Dk k : Nat) (F : Files) (s s2 : ByteArray) (bs : List UInt8) (z : Nat) (rm x lf : Int) (w' : World) : Prop :=
  DiskS w' N (NewFt Ft W w') Dk (k + 1) (if lf = 1 then F else (F.upd s none).upd s2 (some (bs, z))) rm (if lf = 1 then x else x - lenOf F s2) (lfA lf) (decide (lf = 1)) ∧ Tn Ft W w'
set_option maxRecDepth 20000 in
set_option maxHeartbeats 1600000 in
theorem rename_L (W : World) (N : Nat) (Ft : Nat → Prop) (Dk k : Nat) (F : Files) (s s2 : ByteArray) (rm x lf : Int) (bs : List UInt8) (z : Nat)
    (hS : DiskS W N Ft Dk k F rm x lf false) (hb : nameB s = true) (hb2 : nameB s2 = true) (hne2 : s2 ≠ s) (hf : F s = some (bs, z)) (hk : k < maxLen) (hx : (bs.length : Int) ≤ x) (hx2 : x ≤ 100000000) (hn2 : lenOf F s2 ≤ 100000000) (hlf : lf ≤ 9223372036854775807) :
    Calls Tryz.prog 72 #[.pointer (some ⟨Dk, 0, none⟩), .string s, .string s2] W fun e w' => e = .returned (.int .i64 (erA lf)) ∧ Renamed W N Ft Dk k F s s2 bs z rm x lf w' := by
  obtain ⟨M, D, hD, hM, f1, f2, hF⟩ := hS
  have hs := nameB_size hb
  have hs2 := nameB_size hb2
  obtain ⟨a, c, ho, _, _, _⟩ := hF.2.1 s bs z hf
  obtain ⟨a2, c2, o1, _⟩ := hF.old s2
  have ho2 : OldIs (D.del (kOf s)) s2 (lenOf F s2) := by
    have h0 := o1.is
    rcases h0 with ⟨h1, h2⟩ | ⟨a', c', z', h1⟩
    · exact .inl ⟨by rw [at_del, if_neg hne2]; exact h1, h2⟩
    · exact .inr ⟨a', c', z', by rw [at_del, if_neg hne2]; exact h1⟩
  have hx0 : ∀ w (v u : Value), (Instr.extract (.tuple #[v, u]) 0).run Tryz.prog w = .ok v w := fun _ _ _ => by kernel_rfl
  have hx1 : ∀ w (v u : Value), (Instr.extract (.tuple #[v, u]) 1).run Tryz.prog w = .ok u w := fun _ _ _ => by kernel_rfl
  have hen : ∀ args w, (callFunc 92 args).run Tryz.prog w = .ok (.enter 92 args) w := enters_of Tryz.func92 (by kernel_rfl) rfl
  have hen2 : ∀ args w, (callFunc 79 args).run Tryz.prog w = .ok (.enter 79 args) w := enters_of Tryz.func79 (by kernel_rfl) rfl
  obtain ⟨k0, k1, k2, k3, _⟩ := four_new W 30 9 9 9 #[.pointer (some ⟨Dk, 0, none⟩)] #[.string s] #[.string s2] #[.string s, .string s2] (fun i => i = Dk ∨ i = M)
  have kB := four_below W 30 9 9 9 #[.pointer (some ⟨Dk, 0, none⟩)] #[.string s] #[.string s2] #[.string s, .string s2]
  have HFi := Lib.hid hF
  have HO := Lib.hid hf
  have HLE := Lib.hid (And.intro hx hn2)
  generalize hbl : bs.length = n at *
  have HBL := Lib.hid hbl
  have HO2 := Lib.hid ho2
  clear hF hf o1 ho2 hbl
  go_enter Tryz.func72, Tryz.ntmps72
  go_wp2_with fail
  generalize ((((W.alloc (Obj.cells #[Value.pointer (some ⟨Dk, 0, none⟩)] 30)).alloc (Obj.cells #[Value.string s] 9)).alloc (Obj.cells #[Value.string s2] 9)).alloc (Obj.cells #[Value.string s, Value.string s2] 9)) = W3 at *
  have kD : BlkIs W3 Dk 55 _ := (kB.block Dk hD.lt).trans hD
  have kM : MapIs W3 M k D := Held.same hM (kB.block M (Held.lt hM))
  refine (find_some W3 Dk M k 2 D _ s [s2] _ _ _ a n c z kD kM (Strs.two k3 hs hs2) (fun ad e => by cases e; exact k3.lt) (by unfold maxLen; simp) (by simp [hb, hb2]) ho).mono ?_
  rintro e W4 ⟨rfl, hb4⟩
  have jB := kB.trans (hb4.mono kB.size)
  have k'D : BlkIs W4 Dk 55 _ := (hb4.block Dk kD.lt).trans kD
  have jD := k'D.alloc (.cells #[.slice a n c, .int .i64 z] 71)
  have k'0 : BlkIs W4 _ 30 _ := (hb4.block _ k0.lt).trans k0
  have j0 := k'0.alloc (.cells #[.slice a n c, .int .i64 z] 71)
  have k'1 : BlkIs W4 _ 9 _ := (hb4.block _ k1.lt).trans k1
  have j1 := k'1.alloc (.cells #[.slice a n c, .int .i64 z] 71)
  have k'2 : BlkIs W4 _ 9 _ := (hb4.block _ k2.lt).trans k2
  have j2 := k'2.alloc (.cells #[.slice a n c, .int .i64 z] 71)
  have jF := BlkIs.new W4 71 #[.slice a n c, .int .i64 z]
  have q0 := j0.cell 0
  go_wp2_with fail
  have jB5 := jB.alloc jB.size (.cells #[.slice a n c, .int .i64 z] 71)
  have jM : MapIs (W4.alloc (.cells #[.slice a n c, .int .i64 z] 71)) M k D := Held.same hM (jB5.block M (Held.lt hM))
  have jT : Tn (fun i => i = Dk ∨ i = M) W (W4.alloc (.cells #[.slice a n c, .int .i64 z] 71)) := Tn.of_below jB5
  clear kB kD kM hb4 jB k'D k'0 k'1 k'2 k0 k1 k2 k3 q0
  generalize W4.alloc (.cells #[.slice a n c, .int .i64 z] 71) = W5 at *
  have hneM := Held.not_blk jM jD
  have n0 := blk_ne j0 jD (by decide)
  have n1 := blk_ne j1 jD (by decide)
  have n2 := blk_ne j2 jD (by decide)
  have nF := blk_ne jF jD (by decide)
  refine (change_lf 92 79 _ #[] W5 Dk lf hlf jD (fun w' => Renamed W N Ft Dk k F s s2 bs z rm x lf w') (hen _) (hen2 _) (fun hl => ?_) (fun hl => ?_)).mono ?_
  · have aD := armed_blk jD
    have aM : MapIs (armed W5 Dk lf) M k D := Held.same jM (armed_heap hneM)
    have aT := armed_tn (lf := lf) jT (.inl rfl)
    refine (ren_any (armed W5 Dk lf) Dk M k D s s2 _ _ _ x n (lenOf F s2) a n c z _ _ _ _ aD aM (.inr ⟨a, c, z, ho⟩) HO2.out hs hs2 hk hx (by omega) (by omega) (by omega) (by omega) ((armed_heap n0).trans j0) ((armed_heap n1).trans j1) ((armed_heap n2).trans j2) ((armed_heap nF).trans jF)).mono ?_
    rintro e w' ⟨rfl, p1, p2, p3⟩
    have p4 := aT.trans p3
    refine ⟨rfl, ?_⟩
    unfold Renamed
    rw [if_neg hl, if_neg hl, decide_eq_false hl]
    rw [show x - (n : Int) + ((n : Int) - (lenOf F s2 : Int)) = x - (lenOf F s2 : Int) by omega] at p1
    have hFi := files_ren (s2 := s2) HFi.out hM hD (by decide) hs HO.out (by rw [HBL.out]; exact ho) p4
    rw [HBL.out] at hFi
    refine ⟨⟨M, _, p1, p2, .inl f1, .inl f2, hFi.1, fun t bs' z' ht => ?_, hFi.2.2⟩, p4.mono fun i _ hi => ?_⟩
    · obtain ⟨a', c', g1, g2, g3, g4⟩ := hFi.2.1 t bs' z' ht
      exact ⟨a', c', g1, g2, g3, fun g hg => .inl (g4 g hg)⟩
    · rcases hi with rfl | rfl
      · exact f1
      · exact f2
  · subst hl
    refine (nothing_any W5).mono ?_
    rintro e w' ⟨rfl, rfl⟩
    have hT := (Tn.of_below (p := fun i => i = Dk) jB5).setCell (x := ⟨Dk, 4, none⟩) (.inl rfl) (.bool true)
    refine ⟨rfl, ⟨_, jD.cell 4⟩, jD.froz 4, ?_⟩
    unfold Renamed
    rw [if_pos rfl, if_pos rfl]
    have hT2 : Tn Ft W (W5.setCell ⟨Dk, 4, none⟩ (.bool true)) := hT.mono fun i _ hi => by
      have hi : i = Dk := hi
      rw [hi]
      exact f1
    refine ⟨⟨M, D, ?_, World.ownsMap.mono (Held.same jM (Below.heap_setCell W5 ⟨Dk, 4, none⟩ _ M hneM)) (by omega), .inl f1, .inl f2, files_keep HFi.out hT (fun i h => .inl h) (fun v l g ho hg hp => Own5.not_blk ho hD (by decide) (by rw [hg, hp]))⟩, hT2⟩
    have := jD.put 4 (.bool true)
    simpa [lfA] using this
  · rintro e w' ⟨rfl, hp⟩
    go_wp2_with fail
    go_ret
    exact ⟨rfl, hp⟩
end Go.Proofs.YtidadjlhnlmfkaaGreatDoor
