/- dots.Stuff, walked. Conditions: as stated at each. -/
import Derived.Test.YtdbmcbnohldolaaDtStuff
namespace Go.Proofs.Ytdbmcbnohldolaa
set_option maxRecDepth 100000
namespace Dt
open Go.RowKit Go.Shelf Go Go.Proofs.Ytdbmcbnohldolaa.Hd
attribute [local go_sem] Oper.semAt_some
set_option maxHeartbeats 1600000 in
theorem stuff_in {w : World} {A : Option Addr} {l : L} (h : Bts w w.heap.size A l) (c : Nat) (hc : l.length ≤ c) (hm : c ≤ maxLen) (hl : l.length ≤ 10000) (hG : Gl w) :
    CallsIn Fence.wide 9 Try.prog 13 #[.slice A l.length c] w (StuffP w l) := by
  refine callsIn_of_wp_marks Try.func13 rfl trivial ?_ rfl
  have hcl := close_len l
  have hst : stuff l = wire (lines (close l)) ++ [46, 13, 10] := rfl
  have hwb := wire_bound l
  have HST := Lib.hid hst
  have hb1 : Below w.heap.size w (w.alloc (.cells #[.slice none 0 0] 22)) := (Below.refl _ w).alloc (Nat.le_refl _) _
  have HC := Lib.hid (close_any ((h.below hb1).more hb1.size) c hc hm (by omega))
  have HBX := Lib.hid (Boxed.new w 22 (.slice none 0 0))
  have HB1 := Lib.hid hb1
  have hz1 : (w.alloc (.cells #[.slice none 0 0] 22)).heap.size = w.heap.size + 1 := by simp
  simp only [Try.ntmps13, List.size_toArray, List.length_cons, List.length_nil, Nat.reduceAdd, Nat.reduceSub, Array.replicate_succ, Array.replicate_zero, List.push_toArray, List.append_toArray, List.nil_append, List.cons_append]
  clear h hst hb1
  generalize l.length = n at *
  gi_wp2_with fail
  generalize w.alloc (.cells #[.slice none 0 0] 22) = w1 at *
  refine ⟨trivial, ?_⟩
  refine (callsIn_wide.2 HC.out).mono ?_
  rintro e w2 ⟨v2, rfl, ho2, hb2⟩
  have HB2 := Lib.hid hb2
  have hz2 := hb2.size
  obtain ⟨A2, c2, rfl, hc2, hm2⟩ := own_slice ho2
  have HO2 := Lib.hid ho2
  have HA2 : Hid (∀ ad, A2 = some ad → w.heap.size + 1 ≤ ad.block) := Lib.hid fun ad e => by
    subst e
    have := (ho2.lt ad.block rfl).1
    omega
  have HN2 : Hid (A2 = none → c2 = 0) := Lib.hid fun e => by
    subst e
    rcases ho2.2 with ⟨hv, _⟩ | ⟨g, _, _, hv, _⟩
    · injection hv
    · injection hv with hv; cases hv
  clear ho2 hb2
  gi_wp2_with fail
  refine ⟨trivial, ?_⟩
  refine (callsIn_wide.2 (lines_fn _ _ _ _)).mono ?_
  rintro e w3 ⟨rfl, hw3⟩
  have hV3 : w3.heap[w2.heap.size]? = some (.cells #[.slice A2 (close l).length c2] 22 (0, 0)) := by rw [hw3]; exact World.alloc_heap_new w2 _
  have hz3 : w3.heap.size = w2.heap.size + 1 := by rw [hw3]; simp
  have hb3 : Below w2.heap.size w2 w3 := by rw [hw3]; exact (Below.refl _ w2).alloc (Nat.le_refl _) _
  have hB3 : Below w1.heap.size w1 w3 := HB2.out.trans (hb3.mono hz2)
  have hbt3 : Bts w3 w2.heap.size A2 (close l) := (Own5.bts HO2.out).below hb3
  have hbx3 : Boxed w3 w.heap.size 22 (.slice none 0 0) := (hB3.block _ (by omega)).trans HBX.out
  have hG3 : Gl w3 := (hG.below HB1.out hG.lt).below hB3 (by have := hG.lt; omega)
  have hBw : Below w.heap.size w w3 := HB1.out.trans (hB3.mono (by omega))
  obtain ⟨p, hp⟩ : ∃ p : Nat → Prop, p = fun k => k < w3.heap.size ∧ k ≠ w.heap.size := ⟨_, rfl⟩
  have hpp : ∀ k, p k → k < w3.heap.size ∧ k ≠ w.heap.size := fun k hk => by rw [hp] at hk; exact hk
  have h0 : StI w w3 p w.heap.size w3.heap.size (.slice none 0 0) [] w3 := ⟨hbx3, Own5.nil _ _, hBw, Sm.refl _ _, Nat.le_refl _⟩
  have hGl := hG.lt
  have hstops := lines_stops p 8 (by omega) w3 w2.heap.size w2.heap.size c2 A2 (close l) hV3 hbt3 (by rw [hp]; exact ⟨by omega, by omega⟩) (by rw [hp]; exact ⟨by omega, by omega⟩)
    (fun ad e _ => by
      rw [hp]
      have h1 := HA2.out ad e
      refine ⟨?_, by omega⟩
      subst e
      obtain ⟨g, cap, hv, hg1, hg2⟩ : ∃ g cap, Value.slice (some ad) (close l).length c2 = .slice (some ⟨g, 0, none⟩) (close l).length cap ∧ True ∧ g < w2.heap.size := by
        rcases HO2.out.2 with ⟨hv, _⟩ | ⟨g, cap, cur, hv, _, hh, _⟩
        · injection hv with hv; cases hv
        · exact ⟨g, cap, hv, trivial, (Array.getElem?_eq_some_iff.1 hh).1⟩
      injection hv with hv
      injection hv with hv
      subst hv
      show g < w3.heap.size
      omega) hc2 hm2 HN2.out (by omega) hG3
  have HPP := Lib.hid hpp
  have H0 := Lib.hid h0
  have HSTP := Lib.hid hstops
  clear h0 hstops hG3 hbx3 hbt3 hV3 hB3 hb3 hBw hw3 hp hpp
  generalize (close l).length = nc at *
  gi_wp2_with fail
  refine wpIn_rangeFunc_ownG rfl (by omega) (gf := 24) (lb := #[.pointer (some ⟨w2.heap.size, 0, none⟩)]) rfl trivial (enters_of Try.func24 (by kernel_rfl) rfl)
    HSTP.out (fun h k => h.trans k) (fun W l o o' hl ho _ _ => ⟨by simp, fun k hk hl' => World.putObj_heap_other (by have := HPP.out k hk; omega)⟩) (Below.refl _ _) (fun _ => rfl)
    (StJ w w3 p w.heap.size w3.heap.size w2.heap.size) (fun _ _ _ => False) (stJ_own (by omega) HPP.out) (fun _ _ _ _ _ h _ _ => h.elim) ⟨_, H0.out⟩
    (fun x => { tmps := #[.slice A n c, undef, .slice none 0 0, .pointer (some ⟨w.heap.size, 0, none⟩), .slice x.1.1 x.1.2.2.length x.1.2.1, .slice A n c, .slice A2 nc c2, .func (.func 24) #[] #[.pointer (some ⟨w2.heap.size, 0, none⟩)], .slice x.1.1 x.1.2.2.length x.1.2.1, undef, undef, undef, undef, undef, undef, undef, undef, undef, undef, undef, undef], defers := [] }) ?assign ?body ?done ?stop
  case assign =>
    intro lp x X K' hK'
    dsimp only [encL]
    gi_wp2
    exact hK'
  case body =>
    rintro lp pre ⟨⟨Ax, cx, s⟩, hbx, hsc, hcm, hsl, hlb⟩ X ⟨v, hst⟩ hlen
    dsimp only at hbx hsc hcm hsl hlb ⊢
    obtain ⟨y, hy⟩ : ∃ y : LineAt p w3 w2.heap.size, y = ⟨(Ax, cx, s), hbx, hsc, hcm, hsl, hlb⟩ := ⟨_, rfl⟩
    rw [← hy]
    have hyl : byL y = s := by rw [hy]; rfl
    clear hy
    have hwl := wire_map_len pre
    have hx0 := hbx X hst.sm
    have hls := hlb.len
    obtain ⟨g, o, rfl, hg, hcell⟩ := bts_at_ hx0 (by omega)
    have hc0 := hcell 0 (by omega)
    rw [Nat.add_zero] at hc0
    have e0 : (((s.getD 0 0).toNat : Int) == 46) = (s.getD 0 0 == 46) := eq_byte _ 46
    have HD1 := Lib.hid (fun h => (dot_t (x := s) h hls).1)
    have HD2 := Lib.hid (fun h => (dot_f (x := s) h).1)
    have hwl2 : (wire (pre.map byL)).length ≤ 500000000 := by omega
    have HWL := Lib.hid hwl2
    have HPR : Hid (wire ((pre ++ [y]).map byL) = wire (pre.map byL) ++ dot s) := Lib.hid (by rw [wire_map_snoc, hyl])
    clear hyl
    have bx := hst.box.cell
    have bz := hst.box.frozen
    have HS := Lib.hid hst
    have HBX := Lib.hid hbx
    have hbM : w.heap.size < w3.heap.size := by omega
    have hbS : w.heap.size ≤ X.heap.size := by have := hst.sz; omega
    clear hst hcell hwl hwl2 hx0 hbx
    generalize s.getD 0 0 = c0 at *
    generalize hsn : s.length = sn at *
    have HSN := Lib.hid hsn
    clear hsn
    generalize wire (pre.map byL) = t at *
    have hs0 : 0 < sn := by omega
    by_cases h46 : c0 = 46
    · subst h46
      have HD := Lib.hid (HD1.out rfl)
      have HSA := Lib.hid (HS.out.alloc (Nat.le_of_lt hbM) (.cells #[.int .u8 46] 5))
      clear HD1 HD2
      gi_wp2_with (first
        | (refine lin_app5 (Wide.round _ _ _) (.tmp 13) (.tmp 14) rfl rfl (l := t) (m := [46]) rfl HSA.out.own (B := X.heap.size + 1) (c := 1) rfl (bts_new X [46] _ _ rfl) (by have := HWL.out; simp; omega) HSA.out.sz ?_; intro v4 w4 h1 h2; obtain ⟨A4, k4, c4, rfl⟩ := own5_letters h1; obtain ⟨bx4, st4, ko4, sm4⟩ := HSA.out.app hbM HPP.out h1 h2; have x4 := bx4.cell; have z4 := bx4.frozen; have y4 := st4.box.cell; have u4 := st4.box.frozen; have ST4 := Lib.hid st4; have KO4 := Lib.hid ko4; have SM4 := Lib.hid sm4; clear h1 h2 bx4 st4 ko4 sm4)
        | (refine lin_app5 (Wide.round _ _ _) (.tmp 16) (.tmp 17) rfl rfl (l := t ++ [46]) (m := s) rfl ST4.out.own (c := cx) (by rw [HSN.out]; rfl) (HBX.out _ ST4.out.sm) (by rw [HSN.out]; have := HWL.out; simp; omega) ST4.out.sz ?_; intro v5 w5 h1 h2; obtain ⟨A5, k5, c5, rfl⟩ := own5_letters h1; obtain ⟨bx5, st5, ko5, sm5⟩ := ST4.out.app hbM HPP.out h1 h2; have x5 := bx5.cell; have z5 := bx5.frozen; have ST5 := Lib.hid st5; have KO5 := Lib.hid ko5; have SM5 := Lib.hid sm5; clear h1 h2 bx5 st5 ko5 sm5)
        | fail)
      refine ⟨(((KeepsOthers.of_grownBy (World.grownBy_alloc X (.cells #[.int .u8 46] 5) none) (fun _ _ h => by cases h)).trans KO4.out).trans KO5.out).from _, ((Sm.allocD p X (.cells #[.int .u8 46] 5) 0).trans SM4.out).trans SM5.out, .slice A5 k5 c5, ?_⟩
      rw [HPR.out]
      have e : t ++ dot s = (t ++ [46]) ++ s := by rw [HD.out, List.append_assoc]; rfl
      show StI w w3 p _ _ _ (t ++ dot s) _
      rw [e]
      exact ST5.out
    · have h46' : (c0 == 46) = false := by simpa using h46
      rw [h46'] at e0
      have HD := Lib.hid (HD2.out h46)
      clear HD1 HD2 h46 h46'
      gi_wp2_with (first
        | (refine lin_app5 (Wide.round _ _ _) (.tmp 16) (.tmp 17) rfl rfl (l := t) (m := s) rfl HS.out.own (c := cx) (by rw [HSN.out]; rfl) (HBX.out _ HS.out.sm) (by rw [HSN.out]; have := HWL.out; omega) HS.out.sz ?_; intro v5 w5 h1 h2; obtain ⟨A5, k5, c5, rfl⟩ := own5_letters h1; obtain ⟨bx5, st5, ko5, sm5⟩ := HS.out.app hbM HPP.out h1 h2; have x5 := bx5.cell; have z5 := bx5.frozen; have ST5 := Lib.hid st5; have KO5 := Lib.hid ko5; have SM5 := Lib.hid sm5; clear h1 h2 bx5 st5 ko5 sm5)
        | fail)
      refine ⟨KO5.out.from _, SM5.out, .slice A5 k5 c5, ?_⟩
      rw [HPR.out]
      show StI w w3 p _ _ _ (t ++ dot s) _
      rw [HD.out]
      exact ST5.out
  case done =>
    rintro D xs X hD hS ⟨v, hst⟩ hKd
    rw [hS] at hst
    have bx := hst.box.cell
    have HS := Lib.hid hst
    have HKD := Lib.hid hKd
    have hbS : w.heap.size ≤ X.heap.size := by have := hst.sz; omega
    clear hst hKd
    gi_wp2_with (first
      | (refine lin_app5s (Wide.wide _ _) (.tmp 19) (.const (.string ⟨#[46, 13, 10]⟩)) rfl rfl (l := wire (lines (close l))) (m := [46, 13, 10]) rfl HS.out.own rfl (by simp; omega) HS.out.sz ?_; intro v5 w5 h1 h2; have H5 := Lib.hid h1; have G5 := Lib.hid h2; clear h1 h2)
      | fail)
    have hDX : D < X.heap.size := (Array.getElem?_eq_some_iff.1 HKD.out).1
    have hsz := HS.out.sz
    have hK5 : w5.heap[D]? = some (.deferred (some [])) := by
      rw [G5.out.block D hDX (fun e => by have := own5_cells HS.out.own D _ e.symm HKD.out; cases this)]
      exact HKD.out
    have b5 : Below w.heap.size w w5 := HS.out.bel.grown G5.out hbS (fun k hk => by have := own5_low HS.out.own k hk; omega)
    refine ⟨by simp, .inl ⟨_, _, rfl, run_takeDeferred hK5, ?_⟩⟩
    have hD5 : D < w5.heap.size := (Array.getElem?_eq_some_iff.1 hK5).1
    have hg := grownBy_putObj' w5 D (.deferred none)
    refine ⟨v5, by simp [results, Try.results13, go_sem], v5, rfl, ?_, b5.grown hg b5.size (fun k e => by injection e with e; omega)⟩
    rw [HST.out]
    exact own_more (ownsRow_putObj H5.out (.deferred none) hK5 rfl) (by omega)
  case stop =>
    rintro _ _ _ _ _ _ h _
    exact h.elim
theorem stuff_any {w : World} {A : Option Addr} {l : L} (h : Bts w w.heap.size A l) (c : Nat) (hc : l.length ≤ c) (hm : c ≤ maxLen) (hl : l.length ≤ 10000) (hG : Gl w) :
    Calls Try.prog 13 #[.slice A l.length c] w (StuffP w l) := callsIn_wide.1 (stuff_in h c hc hm hl hG)
end Dt
end Go.Proofs.Ytdbmcbnohldolaa
