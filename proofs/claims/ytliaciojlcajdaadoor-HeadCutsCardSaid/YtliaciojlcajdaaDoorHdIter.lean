/- head.lines, its iterator; head.parts. Conditions: as stated at each. -/
import Derived.Test.YtliaciojlcajdaaDoorHdGo
import Derived.Shelf.Abstract
import Derived.Shelf.RegionOpen
import Derived.Lib.SlBytesConst
namespace Go.Proofs.YtliaciojlcajdaaDoor
set_option maxRecDepth 100000
namespace Hd
open Go.RowKit Go.Shelf Go Go.Proofs.YtliaciojlcajdaaDoor.Pa
attribute [local go_sem] Oper.semAt_some
theorem grown_drewN (w : World) (n : Nat) : w.grownBy (w.drewN n) none := ⟨rfl, rfl, rfl, Nat.le_refl _, fun _ _ _ => rfl⟩
theorem below_drewN' (w : World) (N n : Nat) : Below N w (w.drewN n) := ⟨rfl, rfl, rfl, Nat.le_refl _, fun _ _ => rfl⟩
theorem grown_allocD (w : World) (o : Obj) (n : Nat) : w.grownBy ((w.alloc o).drewN n) none := ⟨rfl, rfl, rfl, by show w.heap.size ≤ (w.alloc o).heap.size; simp, fun i hi _ => Below.heap_alloc w o i hi⟩
theorem below_allocD (w : World) (o : Obj) (n : Nat) {N : Nat} (hN : N ≤ w.heap.size) : Below N w ((w.alloc o).drewN n) := ((Below.refl N w).alloc hN o).trans (below_drewN' _ _ _)
theorem conv_const (w : World) (C : Array Value) (n c : Nat) : (convert 22 22 (.slice (some ⟨w.heap.size, 0, none⟩) n c)).run Tryd.prog (w.alloc (.cells C 5)) = .ok (.slice (some ⟨w.heap.size, 0, none⟩) n c) (w.alloc (.cells C 5 (C.size, C.size + 1))) :=
  Lib.run_convert_bytes_const (P := Tryd.prog) w 22 5 C n c Tryd.underlying22 Tryd.underlying5
theorem conv_str {w : World} {B : Nat} {A : Option Addr} {l : List UInt8} (h : Bts w B A l) (c : Nat) : (convert 22 9 (.slice A l.length c)).run Tryd.prog w = .ok (.string (str l)) w :=
  run_str Tryd.prog Tryd.underlying22 Tryd.underlying5 Tryd.underlying9 c h
set_option maxHeartbeats 1600000 in
theorem parts_no {w : World} {B : Nat} {A : Option Addr} {s : List UInt8} (h : Bts w B A s) (hB : B ≤ w.heap.size) (c : Nat) (hc : s.length ≤ c) (hA : A = none → c = 0) (hl : s.length ≤ 1000000) (hh : has 58 s = false) :
    Calls Tryd.prog 36 #[.slice A s.length c] w fun e w' => e = .returned (.tuple #[.string (str s), .slice none 0 0, .bool false]) ∧ Below w.heap.size w w' := by
  have hcv := conv_const
  have h1 : ∀ W, Below w.heap.size w W → Bts W B A s := fun W hb => h.below (hb.mono hB)
  have HCUT : Hid (∀ W, Below w.heap.size w W → W.cell? ⟨w.heap.size, 0, none⟩ = some (.int .u8 58) → Calls Tryd.prog 47 #[.slice A s.length c, .slice (some ⟨w.heap.size, 0, none⟩) 1 1] W fun e w' => e = .returned (.tuple #[.slice A s.length c, .slice none 0 0, .bool false]) ∧ ∃ q, w' = W.drewN q) := Lib.hid fun W hb hc58 => by
    have := cut_one 58 (h1 W hb) c w.heap.size hc hA hl hc58
    unfold cutOne at this
    rw [hh, if_neg (by simp)] at this
    exact this
  have H1 := Lib.hid h1
  have hb0 : ∀ q, Below w.heap.size w ((w.alloc (.cells #[.int .u8 58] 5 (1, 2))).drewN q) := fun q => below_allocD w _ q (Nat.le_refl _)
  have HB0 := Lib.hid hb0
  have hcell : (w.alloc (.cells #[.int .u8 58] 5 (1, 2))).cell? ⟨w.heap.size, 0, none⟩ = some (.int .u8 58) := (cell_of_row _ w.heap.size 0 #[.int .u8 58] 5 (1, 2) (heap_alloc_new w _)).trans rfl
  have HC := Lib.hid hcell
  clear h h1 hb0 hcell hh
  generalize hsl : s.length = n at *
  have HSL := Lib.hid hsl
  clear hsl
  go_enter Tryd.func36, Tryd.ntmps36
  go_wp2_with (first
    | (refine (HCUT.out _ (below_allocD w _ 0 (Nat.le_refl _)) HC.out).mono ?_; rintro e w' ⟨rfl, q, rfl⟩)
    | fail)
  have hbw := HB0.out q
  generalize (w.alloc (.cells #[.int .u8 58] 5 (1, 2))).drewN q = w2 at *
  have hst : ∀ k, (convert 22 9 (.slice A n c)).run Tryd.prog (w2.drewN k) = .ok (.string (str s)) (w2.drewN k) := fun k => by
    have := conv_str ((H1.out w2 hbw).below (below_drewN' w2 B k)) c
    rw [HSL.out] at this
    exact this
  have HBW := Lib.hid hbw
  clear hbw hcv
  go_quiet (fail)
  go_wp2_with fail
  refine bodyPost_ret (results_tmp3 rfl _ _ _) rfl ?_
  exact ⟨rfl, HBW.out.trans (below_drewN' _ _ _)⟩
set_option maxHeartbeats 1600000 in
theorem parts_yes {w : World} {B : Nat} {A : Option Addr} {s : List UInt8} (h : Bts w B A s) (hB : B ≤ w.heap.size) (c : Nat) (hc : s.length ≤ c) (hm : c ≤ maxLen) (hA : A = none → c = 0) (hl : s.length ≤ 1000000) (hh : has 58 s = true) :
    Calls Tryd.prog 36 #[.slice A s.length c] w fun e w' => ∃ A' c', e = .returned (.tuple #[.string (str (Pa.ahead 58 s)), .slice A' (Pa.behind 58 s).length c', .bool (nameS (Pa.ahead 58 s))]) ∧ Bts w' B A' (Pa.behind 58 s) ∧ A' ≠ none ∧ Below w.heap.size w w' := by
  have hcv := conv_const
  have hmem : (58 : UInt8) ∈ s := by
    rcases Decidable.em ((58 : UInt8) ∈ s) with h | h
    · exact h
    · rw [Pa.has_f h] at hh; cases hh
  have hbl := Pa.behind_len hmem
  obtain ⟨ad, rfl, _, _⟩ := h.at_ (k := 0) (by omega)
  obtain ⟨A', c', hfr, hbts, _, _, _⟩ := from_bts h c ((Pa.ahead 58 s).length + 1) hc hm hA (by omega)
  have hA' : A' ≠ none := by
    unfold Go.Lib.fromV at hfr
    injection hfr with h1 _ _
    rw [← h1]
    split <;> simp
  rw [(Pa.take_ahead hmem).2] at hfr hbts
  have h1 : ∀ W, Below w.heap.size w W → Bts W B (some ad) s := fun W hb => h.below (hb.mono hB)
  have HCUT : Hid (∀ W, Below w.heap.size w W → W.cell? ⟨w.heap.size, 0, none⟩ = some (.int .u8 58) → Calls Tryd.prog 47 #[.slice (some ad) s.length c, .slice (some ⟨w.heap.size, 0, none⟩) 1 1] W fun e w' => e = .returned (.tuple #[.slice (some ad) (Pa.ahead 58 s).length c, .slice A' (Pa.behind 58 s).length c', .bool true]) ∧ ∃ q, w' = W.drewN q) := Lib.hid fun W hb hc58 => by
    have := cut_one 58 (h1 W hb) c w.heap.size hc hA hl hc58
    unfold cutOne at this
    rw [hh, if_pos rfl, hfr] at this
    exact this
  have HN : Hid (∀ w, Calls Tryd.prog 18 #[.string (str (Pa.ahead 58 s))] w fun e w' => e = .returned (.bool (nameS (Pa.ahead 58 s))) ∧ w = w') := Lib.hid fun w => name_any _ w (by omega)
  have H1 : Hid (∀ W, Below w.heap.size w W → Bts W B (some ad) (Pa.ahead 58 s)) := Lib.hid fun W hb => by
    have := (h1 W hb).take (Pa.ahead 58 s).length
    rwa [(Pa.take_ahead hmem).1] at this
  have H2 : Hid (∀ W, Below w.heap.size w W → Bts W B A' (Pa.behind 58 s)) := Lib.hid fun W hb => hbts.below (hb.mono hB)
  have hb0 : ∀ q, Below w.heap.size w ((w.alloc (.cells #[.int .u8 58] 5 (1, 2))).drewN q) := fun q => below_allocD w _ q (Nat.le_refl _)
  have HB0 := Lib.hid hb0
  have hcell : (w.alloc (.cells #[.int .u8 58] 5 (1, 2))).cell? ⟨w.heap.size, 0, none⟩ = some (.int .u8 58) := (cell_of_row _ w.heap.size 0 #[.int .u8 58] 5 (1, 2) (heap_alloc_new w _)).trans rfl
  have HC := Lib.hid hcell
  have HA' := Lib.hid hA'
  clear h h1 hb0 hcell hh hfr hbts hA' hA hbl hmem
  generalize nameS (Pa.ahead 58 s) = nb at *
  generalize hsa : (Pa.ahead 58 s).length = na at *
  have HSA := Lib.hid hsa
  clear hsa
  generalize hsl : s.length = n at *
  clear hsl
  go_enter Tryd.func36, Tryd.ntmps36
  go_wp2_with (first
    | (refine (HCUT.out _ (below_allocD w _ 0 (Nat.le_refl _)) HC.out).mono ?_; rintro e w' ⟨rfl, q, rfl⟩)
    | fail)
  have hbw := HB0.out q
  generalize (w.alloc (.cells #[.int .u8 58] 5 (1, 2))).drewN q = w2 at *
  have hst : ∀ k, (convert 22 9 (.slice (some ad) na c)).run Tryd.prog (w2.drewN k) = .ok (.string (str (Pa.ahead 58 s))) (w2.drewN k) := fun k => by
    have := conv_str ((H1.out w2 hbw).below (below_drewN' w2 B k)) c
    rw [HSA.out] at this
    exact this
  have HBW := Lib.hid hbw
  clear hbw hcv
  go_quiet ((go_at_call 18; exact quiet_q (fun w => HN.out w) _ _))
  go_wp2_with fail
  refine bodyPost_ret (results_tmp3 rfl _ _ _) rfl ?_
  exact ⟨A', c', rfl, H2.out _ (HBW.out.trans (below_drewN' _ _ _)), HA'.out, HBW.out.trans (below_drewN' _ _ _)⟩
theorem lines_any (A : Option Addr) (n c : Nat) (W : World) :
    Calls Tryd.prog 35 #[.slice A n c] W fun e w' => e = .returned (.func (.func 46) #[] #[.pointer (some ⟨W.heap.size, 0, none⟩)]) ∧ w' = W.alloc (.cells #[.slice A n c] 22) := by
  go_enter Tryd.func35, Tryd.ntmps35
  go_wp2_with fail
  go_ret
  exact ⟨rfl, rfl⟩
def lenV : Value → Nat
  | .slice _ n _ => n
  | _ => 0
def oneB : Value → Nat
  | .bool true => 1
  | _ => 0
/-- what the iterator holds ahead of a round: what is left of the text. -/
def LnSt (w : World) (N : Nat) (x3 x4 x5 : Value) (cur : List UInt8) : Prop :=
  (∃ s r A c A' c', cut2 cur = some (s, r) ∧ x3 = .slice A s.length c ∧ x4 = .slice A' r.length c' ∧ x5 = .bool true ∧ Bts w N A s ∧ s.length ≤ c ∧ c ≤ maxLen ∧ (A = none → c = 0) ∧ Bts w N A' r ∧ r.length ≤ c' ∧ c' ≤ maxLen ∧ (A' = none → c' = 0)) ∨
  (∃ A c, cut2 cur = none ∧ x3 = .slice A cur.length c ∧ x4 = .slice none 0 0 ∧ x5 = .bool false)
/-- the three values that a cut lays. -/
def cutParts (A : Option Addr) (c : Nat) (l : List UInt8) : Value × Value × Value :=
  match cut2 l with
  | some (s, _) => (.slice A s.length c, Go.Lib.fromV A l.length c (s.length + 2), .bool true)
  | none => (.slice A l.length c, .slice none 0 0, .bool false)
theorem cutEnd_parts (A : Option Addr) (c : Nat) (l : List UInt8) : cutEnd A c l = .tuple #[(cutParts A c l).1, (cutParts A c l).2.1, (cutParts A c l).2.2] := by
  unfold cutEnd cutParts
  cases cut2 l with
  | none => rfl
  | some p => rfl
theorem lnSt {w : World} {N : Nat} {A : Option Addr} {c : Nat} {l : List UInt8} (h : Bts w N A l) (hc : l.length ≤ c) (hm : c ≤ maxLen) (hA : A = none → c = 0) : LnSt w N (cutParts A c l).1 (cutParts A c l).2.1 (cutParts A c l).2.2 l := by
  unfold cutParts LnSt
  cases hcut : cut2 l with
  | none => exact .inr ⟨A, c, rfl, rfl, rfl, rfl⟩
  | some p =>
    obtain ⟨s, r⟩ := p
    have hl := cut2_len hcut
    obtain ⟨_, _, _, hs, hr⟩ := cut2_some hcut
    obtain ⟨A', c', h1, h2, h3, h4, h5⟩ := from_bts h c (s.length + 2) hc hm hA (by omega)
    refine .inl ⟨s, r, A, c, A', c', rfl, rfl, ?_, rfl, ?_, by omega, hm, hA, ?_, ?_, h4, h5⟩
    · show Go.Lib.fromV A l.length c (s.length + 2) = _
      rw [h1, ← hr]
    · rw [hs]; exact h.take _
    · rw [hr]; exact h2
    · rw [hr]; exact h3
theorem lnSt_less {l : List UInt8} {A' : Option Addr} {c : Nat} {n : Nat} {a1 a3 : Value} (hn : n = l.length) (h1 : a1 = .slice A' n c) (h3 : a3 = .bool true) {A2 : Option Addr} {c2 : Nat} {a0 : Value} :
    lenV (cutParts A2 c2 l).1 + 2 * lenV (cutParts A2 c2 l).2.1 + oneB (cutParts A2 c2 l).2.2 < lenV a0 + 2 * lenV a1 + oneB a3 := by
  subst h1; subst h3; subst hn
  unfold cutParts
  cases hcut : cut2 l with
  | none => simp only [lenV, oneB]; omega
  | some p =>
    obtain ⟨s, r⟩ := p
    have hl := cut2_len hcut
    have : lenV (Go.Lib.fromV A2 l.length c2 (s.length + 2)) = r.length := by
      unfold Go.Lib.fromV lenV
      simp only
      omega
    simp only [this]
    simp only [lenV, oneB]
    omega
/-- how a round may end. -/
def Yd (J : L → World → Prop) (Jx : World → Prop) (Jp : List PanicEntry → World → Prop) (N : Nat) (r : L) (W1 : World) (e : Ending) (W' : World) : Prop :=
  (e = .returned (.bool true) ∧ J r W' ∧ Below N W1 W') ∨ (e = .returned (.bool false) ∧ Jx W') ∨ (∃ ch, e = .panicked ch ∧ Jp ch W')
def Ln (J : L → World → Prop) (Jx : World → Prop) (Jp : List PanicEntry → World → Prop) (e : Ending) (W' : World) : Prop :=
  ((∃ v, e = .returned v) ∧ ((∃ r, cut2 r = none ∧ J r W') ∨ Jx W')) ∨ (∃ ch, e = .panicked ch ∧ Jp ch W')
theorem newEnd (w : World) : Bts (w.alloc (.cells #[.int .u8 13, .int .u8 10] 5 (2, 3))) (w.heap.size + 1) (some ⟨w.heap.size, 0, none⟩) [13, 10] := Bts.newm w [13, 10] _ _ rfl
set_option maxHeartbeats 1600000 in
theorem lines_seq (n : Nat) (hn : 1 ≤ n) (w : World) (V N c : Nat) (A : Option Addr) (b : List UInt8) (hV : w.heap[V]? = some (.cells #[.slice A b.length c] 22 (0, 0))) (hN : N ≤ w.heap.size) (hN0 : 0 < N) (hb : Bts w N A b) (hc : b.length ≤ c) (hm : c ≤ maxLen) (hA : A = none → c = 0) (hl : b.length ≤ 1000000) (hG : Gl w)
    (lp : Nat) (J : L → World → Prop) (Jx : World → Prop) (Jp : List PanicEntry → World → Prop) (W : World) (hW : Below w.heap.size w W) (hJ : ∀ r W W', J r W → W.grownBy W' none → J r W')
    (hY : ∀ rest s r As cs W1, J rest W1 → cut2 rest = some (s, r) → Bts W1 N As s → s.length ≤ cs → cs ≤ maxLen → (As = none → cs = 0) → s.length ≤ 1000000 → Below N w W1 → YieldAt Fence.wide (n - 1) Tryd.prog lp #[.slice As s.length cs] W1 (Yd J Jx Jp N r W1)) (h0 : J b W) :
    CallsIn Fence.wide n Tryd.prog 46 (#[.func (.yield lp) #[] #[]] ++ #[.pointer (some ⟨V, 0, none⟩)]) W (Ln J Jx Jp) := by
  refine callsIn_of_wp Tryd.func46 rfl trivial ?_ rfl
  have hcv := conv_const
  have hVl : V < w.heap.size := (Array.getElem?_eq_some_iff.1 hV).1
  have hv : W.cell? ⟨V, 0, none⟩ = some (.slice A b.length c) := (hW.cell (p := ⟨V, 0, none⟩) hVl).trans (cell_of_row w V 0 _ 22 (0, 0) hV)
  have hNW : Below N w W := hW.mono hN
  have HCUT : Hid (∀ (wx : World) (l : L) (A : Option Addr) (c : Nat), Below N w wx → Bts wx N A l → l.length ≤ c → (A = none → c = 0) → l.length ≤ 1000000 → Calls Tryd.prog 47 #[.slice A l.length c, .slice (some ⟨wx.heap.size, 0, none⟩) 2 2] (wx.alloc (.cells #[.int .u8 13, .int .u8 10] 5 (2, 3))) fun e w' => e = .returned (.tuple #[(cutParts A c l).1, (cutParts A c l).2.1, (cutParts A c l).2.2]) ∧ ∃ q, w' = (wx.alloc (.cells #[.int .u8 13, .int .u8 10] 5 (2, 3))).drewN q) := Lib.hid fun wx l A c hwx hl1 hl2 hA hl3 => by
    have hsz := hwx.size
    have hal : Below N wx (wx.alloc (.cells #[.int .u8 13, .int .u8 10] 5 (2, 3))) := (Below.refl N wx).alloc (by omega) _
    have := cut_end (hl1.below hal) c wx.heap.size hl2 hA hl3 (newEnd wx) (hG.below (hwx.trans hal) hN0)
    rw [cutEnd_parts] at this
    exact this
  simp only [Tryd.ntmps46, List.size_toArray, List.length_cons, List.length_nil, Nat.reduceAdd, Nat.reduceSub, Array.replicate_succ, Array.replicate_zero, List.push_toArray, List.append_toArray, List.nil_append, List.cons_append]
  have hbW := hb.below hNW
  have HST := Lib.hid (fun (wx : World) (hwx : Below N W wx) => lnSt (hbW.below hwx) hc hm hA)
  have hszW : N ≤ W.heap.size := Nat.le_trans hN hW.size
  have HC0 := Lib.hid (HCUT.out W b A c hNW hbW hc hA hl)
  have HJ0 := Lib.hid (fun q => hJ b W _ h0 (grown_allocD W (.cells #[.int .u8 13, .int .u8 10] 5 (2, 3)) q))
  have HK0 := Lib.hid (fun q => below_allocD W (.cells #[.int .u8 13, .int .u8 10] 5 (2, 3)) q hszW)
  have HBL : Hid (∀ l : L, l = b → l.length ≤ 1000000) := Lib.hid (fun l e => by rw [e]; exact hl)
  clear h0 hbW hb hl hc hA hm
  generalize b.length = bn at *
  gi_wp2_with fail
  refine ⟨trivial, ?_⟩
  refine (callsIn_wide.2 HC0.out).mono ?_
  rintro e w1 ⟨rfl, q0, rfl⟩
  have HJ1 := Lib.hid (HJ0.out q0)
  have HK1 := Lib.hid (hNW.trans (HK0.out q0))
  have HS1 := Lib.hid (HST.out _ (HK0.out q0))
  clear HC0 HJ0 HK0 HST hv
  generalize ((W.alloc (.cells #[.int .u8 13, .int .u8 10] 5 (2, 3))).drewN q0) = w1 at *
  generalize (cutParts A c b).1 = y3 at *
  generalize (cutParts A c b).2.1 = y4 at *
  generalize (cutParts A c b).2.2 = y5 at *
  gi_wp2_with fail
  gi_loopw [3, 4, 5] (fun x3 x4 x5 wr => ∃ cur, J cur wr ∧ Below N w wr ∧ LnSt wr N x3 x4 x5 cur ∧ cur.length ≤ 1000000) (fun x3 x4 x5 _ => lenV x3 + 2 * lenV x4 + oneB x5)
  case atStart => exact ⟨b, HJ1.out, HK1.out, HS1.out, HBL.out b rfl⟩
  case round =>
    obtain ⟨cur, hj, hk, hs, hcl⟩ := hrel
    rcases hs with ⟨s, r, A1, c1, A2, c2, hcut, rfl, rfl, rfl, hb1, h1, h2, h3, hb2, h4, h5, h6⟩ | ⟨A1, c1, hcut, rfl, rfl, rfl⟩
    · have hlen := cut2_len hcut
      have hrl : r.length ≤ 1000000 := by omega
      obtain ⟨fn, tmps, assign, body, hy, hR⟩ := hY cur s r A1 c1 wr hj hcut hb1 h1 h2 h3 (by omega) hk
      have HB2 := Lib.hid hb2
      have H6 := Lib.hid (And.intro h4 (And.intro h5 (And.intro h6 hrl)))
      have HRN : Hid (∃ m, m = r.length) := Lib.hid ⟨_, rfl⟩
      clear hj hb1 h1 h2 h3 hcut hcl hb2 h4 h5 h6 hrl hlen
      have HRL : Hid (∀ l : L, l = r → ∀ A c, lenV (cutParts A c l).1 + 2 * lenV (cutParts A c l).2.1 + oneB (cutParts A c l).2.2 < lenV (.slice A1 s.length c1) + 2 * lenV (.slice A2 r.length c2) + oneB (.bool true)) := Lib.hid (fun l e A c => lnSt_less (n := r.length) (by rw [e]) rfl rfl)
      gi_wp2_with fail
      refine hR.mono ?_
      rintro e W3 (⟨rfl, hJ3, hK3⟩ | ⟨rfl, hx⟩ | ⟨ch, rfl, hp⟩)
      · have hk3 := hk.trans hK3
        have hsz3 : N ≤ W3.heap.size := Nat.le_trans (Nat.le_trans hN hk.size) hK3.size |> fun h => by have := hk.size; have := hK3.size; omega
        have HC3 := Lib.hid (HCUT.out W3 r A2 c2 hk3 (HB2.out.below hK3) H6.out.1 H6.out.2.2.1 H6.out.2.2.2)
        have HJ4 := Lib.hid (fun q => hJ r W3 _ hJ3 (grown_allocD W3 (.cells #[.int .u8 13, .int .u8 10] 5 (2, 3)) q))
        have HK4 := Lib.hid (fun q => below_allocD W3 (.cells #[.int .u8 13, .int .u8 10] 5 (2, 3)) q hsz3)
        have HS4 := Lib.hid (fun (wx : World) (hwx : Below N W3 wx) => lnSt ((HB2.out.below hK3).below hwx) H6.out.1 H6.out.2.1 H6.out.2.2.1)
        have HK3 := Lib.hid hk3
        have HR3 := Lib.hid H6.out.2.2.2
        have HRL2 := Lib.hid (HRL.out r rfl A2 c2)
        clear hJ3 hK3 hk3 hR hy hk H6 HRL HB2 HRN
        have HR4 : Hid (∀ l : L, l = r → l.length ≤ 1000000) := Lib.hid (fun l e => by rw [e]; exact HR3.out)
        generalize hrm : r.length = rm at *
        have HRM := Lib.hid hrm
        clear hrm
        gi_wp2_with fail
        refine ⟨trivial, ?_⟩
        refine (callsIn_wide.2 HC3.out).mono ?_
        rintro e w4 ⟨rfl, q4, rfl⟩
        have HJ5 := Lib.hid (HJ4.out q4)
        have HK5 := Lib.hid (HK3.out.trans (HK4.out q4))
        have HS5 := Lib.hid (HS4.out _ (HK4.out q4))
        clear HC3 HJ4 HK4 HS4 HK3
        generalize ((W3.alloc (.cells #[.int .u8 13, .int .u8 10] 5 (2, 3))).drewN q4) = w5 at *
        generalize (cutParts A2 c2 r).1 = z3 at *
        generalize (cutParts A2 c2 r).2.1 = z4 at *
        generalize (cutParts A2 c2 r).2.2 = z5 at *
        gi_wp2_with fail
        go_roundw
        case rel => exact ⟨r, HJ5.out, HK5.out, HS5.out, HR4.out r rfl⟩
        case measure => rw [HRM.out]; exact HRL2.out
      · gi_wp2_with fail
        go_end0
        exact .inl ⟨⟨_, rfl⟩, .inr hx⟩
      · exact ⟨rfl, .inr ⟨ch, rfl, hp⟩⟩
    · have HH := Lib.hid (And.intro hcut hj)
      clear hcut hj
      gi_wp2_with fail
      refine ⟨(fun f h => by cases h), ?_⟩
      gi_wp2_with fail
      go_end0
      exact .inl ⟨⟨_, rfl⟩, .inl ⟨cur, HH.out⟩⟩
end Hd
end Go.Proofs.YtliaciojlcajdaaDoor
