/- Texts in memory; mime.lines; the document's Envelope. Conditions: as stated at each. -/
import Derived.Test.YtamekflgidfnfaaGreatDoorMiBnd
import Derived.Test.YtamekflgidfnfaaGreatDoorPaRDom
namespace Go.Proofs.YtamekflgidfnfaaGreatDoor
set_option maxRecDepth 100000
namespace Mi
open Go.RowKit Go Go.Proofs.YtamekflgidfnfaaGreatDoor.Pa
attribute [local go_sem] Oper.semAt_some
/-- a slice of these texts. -/
def Tx (w : World) (B : Nat) (A : Option Addr) (ps : List L) : Prop := Cs w B A (tv ps)
theorem Tx.below {w w' : World} {B : Nat} {A : Option Addr} {ps : List L} (h : Tx w B A ps) (hb : Below B w w') : Tx w' B A ps := Cs.below h hb
theorem Tx.more {w : World} {B B' : Nat} {A : Option Addr} {ps : List L} (h : Tx w B A ps) (hB : B ≤ B') : Tx w B' A ps := Cs.more h hB
theorem tv_get (ps : List L) (k : Nat) (h : k < ps.length) : (tv ps)[k]? = some (.string (str (ps.getD k []))) := by
  simp [tv, List.getD, h]
theorem Tx.els {w : World} {B : Nat} {A : Option Addr} {ps : List L} (h : Tx w B A ps) : ∀ k, k < ps.length → ∃ g o, A = some ⟨g, o, none⟩ ∧ g < B ∧ ∀ X, Below B w X → X.cell? ⟨g, o + k, none⟩ = some (.string (str (ps.getD k []))) := fun k hk => by
  obtain ⟨ad0, e0, hb0, hc0⟩ := h 0 _ (tv_get ps 0 (by omega))
  rw [add_0] at hc0
  have hsp := World.cell?_spot hc0
  obtain ⟨g, o, sp⟩ := ad0
  obtain rfl : sp = none := hsp
  refine ⟨g, o, e0, hb0, fun X hX => ?_⟩
  obtain ⟨ad, e, hb, hc⟩ := h k _ (tv_get ps k hk)
  rw [e0] at e
  injection e with e
  subst e
  rw [add_at] at hc
  exact (hX.cell (p := ⟨g, o + k, none⟩) hb).trans hc
theorem Tx.of_own {w : World} {N n c : Nat} {A : Option Addr} {ps : List L} (h : w.ownsRow N 9 1 (.slice A n c) n (tv ps)) : Tx w w.heap.size A ps := Cs.of_own h
/-- texts as lines. -/
def linS (ps : List L) : L := ps.flatMap fun t => t ++ cr
theorem lin_take {ps : List L} {k : Nat} (h : k < ps.length) : linS (ps.take (k + 1)) = linS (ps.take k) ++ (ps.getD k [] ++ cr) := by
  have hd : ps.getD k [] = ps[k] := by simp [List.getD, h]
  unfold linS
  rw [List.take_succ_eq_append_getElem h, List.flatMap_append, hd]
  simp
theorem lin_le (ps : List L) (k : Nat) : (linS (ps.take k)).length ≤ (linS ps).length := by
  have := congrArg (fun l : List L => (linS l).length) (List.take_append_drop k ps)
  simp only [linS, List.flatMap_append, List.length_append] at this
  unfold linS
  omega
theorem cr_str (t : L) : str t ++ (⟨#[13, 10]⟩ : ByteArray) = str (t ++ cr) := by
  rw [show (⟨#[13, 10]⟩ : ByteArray) = str [13, 10] from rfl, str_append]
  rfl
set_option maxHeartbeats 1600000 in
theorem lines_any {w : World} {A : Option Addr} {ps : List L} (h : Tx w w.heap.size A ps) (n c : Nat) (hn : ps.length = n) (hnb : n ≤ 1000000) (htot : (linS ps).length ≤ 3000000) :
    Calls Tryz.prog 53 #[.slice A n c] w (OutP w (linS ps)) := by
  have HEL := Lib.hid h.els
  have HTK : Hid (∀ k, k < ps.length → linS (ps.take (k + 1)) = linS (ps.take k) ++ (ps.getD k [] ++ cr)) := Lib.hid fun k hk => lin_take hk
  have HLE := Lib.hid (lin_le ps)
  have HEND : Hid (linS (ps.take n) = linS ps) := Lib.hid (by rw [← hn, List.take_length])
  rw [hn] at HEL HTK
  clear h hn
  unfold OutP
  go_enter Tryz.func53, Tryz.ntmps53
  go_wp2_with fail
  go_loopw [3, 8] (fun x i wr => ∃ j : Nat, j ≤ n ∧ i = .int .i64 (j : Nat) ∧ Own5 wr w.heap.size x (linS (ps.take j)) ∧ Below w.heap.size w wr) (fun _ i _ => n + 1 - (intOf i).toNat)
  case atStart => exact ⟨0, Nat.zero_le _, rfl, Own5.nil _ _, Below.refl _ _⟩
  case round =>
    obtain ⟨j, hj, rfl, hown, hbel⟩ := hrel
    have HO := Lib.hid hown
    have HB := Lib.hid hbel
    have hN := hbel.size
    obtain ⟨A6, c6, rfl, _, _⟩ := own_slice hown
    clear hown hbel
    by_cases hlt : j < n
    · obtain ⟨g, o, rfl, hg, hX⟩ := HEL.out j hlt
      have hcell := hX wr HB.out
      have HK := Lib.hid (HTK.out j hlt)
      have hle := HLE.out (j + 1)
      rw [HK.out, List.length_append, List.length_append] at hle
      have hcs := cr_str (ps.getD j [])
      have hz := str_size (ps.getD j [])
      have HLL : Hid ((linS (ps.take j)).length + (ps.getD j [] ++ cr).length ≤ 1000000000) := Lib.hid (by rw [List.length_append]; omega)
      have hb0 : (str (ps.getD j [])).size ≤ 3000000 := by omega
      clear hX hle hz
      generalize linS (ps.take j) = lj at *
      generalize hln : lj.length = ln at *
      have HLN := Lib.hid hln
      clear hln
      generalize ps.getD j [] ++ cr = tc at *
      generalize str (ps.getD j []) = s0 at *
      have hjn : (j : Int) < (n : Int) := by omega
      go_wp2_with (first
        | (refine lapp5s (.tmp 12) (.tmp 14) rfl rfl (l := lj) (m := tc) rfl HO.out rfl rfl (by rw [HLN.out]; exact HLL.out) hN ?_; intro v4 w4 h1 h2; have HO4 := Lib.hid h1; have HB4 := Lib.hid (HB.out.grown h2 hN (own5_low HO.out)); clear h1 h2)
        | fail)
      go_roundw
      case rel => exact ⟨j + 1, by omega, by go_num, by rw [HK.out]; exact HO4.out, HB4.out⟩
      case measure => simp [intOf]; omega
    · obtain rfl : j = n := by omega
      have hz : ¬ (j : Int) < (j : Int) := by omega
      generalize (linS (ps.take j)).length = ln at *
      rw [HEND.out] at HO
      go_wp2_with fail
      go_ret
      exact ⟨_, rfl, HO.out, HB.out⟩
end Mi
end Go.Proofs.YtamekflgidfnfaaGreatDoor
