/- mime.Boundary, the document's Boundary. Conditions: as stated at each. -/
import Derived.Test.YtamekflgidfnfaaGreatDoorMiNum
namespace Go.Proofs.YtamekflgidfnfaaGreatDoor
set_option maxRecDepth 100000
namespace Mi
open Go.RowKit Go Go.Proofs.YtamekflgidfnfaaGreatDoor.Pa
attribute [local go_sem] Oper.semAt_some
theorem dec_len (n : Nat) (h : n ≤ 1000000000) : (Lib.decDigits n).length ≤ 21 := by
  have := Lib.itoa_length_le (n : Int) (by omega) (by omega)
  rw [Lib.itoa, if_neg (by omega)] at this
  simpa using this
theorem bnd_str (n : Nat) : (⟨#[106, 111, 117, 114, 110, 97, 108, 45]⟩ : ByteArray) ++ str (Lib.decDigits n) = str (bndN n) := by
  rw [show (⟨#[106, 111, 117, 114, 110, 97, 108, 45]⟩ : ByteArray) = str [106, 111, 117, 114, 110, 97, 108, 45] from rfl, str_append]
  rfl
theorem dash_str (l : L) : (⟨#[45, 45]⟩ : ByteArray) ++ str l = str (dash ++ l) := by
  rw [show (⟨#[45, 45]⟩ : ByteArray) = str [45, 45] from rfl, str_append]
  rfl
def BndP (w : World) (l : L) (e : Ending) (w' : World) : Prop := e = .returned (.string (str (bndS l))) ∧ Below w.heap.size w w'
set_option maxHeartbeats 1600000 in
theorem boundary_any {w : World} {A : Option Addr} {l : L} (h : Bts w w.heap.size A l) (c : Nat) (hc : l.length ≤ c) (hm : c ≤ maxLen) (hA : A = none → c = 0) (hl : l.length ≤ 100000) (hG : GlM w) (hT : GlT w) :
    Calls Tryz.prog 22 #[.slice A l.length c] w (BndP w l) := by
  have HN := Lib.hid (numbers_any h c hc hm hA hl hG)
  have HT := Lib.hid (fun (X : World) (hX : Below w.heap.size w X) => hT.below hX hT.lt)
  have HLE := Lib.hid (fun n => told_le (b := l) (most := l.length) (n := n) (F := fun k => Told l.length (pcs l) k) (fun k => Iff.rfl))
  have HBN := Lib.hid (fun n => bnd_of_found (b := l) (most := l.length) (n := n) (F := fun k => Told l.length (pcs l) k) (fun k => Iff.rfl) (Nat.le_refl _))
  have HIT : Hid (∀ (n : Nat) X, n ≤ 1000000 → Below w.heap.size w X → Calls Tryz.prog 42 #[.int .i64 (n : Int)] X fun e w' => e = .returned (.string (str (Lib.decDigits n))) ∧ Below X.heap.size X w') := Lib.hid fun n X hn hX => itoa_any n X (by omega) (HT.out X hX)
  unfold BndP bndS
  clear h
  generalize bN l = bn at *
  generalize pcs l = ps at *
  generalize l.length = m at *
  go_enter Tryz.func22, Tryz.ntmps22
  go_wp2_with (first
    | (go_at_call 41; refine HN.out.mono ?_; rintro e w1 ⟨g, nn, rfl, hm1, hb1, hg1⟩)
    | fail)
  have HM1 := Lib.hid hm1
  have HB1 := Lib.hid hb1
  clear hm1 hb1 HN
  go_loopw [4] (fun y wr => ∃ n : Nat, n ≤ m ∧ y = .int .i64 (n : Nat) ∧ Hid (∀ k, k < n → Told m ps k) ∧ Hid (MapN wr g nn (fun k => Told m ps k)) ∧ Hid (Below w.heap.size w wr)) (fun y _ => m + 1 - (intOf y).toNat)
  case atStart => exact ⟨0, Nat.zero_le _, rfl, Lib.hid fun k hk => absurd hk (Nat.not_lt_zero _), HM1, HB1⟩
  case round =>
    obtain ⟨n, hn, rfl, HK, HMK, HBK⟩ := hrel
    obtain ⟨b, hlook, hbs⟩ := HMK.out.look n (by omega)
    have HBS := Lib.hid hbs
    have HBW : Hid (Below w.heap.size w (wr.alloc (.cells #[] 77))) := Lib.hid (HBK.out.alloc HBK.out.size _)
    have HMW : Hid (MapN (wr.alloc (.cells #[] 77)) g nn (fun k => Told m ps k)) := Lib.hid (HMK.out.same (((Below.refl wr.heap.size wr).alloc (Nat.le_refl _) _).block _ HMK.out.lt))
    clear hbs
    cases b with
    | true =>
      have HK2 : Hid (∀ k, k < n + 1 → Told m ps k) := Lib.hid fun k hk => by
        rcases Nat.lt_or_ge k n with h | h
        · exact HK.out k h
        · obtain rfl : k = n := by omega
          exact HBS.out.1 rfl
      go_wp2_with fail
      go_roundw
      case rel => exact ⟨n + 1, HLE.out _ HK2.out, by go_num, HK2, HMW, HBW⟩
      case measure =>
        have := HLE.out _ HK2.out
        simp [intOf]; omega
    | false =>
      have HBI : Hid (bn = n) := Lib.hid (HBN.out n HK.out (fun h => by have := HBS.out.2 h; cases this))
      have HI := Lib.hid (HIT.out n _ (by omega) HBW.out)
      have HST := bnd_str n
      have hz := str_size (Lib.decDigits n)
      have hz2 := dec_len n (by omega)
      generalize str (Lib.decDigits n) = sd at *
      generalize (Lib.decDigits n).length = ln at *
      go_wp2_with (first
        | (go_at_call 42; refine HI.out.mono ?_; rintro e w3 ⟨rfl, hb3⟩)
        | fail)
      go_ret
      exact ⟨by rw [HBI.out, ← HST]; rfl, HBW.out.trans (hb3.mono HBW.out.size)⟩
set_option maxHeartbeats 1600000 in
theorem rboundary_any {w : World} {A : Option Addr} {l : L} (h : Bts w w.heap.size A l) (c : Nat) (hl : l.length ≤ 100000) (hT : GlT w) :
    Calls Tryz.prog 58 #[.slice A l.length c] w (BndP w l) := by
  have HT := Lib.hid (fun (X : World) (hX : Below w.heap.size w X) => hT.below hX hT.lt)
  have HIT : Hid (∀ (n : Nat) X, n ≤ 1000000 → Below w.heap.size w X → Calls Tryz.prog 42 #[.int .i64 (n : Int)] X fun e w' => e = .returned (.string (str (Lib.decDigits n))) ∧ Below X.heap.size X w') := Lib.hid fun n X hn hX => itoa_any n X (by omega) (HT.out X hX)
  have HCV : Hid (∀ X, Below w.heap.size w X → (convert 22 9 (.slice A l.length c)).run Tryz.prog X = .ok (.string (str l)) X) := Lib.hid fun X hX => conv_str (h.below hX) c
  have HIN : Hid (∀ n : Nat, n ≤ 1000000 → ∀ X, Calls Tryz.prog 56 #[.string (str l), .string (str (dash ++ bndN n))] X fun e w' => X = w' ∧ ∃ i, e = .returned (.int .i64 i) ∧ inB (dash ++ bndN n) l = decide (0 ≤ i)) := Lib.hid fun n hn X => by
    have hd := dec_len n (by omega)
    refine (rin_any l (dash ++ bndN n) X (by omega) (by unfold bndN dash; simp; omega) (by unfold dash; simp)).mono ?_
    rintro e w' ⟨h1, i, h2, h3⟩
    exact ⟨h1, i, h2, idx_in h3⟩
  have hle := bN_len l
  have HNX : Hid (∀ n, n ≤ bN l → inB (dash ++ bndN n) l = decide (n ≠ bN l)) := Lib.hid fun n hn => by
    rcases Nat.eq_or_lt_of_le hn with h | h
    · rw [h, bN_out]; simp
    · rw [bN_in h]; simp; omega
  unfold BndP bndS
  clear h
  generalize bN l = bn at *
  generalize l.length = m at *
  generalize str l = sl at *
  go_enter Tryz.func58, Tryz.ntmps58
  go_wp2_with fail
  go_loopw [3] (fun y wr => ∃ n : Nat, n ≤ bn ∧ y = .int .i64 (n : Nat) ∧ Hid (Below w.heap.size w wr)) (fun y _ => bn + 1 - (intOf y).toNat)
  case atStart => exact ⟨0, Nat.zero_le _, rfl, Lib.hid (Below.refl _ _)⟩
  case round =>
    obtain ⟨n, hn, rfl, HBK⟩ := hrel
    have HI := Lib.hid (HIT.out n _ (by omega) HBK.out)
    have HST := bnd_str n
    have HDS := dash_str (bndN n)
    have hz := str_size (Lib.decDigits n)
    have hz2 := dec_len n (by omega)
    have hz3 := str_size (bndN n)
    have hz4 : (bndN n).length = 8 + (Lib.decDigits n).length := by unfold bndN; simp; omega
    have HN := Lib.hid (HIN.out n (by omega))
    have HX := Lib.hid (HNX.out n hn)
    generalize str (dash ++ bndN n) = sdb at *
    generalize hsb : str (bndN n) = sb at *
    have HSB := Lib.hid hsb
    clear hsb
    generalize (bndN n).length = lb at *
    generalize str (Lib.decDigits n) = sd at *
    generalize (Lib.decDigits n).length = ln at *
    have hcat : ¬ (9223372036854775807 : Int) < 2 + (sb.size : Int) := by omega
    go_wp2_with (first
      | (go_at_call 42; refine HI.out.mono ?_; rintro e w3 ⟨rfl, hb3⟩; have HB3 := Lib.hid (HBK.out.trans (hb3.mono HBK.out.size)); have hcv := HCV.out w3 HB3.out; clear hb3)
      | (go_at_call 56; refine (HN.out _).mono ?_; rintro e w4 ⟨rfl, i, rfl, hin⟩; have HI4 := Lib.hid hin; clear hin)
      | fail)
    · rename_i hneg
      go_ret
      have hq : n = bn := by
        have h1 := HI4.out
        rw [HX.out, decide_eq_false (by omega : ¬ 0 ≤ i)] at h1
        have := of_decide_eq_false h1
        omega
      subst hq
      exact ⟨by rw [HSB.out]; rfl, HB3.out⟩
    · rename_i hneg
      have hq : n ≠ bn := by
        have h1 := HI4.out
        rw [HX.out, decide_eq_true (by omega : 0 ≤ i)] at h1
        exact of_decide_eq_true h1
      exact ⟨⟨n + 1, by omega, by go_num, HB3⟩, by simp [intOf]; omega⟩
end Mi
end Go.Proofs.YtamekflgidfnfaaGreatDoor
