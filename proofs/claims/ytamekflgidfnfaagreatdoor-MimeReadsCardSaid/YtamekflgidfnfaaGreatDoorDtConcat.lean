/- slices.Concat of bytes, dots.Close. Conditions: as stated at each. -/
import Derived.Test.YtamekflgidfnfaaGreatDoorDtClose
namespace Go.Proofs.YtamekflgidfnfaaGreatDoor
set_option maxRecDepth 100000
namespace Dt
open Go.RowKit Go Go.Proofs.YtamekflgidfnfaaGreatDoor.Hd
theorem flat_get {ls : List L} {k : Nat} (hk : k < ls.length) : (ls.take (k + 1)).flatten = (ls.take k).flatten ++ ls.getD k [] := by
  rw [take_next hk]; simp
theorem flat_le (ls : List L) (k : Nat) : (ls.take k).flatten.length ≤ ls.flatten.length := by
  have : ls.flatten = (ls.take k).flatten ++ (ls.drop k).flatten := by rw [← List.flatten_append, List.take_append_drop]
  rw [this, List.length_append]
  omega
set_option maxHeartbeats 1600000 in
theorem concat_any {w : World} {g : Nat} {ls : List L} (h : Rws w w.heap.size (some ⟨g, 0, none⟩) ls) (c : Nat) (h0 : 0 < ls.flatten.length) (hl : ls.flatten.length ≤ 1000000) (hm : ls.length ≤ 1000) :
    Calls Tryz.prog 74 #[.slice (some ⟨g, 0, none⟩) ls.length c] w fun e w' => ∃ v, e = .returned v ∧ Own5 w' w.heap.size v ls.flatten ∧ Below w.heap.size w w' := by
  have HB := Lib.hid h
  generalize hmm : ls.length = m at *
  have HM := Lib.hid hmm
  clear hmm h
  have HF := Lib.hid (fun k => flat_get (ls := ls) (k := k))
  have HE := Lib.hid (flat_le ls)
  have hG := Lib.hid (grow_any ls.flatten.length w h0 (by omega))
  have hfull : Hid (∀ k, ¬ k < m → (ls.take k).flatten = ls.flatten) := Lib.hid fun k hk => by rw [List.take_of_length_le (by rw [HM.out]; omega)]
  generalize hn : ls.flatten.length = n at *
  have HN := Lib.hid hn
  clear hn
  go_enter Tryz.func74, Tryz.ntmps74
  go_wp2_with fail
  go_loopw [3, 11] (fun x y wr => w = wr ∧ ∃ k : Nat, k ≤ m ∧ x = .int .i64 ((ls.take k).flatten.length : Nat) ∧ y = .int .i64 k) (fun _ y _ => m - (intOf y).toNat)
  case atStart => exact ⟨rfl, 0, Nat.zero_le _, rfl, rfl⟩
  case round =>
    obtain ⟨rfl, k, hk, rfl, rfl⟩ := hrel
    by_cases hlt : k < m
    · obtain ⟨ad, Ak, ck, e, hg, hcell, hck, hmk, _⟩ := HB.out.at_ (k := k) (by rw [HM.out]; exact hlt)
      injection e with e
      subst e
      rw [add_at, Nat.zero_add] at hcell
      have hf := congrArg List.length (HF.out k (by rw [HM.out]; exact hlt))
      rw [List.length_append] at hf
      have hle := HE.out (k + 1)
      rw [hf] at hle
      have HFF := Lib.hid hf
      generalize (ls.getD k []).length = xn at *
      generalize (ls.take k).flatten.length = q at *
      clear hf
      have z0 : (k : Int) < (m : Int) := by omega
      have z1 : ¬ (q : Int) + (xn : Int) < 0 := by omega
      go_wp2_with fail
      go_roundw
      case rel => exact ⟨by first | rfl | trivial, k + 1, by omega, by rw [HFF.out]; go_num, by go_num⟩
      case measure => simp [intOf]; omega
    · have z0 : ¬ (k : Int) < (m : Int) := by omega
      have hz := hfull.out k hlt
      rw [hz, HN.out]
      go_wp2_with fail
      refine hG.out.mono ?_
      rintro e w1 ⟨v1, rfl, ho1, hb1⟩
      obtain ⟨A1, c1, rfl, hc1, hm1⟩ := own_slice ho1
      have HO1 := Lib.hid ho1
      have HB1 := Lib.hid hb1
      clear ho1 hb1 hz
      clear hlt hk z0
      have hle0 := HB1.out.size
      go_wp2_with fail
      go_loopw [6, 27] (fun x y wr => ∃ k : Nat, k ≤ m ∧ y = .int .i64 k ∧ Own5 wr w.heap.size x (ls.take k).flatten ∧ Below w.heap.size w wr) (fun _ y _ => m - (intOf y).toNat)
      case atStart => exact ⟨0, Nat.zero_le _, rfl, by have := HO1.out; exact this, HB1.out⟩
      case round =>
        obtain ⟨k, hk, rfl, hown, hbel⟩ := hrel
        have HOW := Lib.hid hown
        have HBE := Lib.hid hbel
        have hsz := hbel.size
        clear hown hbel
        by_cases hlt : k < m
        · obtain ⟨ad, Ak, ck, e, hg, hcell, hck, hmk, hbt⟩ := (HB.out.below HBE.out).at_ (k := k) (by rw [HM.out]; exact hlt)
          injection e with e
          subst e
          rw [add_at, Nat.zero_add] at hcell
          have HFK := Lib.hid (HF.out k (by rw [HM.out]; exact hlt))
          have hf := congrArg List.length HFK.out
          rw [List.length_append] at hf
          have hle := HE.out (k + 1)
          rw [hf] at hle
          have HBT := Lib.hid hbt
          have HLE := Lib.hid hle
          clear hbt hf hle
          generalize ls.getD k [] = x at *
          generalize hxn : x.length = xn at *
          have HXN := Lib.hid hxn
          clear hxn
          have z0 : (k : Int) < (m : Int) := by omega
          go_wp2_with (first
            | (refine app5 (.tmp 31) (.tmp 32) rfl rfl w.heap.size _ ((ls.take k).flatten) x rfl HOW.out w.heap.size Ak ck (by rw [HXN.out]; rfl) HBT.out (by rw [HXN.out]; have := HLE.out; omega) hsz ?_; intro v5 w5 h1 h2; have H5 := Lib.hid (show Own5 w5 w.heap.size v5 ((ls.take k).flatten ++ x) from h1); have b5 := HBE.out.grown h2 hsz (fun k hk => (HOW.out.lt k hk).1); clear h1 h2)
            | fail)
          go_roundw
          case rel => exact ⟨k + 1, by omega, by go_num, by rw [HFK.out]; exact H5.out, b5⟩
          case measure => simp [intOf]; omega
        · have z0 : ¬ (k : Int) < (m : Int) := by omega
          have hz := hfull.out k hlt
          rw [hz] at HOW
          go_wp2_with fail
          go_ret
          exact ⟨_, rfl, HOW.out, HBE.out⟩
theorem two_rows {w : World} {B g : Nat} {A A' : Option Addr} {l l' : L} {c c' : Nat} (h : Bts w B A l) (h' : Bts w B A' l') (hl : l.length ≤ c) (hc : c ≤ maxLen) (hl' : l'.length ≤ c') (hc' : c' ≤ maxLen)
    (hg : g < B) (h0 : w.cell? ⟨g, 0, none⟩ = some (.slice A l.length c)) (h1 : w.cell? ⟨g, 1, none⟩ = some (.slice A' l'.length c')) : Rws w B (some ⟨g, 0, none⟩) [l, l'] := fun k r hk => by
  match k with
  | 0 =>
    obtain rfl : l = r := by simpa using hk
    exact ⟨_, A, c, rfl, hg, by rw [add_at]; exact h0, hl, hc, h⟩
  | 1 =>
    obtain rfl : l' = r := by simpa using hk
    exact ⟨_, A', c', rfl, hg, by rw [add_at]; exact h1, hl', hc', h'⟩
  | k + 2 => simp at hk
end Dt
end Go.Proofs.YtamekflgidfnfaaGreatDoor
