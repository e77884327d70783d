/- The document's Lower, letter.Small; loops over a text. Conditions: as stated. -/
import Derived.Test.YtliaciojlcajdaaDoorHdCut
import Derived.Laws.IdiomStrings
import Derived.Deep.RegionHeld
namespace Go.Proofs.YtliaciojlcajdaaDoor
set_option maxRecDepth 100000
namespace Hd
open Go.RowKit Go Go.Proofs.YtliaciojlcajdaaDoor.Pa
theorem ret_bool {a b : Bool} (h : a = b) : Ending.returned (.bool a) = .returned (.bool b) := by rw [h]
theorem ret_int {a b : Int} (h : a = b) : Ending.returned (.int .i64 a) = .returned (.int .i64 b) := by rw [h]
theorem str_at (l : List UInt8) (k : Nat) (h : k < (str l).size) : (str l)[k] = l.getD k 0 := by
  have hk : k < l.length := by rw [str_size] at h; exact h
  simp [str, List.getD, hk]
  rfl
/-- the first k may all be. -/
def allK (f : UInt8 → Bool) (l : List UInt8) (k : Nat) : Bool := (l.take k).all f
theorem allK_zero (f : UInt8 → Bool) (l : List UInt8) : allK f l 0 = true := rfl
theorem allK_succ {f : UInt8 → Bool} {l : List UInt8} {k : Nat} (h : k < l.length) : allK f l (k + 1) = (allK f l k && f (l.getD k 0)) := by
  unfold allK
  rw [List.take_succ_eq_append_getElem h, List.all_append]
  simp [List.getD, h]
theorem allK_full {f : UInt8 → Bool} {l : List UInt8} {k : Nat} (h : l.length ≤ k) : allK f l k = l.all f := by
  unfold allK; rw [List.take_of_length_le h]
theorem allK_false {f : UInt8 → Bool} {l : List UInt8} {k : Nat} (hk : k < l.length) (h : f (l.getD k 0) = false) : l.all f = false := by
  rw [Bool.eq_false_iff]
  intro ha
  rw [List.all_eq_true] at ha
  have := ha (l.getD k 0) (by simp [List.getD, hk])
  rw [h] at this
  cases this
theorem str_empty (l : List UInt8) : (!(str l).toList.isEmpty) = (l != []) := by
  rw [Go.Lib.toList_data, str_data]; cases l <;> rfl
/-- block g of W holds these bytes first, and they may be written. -/
def Byt (W : World) (g : Nat) (l : List UInt8) : Prop := ∃ C fr, W.heap[g]? = some (.cells C 5 fr) ∧ (∀ j, j < l.length → C[j]? = some (.int .u8 ((l.getD j 0).toNat : Int))) ∧ l.length ≤ fr.1
theorem Byt.lt {W : World} {g : Nat} {l : List UInt8} (h : Byt W g l) : g < W.heap.size := by
  obtain ⟨C, fr, h1, _⟩ := h
  exact (Array.getElem?_eq_some_iff.1 h1).1
theorem Byt.cell {W : World} {g : Nat} {l : List UInt8} (h : Byt W g l) {j : Nat} (hj : j < l.length) : W.cell? ⟨g, j, none⟩ = some (.int .u8 ((l.getD j 0).toNat : Int)) := by
  obtain ⟨C, fr, h1, h2, _⟩ := h
  rw [cell_of_row W g j C _ fr h1]
  exact h2 j hj
theorem Byt.froz {W : World} {g : Nat} {l : List UInt8} (h : Byt W g l) {j : Nat} (hj : j < l.length) : W.frozen? ⟨g, j, none⟩ = false := by
  obtain ⟨C, fr, h1, h2, h3⟩ := h
  have : ¬ fr.1 ≤ j := by omega
  simp [World.frozen?, h1, this]
theorem Byt.set {W : World} {g : Nat} {l : List UInt8} (h : Byt W g l) (j : Nat) (c : UInt8) : Byt (W.setCell ⟨g, j, none⟩ (.int .u8 (c.toNat : Int))) g (l.set j c) := by
  obtain ⟨C, fr, h1, h2, h3⟩ := h
  refine ⟨C.setIfInBounds j (.int .u8 (c.toNat : Int)), fr, by simp [World.setCell, Array.getElem?_modify, h1], fun i hi => ?_, by simpa using h3⟩
  rw [List.length_set] at hi
  have hC := (Array.getElem?_eq_some_iff.1 (h2 i hi)).1
  rw [Array.getElem?_setIfInBounds]
  by_cases hij : j = i
  · subst hij
    rw [if_pos rfl, if_pos hC]
    simp [List.getD, hi]
  · rw [if_neg hij, h2 i hi]
    simp [List.getD, List.getElem?_set_ne hij]
theorem Byt.bts {W : World} {g : Nat} {l : List UInt8} (h : Byt W g l) : Bts W W.heap.size (some ⟨g, 0, none⟩) l := fun j u hj => by
  have hlt : j < l.length := by
    have := (List.getElem?_eq_some_iff.1 hj).1
    rwa [bv_length] at this
  rw [bv_get l j hlt] at hj
  injection hj with hj
  subst hj
  refine ⟨_, rfl, h.lt, ?_⟩
  have := h.cell hlt
  rwa [show (⟨g, 0, none⟩ : Addr).add j = ⟨g, j, none⟩ by simp [Addr.add]; rintro rfl; rfl]
/-- a text made bytes. -/
theorem run_byt (l : List UInt8) (w : World) : ∃ c w', (convert 9 22 (.string (str l))).run Tryd.prog w = .ok (.slice (some ⟨w.heap.size, 0, none⟩) l.length c) w' ∧ Byt w' w.heap.size l ∧ Below w.heap.size w w' := by
  have hrun := run_bytes_of_string (P := Tryd.prog) w 9 22 5 (str l) Tryd.underlying9 Tryd.underlying22 Tryd.underlying5
  rw [show (str l).size = l.length from str_size l] at hrun
  refine ⟨_, _, hrun, ⟨_, _, heap_alloc_new _ _, fun j hj => ?_, ?_⟩, ((Below.refl _ w).drew).alloc (Nat.le_refl _) _⟩
  · have hj' : j < (str l).data.size := by simpa [str] using hj
    rw [bytesRow_at _ _ j hj']
    simp [str, List.getD, hj]
  · simp [bytesRow, str]
/-- the letters from s up to k made small. -/
def lowK (s k : Nat) (l : List UInt8) : List UInt8 := (List.range l.length).map fun j => if s ≤ j ∧ j < k then lowB (l.getD j 0) else l.getD j 0
theorem lowK_length (s k : Nat) (l : List UInt8) : (lowK s k l).length = l.length := by simp [lowK]
theorem lowK_getD {s k j : Nat} {l : List UInt8} (hj : j < l.length) : (lowK s k l).getD j 0 = if s ≤ j ∧ j < k then lowB (l.getD j 0) else l.getD j 0 := by
  simp [lowK, List.getD, hj]
theorem getD_ext {a b : List UInt8} (h : a.length = b.length) (h2 : ∀ j, j < a.length → a.getD j 0 = b.getD j 0) : a = b := by
  apply List.ext_getElem h
  intro j h1 h3
  have := h2 j h1
  simpa [List.getD, h1, h3] using this
theorem lowK_start (s : Nat) (l : List UInt8) : lowK s s l = l := by
  apply getD_ext (lowK_length _ _ _)
  intro j hj
  rw [lowK_length] at hj
  rw [lowK_getD hj, if_neg (by omega)]
theorem lowK_next {s k : Nat} {l : List UInt8} (hs : s ≤ k) (hk : k < l.length) : (lowK s k l).set k (lowB (l.getD k 0)) = lowK s (k + 1) l := by
  apply getD_ext (by rw [List.length_set, lowK_length, lowK_length])
  intro j hj
  rw [List.length_set, lowK_length] at hj
  rw [lowK_getD hj]
  by_cases e : k = j
  · subst e
    rw [if_pos (by omega)]
    simp [List.getD, lowK_length, hk]
  · have : ((lowK s k l).set k (lowB (l.getD k 0))).getD j 0 = (lowK s k l).getD j 0 := by
      simp [List.getD, List.getElem?_set_ne e]
    rw [this, lowK_getD hj]
    by_cases c : s ≤ j ∧ j < k
    · rw [if_pos c, if_pos (by omega)]
    · rw [if_neg c, if_neg (by omega)]
theorem lowK_end {s k : Nat} {l : List UInt8} (hk : l.length ≤ k) : lowK s k l = l.take s ++ (l.drop s).map lowB := by
  apply getD_ext (by rw [lowK_length, List.length_append, List.length_map, List.length_take, List.length_drop]; omega)
  intro j hj
  rw [lowK_length] at hj
  rw [lowK_getD hj]
  by_cases c : s ≤ j
  · rw [if_pos ⟨c, by omega⟩]
    have h1 : (l.take s).length ≤ j := by rw [List.length_take]; omega
    have h2 : (l.take s).length = s := by rw [List.length_take]; omega
    simp only [List.getD]
    rw [List.getElem?_append_right h1, h2, List.getElem?_map, List.getElem?_drop, show s + (j - s) = j by omega, List.getElem?_eq_getElem hj]
    rfl
  · rw [if_neg (by omega)]
    simp only [List.getD]
    rw [List.getElem?_append_left (by rw [List.length_take]; omega), List.getElem?_take, if_pos (by omega)]
theorem low_all (l : List UInt8) : lowK 0 l.length l = l.map lowB := by rw [lowK_end (Nat.le_refl _)]; simp
theorem ret_str {a b : ByteArray} (h : a = b) : Ending.returned (.string a) = .returned (.string b) := by rw [h]
theorem lowB_num (c : UInt8) : ((lowB c).toNat : Int) = if (65 : Int) ≤ c.toNat ∧ (c.toNat : Int) ≤ 90 then (c.toNat : Int) + 32 else c.toNat := by
  rcases lowB_cases c with ⟨h1, h2, h3⟩ | ⟨h1, h2⟩
  · rw [if_pos (by omega), h3]; omega
  · rw [if_neg (by omega), h2]
theorem small_any (c : UInt8) (w : World) :
    Calls Tryd.prog 44 #[.int .u8 (c.toNat : Int)] w fun e w' => e = .returned (.int .u8 ((lowB c).toNat : Int)) ∧ w = w' := by
  have hl := lowB_num c
  have hn := c.toNat_lt
  by_cases c1 : (65 : Int) ≤ c.toNat
  · by_cases c2 : (c.toNat : Int) ≤ 90
    · rw [if_pos ⟨c1, c2⟩] at hl
      rw [hl]
      generalize c.toNat = n at *
      clear hl
      have e1 : IntKind.u8.wrap ((n : Int) - 65) = n - 65 := IntWalk.u8_in _ (by omega)
      have e2 : IntKind.u8.wrap ((n : Int) - 65 + 97) = n + 32 := by rw [IntWalk.u8_in _ (by omega)]; omega
      go_enter Tryd.func44, Tryd.ntmps44
      go_wp2_with fail
      go_ret
      exact ⟨rfl, rfl⟩
    · rw [if_neg (fun h => c2 h.2)] at hl
      rw [hl]
      go_enter Tryd.func44, Tryd.ntmps44
      go_wp2_with fail
      go_ret
      exact ⟨rfl, rfl⟩
  · rw [if_neg (fun h => c1 h.1)] at hl
    rw [hl]
    go_enter Tryd.func44, Tryd.ntmps44
    go_wp2_with fail
    go_ret
    exact ⟨rfl, rfl⟩
set_option maxHeartbeats 800000 in
theorem rlower_any (l : List UInt8) (W : World) (hl : l.length ≤ 1000000) :
    Calls Tryd.prog 20 #[.string (str l)] W fun e w' => e = .returned (.string (str (l.map lowB))) ∧ Below W.heap.size W w' := by
  have hend := low_all l
  have HST : Hid (∀ w B A c, Bts w B A (lowK 0 l.length l) → (convert 22 9 (.slice A l.length c)).run Tryd.prog w = .ok (.string (str (l.map lowB))) w) := Lib.hid fun w B A c h => by
    have := run_str Tryd.prog Tryd.underlying22 Tryd.underlying5 Tryd.underlying9 c h
    rw [lowK_length, hend] at this
    exact this
  have hst : lowK 0 0 l = l := lowK_start 0 l
  have HNEXT := Lib.hid (fun k h1 h2 => lowK_next (s := 0) (k := k) (l := l) h1 h2)
  obtain ⟨c, w2, hrun, hby, hbel⟩ := run_byt l W
  obtain ⟨g, hg⟩ : ∃ g, g = W.heap.size := ⟨_, rfl⟩
  rw [← hg] at hby hrun
  have HST0 : Hid (Byt w2 g (lowK 0 0 l) ∧ Below W.heap.size W w2) := Lib.hid ⟨by rw [hst]; exact hby, hbel⟩
  have HGN := Lib.hid hg
  clear hby hbel hst hend hg
  generalize hN : l.length = N at *
  have HN := Lib.hid hN
  clear hN
  generalize str (l.map lowB) = sf at *
  generalize hs : str l = t at *
  clear hs
  go_enter Tryd.func20, Tryd.ntmps20
  go_wp2_with fail
  clear hrun
  go_loopw [4, 5, 10] (fun _ _ x wr => ∃ k : Nat, k ≤ N ∧ x = .int .i64 k ∧ Hid (Byt wr g (lowK 0 k l) ∧ Below W.heap.size W wr)) (fun _ _ x _ => N - (intOf x).toNat)
  case atStart => exact ⟨0, Nat.zero_le _, rfl, HST0⟩
  case round =>
    obtain ⟨k, hk, rfl, HR⟩ := hrel
    by_cases hlt : k < N
    · obtain ⟨hby, hbel⟩ := HR.out
      have hlen : k < (lowK 0 k l).length := by rw [lowK_length, HN.out]; exact hlt
      have hc := hby.cell (j := k) hlen
      have hf := hby.froz (j := k) hlen
      have hgl := hby.lt
      rw [lowK_getD (by rw [HN.out]; exact hlt), if_neg (by omega)] at hc
      have hnx := HNEXT.out k (Nat.zero_le _) hlt
      have hby2 := hby.set k (lowB (l.getD k 0))
      rw [hnx] at hby2
      have hcn := (l.getD k 0).toNat_lt
      have hln := lowB_num (l.getD k 0)
      have hsame : ¬ (65 ≤ ((l.getD k 0).toNat : Int) ∧ ((l.getD k 0).toNat : Int) ≤ 90) → Byt _ g (lowK 0 (k + 1) l) := fun hn => by
        have e : lowB (l.getD k 0) = l.getD k 0 := by
          rcases lowB_cases (l.getD k 0) with ⟨h1, h2, _⟩ | ⟨_, h2⟩
          · exact absurd ⟨by omega, by omega⟩ hn
          · exact h2
        have e2 : (lowK 0 k l).set k (lowB (l.getD k 0)) = lowK 0 k l := by
          rw [e]
          apply getD_ext (by rw [List.length_set])
          intro j hj
          by_cases ejk : k = j
          · subst ejk
            rw [lowK_getD (by rw [HN.out]; exact hlt), if_neg (by omega)]
            rw [List.length_set] at hj
            simp only [List.getD, List.getElem?_set_self hj, Option.getD_some]
          · simp [List.getD, List.getElem?_set_ne ejk]
        rw [← hnx, e2]
        exact hby
      have HSAME := Lib.hid hsame
      have HBEL := Lib.hid hbel
      clear hsame hlen hnx
      by_cases c1 : (65 : Int) ≤ (l.getD k 0).toNat
      · by_cases c2 : ((l.getD k 0).toNat : Int) ≤ 90
        · rw [if_pos ⟨c1, c2⟩] at hln
          rw [hln] at hby2
          have HB2 := Lib.hid (And.intro hby2 (hbel.setCell (show W.heap.size ≤ (⟨g, k, none⟩ : Addr).block by rw [HGN.out]; exact Nat.le_refl _) (.int .u8 ((l.getD k 0).toNat + 32 : Int))))
          clear hby hbel hby2 HR hln HSAME
          generalize (l.getD k 0).toNat = cc at *
          go_wp2_with fail
          go_roundw
          case rel => exact ⟨k + 1, by omega, by go_num, HB2⟩
          case measure => simp [intOf]; omega
        · have HB2 : Hid (Byt _ g (lowK 0 (k + 1) l) ∧ Below W.heap.size W _) := Lib.hid ⟨HSAME.out (fun h => c2 h.2), HBEL.out⟩
          clear hby hbel hby2 HR hln HSAME
          generalize (l.getD k 0).toNat = cc at *
          go_wp2_with fail
          go_roundw
          case rel => exact ⟨k + 1, by omega, by go_num, HB2⟩
          case measure => simp [intOf]; omega
      · have HB2 : Hid (Byt _ g (lowK 0 (k + 1) l) ∧ Below W.heap.size W _) := Lib.hid ⟨HSAME.out (fun h => c1 h.1), HBEL.out⟩
        clear hby hbel hby2 HR hln HSAME
        generalize (l.getD k 0).toNat = cc at *
        go_wp2_with fail
        go_roundw
        case rel => exact ⟨k + 1, by omega, by go_num, HB2⟩
        case measure => simp [intOf]; omega
    · have hkN : k = N := by omega
      obtain ⟨hby, hbel⟩ := HR.out
      have hb := hby.bts
      rw [hkN] at hb
      have hs2 := HST.out _ _ _ c hb
      have HBE := Lib.hid hbel
      clear hby hbel hb HR
      go_wp2_with fail
      go_ret
      exact ⟨rfl, HBE.out⟩
end Hd
end Go.Proofs.YtliaciojlcajdaaDoor
