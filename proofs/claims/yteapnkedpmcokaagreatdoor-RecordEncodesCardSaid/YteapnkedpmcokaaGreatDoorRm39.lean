/- PaFold HoSmall. Conditions: as stated at each. -/
import Derived.Test.YteapnkedpmcokaaGreatDoorRm38
import Derived.Laws.IdiomStrings
import Derived.Deep.RegionHeld
/- path.Fold, the document's Lower, Fold. Conditions: as stated. -/
namespace Go.Proofs.YteapnkedpmcokaaGreatDoor
set_option maxRecDepth 100000
namespace Pa
open Go.RowKit Go
/-- block g of W holds these bytes first, and they may be written. -/
def Byt (W : World) (g : Nat) (l : List UInt8) : Prop := ∃ C fr, W.heap[g]? = some (.cells C 5 fr) ∧ (∀ j, j < l.length → C[j]? = some (.int .u8 ((l.getD j 0).toNat : Int))) ∧ l.length ≤ fr.1
theorem Byt.lt {W : World} {g : Nat} {l : List UInt8} (h : Byt W g l) : g < W.heap.size := by
  obtain ⟨C, fr, h1, _⟩ := h
  exact (Array.getElem?_eq_some_iff.1 h1).1
theorem Byt.cell {W : World} {g : Nat} {l : List UInt8} (h : Byt W g l) {j : Nat} (hj : j < l.length) : W.cell? ⟨g, j, none⟩ = some (.int .u8 ((l.getD j 0).toNat : Int)) := by
  obtain ⟨C, fr, h1, h2, _⟩ := h
  rw [cell_of_row W g j C _ fr h1]
  exact h2 j hj
theorem Byt.froz {W : World} {g : Nat} {l : List UInt8} (h : Byt W g l) {j : Nat} (hj : j < l.length) : W.frozen? ⟨g, j, none⟩ = false := by
  obtain ⟨C, fr, h1, h2, h3⟩ := h
  have : ¬ fr.1 ≤ j := by omega
  simp [World.frozen?, h1, this]
theorem Byt.set {W : World} {g : Nat} {l : List UInt8} (h : Byt W g l) (j : Nat) (c : UInt8) : Byt (W.setCell ⟨g, j, none⟩ (.int .u8 (c.toNat : Int))) g (l.set j c) := by
  obtain ⟨C, fr, h1, h2, h3⟩ := h
  refine ⟨C.setIfInBounds j (.int .u8 (c.toNat : Int)), fr, by simp [World.setCell, Array.getElem?_modify, h1], fun i hi => ?_, by simpa using h3⟩
  rw [List.length_set] at hi
  have hC := (Array.getElem?_eq_some_iff.1 (h2 i hi)).1
  rw [Array.getElem?_setIfInBounds]
  by_cases hij : j = i
  · subst hij
    rw [if_pos rfl, if_pos hC]
    simp [List.getD, hi]
  · rw [if_neg hij, h2 i hi]
    simp [List.getD, List.getElem?_set_ne hij]
theorem Byt.bts {W : World} {g : Nat} {l : List UInt8} (h : Byt W g l) : Bts W W.heap.size (some ⟨g, 0, none⟩) l := fun j u hj => by
  have hlt : j < l.length := by
    have := (List.getElem?_eq_some_iff.1 hj).1
    rwa [bv_length] at this
  rw [bv_get l j hlt] at hj
  injection hj with hj
  subst hj
  refine ⟨_, rfl, h.lt, ?_⟩
  have := h.cell hlt
  rwa [show (⟨g, 0, none⟩ : Addr).add j = ⟨g, j, none⟩ by simp [Addr.add]; rintro rfl; rfl]
/-- a text made bytes. -/
theorem run_byt (l : List UInt8) (w : World) : ∃ c w', (convert 9 25 (.string (str l))).run Tryz.prog w = .ok (.slice (some ⟨w.heap.size, 0, none⟩) l.length c) w' ∧ Byt w' w.heap.size l ∧ Below w.heap.size w w' := by
  have hrun := run_bytes_of_string (P := Tryz.prog) w 9 25 5 (str l) Tryz.underlying9 Tryz.underlying25 Tryz.underlying5
  rw [show (str l).size = l.length from str_size l] at hrun
  refine ⟨_, _, hrun, ⟨_, _, heap_alloc_new _ _, fun j hj => ?_, ?_⟩, ((Below.refl _ w).drew).alloc (Nat.le_refl _) _⟩
  · have hj' : j < (str l).data.size := by simpa [str] using hj
    rw [bytesRow_at _ _ j hj']
    simp [str, List.getD, hj]
  · simp [bytesRow, str]
/-- the letters from s up to k made small. -/
def lowK (s k : Nat) (l : List UInt8) : List UInt8 := (List.range l.length).map fun j => if s ≤ j ∧ j < k then lowB (l.getD j 0) else l.getD j 0
theorem lowK_length (s k : Nat) (l : List UInt8) : (lowK s k l).length = l.length := by simp [lowK]
theorem lowK_getD {s k j : Nat} {l : List UInt8} (hj : j < l.length) : (lowK s k l).getD j 0 = if s ≤ j ∧ j < k then lowB (l.getD j 0) else l.getD j 0 := by
  simp [lowK, List.getD, hj]
theorem getD_ext {a b : List UInt8} (h : a.length = b.length) (h2 : ∀ j, j < a.length → a.getD j 0 = b.getD j 0) : a = b := by
  apply List.ext_getElem h
  intro j h1 h3
  have := h2 j h1
  simpa [List.getD, h1, h3] using this
theorem lowK_start (s : Nat) (l : List UInt8) : lowK s s l = l := by
  apply getD_ext (lowK_length _ _ _)
  intro j hj
  rw [lowK_length] at hj
  rw [lowK_getD hj, if_neg (by omega)]
theorem lowK_next {s k : Nat} {l : List UInt8} (hs : s ≤ k) (hk : k < l.length) : (lowK s k l).set k (lowB (l.getD k 0)) = lowK s (k + 1) l := by
  apply getD_ext (by rw [List.length_set, lowK_length, lowK_length])
  intro j hj
  rw [List.length_set, lowK_length] at hj
  rw [lowK_getD hj]
  by_cases e : k = j
  · subst e
    rw [if_pos (by omega)]
    simp [List.getD, lowK_length, hk]
  · have : ((lowK s k l).set k (lowB (l.getD k 0))).getD j 0 = (lowK s k l).getD j 0 := by
      simp [List.getD, List.getElem?_set_ne e]
    rw [this, lowK_getD hj]
    by_cases c : s ≤ j ∧ j < k
    · rw [if_pos c, if_pos (by omega)]
    · rw [if_neg c, if_neg (by omega)]
theorem lowK_end {s k : Nat} {l : List UInt8} (hk : l.length ≤ k) : lowK s k l = l.take s ++ (l.drop s).map lowB := by
  apply getD_ext (by rw [lowK_length, List.length_append, List.length_map, List.length_take, List.length_drop]; omega)
  intro j hj
  rw [lowK_length] at hj
  rw [lowK_getD hj]
  by_cases c : s ≤ j
  · rw [if_pos ⟨c, by omega⟩]
    have h1 : (l.take s).length ≤ j := by rw [List.length_take]; omega
    have h2 : (l.take s).length = s := by rw [List.length_take]; omega
    simp only [List.getD]
    rw [List.getElem?_append_right h1, h2, List.getElem?_map, List.getElem?_drop, show s + (j - s) = j by omega, List.getElem?_eq_getElem hj]
    rfl
  · rw [if_neg (by omega)]
    simp only [List.getD]
    rw [List.getElem?_append_left (by rw [List.length_take]; omega), List.getElem?_take, if_pos (by omega)]
theorem low_all (l : List UInt8) : lowK 0 l.length l = l.map lowB := by rw [lowK_end (Nat.le_refl _)]; simp
theorem fold_end (l : List UInt8) : ∃ s, l.length = s + (dom l).length ∧ lowK s l.length l = foldS l := by
  rcases last_cases l with ⟨h, _⟩ | ⟨a, b, rfl, h, _⟩
  · refine ⟨l.length, by rw [(loc_no h).2]; rfl, ?_⟩
    rw [lowK_end (Nat.le_refl _), foldS_no h]
    simp
  · refine ⟨a.length + 1, by rw [(loc_at h).2]; simp; omega, ?_⟩
    rw [lowK_end (Nat.le_refl _), foldS_at h, show a ++ 64 :: b = (a ++ [64]) ++ b by simp, show a.length + 1 = (a ++ [64]).length by simp, List.take_left, List.drop_left]
    simp
theorem ret_str {a b : ByteArray} (h : a = b) : Ending.returned (.string a) = .returned (.string b) := by rw [h]
theorem mail1 : mailS [97, 46, 46, 98, 64, 120] = false := by decide
theorem mail2 : mailS [97, 64, 120] = true := by decide
theorem parse1 : parseS [60, 97, 46, 98, 64, 120, 46, 111, 114, 103, 62, 32, 83, 73, 90, 69, 61, 53] = ([97, 46, 98, 64, 120, 46, 111, 114, 103], [32, 83, 73, 90, 69, 61, 53], true) := by decide
end Pa
end Go.Proofs.YteapnkedpmcokaaGreatDoor
/- One hold: its name, whose it is, a copy of it; whether it may be. Conditions: as stated at each. -/
namespace Go.Proofs.YteapnkedpmcokaaGreatDoor
set_option maxRecDepth 100000
namespace Ho
open Go.RowKit Go Go.Proofs.YteapnkedpmcokaaGreatDoor.Pa Go.Proofs.YteapnkedpmcokaaGreatDoor.Rt
set_option maxHeartbeats 800000 in
theorem called_any (r : R) (w : World) (h1 : r.1.length ≤ 140737488355328) :
    Calls Tryz.prog 132 #[.agg #[.string (str r.1), .string (str r.2)]] w fun e w' => e = .returned (.string (str r.1)) ∧ Below w.heap.size w w' := by
  have HC := Lib.hid (fun X => clone_s r.1 X h1)
  have HB := Lib.hid (below_b w (.cells #[.string (str r.1), .string (str r.2)] 34))
  clear h1
  generalize str r.1 = s0 at *
  generalize str r.2 = s1 at *
  go_enter Tryz.func132, Tryz.ntmps132
  go_wp2_with (first | (go_at_call 133; refine (HC.out _).mono ?_; rintro e w1 ⟨rfl, hb1⟩) | fail)
  go_ret
  exact ⟨rfl, HB.out.trans (hb1.mono HB.out.size)⟩
end Ho
end Go.Proofs.YteapnkedpmcokaaGreatDoor
