/- What is shown is read again. Conditions: none. -/
import Derived.Test.YtliaciojlcajdaaDoorHdStr
import Derived.Test.YtliaciojlcajdaaDoorHdTold
namespace Go.Proofs.YtliaciojlcajdaaDoor
set_option maxRecDepth 100000
namespace Hd
open Go.RowKit Go Go.Proofs.YtliaciojlcajdaaDoor.Pa
def spF (f : F) : F := (f.1, 32 :: f.2)
theorem trimB_sp (l : List UInt8) : trimB (32 :: l) = trimB l := by
  rw [trimB_eq, trimB_eq, List.dropWhile_cons_of_pos (by decide)]
theorem trim_sp {f : F} (h : okF f = true) : trimF (spF f) = f := by
  unfold okF plainS at h
  simp only [Bool.and_eq_true, beq_iff_eq] at h
  unfold trimF spF
  show (f.1, trimB (32 :: f.2)) = f
  rw [trimB_sp, ← h.2.2]
theorem trim_all {fs : List F} (h : ∀ f ∈ fs, okF f = true) : (fs.map spF).map trimF = fs := by
  rw [List.map_map]
  refine (List.map_congr_left fun f hf => ?_).trans (List.map_id fs)
  exact trim_sp (h f hf)
theorem run_line {f : F} (h : okF f = true) {acc : List F} {r : List UInt8} {R : Option (List F × List UInt8)} (hR : Run (acc ++ [spF f]) r R) : Run acc (lineL f ++ r) R := by
  unfold okF plainS nameS at h
  simp only [Bool.and_eq_true, beq_iff_eq, decide_eq_true_eq, List.all_eq_true] at h
  obtain ⟨⟨hn, hl, hl2⟩, hp, _⟩ := h
  have hnb : ∀ c ∈ f.1, 33 ≤ c.toNat ∧ c.toNat ≤ 126 ∧ c.toNat ≠ 58 := fun c hc => by
    have := hn c hc
    unfold nameB at this
    exact of_decide_eq_true this
  have h58 : (58 : UInt8) ∉ f.1 := fun e => (hnb _ e).2.2 rfl
  have h13 : (13 : UInt8) ∉ f.1 ++ 58 :: 32 :: f.2 := fun e => by
    rcases List.mem_append.1 e with e | e
    · have := (hnb _ e).1; exact absurd this (by decide)
    · rcases List.mem_cons.1 e with e | e
      · exact absurd e (by decide)
      · rcases List.mem_cons.1 e with e | e
        · exact absurd e (by decide)
        · have := hp _ e
          exact absurd this (by decide)
  have hb : lineL f ++ r = (f.1 ++ 58 :: 32 :: f.2) ++ 13 :: 10 :: r := by unfold lineL; simp
  have hcut := cut2_13 h13 r
  rw [← hb] at hcut
  obtain ⟨ha, hbe⟩ := Pa.ahead_at (b := 32 :: f.2) h58
  obtain ⟨c, s, hs⟩ : ∃ c s, f.1 = c :: s := by
    cases e : f.1 with
    | nil => rw [e] at hl; simp at hl
    | cons c s => exact ⟨c, s, rfl⟩
  have hcb : blankB c = false := by
    have := (hnb c (by rw [hs]; simp)).1
    unfold blankB
    rw [Bool.or_eq_false_iff, beq_eq_false_iff_ne, beq_eq_false_iff_ne]
    exact ⟨fun e => by rw [e] at this; exact absurd this (by decide), fun e => by rw [e] at this; exact absurd this (by decide)⟩
  have hline : lineF (f.1 ++ 58 :: 32 :: f.2) = spF f := by unfold lineF spF; rw [ha, hbe]
  have hfield : fieldB (f.1 ++ 58 :: 32 :: f.2) = true := by
    unfold fieldB nameS
    rw [ha]
    simp only [Bool.and_eq_true, decide_eq_true_eq, List.all_eq_true]
    exact ⟨by unfold Pa.has; simp, hn, hl, hl2⟩
  have hc2 : f.1 ++ 58 :: 32 :: f.2 = c :: (s ++ 58 :: 32 :: f.2) := by rw [hs]; rfl
  rw [hc2] at hcut hfield hline
  exact Run.field hcut hcb hfield (by rw [hline]; exact hR)
theorem run_shown (more : List UInt8) : ∀ (fs acc : List F), (∀ f ∈ fs, okF f = true) → Run acc (shownL fs ++ ([13, 10] ++ more)) (some (acc ++ fs.map spF, more))
  | [], acc, _ => by
    have : cut2 (shownL [] ++ ([13, 10] ++ more)) = some ([], more) := cut2_13 (s := []) (by simp) more
    rw [List.map_nil, List.append_nil]
    exact Run.ends this
  | f :: fs, acc, h => by
    have ih := run_shown more fs (acc ++ [spF f]) fun g hg => h g (List.mem_cons_of_mem _ hg)
    have e : shownL (f :: fs) ++ ([13, 10] ++ more) = lineL f ++ (shownL fs ++ ([13, 10] ++ more)) := by unfold shownL; simp
    rw [e]
    refine run_line (h f (by simp)) ?_
    rw [List.map_cons]
    simpa using ih
end Hd
end Go.Proofs.YtliaciojlcajdaaDoor
