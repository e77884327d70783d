/- The field of a name; how many. Conditions: none. -/
import Derived.Test.YtliaciojlcajdaaDoorHdLine
namespace Go.Proofs.YtliaciojlcajdaaDoor
set_option maxRecDepth 100000
namespace Hd
open Go.RowKit Go Go.Proofs.YtliaciojlcajdaaDoor.Pa
def hits (fs : List F) (s : List UInt8) (k : Nat) : List F := (fs.take k).filter fun f => sameS f.1 s
def first (l : List F) : List UInt8 := (l.headD ([], [])).2
theorem hits_zero (fs : List F) (s : List UInt8) : hits fs s 0 = [] := by simp [hits]
theorem hits_succ {fs : List F} {s : List UInt8} {k : Nat} (h : k < fs.length) : hits fs s (k + 1) = if sameS (fs.getD k ([], [])).1 s then hits fs s k ++ [fs.getD k ([], [])] else hits fs s k := by
  unfold hits
  rw [List.take_succ_eq_append_getElem h, List.filter_append]
  have : fs.getD k ([], []) = fs[k] := by simp [List.getD, h]
  rw [this]
  by_cases hs : sameS (fs[k]).1 s
  · rw [if_pos hs]; simp [hs]
  · rw [if_neg hs]; simp [hs]
theorem hits_len (fs : List F) (s : List UInt8) (k : Nat) : (hits fs s k).length ≤ k := by
  unfold hits
  refine Nat.le_trans (List.length_filter_le _ _) ?_
  simp; omega
theorem hits_hit {fs : List F} {s : List UInt8} {k n : Nat} (h0 : hits fs s k = []) (h : sameS (fs.getD k ([], [])).1 s = true) (hk : k < n) (hn : n = fs.length) : first (hits fs s n) = (fs.getD k ([], [])).2 ∧ 0 < (hits fs s n).length := by
  subst hn
  have hd : fs.getD k ([], []) = fs[k] := by simp [List.getD, hk]
  have e : hits fs s fs.length = hits fs s k ++ (fs[k] :: (fs.drop (k + 1)).filter fun f => sameS f.1 s) := by
    unfold hits
    rw [List.take_length]
    conv => lhs; rw [← List.take_append_drop k fs]
    rw [List.filter_append, List.drop_eq_getElem_cons hk, List.filter_cons_of_pos (by rw [hd] at h; exact h)]
  rw [e, h0, hd]
  simp [first]
theorem lowB_low (x : UInt8) : lowB (lowB x) = lowB x := by
  have h : ∀ n : Fin 256, lowB (lowB (UInt8.ofNat n)) = lowB (UInt8.ofNat n) := by decide +kernel
  have := h ⟨x.toNat, x.toNat_lt⟩
  simpa using this
theorem sameS_low (a s : List UInt8) : sameS a (s.map lowB) = sameS a s := by
  unfold sameS
  rw [List.map_map, show lowB ∘ lowB = lowB from funext lowB_low]
theorem hits_low (fs : List F) (s : List UInt8) (k : Nat) : hits fs (s.map lowB) k = hits fs s k := by
  unfold hits
  simp only [sameS_low]
end Hd
end Go.Proofs.YtliaciojlcajdaaDoor
