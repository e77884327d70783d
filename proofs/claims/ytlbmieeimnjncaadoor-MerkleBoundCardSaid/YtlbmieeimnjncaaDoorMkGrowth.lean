/- Contracts of growths: the program's, the document's. Conditions: as stated at each. -/
import Derived.Test.YtlbmieeimnjncaaDoorMkProof
namespace Go.Proofs.YtlbmieeimnjncaaDoor
set_option maxRecDepth 100000
open Go.RowKit Go
theorem own_one {w : World} {N g : Nat} {s : List UInt8} (h : BlkIs w g 22 (bv s).toArray) (hs : s.length = 32) (hN : N ≤ g) : OwnH w N (.slice (some ⟨g, 0, none⟩) 1 1) [s] := by
  refine ⟨Sms.one hs, by simp [bv_length, hs], .inr ⟨g, 1, (bv s).toArray, rfl, hN, h, Nat.le_refl _, by unfold maxLen; omega, by simp [bv_length, hs], ?_⟩⟩
  have e : (bv s).length = 32 := by rw [bv_length, hs]
  simp [e, List.take_of_length_le]
end Go.Proofs.YtlbmieeimnjncaaDoor
/- Contracts of Growth: the program's, the document's. Conditions: as stated at each. -/
namespace Go.Proofs.YtlbmieeimnjncaaDoor
set_option maxRecDepth 100000
open Go.RowKit Go
end Go.Proofs.YtlbmieeimnjncaaDoor
