/- Contracts of Holds: the program's, the document's. Conditions: as stated at each. -/
import Derived.Test.YtlbmieeimnjncaaDoorSeSum
namespace Go.Proofs.YtlbmieeimnjncaaDoor
set_option maxRecDepth 100000
open Go.RowKit Go
/-- whether a seal is of these leaves. -/
def holdsS (s : Sl) (L : List (List UInt8)) : Bool := decide (1 ≤ s.seg ∧ s.seg ≤ 999999) && eqS ⟨s.seg, L.length, rootS L, s.prev⟩ s
end Go.Proofs.YtlbmieeimnjncaaDoor
