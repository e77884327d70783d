/- Contracts of a seal's sum: the program's, the document's. Conditions: as stated at each. -/
import Derived.Test.YtlbmieeimnjncaaDoorSeBytes
import Derived.Test.YtlbmieeimnjncaaDoorSeOf
namespace Go.Proofs.YtlbmieeimnjncaaDoor
set_option maxRecDepth 100000
open Go.RowKit Go
def sumS (s : Sl) : List UInt8 := sha (bytesS s)
theorem sumS_length (s : Sl) : (sumS s).length = 32 := sha_length _
end Go.Proofs.YtlbmieeimnjncaaDoor
