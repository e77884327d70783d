/- HeadGets, the name as it comes in. Conditions: as stated. -/
import Derived.Test.YtliaciojlcajdaaDoorHdLGet
import Derived.Test.YtliaciojlcajdaaDoorHdOpenF
namespace Go.Proofs.YtliaciojlcajdaaDoor
set_option maxRecDepth 100000
namespace Hd
open Go.RowKit Go Go.Proofs.YtliaciojlcajdaaDoor.Pa
theorem gets_s {w : World} {A : Option Addr} {fs : List F} (hb : Prs w w.heap.size A (fv fs)) (c : Nat) (s : ByteArray) (hG : Gl w) :
    Calls Tryd.prog 5 #[.slice A fs.length c, .string s] w fun e w' => e = .returned (.bool true) ∧ Below w.heap.size w w' := by
  have := gets_any hb c s.data.toList hG
  rwa [← str_of s] at this
end Hd
end Go.Proofs.YtliaciojlcajdaaDoor
