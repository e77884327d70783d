/- The condition that a region's walk holds may grow on its way. Conditions: none. -/
import Derived.Test.YtlbmieeimnjncaaDoorMkKey
namespace Go.Proofs.YtlbmieeimnjncaaDoor
set_option maxRecDepth 100000
open Go.RowKit Go
section
variable {P : Program} {ops : Array Oper} {Q : Exit → Act → World → Prop} {md : Region.Mode} {S S' : World → Prop}
theorem wpAnyH_more (h : ∀ w, S' w → S w) : ∀ {fuel : Nat} {listed : Array Bool} {a : Act} {w : World}, wpAnyH P md ops Q S' fuel listed a w → wpAnyH P md ops Q S fuel listed a w
  | 0, _, _, _, hw => hw
  | _ + 1, _, _, _, hw => ⟨hw.1, fun i hi => wpOp_mono (fun _ w' h' => ⟨h w' h'.1, wpAnyH_more h h'.2⟩) (hw.2 i hi)⟩
theorem wpAnyK_more {key : Nat} (h : ∀ w, S' w → S w) : ∀ {fuel : Nat} {listed : Array Bool} {a : Act} {w : World}, wpAnyK P md ops Q S' key fuel listed a w → wpAnyK P md ops Q S key fuel listed a w
  | 0, _, _, _, hw => hw
  | _ + 1, _, _, _, hw => ⟨hw.1, fun i hi => wpOp_mono (fun _ w' h' => ⟨fun h1 h2 => h w' (h'.1 h1 h2), wpAnyK_more h h'.2⟩) (hw.2 i hi)⟩
end
end Go.Proofs.YtlbmieeimnjncaaDoor
