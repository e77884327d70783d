/-
  DERIVED. GIVEN WITH THE SEED: THE CARDS: each row of YtlbmieeimnjncaaDoorRows.lean that lists a variable, with what it lists TIED to the program's text (the seventh form; the later family's looks); each row that meets fmt, with fmt's text TOLD by the authors' own Lean function (tested against real Go, not proved from fmt's source: count such statements apart). THE CARD IS WHAT COUNTS. Prove the row's statement (the work); the ties are given (YtlbmieeimnjncaaDoorTie.lean); close each card by the builder's one call (the guide's Derived/Test/ToyasCard.lean, 'card_holds'). Laid BY PROGRAM, IN A SANDBOX (cutbox-door.mjs). By AI agents, Wed Nov 11 2026. No macro, syntax, notation, axiom, sorry.
-/
import Derived.Test.YtlbmieeimnjncaaDoorRows
import GoSem.ClaimSeven
namespace Go.Proofs.YtlbmieeimnjncaaDoor
namespace Rows

/-- THE TIED CARD OF 'scriptoriumlaw05.MerkleBound'. -/
def merkleBoundCard : Claim7 := { stood := { row := merkleBoundRow, standIns := [], harness := (true, "d16689f8a0142f42956e1624478a3dd87b241dfec1a13bf4a15d1799852c206e"), looks := false }, kinds := [], alts := [], laidByText := true, laidKinds := [.data, .data], laidTests := true, laidLooks := .later }
def MerkleBoundCardSaid : Prop := Claim7.holds Tryd.pinned (.plain (OpenSpec.ofChange merkleBoundSpec)) merkleBoundCard

/-- THE SECOND FORM's CARD OF 'scriptoriumlaw05.MerkleBound'. -/
def merkleBoundUptoCard : Claim7 := { stood := { row := merkleBoundUptoRow, standIns := [], harness := (true, "d16689f8a0142f42956e1624478a3dd87b241dfec1a13bf4a15d1799852c206e"), looks := false }, kinds := [], alts := [], laidByText := true, laidKinds := [.data, .data], laidTests := true, laidLooks := .later }
def MerkleBoundUptoCardSaid : Prop := Claim7.holds Tryd.pinned (.plain (OpenSpec.upto merkleBoundSpec)) merkleBoundUptoCard
end Rows
end Go.Proofs.YtlbmieeimnjncaaDoor
