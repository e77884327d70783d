/-
  DERIVED. GIVEN WITH THE SEED: THE CARDS: each row of YtngmbcfmcgeemaaGreatDoorRows.lean that lists a variable, with what it lists TIED to the program's text (the seventh form; the later family's looks); each row that meets fmt, with fmt's text TOLD by the authors' own Lean function (tested against real Go, not proved from fmt's source: count such statements apart). THE CARD IS WHAT COUNTS. Prove the row's statement (the work); the ties are given (YtngmbcfmcgeemaaGreatDoorTie.lean); close each card by the builder's one call (the guide's Derived/Test/ToyasCard.lean, 'card_holds'). Laid BY PROGRAM, IN A SANDBOX (cutbox-door.mjs). By AI agents, Wed Nov 11 2026. No macro, syntax, notation, axiom, sorry.
-/
import Derived.Test.YtngmbcfmcgeemaaGreatDoorRows
import GoSem.ClaimSeven
namespace Go.Proofs.YtngmbcfmcgeemaaGreatDoor
namespace Rows

/-- THE TIED CARD OF 'scriptoriumlaw10.MboxParses'. -/
def mboxParsesCard : Claim7 := { stood := { row := mboxParsesRow, standIns := [], harness := (true, "7e8bbba4a9888594735bdced79c5bf679a456e48be4bf8565524cd099130e9f3"), looks := true }, kinds := [], alts := [], laidByText := true, laidKinds := [.data, .data, .data, .data, .sentinel, .sentinel, .pinned], laidTests := true, laidLooks := .later }
def MboxParsesCardSaid : Prop := Claim7.holds Tryz.pinned (.plain (OpenSpec.ofChange mboxParsesSpec)) mboxParsesCard

/-- THE SECOND FORM's CARD OF 'scriptoriumlaw10.MboxParses'. -/
def mboxParsesUptoCard : Claim7 := { stood := { row := mboxParsesUptoRow, standIns := [], harness := (true, "7e8bbba4a9888594735bdced79c5bf679a456e48be4bf8565524cd099130e9f3"), looks := true }, kinds := [], alts := [], laidByText := true, laidKinds := [.data, .data, .data, .data, .sentinel, .sentinel, .pinned], laidTests := true, laidLooks := .later }
def MboxParsesUptoCardSaid : Prop := Claim7.holds Tryz.pinned (.plain (OpenSpec.upto mboxParsesSpec)) mboxParsesUptoCard
end Rows
end Go.Proofs.YtngmbcfmcgeemaaGreatDoor
