/-
  DERIVED. GIVEN WITH THE SEED: THE CARDS: each row of YtamekflgidfnfaaGreatDoorRows.lean that lists a variable, with what it lists TIED to the program's text (the seventh form; the later family's looks); each row that meets fmt, with fmt's text TOLD by the authors' own Lean function (tested against real Go, not proved from fmt's source: count such statements apart). THE CARD IS WHAT COUNTS. Prove the row's statement (the work); the ties are given (YtamekflgidfnfaaGreatDoorTie.lean); close each card by the builder's one call (the guide's Derived/Test/ToyasCard.lean, 'card_holds'). Laid BY PROGRAM, IN A SANDBOX (cutbox-door.mjs). By AI agents, Wed Nov 11 2026. No macro, syntax, notation, axiom, sorry.
-/
import Derived.Test.YtamekflgidfnfaaGreatDoorRows
import GoSem.ClaimSeven
namespace Go.Proofs.YtamekflgidfnfaaGreatDoor
namespace Rows

/-- THE TIED CARD OF 'scriptoriumlaw10.MboxParses'. -/
def mboxParsesCard : Claim7 := { stood := { row := mboxParsesRow, standIns := [], harness := (true, "426c6127a262de8b50aad90882ff891d0b237589c34b370aa1d8d34f440b086f"), looks := true }, kinds := [], alts := [], laidByText := true, laidKinds := [.data, .data, .data, .data, .sentinel, .sentinel, .pinned], laidTests := true, laidLooks := .later }
def MboxParsesCardSaid : Prop := Claim7.holds Tryz.pinned (.plain (OpenSpec.ofChange mboxParsesSpec)) mboxParsesCard

/-- THE TIED CARD OF 'scriptoriumlaw11.MimeReads'. -/
def mimeReadsCard : Claim7 := { stood := { row := mimeReadsRow, standIns := [], harness := (true, "426c6127a262de8b50aad90882ff891d0b237589c34b370aa1d8d34f440b086f"), looks := true }, kinds := [], alts := [], laidByText := true, laidKinds := [.data, .data, .data, .data, .sentinel, .sentinel, .pinned], laidTests := true, laidLooks := .later }
def MimeReadsCardSaid : Prop := Claim7.holds Tryz.pinned (.plain (OpenSpec.ofChange mimeReadsSpec)) mimeReadsCard

/-- THE SECOND FORM's CARD OF 'scriptoriumlaw10.MboxParses'. -/
def mboxParsesUptoCard : Claim7 := { stood := { row := mboxParsesUptoRow, standIns := [], harness := (true, "426c6127a262de8b50aad90882ff891d0b237589c34b370aa1d8d34f440b086f"), looks := true }, kinds := [], alts := [], laidByText := true, laidKinds := [.data, .data, .data, .data, .sentinel, .sentinel, .pinned], laidTests := true, laidLooks := .later }
def MboxParsesUptoCardSaid : Prop := Claim7.holds Tryz.pinned (.plain (OpenSpec.upto mboxParsesSpec)) mboxParsesUptoCard

/-- THE SECOND FORM's CARD OF 'scriptoriumlaw11.MimeReads'. -/
def mimeReadsUptoCard : Claim7 := { stood := { row := mimeReadsUptoRow, standIns := [], harness := (true, "426c6127a262de8b50aad90882ff891d0b237589c34b370aa1d8d34f440b086f"), looks := true }, kinds := [], alts := [], laidByText := true, laidKinds := [.data, .data, .data, .data, .sentinel, .sentinel, .pinned], laidTests := true, laidLooks := .later }
def MimeReadsUptoCardSaid : Prop := Claim7.holds Tryz.pinned (.plain (OpenSpec.upto mimeReadsSpec)) mimeReadsUptoCard
end Rows
end Go.Proofs.YtamekflgidfnfaaGreatDoor
