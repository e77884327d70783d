/-
  DERIVED. GIVEN WITH THE SEED: THE CARDS: each row of YtamekflgidfnfaaDoorRows.lean that lists a variable, with what it lists TIED to the program's text (the seventh form; the later family's looks); each row that meets fmt, with fmt's text TOLD by the authors' own Lean function (tested against real Go, not proved from fmt's source: count such statements apart). THE CARD IS WHAT COUNTS. Prove the row's statement (the work); the ties are given (YtamekflgidfnfaaDoorTie.lean); close each card by the builder's one call (the guide's Derived/Test/ToyasCard.lean, 'card_holds'). Laid BY PROGRAM, IN A SANDBOX (cutbox-door.mjs). By AI agents, Wed Nov 11 2026. No macro, syntax, notation, axiom, sorry.
-/
import Derived.Test.YtamekflgidfnfaaDoorRows
import GoSem.ClaimSeven
namespace Go.Proofs.YtamekflgidfnfaaDoor
namespace Rows

/-- THE TIED CARD OF 'scriptoriumlaw10.MboxQuotes'. -/
def mboxQuotesCard : Claim7 := { stood := { row := mboxQuotesRow, standIns := [], harness := (true, "94689d686ef77c413fd87d968892f2838e8a3b31f1e2917d4156ccbd4d9ba8cf"), looks := true }, kinds := [], alts := [], laidByText := true, laidKinds := [.data, .data, .data, .data, .pinned], laidTests := true, laidLooks := .later }
def MboxQuotesCardSaid : Prop := Claim7.holds Tryd.pinned (.plain (OpenSpec.ofChange mboxQuotesSpec)) mboxQuotesCard

/-- THE TIED CARD OF 'scriptoriumlaw10.MboxExports'. -/
def mboxExportsCard : Claim7 := { stood := { row := mboxExportsRow, standIns := [], harness := (true, "94689d686ef77c413fd87d968892f2838e8a3b31f1e2917d4156ccbd4d9ba8cf"), looks := true }, kinds := [], alts := [], laidByText := true, laidKinds := [.data, .data, .data, .data, .pinned], laidTests := true, laidLooks := .later }
def MboxExportsCardSaid : Prop := Claim7.holds Tryd.pinned (.plain (OpenSpec.ofChange mboxExportsSpec)) mboxExportsCard

/-- THE TIED CARD OF 'scriptoriumlaw10.MboxBack'. -/
def mboxBackCard : Claim7 := { stood := { row := mboxBackRow, standIns := [], harness := (true, "94689d686ef77c413fd87d968892f2838e8a3b31f1e2917d4156ccbd4d9ba8cf"), looks := true }, kinds := [], alts := [], laidByText := true, laidKinds := [.data, .data, .data, .data, .sentinel, .sentinel, .pinned], laidTests := true, laidLooks := .later }
def MboxBackCardSaid : Prop := Claim7.holds Tryd.pinned (.plain (OpenSpec.ofChange mboxBackSpec)) mboxBackCard

/-- THE TIED CARD OF 'scriptoriumlaw10.MboxLines'. -/
def mboxLinesCard : Claim7 := { stood := { row := mboxLinesRow, standIns := [], harness := (true, "94689d686ef77c413fd87d968892f2838e8a3b31f1e2917d4156ccbd4d9ba8cf"), looks := true }, kinds := [], alts := [], laidByText := true, laidKinds := [.data, .data, .data, .data, .pinned], laidTests := true, laidLooks := .later }
def MboxLinesCardSaid : Prop := Claim7.holds Tryd.pinned (.plain (OpenSpec.ofChange mboxLinesSpec)) mboxLinesCard

/-- THE TIED CARD OF 'scriptoriumlaw11.MimeBoundaries'. -/
def mimeBoundariesCard : Claim7 := { stood := { row := mimeBoundariesRow, standIns := [], harness := (true, "94689d686ef77c413fd87d968892f2838e8a3b31f1e2917d4156ccbd4d9ba8cf"), looks := true }, kinds := [], alts := [], laidByText := true, laidKinds := [.data, .data, .data, .data, .pinned], laidTests := true, laidLooks := .later }
def MimeBoundariesCardSaid : Prop := Claim7.holds Tryd.pinned (.plain (OpenSpec.ofChange mimeBoundariesSpec)) mimeBoundariesCard

/-- THE TIED CARD OF 'scriptoriumlaw11.MimeReports'. -/
def mimeReportsCard : Claim7 := { stood := { row := mimeReportsRow, standIns := [], harness := (true, "94689d686ef77c413fd87d968892f2838e8a3b31f1e2917d4156ccbd4d9ba8cf"), looks := true }, kinds := [], alts := [], laidByText := true, laidKinds := [.data, .data, .data, .data, .pinned], laidTests := true, laidLooks := .later }
def MimeReportsCardSaid : Prop := Claim7.holds Tryd.pinned (.plain (OpenSpec.ofChange mimeReportsSpec)) mimeReportsCard

/-- THE TIED CARD OF 'scriptoriumlaw11.MimeBack'. -/
def mimeBackCard : Claim7 := { stood := { row := mimeBackRow, standIns := [], harness := (true, "94689d686ef77c413fd87d968892f2838e8a3b31f1e2917d4156ccbd4d9ba8cf"), looks := true }, kinds := [], alts := [], laidByText := true, laidKinds := [.data, .data, .data, .data, .sentinel, .sentinel, .pinned], laidTests := true, laidLooks := .later }
def MimeBackCardSaid : Prop := Claim7.holds Tryd.pinned (.plain (OpenSpec.ofChange mimeBackSpec)) mimeBackCard

/-- THE SECOND FORM's CARD OF 'scriptoriumlaw10.MboxQuotes'. -/
def mboxQuotesUptoCard : Claim7 := { stood := { row := mboxQuotesUptoRow, standIns := [], harness := (true, "94689d686ef77c413fd87d968892f2838e8a3b31f1e2917d4156ccbd4d9ba8cf"), looks := true }, kinds := [], alts := [], laidByText := true, laidKinds := [.data, .data, .data, .data, .pinned], laidTests := true, laidLooks := .later }
def MboxQuotesUptoCardSaid : Prop := Claim7.holds Tryd.pinned (.plain (OpenSpec.upto mboxQuotesSpec)) mboxQuotesUptoCard

/-- THE SECOND FORM's CARD OF 'scriptoriumlaw10.MboxExports'. -/
def mboxExportsUptoCard : Claim7 := { stood := { row := mboxExportsUptoRow, standIns := [], harness := (true, "94689d686ef77c413fd87d968892f2838e8a3b31f1e2917d4156ccbd4d9ba8cf"), looks := true }, kinds := [], alts := [], laidByText := true, laidKinds := [.data, .data, .data, .data, .pinned], laidTests := true, laidLooks := .later }
def MboxExportsUptoCardSaid : Prop := Claim7.holds Tryd.pinned (.plain (OpenSpec.upto mboxExportsSpec)) mboxExportsUptoCard

/-- THE SECOND FORM's CARD OF 'scriptoriumlaw10.MboxBack'. -/
def mboxBackUptoCard : Claim7 := { stood := { row := mboxBackUptoRow, standIns := [], harness := (true, "94689d686ef77c413fd87d968892f2838e8a3b31f1e2917d4156ccbd4d9ba8cf"), looks := true }, kinds := [], alts := [], laidByText := true, laidKinds := [.data, .data, .data, .data, .sentinel, .sentinel, .pinned], laidTests := true, laidLooks := .later }
def MboxBackUptoCardSaid : Prop := Claim7.holds Tryd.pinned (.plain (OpenSpec.upto mboxBackSpec)) mboxBackUptoCard

/-- THE SECOND FORM's CARD OF 'scriptoriumlaw10.MboxLines'. -/
def mboxLinesUptoCard : Claim7 := { stood := { row := mboxLinesUptoRow, standIns := [], harness := (true, "94689d686ef77c413fd87d968892f2838e8a3b31f1e2917d4156ccbd4d9ba8cf"), looks := true }, kinds := [], alts := [], laidByText := true, laidKinds := [.data, .data, .data, .data, .pinned], laidTests := true, laidLooks := .later }
def MboxLinesUptoCardSaid : Prop := Claim7.holds Tryd.pinned (.plain (OpenSpec.upto mboxLinesSpec)) mboxLinesUptoCard

/-- THE SECOND FORM's CARD OF 'scriptoriumlaw11.MimeBoundaries'. -/
def mimeBoundariesUptoCard : Claim7 := { stood := { row := mimeBoundariesUptoRow, standIns := [], harness := (true, "94689d686ef77c413fd87d968892f2838e8a3b31f1e2917d4156ccbd4d9ba8cf"), looks := true }, kinds := [], alts := [], laidByText := true, laidKinds := [.data, .data, .data, .data, .pinned], laidTests := true, laidLooks := .later }
def MimeBoundariesUptoCardSaid : Prop := Claim7.holds Tryd.pinned (.plain (OpenSpec.upto mimeBoundariesSpec)) mimeBoundariesUptoCard

/-- THE SECOND FORM's CARD OF 'scriptoriumlaw11.MimeReports'. -/
def mimeReportsUptoCard : Claim7 := { stood := { row := mimeReportsUptoRow, standIns := [], harness := (true, "94689d686ef77c413fd87d968892f2838e8a3b31f1e2917d4156ccbd4d9ba8cf"), looks := true }, kinds := [], alts := [], laidByText := true, laidKinds := [.data, .data, .data, .data, .pinned], laidTests := true, laidLooks := .later }
def MimeReportsUptoCardSaid : Prop := Claim7.holds Tryd.pinned (.plain (OpenSpec.upto mimeReportsSpec)) mimeReportsUptoCard

/-- THE SECOND FORM's CARD OF 'scriptoriumlaw11.MimeBack'. -/
def mimeBackUptoCard : Claim7 := { stood := { row := mimeBackUptoRow, standIns := [], harness := (true, "94689d686ef77c413fd87d968892f2838e8a3b31f1e2917d4156ccbd4d9ba8cf"), looks := true }, kinds := [], alts := [], laidByText := true, laidKinds := [.data, .data, .data, .data, .sentinel, .sentinel, .pinned], laidTests := true, laidLooks := .later }
def MimeBackUptoCardSaid : Prop := Claim7.holds Tryd.pinned (.plain (OpenSpec.upto mimeBackSpec)) mimeBackUptoCard
end Rows
end Go.Proofs.YtamekflgidfnfaaDoor
