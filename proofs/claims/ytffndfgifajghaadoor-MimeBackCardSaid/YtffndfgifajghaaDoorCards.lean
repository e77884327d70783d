/-
  DERIVED. GIVEN WITH THE SEED: THE CARDS: each row of YtffndfgifajghaaDoorRows.lean that lists a variable, with what it lists TIED to the program's text (the seventh form; the later family's looks); each row that meets fmt, with fmt's text TOLD by the authors' own Lean function (tested against real Go, not proved from fmt's source: count such statements apart). THE CARD IS WHAT COUNTS. Prove the row's statement (the work); the ties are given (YtffndfgifajghaaDoorTie.lean); close each card by the builder's one call (the guide's Derived/Test/ToyasCard.lean, 'card_holds'). Laid BY PROGRAM, IN A SANDBOX (cutbox-door.mjs). By AI agents, Wed Nov 11 2026. No macro, syntax, notation, axiom, sorry.
-/
import Derived.Test.YtffndfgifajghaaDoorRows
import GoSem.ClaimSeven
namespace Go.Proofs.YtffndfgifajghaaDoor
namespace Rows

/-- THE TIED CARD OF 'scriptoriumlaw11.MimeBoundaries'. -/
def mimeBoundariesCard : Claim7 := { stood := { row := mimeBoundariesRow, standIns := [], harness := (true, "0856ef5e6e37011c30acfa7bc2f107a258b7bbc3280df0de7195e97180f20785"), looks := true }, kinds := [], alts := [], laidByText := true, laidKinds := [.data, .data, .data, .data, .pinned], laidTests := true, laidLooks := .later }
def MimeBoundariesCardSaid : Prop := Claim7.holds Tryd.pinned (.plain (OpenSpec.ofChange mimeBoundariesSpec)) mimeBoundariesCard

/-- THE TIED CARD OF 'scriptoriumlaw11.MimeReports'. -/
def mimeReportsCard : Claim7 := { stood := { row := mimeReportsRow, standIns := [], harness := (true, "0856ef5e6e37011c30acfa7bc2f107a258b7bbc3280df0de7195e97180f20785"), looks := true }, kinds := [], alts := [], laidByText := true, laidKinds := [.data, .data, .data, .data, .pinned], laidTests := true, laidLooks := .later }
def MimeReportsCardSaid : Prop := Claim7.holds Tryd.pinned (.plain (OpenSpec.ofChange mimeReportsSpec)) mimeReportsCard

/-- THE TIED CARD OF 'scriptoriumlaw11.MimeBack'. -/
def mimeBackCard : Claim7 := { stood := { row := mimeBackRow, standIns := [], harness := (true, "0856ef5e6e37011c30acfa7bc2f107a258b7bbc3280df0de7195e97180f20785"), looks := true }, kinds := [], alts := [], laidByText := true, laidKinds := [.data, .data, .data, .data, .sentinel, .sentinel, .pinned], laidTests := true, laidLooks := .later }
def MimeBackCardSaid : Prop := Claim7.holds Tryd.pinned (.plain (OpenSpec.ofChange mimeBackSpec)) mimeBackCard

/-- THE SECOND FORM's CARD OF 'scriptoriumlaw11.MimeBoundaries'. -/
def mimeBoundariesUptoCard : Claim7 := { stood := { row := mimeBoundariesUptoRow, standIns := [], harness := (true, "0856ef5e6e37011c30acfa7bc2f107a258b7bbc3280df0de7195e97180f20785"), looks := true }, kinds := [], alts := [], laidByText := true, laidKinds := [.data, .data, .data, .data, .pinned], laidTests := true, laidLooks := .later }
def MimeBoundariesUptoCardSaid : Prop := Claim7.holds Tryd.pinned (.plain (OpenSpec.upto mimeBoundariesSpec)) mimeBoundariesUptoCard

/-- THE SECOND FORM's CARD OF 'scriptoriumlaw11.MimeReports'. -/
def mimeReportsUptoCard : Claim7 := { stood := { row := mimeReportsUptoRow, standIns := [], harness := (true, "0856ef5e6e37011c30acfa7bc2f107a258b7bbc3280df0de7195e97180f20785"), looks := true }, kinds := [], alts := [], laidByText := true, laidKinds := [.data, .data, .data, .data, .pinned], laidTests := true, laidLooks := .later }
def MimeReportsUptoCardSaid : Prop := Claim7.holds Tryd.pinned (.plain (OpenSpec.upto mimeReportsSpec)) mimeReportsUptoCard

/-- THE SECOND FORM's CARD OF 'scriptoriumlaw11.MimeBack'. -/
def mimeBackUptoCard : Claim7 := { stood := { row := mimeBackUptoRow, standIns := [], harness := (true, "0856ef5e6e37011c30acfa7bc2f107a258b7bbc3280df0de7195e97180f20785"), looks := true }, kinds := [], alts := [], laidByText := true, laidKinds := [.data, .data, .data, .data, .sentinel, .sentinel, .pinned], laidTests := true, laidLooks := .later }
def MimeBackUptoCardSaid : Prop := Claim7.holds Tryd.pinned (.plain (OpenSpec.upto mimeBackSpec)) mimeBackUptoCard
end Rows
end Go.Proofs.YtffndfgifajghaaDoor
