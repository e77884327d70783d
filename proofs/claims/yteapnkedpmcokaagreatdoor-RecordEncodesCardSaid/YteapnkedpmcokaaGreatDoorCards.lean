/-
  DERIVED. GIVEN WITH THE SEED: THE CARDS: each row of YteapnkedpmcokaaGreatDoorRows.lean that lists a variable, with what it lists TIED to the program's text (the seventh form; the later family's looks); each row that meets fmt, with fmt's text TOLD by the authors' own Lean function (tested against real Go, not proved from fmt's source: count such statements apart). THE CARD IS WHAT COUNTS. Prove the row's statement (the work); the ties are given (YteapnkedpmcokaaGreatDoorTie.lean); close each card by the builder's one call (the guide's Derived/Test/ToyasCard.lean, 'card_holds'). Laid BY PROGRAM, IN A SANDBOX (cutbox-door.mjs). By AI agents, Wed Nov 11 2026. No macro, syntax, notation, axiom, sorry.
-/
import Derived.Test.YteapnkedpmcokaaGreatDoorRows
import GoSem.ClaimSeven
namespace Go.Proofs.YteapnkedpmcokaaGreatDoor
namespace Rows

/-- THE TIED CARD OF 'scriptoriumlaw16.RecordEncodes'. -/
def recordEncodesCard : Claim7 := { stood := { row := recordEncodesRow, standIns := [], harness := (true, "3a26eb649e394dd4efe6638679bcb9af79fd2785e5728d48353a36844d5edde2"), looks := true }, kinds := [], alts := [], laidByText := true, laidKinds := [.data, .data, .data], laidTests := true, laidLooks := .later }
def RecordEncodesCardSaid : Prop := Claim7.holds Tryz.pinned (.plain (OpenSpec.ofChange recordEncodesSpec)) recordEncodesCard

/-- THE TIED CARD OF 'scriptoriumlaw16.RecordDecodes'. -/
def recordDecodesCard : Claim7 := { stood := { row := recordDecodesRow, standIns := [], harness := (true, "3a26eb649e394dd4efe6638679bcb9af79fd2785e5728d48353a36844d5edde2"), looks := true }, kinds := [], alts := [], laidByText := true, laidKinds := [.data, .data, .data, .data, .data], laidTests := true, laidLooks := .later }
def RecordDecodesCardSaid : Prop := Claim7.holds Tryz.pinned (.plain (OpenSpec.ofChange recordDecodesSpec)) recordDecodesCard

/-- THE TIED CARD OF 'scriptoriumlaw16.RecordPurges'. -/
def recordPurgesCard : Claim7 := { stood := { row := recordPurgesRow, standIns := [], harness := (true, "3a26eb649e394dd4efe6638679bcb9af79fd2785e5728d48353a36844d5edde2"), looks := true }, kinds := [], alts := [], laidByText := true, laidKinds := [.data, .data, .data, .data, .data], laidTests := true, laidLooks := .later }
def RecordPurgesCardSaid : Prop := Claim7.holds Tryz.pinned (.plain (OpenSpec.ofChange recordPurgesSpec)) recordPurgesCard

/-- THE TIED CARD OF 'scriptoriumlaw16.RecordStays'. -/
def recordStaysCard : Claim7 := { stood := { row := recordStaysRow, standIns := [], harness := (true, "3a26eb649e394dd4efe6638679bcb9af79fd2785e5728d48353a36844d5edde2"), looks := true }, kinds := [], alts := [], laidByText := true, laidKinds := [.data, .data], laidTests := true, laidLooks := .later }
def RecordStaysCardSaid : Prop := Claim7.holds Tryz.pinned (.plain (OpenSpec.ofChange recordStaysSpec)) recordStaysCard

/-- THE SECOND FORM's CARD OF 'scriptoriumlaw16.RecordEncodes'. -/
def recordEncodesUptoCard : Claim7 := { stood := { row := recordEncodesUptoRow, standIns := [], harness := (true, "3a26eb649e394dd4efe6638679bcb9af79fd2785e5728d48353a36844d5edde2"), looks := true }, kinds := [], alts := [], laidByText := true, laidKinds := [.data, .data, .data], laidTests := true, laidLooks := .later }
def RecordEncodesUptoCardSaid : Prop := Claim7.holds Tryz.pinned (.plain (OpenSpec.upto recordEncodesSpec)) recordEncodesUptoCard

/-- THE SECOND FORM's CARD OF 'scriptoriumlaw16.RecordDecodes'. -/
def recordDecodesUptoCard : Claim7 := { stood := { row := recordDecodesUptoRow, standIns := [], harness := (true, "3a26eb649e394dd4efe6638679bcb9af79fd2785e5728d48353a36844d5edde2"), looks := true }, kinds := [], alts := [], laidByText := true, laidKinds := [.data, .data, .data, .data, .data], laidTests := true, laidLooks := .later }
def RecordDecodesUptoCardSaid : Prop := Claim7.holds Tryz.pinned (.plain (OpenSpec.upto recordDecodesSpec)) recordDecodesUptoCard

/-- THE SECOND FORM's CARD OF 'scriptoriumlaw16.RecordPurges'. -/
def recordPurgesUptoCard : Claim7 := { stood := { row := recordPurgesUptoRow, standIns := [], harness := (true, "3a26eb649e394dd4efe6638679bcb9af79fd2785e5728d48353a36844d5edde2"), looks := true }, kinds := [], alts := [], laidByText := true, laidKinds := [.data, .data, .data, .data, .data], laidTests := true, laidLooks := .later }
def RecordPurgesUptoCardSaid : Prop := Claim7.holds Tryz.pinned (.plain (OpenSpec.upto recordPurgesSpec)) recordPurgesUptoCard

/-- THE SECOND FORM's CARD OF 'scriptoriumlaw16.RecordStays'. -/
def recordStaysUptoCard : Claim7 := { stood := { row := recordStaysUptoRow, standIns := [], harness := (true, "3a26eb649e394dd4efe6638679bcb9af79fd2785e5728d48353a36844d5edde2"), looks := true }, kinds := [], alts := [], laidByText := true, laidKinds := [.data, .data], laidTests := true, laidLooks := .later }
def RecordStaysUptoCardSaid : Prop := Claim7.holds Tryz.pinned (.plain (OpenSpec.upto recordStaysSpec)) recordStaysUptoCard
end Rows
end Go.Proofs.YteapnkedpmcokaaGreatDoor
