/-
  DERIVED. GIVEN WITH THE SEED: THE CARDS: each row of YtliaciojlcajdaaDoorRows.lean that lists a variable, with what it lists TIED to the program's text (the seventh form; the later family's looks); each row that meets fmt, with fmt's text TOLD by the authors' own Lean function (tested against real Go, not proved from fmt's source: count such statements apart). THE CARD IS WHAT COUNTS. Prove the row's statement (the work); the ties are given (YtliaciojlcajdaaDoorTie.lean); close each card by the builder's one call (the guide's Derived/Test/ToyasCard.lean, 'card_holds'). Laid BY PROGRAM, IN A SANDBOX (cutbox-door.mjs). By AI agents, Wed Nov 11 2026. No macro, syntax, notation, axiom, sorry.
-/
import Derived.Test.YtliaciojlcajdaaDoorRows
import GoSem.ClaimSeven
namespace Go.Proofs.YtliaciojlcajdaaDoor
namespace Rows

/-- THE TIED CARD OF 'scriptoriumlaw08.HeadParses'. -/
def headParsesCard : Claim7 := { stood := { row := headParsesRow, standIns := [], harness := (true, "945e3e4d93c0ceb428c4a3ae37d24bfcde8f96d555c7b15f5c13a2f54c12262a"), looks := true }, kinds := [], alts := [], laidByText := true, laidKinds := [.data, .pinned], laidTests := true, laidLooks := .later }
def HeadParsesCardSaid : Prop := Claim7.holds Tryd.pinned (.plain (OpenSpec.ofChange headParsesSpec)) headParsesCard

/-- THE TIED CARD OF 'scriptoriumlaw08.HeadShows'. -/
def headShowsCard : Claim7 := { stood := { row := headShowsRow, standIns := [], harness := (true, "945e3e4d93c0ceb428c4a3ae37d24bfcde8f96d555c7b15f5c13a2f54c12262a"), looks := true }, kinds := [], alts := [], laidByText := true, laidKinds := [.data, .pinned], laidTests := true, laidLooks := .later }
def HeadShowsCardSaid : Prop := Claim7.holds Tryd.pinned (.plain (OpenSpec.ofChange headShowsSpec)) headShowsCard

/-- THE TIED CARD OF 'scriptoriumlaw08.HeadGets'. -/
def headGetsCard : Claim7 := { stood := { row := headGetsRow, standIns := [], harness := (true, "945e3e4d93c0ceb428c4a3ae37d24bfcde8f96d555c7b15f5c13a2f54c12262a"), looks := true }, kinds := [], alts := [], laidByText := true, laidKinds := [.data, .pinned], laidTests := true, laidLooks := .later }
def HeadGetsCardSaid : Prop := Claim7.holds Tryd.pinned (.plain (OpenSpec.ofChange headGetsSpec)) headGetsCard

/-- THE TIED CARD OF 'scriptoriumlaw08.HeadBack'. -/
def headBackCard : Claim7 := { stood := { row := headBackRow, standIns := [], harness := (true, "945e3e4d93c0ceb428c4a3ae37d24bfcde8f96d555c7b15f5c13a2f54c12262a"), looks := true }, kinds := [], alts := [], laidByText := true, laidKinds := [.data, .pinned], laidTests := true, laidLooks := .later }
def HeadBackCardSaid : Prop := Claim7.holds Tryd.pinned (.plain (OpenSpec.ofChange headBackSpec)) headBackCard

/-- THE TIED CARD OF 'scriptoriumlaw08.HeadCuts'. -/
def headCutsCard : Claim7 := { stood := { row := headCutsRow, standIns := [], harness := (true, "945e3e4d93c0ceb428c4a3ae37d24bfcde8f96d555c7b15f5c13a2f54c12262a"), looks := true }, kinds := [], alts := [], laidByText := true, laidKinds := [.data, .pinned], laidTests := true, laidLooks := .later }
def HeadCutsCardSaid : Prop := Claim7.holds Tryd.pinned (.plain (OpenSpec.ofChange headCutsSpec)) headCutsCard

/-- THE SECOND FORM's CARD OF 'scriptoriumlaw08.HeadParses'. -/
def headParsesUptoCard : Claim7 := { stood := { row := headParsesUptoRow, standIns := [], harness := (true, "945e3e4d93c0ceb428c4a3ae37d24bfcde8f96d555c7b15f5c13a2f54c12262a"), looks := true }, kinds := [], alts := [], laidByText := true, laidKinds := [.data, .pinned], laidTests := true, laidLooks := .later }
def HeadParsesUptoCardSaid : Prop := Claim7.holds Tryd.pinned (.plain (OpenSpec.upto headParsesSpec)) headParsesUptoCard

/-- THE SECOND FORM's CARD OF 'scriptoriumlaw08.HeadShows'. -/
def headShowsUptoCard : Claim7 := { stood := { row := headShowsUptoRow, standIns := [], harness := (true, "945e3e4d93c0ceb428c4a3ae37d24bfcde8f96d555c7b15f5c13a2f54c12262a"), looks := true }, kinds := [], alts := [], laidByText := true, laidKinds := [.data, .pinned], laidTests := true, laidLooks := .later }
def HeadShowsUptoCardSaid : Prop := Claim7.holds Tryd.pinned (.plain (OpenSpec.upto headShowsSpec)) headShowsUptoCard

/-- THE SECOND FORM's CARD OF 'scriptoriumlaw08.HeadGets'. -/
def headGetsUptoCard : Claim7 := { stood := { row := headGetsUptoRow, standIns := [], harness := (true, "945e3e4d93c0ceb428c4a3ae37d24bfcde8f96d555c7b15f5c13a2f54c12262a"), looks := true }, kinds := [], alts := [], laidByText := true, laidKinds := [.data, .pinned], laidTests := true, laidLooks := .later }
def HeadGetsUptoCardSaid : Prop := Claim7.holds Tryd.pinned (.plain (OpenSpec.upto headGetsSpec)) headGetsUptoCard

/-- THE SECOND FORM's CARD OF 'scriptoriumlaw08.HeadBack'. -/
def headBackUptoCard : Claim7 := { stood := { row := headBackUptoRow, standIns := [], harness := (true, "945e3e4d93c0ceb428c4a3ae37d24bfcde8f96d555c7b15f5c13a2f54c12262a"), looks := true }, kinds := [], alts := [], laidByText := true, laidKinds := [.data, .pinned], laidTests := true, laidLooks := .later }
def HeadBackUptoCardSaid : Prop := Claim7.holds Tryd.pinned (.plain (OpenSpec.upto headBackSpec)) headBackUptoCard

/-- THE SECOND FORM's CARD OF 'scriptoriumlaw08.HeadCuts'. -/
def headCutsUptoCard : Claim7 := { stood := { row := headCutsUptoRow, standIns := [], harness := (true, "945e3e4d93c0ceb428c4a3ae37d24bfcde8f96d555c7b15f5c13a2f54c12262a"), looks := true }, kinds := [], alts := [], laidByText := true, laidKinds := [.data, .pinned], laidTests := true, laidLooks := .later }
def HeadCutsUptoCardSaid : Prop := Claim7.holds Tryd.pinned (.plain (OpenSpec.upto headCutsSpec)) headCutsUptoCard
end Rows
end Go.Proofs.YtliaciojlcajdaaDoor
