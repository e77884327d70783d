/-
  DERIVED. GIVEN WITH THE SEED: THE CARDS: each row of YtidadjlhnlmfkaaGreatDoorRows.lean that lists a variable, with what it lists TIED to the program's text (the seventh form; the later family's looks); each row that meets fmt, with fmt's text TOLD by the authors' own Lean function (tested against real Go, not proved from fmt's source: count such statements apart). THE CARD IS WHAT COUNTS. Prove the row's statement (the work); the ties are given (YtidadjlhnlmfkaaGreatDoorTie.lean); close each card by the builder's one call (the guide's Derived/Test/ToyasCard.lean, 'card_holds'). Laid BY PROGRAM, IN A SANDBOX (cutbox-door.mjs). By AI agents, Wed Nov 11 2026. No macro, syntax, notation, axiom, sorry.
-/
import Derived.Test.YtidadjlhnlmfkaaGreatDoorRows
import GoSem.ClaimSeven
namespace Go.Proofs.YtidadjlhnlmfkaaGreatDoor
namespace Rows

/-- THE TIED CARD OF 'scriptoriumlaw03.SeglogKept'. -/
def seglogKeptCard : Claim7 := { stood := { row := seglogKeptRow, standIns := [], harness := (true, "1ae8f1393c9d17519cc36bb802721dcd70a774ba44d0b91baa281b6ba672a596"), looks := true }, kinds := [], alts := [], laidByText := true, laidKinds := [.data, .data, .data, .sentinel, .sentinel], laidTests := true, laidLooks := .later }
def SeglogKeptCardSaid : Prop := Claim7.holds Tryz.pinned (.plain (OpenSpec.ofChange seglogKeptSpec)) seglogKeptCard

/-- THE TIED CARD OF 'scriptoriumlaw03.SeglogWhole'. -/
def seglogWholeCard : Claim7 := { stood := { row := seglogWholeRow, standIns := [], harness := (true, "1ae8f1393c9d17519cc36bb802721dcd70a774ba44d0b91baa281b6ba672a596"), looks := true }, kinds := [], alts := [], laidByText := true, laidKinds := [.data, .data, .data, .sentinel, .sentinel], laidTests := true, laidLooks := .later }
def SeglogWholeCardSaid : Prop := Claim7.holds Tryz.pinned (.plain (OpenSpec.ofChange seglogWholeSpec)) seglogWholeCard

/-- THE TIED CARD OF 'scriptoriumlaw03.SeglogFills'. -/
def seglogFillsCard : Claim7 := { stood := { row := seglogFillsRow, standIns := [], harness := (true, "1ae8f1393c9d17519cc36bb802721dcd70a774ba44d0b91baa281b6ba672a596"), looks := true }, kinds := [], alts := [], laidByText := true, laidKinds := [.data, .data, .data, .sentinel, .sentinel], laidTests := true, laidLooks := .later }
def SeglogFillsCardSaid : Prop := Claim7.holds Tryz.pinned (.plain (OpenSpec.ofChange seglogFillsSpec)) seglogFillsCard

/-- THE SECOND FORM's CARD OF 'scriptoriumlaw03.SeglogKept'. -/
def seglogKeptUptoCard : Claim7 := { stood := { row := seglogKeptUptoRow, standIns := [], harness := (true, "1ae8f1393c9d17519cc36bb802721dcd70a774ba44d0b91baa281b6ba672a596"), looks := true }, kinds := [], alts := [], laidByText := true, laidKinds := [.data, .data, .data, .sentinel, .sentinel], laidTests := true, laidLooks := .later }
def SeglogKeptUptoCardSaid : Prop := Claim7.holds Tryz.pinned (.plain (OpenSpec.upto seglogKeptSpec)) seglogKeptUptoCard

/-- THE SECOND FORM's CARD OF 'scriptoriumlaw03.SeglogWhole'. -/
def seglogWholeUptoCard : Claim7 := { stood := { row := seglogWholeUptoRow, standIns := [], harness := (true, "1ae8f1393c9d17519cc36bb802721dcd70a774ba44d0b91baa281b6ba672a596"), looks := true }, kinds := [], alts := [], laidByText := true, laidKinds := [.data, .data, .data, .sentinel, .sentinel], laidTests := true, laidLooks := .later }
def SeglogWholeUptoCardSaid : Prop := Claim7.holds Tryz.pinned (.plain (OpenSpec.upto seglogWholeSpec)) seglogWholeUptoCard

/-- THE SECOND FORM's CARD OF 'scriptoriumlaw03.SeglogFills'. -/
def seglogFillsUptoCard : Claim7 := { stood := { row := seglogFillsUptoRow, standIns := [], harness := (true, "1ae8f1393c9d17519cc36bb802721dcd70a774ba44d0b91baa281b6ba672a596"), looks := true }, kinds := [], alts := [], laidByText := true, laidKinds := [.data, .data, .data, .sentinel, .sentinel], laidTests := true, laidLooks := .later }
def SeglogFillsUptoCardSaid : Prop := Claim7.holds Tryz.pinned (.plain (OpenSpec.upto seglogFillsSpec)) seglogFillsUptoCard
end Rows
end Go.Proofs.YtidadjlhnlmfkaaGreatDoor
