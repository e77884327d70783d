/-
  DERIVED. GIVEN WITH THE SEED: THE CARDS: each row of YtfgdochpnnkpmaaDoorRows.lean that lists a variable, with what it lists TIED to the program's text (the seventh form; the later family's looks); each row that meets fmt, with fmt's text TOLD by the authors' own Lean function (tested against real Go, not proved from fmt's source: count such statements apart). THE CARD IS WHAT COUNTS. Prove the row's statement (the work); the ties are given (YtfgdochpnnkpmaaDoorTie.lean); close each card by the builder's one call (the guide's Derived/Test/ToyasCard.lean, 'card_holds'). Laid BY PROGRAM, IN A SANDBOX (cutbox-door.mjs). By AI agents, Wed Nov 11 2026. No macro, syntax, notation, axiom, sorry.
-/
import Derived.Test.YtfgdochpnnkpmaaDoorRows
import GoSem.ClaimSeven
namespace Go.Proofs.YtfgdochpnnkpmaaDoor
namespace Rows

/-- THE TIED CARD OF 'scriptoriumlaw05.MerkleGrown'. -/
def merkleGrownCard : Claim7 := { stood := { row := merkleGrownRow, standIns := [], harness := (true, "1e1de0cc0ad2efe6eb0fef476e27b17f92a0b771e0ad0b87b0cb746e10e4046a"), looks := false }, kinds := [], alts := [], laidByText := true, laidKinds := [.data, .data], laidTests := true, laidLooks := .later }
def MerkleGrownCardSaid : Prop := Claim7.holds Tryd.pinned (.plain (OpenSpec.ofChange merkleGrownSpec)) merkleGrownCard

/-- THE TIED CARD OF 'scriptoriumlaw05.MerkleRight'. -/
def merkleRightCard : Claim7 := { stood := { row := merkleRightRow, standIns := [], harness := (true, "1e1de0cc0ad2efe6eb0fef476e27b17f92a0b771e0ad0b87b0cb746e10e4046a"), looks := false }, kinds := [], alts := [], laidByText := true, laidKinds := [.data, .data], laidTests := true, laidLooks := .later }
def MerkleRightCardSaid : Prop := Claim7.holds Tryd.pinned (.plain (OpenSpec.ofChange merkleRightSpec)) merkleRightCard

/-- THE TIED CARD OF 'scriptoriumlaw05.MerkleBound'. -/
def merkleBoundCard : Claim7 := { stood := { row := merkleBoundRow, standIns := [], harness := (true, "1e1de0cc0ad2efe6eb0fef476e27b17f92a0b771e0ad0b87b0cb746e10e4046a"), looks := false }, kinds := [], alts := [], laidByText := true, laidKinds := [.data, .data], laidTests := true, laidLooks := .later }
def MerkleBoundCardSaid : Prop := Claim7.holds Tryd.pinned (.plain (OpenSpec.ofChange merkleBoundSpec)) merkleBoundCard

/-- THE TIED CARD OF 'scriptoriumlaw06.SealOf'. -/
def sealOfCard : Claim7 := { stood := { row := sealOfRow, standIns := [], harness := (true, "1e1de0cc0ad2efe6eb0fef476e27b17f92a0b771e0ad0b87b0cb746e10e4046a"), looks := false }, kinds := [], alts := [], laidByText := true, laidKinds := [.data, .data], laidTests := true, laidLooks := .later }
def SealOfCardSaid : Prop := Claim7.holds Tryd.pinned (.plain (OpenSpec.ofChange sealOfSpec)) sealOfCard

/-- THE TIED CARD OF 'scriptoriumlaw06.SealBytes'. -/
def sealBytesCard : Claim7 := { stood := { row := sealBytesRow, standIns := [], harness := (true, "1e1de0cc0ad2efe6eb0fef476e27b17f92a0b771e0ad0b87b0cb746e10e4046a"), looks := false }, kinds := [], alts := [], laidByText := true, laidKinds := [.data, .data], laidTests := true, laidLooks := .later }
def SealBytesCardSaid : Prop := Claim7.holds Tryd.pinned (.plain (OpenSpec.ofChange sealBytesSpec)) sealBytesCard

/-- THE TIED CARD OF 'scriptoriumlaw06.SealParses'. -/
def sealParsesCard : Claim7 := { stood := { row := sealParsesRow, standIns := [], harness := (true, "1e1de0cc0ad2efe6eb0fef476e27b17f92a0b771e0ad0b87b0cb746e10e4046a"), looks := false }, kinds := [], alts := [], laidByText := true, laidKinds := [.data, .data], laidTests := true, laidLooks := .later }
def SealParsesCardSaid : Prop := Claim7.holds Tryd.pinned (.plain (OpenSpec.ofChange sealParsesSpec)) sealParsesCard

/-- THE TIED CARD OF 'scriptoriumlaw06.SealChains'. -/
def sealChainsCard : Claim7 := { stood := { row := sealChainsRow, standIns := [], harness := (true, "1e1de0cc0ad2efe6eb0fef476e27b17f92a0b771e0ad0b87b0cb746e10e4046a"), looks := false }, kinds := [], alts := [], laidByText := true, laidKinds := [.data, .data], laidTests := true, laidLooks := .later }
def SealChainsCardSaid : Prop := Claim7.holds Tryd.pinned (.plain (OpenSpec.ofChange sealChainsSpec)) sealChainsCard

/-- THE TIED CARD OF 'scriptoriumlaw06.SealHolds'. -/
def sealHoldsCard : Claim7 := { stood := { row := sealHoldsRow, standIns := [], harness := (true, "1e1de0cc0ad2efe6eb0fef476e27b17f92a0b771e0ad0b87b0cb746e10e4046a"), looks := false }, kinds := [], alts := [], laidByText := true, laidKinds := [.data, .data], laidTests := true, laidLooks := .later }
def SealHoldsCardSaid : Prop := Claim7.holds Tryd.pinned (.plain (OpenSpec.ofChange sealHoldsSpec)) sealHoldsCard

/-- THE TIED CARD OF 'scriptoriumlaw06.SealBack'. -/
def sealBackCard : Claim7 := { stood := { row := sealBackRow, standIns := [], harness := (true, "1e1de0cc0ad2efe6eb0fef476e27b17f92a0b771e0ad0b87b0cb746e10e4046a"), looks := false }, kinds := [], alts := [], laidByText := true, laidKinds := [.data, .data], laidTests := true, laidLooks := .later }
def SealBackCardSaid : Prop := Claim7.holds Tryd.pinned (.plain (OpenSpec.ofChange sealBackSpec)) sealBackCard

/-- THE TIED CARD OF 'scriptoriumlaw06.SealBound'. -/
def sealBoundCard : Claim7 := { stood := { row := sealBoundRow, standIns := [], harness := (true, "1e1de0cc0ad2efe6eb0fef476e27b17f92a0b771e0ad0b87b0cb746e10e4046a"), looks := false }, kinds := [], alts := [], laidByText := true, laidKinds := [.data, .data], laidTests := true, laidLooks := .later }
def SealBoundCardSaid : Prop := Claim7.holds Tryd.pinned (.plain (OpenSpec.ofChange sealBoundSpec)) sealBoundCard

/-- THE SECOND FORM's CARD OF 'scriptoriumlaw05.MerkleGrown'. -/
def merkleGrownUptoCard : Claim7 := { stood := { row := merkleGrownUptoRow, standIns := [], harness := (true, "1e1de0cc0ad2efe6eb0fef476e27b17f92a0b771e0ad0b87b0cb746e10e4046a"), looks := false }, kinds := [], alts := [], laidByText := true, laidKinds := [.data, .data], laidTests := true, laidLooks := .later }
def MerkleGrownUptoCardSaid : Prop := Claim7.holds Tryd.pinned (.plain (OpenSpec.upto merkleGrownSpec)) merkleGrownUptoCard

/-- THE SECOND FORM's CARD OF 'scriptoriumlaw05.MerkleRight'. -/
def merkleRightUptoCard : Claim7 := { stood := { row := merkleRightUptoRow, standIns := [], harness := (true, "1e1de0cc0ad2efe6eb0fef476e27b17f92a0b771e0ad0b87b0cb746e10e4046a"), looks := false }, kinds := [], alts := [], laidByText := true, laidKinds := [.data, .data], laidTests := true, laidLooks := .later }
def MerkleRightUptoCardSaid : Prop := Claim7.holds Tryd.pinned (.plain (OpenSpec.upto merkleRightSpec)) merkleRightUptoCard

/-- THE SECOND FORM's CARD OF 'scriptoriumlaw05.MerkleBound'. -/
def merkleBoundUptoCard : Claim7 := { stood := { row := merkleBoundUptoRow, standIns := [], harness := (true, "1e1de0cc0ad2efe6eb0fef476e27b17f92a0b771e0ad0b87b0cb746e10e4046a"), looks := false }, kinds := [], alts := [], laidByText := true, laidKinds := [.data, .data], laidTests := true, laidLooks := .later }
def MerkleBoundUptoCardSaid : Prop := Claim7.holds Tryd.pinned (.plain (OpenSpec.upto merkleBoundSpec)) merkleBoundUptoCard

/-- THE SECOND FORM's CARD OF 'scriptoriumlaw06.SealOf'. -/
def sealOfUptoCard : Claim7 := { stood := { row := sealOfUptoRow, standIns := [], harness := (true, "1e1de0cc0ad2efe6eb0fef476e27b17f92a0b771e0ad0b87b0cb746e10e4046a"), looks := false }, kinds := [], alts := [], laidByText := true, laidKinds := [.data, .data], laidTests := true, laidLooks := .later }
def SealOfUptoCardSaid : Prop := Claim7.holds Tryd.pinned (.plain (OpenSpec.upto sealOfSpec)) sealOfUptoCard

/-- THE SECOND FORM's CARD OF 'scriptoriumlaw06.SealBytes'. -/
def sealBytesUptoCard : Claim7 := { stood := { row := sealBytesUptoRow, standIns := [], harness := (true, "1e1de0cc0ad2efe6eb0fef476e27b17f92a0b771e0ad0b87b0cb746e10e4046a"), looks := false }, kinds := [], alts := [], laidByText := true, laidKinds := [.data, .data], laidTests := true, laidLooks := .later }
def SealBytesUptoCardSaid : Prop := Claim7.holds Tryd.pinned (.plain (OpenSpec.upto sealBytesSpec)) sealBytesUptoCard

/-- THE SECOND FORM's CARD OF 'scriptoriumlaw06.SealParses'. -/
def sealParsesUptoCard : Claim7 := { stood := { row := sealParsesUptoRow, standIns := [], harness := (true, "1e1de0cc0ad2efe6eb0fef476e27b17f92a0b771e0ad0b87b0cb746e10e4046a"), looks := false }, kinds := [], alts := [], laidByText := true, laidKinds := [.data, .data], laidTests := true, laidLooks := .later }
def SealParsesUptoCardSaid : Prop := Claim7.holds Tryd.pinned (.plain (OpenSpec.upto sealParsesSpec)) sealParsesUptoCard

/-- THE SECOND FORM's CARD OF 'scriptoriumlaw06.SealChains'. -/
def sealChainsUptoCard : Claim7 := { stood := { row := sealChainsUptoRow, standIns := [], harness := (true, "1e1de0cc0ad2efe6eb0fef476e27b17f92a0b771e0ad0b87b0cb746e10e4046a"), looks := false }, kinds := [], alts := [], laidByText := true, laidKinds := [.data, .data], laidTests := true, laidLooks := .later }
def SealChainsUptoCardSaid : Prop := Claim7.holds Tryd.pinned (.plain (OpenSpec.upto sealChainsSpec)) sealChainsUptoCard

/-- THE SECOND FORM's CARD OF 'scriptoriumlaw06.SealHolds'. -/
def sealHoldsUptoCard : Claim7 := { stood := { row := sealHoldsUptoRow, standIns := [], harness := (true, "1e1de0cc0ad2efe6eb0fef476e27b17f92a0b771e0ad0b87b0cb746e10e4046a"), looks := false }, kinds := [], alts := [], laidByText := true, laidKinds := [.data, .data], laidTests := true, laidLooks := .later }
def SealHoldsUptoCardSaid : Prop := Claim7.holds Tryd.pinned (.plain (OpenSpec.upto sealHoldsSpec)) sealHoldsUptoCard

/-- THE SECOND FORM's CARD OF 'scriptoriumlaw06.SealBack'. -/
def sealBackUptoCard : Claim7 := { stood := { row := sealBackUptoRow, standIns := [], harness := (true, "1e1de0cc0ad2efe6eb0fef476e27b17f92a0b771e0ad0b87b0cb746e10e4046a"), looks := false }, kinds := [], alts := [], laidByText := true, laidKinds := [.data, .data], laidTests := true, laidLooks := .later }
def SealBackUptoCardSaid : Prop := Claim7.holds Tryd.pinned (.plain (OpenSpec.upto sealBackSpec)) sealBackUptoCard

/-- THE SECOND FORM's CARD OF 'scriptoriumlaw06.SealBound'. -/
def sealBoundUptoCard : Claim7 := { stood := { row := sealBoundUptoRow, standIns := [], harness := (true, "1e1de0cc0ad2efe6eb0fef476e27b17f92a0b771e0ad0b87b0cb746e10e4046a"), looks := false }, kinds := [], alts := [], laidByText := true, laidKinds := [.data, .data], laidTests := true, laidLooks := .later }
def SealBoundUptoCardSaid : Prop := Claim7.holds Tryd.pinned (.plain (OpenSpec.upto sealBoundSpec)) sealBoundUptoCard
end Rows
end Go.Proofs.YtfgdochpnnkpmaaDoor
