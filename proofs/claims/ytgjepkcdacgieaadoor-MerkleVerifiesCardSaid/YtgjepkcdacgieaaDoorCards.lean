/-
  DERIVED. GIVEN WITH THE SEED: THE CARDS: each row of YtgjepkcdacgieaaDoorRows.lean that lists a variable, with what it lists TIED to the program's text (the seventh form; the later family's looks); each row that meets fmt, with fmt's text TOLD by the authors' own Lean function (tested against real Go, not proved from fmt's source: count such statements apart). THE CARD IS WHAT COUNTS. Prove the row's statement (the work); the ties are given (YtgjepkcdacgieaaDoorTie.lean); close each card by the builder's one call (the guide's Derived/Test/ToyasCard.lean, 'card_holds'). Laid BY PROGRAM, IN A SANDBOX (cutbox-door.mjs). By AI agents, Wed Nov 11 2026. No macro, syntax, notation, axiom, sorry.
-/
import Derived.Test.YtgjepkcdacgieaaDoorRows
import GoSem.ClaimSeven
namespace Go.Proofs.YtgjepkcdacgieaaDoor
namespace Rows

/-- THE TIED CARD OF 'scriptoriumlaw05.MerkleRoots'. -/
def merkleRootsCard : Claim7 := { stood := { row := merkleRootsRow, standIns := [], harness := (true, "3712d9b9494e8854d5d350b7d6ac06d0310cebd1fb789baf01a71fa04d33e10d"), looks := false }, kinds := [], alts := [], laidByText := true, laidKinds := [.data, .data], laidTests := true, laidLooks := .later }
def MerkleRootsCardSaid : Prop := Claim7.holds Tryd.pinned (.plain (OpenSpec.ofChange merkleRootsSpec)) merkleRootsCard

/-- THE TIED CARD OF 'scriptoriumlaw05.MerkleProofs'. -/
def merkleProofsCard : Claim7 := { stood := { row := merkleProofsRow, standIns := [], harness := (true, "3712d9b9494e8854d5d350b7d6ac06d0310cebd1fb789baf01a71fa04d33e10d"), looks := false }, kinds := [], alts := [], laidByText := true, laidKinds := [.data, .data], laidTests := true, laidLooks := .later }
def MerkleProofsCardSaid : Prop := Claim7.holds Tryd.pinned (.plain (OpenSpec.ofChange merkleProofsSpec)) merkleProofsCard

/-- THE TIED CARD OF 'scriptoriumlaw05.MerkleVerifies'. -/
def merkleVerifiesCard : Claim7 := { stood := { row := merkleVerifiesRow, standIns := [], harness := (true, "3712d9b9494e8854d5d350b7d6ac06d0310cebd1fb789baf01a71fa04d33e10d"), looks := false }, kinds := [], alts := [], laidByText := true, laidKinds := [.data, .data], laidTests := true, laidLooks := .later }
def MerkleVerifiesCardSaid : Prop := Claim7.holds Tryd.pinned (.plain (OpenSpec.ofChange merkleVerifiesSpec)) merkleVerifiesCard

/-- THE TIED CARD OF 'scriptoriumlaw05.MerkleGrowths'. -/
def merkleGrowthsCard : Claim7 := { stood := { row := merkleGrowthsRow, standIns := [], harness := (true, "3712d9b9494e8854d5d350b7d6ac06d0310cebd1fb789baf01a71fa04d33e10d"), looks := false }, kinds := [], alts := [], laidByText := true, laidKinds := [.data, .data], laidTests := true, laidLooks := .later }
def MerkleGrowthsCardSaid : Prop := Claim7.holds Tryd.pinned (.plain (OpenSpec.ofChange merkleGrowthsSpec)) merkleGrowthsCard

/-- THE TIED CARD OF 'scriptoriumlaw05.MerkleGrown'. -/
def merkleGrownCard : Claim7 := { stood := { row := merkleGrownRow, standIns := [], harness := (true, "3712d9b9494e8854d5d350b7d6ac06d0310cebd1fb789baf01a71fa04d33e10d"), looks := false }, kinds := [], alts := [], laidByText := true, laidKinds := [.data, .data], laidTests := true, laidLooks := .later }
def MerkleGrownCardSaid : Prop := Claim7.holds Tryd.pinned (.plain (OpenSpec.ofChange merkleGrownSpec)) merkleGrownCard

/-- THE TIED CARD OF 'scriptoriumlaw05.MerkleRight'. -/
def merkleRightCard : Claim7 := { stood := { row := merkleRightRow, standIns := [], harness := (true, "3712d9b9494e8854d5d350b7d6ac06d0310cebd1fb789baf01a71fa04d33e10d"), looks := false }, kinds := [], alts := [], laidByText := true, laidKinds := [.data, .data], laidTests := true, laidLooks := .later }
def MerkleRightCardSaid : Prop := Claim7.holds Tryd.pinned (.plain (OpenSpec.ofChange merkleRightSpec)) merkleRightCard

/-- THE TIED CARD OF 'scriptoriumlaw05.MerkleBound'. -/
def merkleBoundCard : Claim7 := { stood := { row := merkleBoundRow, standIns := [], harness := (true, "3712d9b9494e8854d5d350b7d6ac06d0310cebd1fb789baf01a71fa04d33e10d"), looks := false }, kinds := [], alts := [], laidByText := true, laidKinds := [.data, .data], laidTests := true, laidLooks := .later }
def MerkleBoundCardSaid : Prop := Claim7.holds Tryd.pinned (.plain (OpenSpec.ofChange merkleBoundSpec)) merkleBoundCard

/-- THE SECOND FORM's CARD OF 'scriptoriumlaw05.MerkleRoots'. -/
def merkleRootsUptoCard : Claim7 := { stood := { row := merkleRootsUptoRow, standIns := [], harness := (true, "3712d9b9494e8854d5d350b7d6ac06d0310cebd1fb789baf01a71fa04d33e10d"), looks := false }, kinds := [], alts := [], laidByText := true, laidKinds := [.data, .data], laidTests := true, laidLooks := .later }
def MerkleRootsUptoCardSaid : Prop := Claim7.holds Tryd.pinned (.plain (OpenSpec.upto merkleRootsSpec)) merkleRootsUptoCard

/-- THE SECOND FORM's CARD OF 'scriptoriumlaw05.MerkleProofs'. -/
def merkleProofsUptoCard : Claim7 := { stood := { row := merkleProofsUptoRow, standIns := [], harness := (true, "3712d9b9494e8854d5d350b7d6ac06d0310cebd1fb789baf01a71fa04d33e10d"), looks := false }, kinds := [], alts := [], laidByText := true, laidKinds := [.data, .data], laidTests := true, laidLooks := .later }
def MerkleProofsUptoCardSaid : Prop := Claim7.holds Tryd.pinned (.plain (OpenSpec.upto merkleProofsSpec)) merkleProofsUptoCard

/-- THE SECOND FORM's CARD OF 'scriptoriumlaw05.MerkleVerifies'. -/
def merkleVerifiesUptoCard : Claim7 := { stood := { row := merkleVerifiesUptoRow, standIns := [], harness := (true, "3712d9b9494e8854d5d350b7d6ac06d0310cebd1fb789baf01a71fa04d33e10d"), looks := false }, kinds := [], alts := [], laidByText := true, laidKinds := [.data, .data], laidTests := true, laidLooks := .later }
def MerkleVerifiesUptoCardSaid : Prop := Claim7.holds Tryd.pinned (.plain (OpenSpec.upto merkleVerifiesSpec)) merkleVerifiesUptoCard

/-- THE SECOND FORM's CARD OF 'scriptoriumlaw05.MerkleGrowths'. -/
def merkleGrowthsUptoCard : Claim7 := { stood := { row := merkleGrowthsUptoRow, standIns := [], harness := (true, "3712d9b9494e8854d5d350b7d6ac06d0310cebd1fb789baf01a71fa04d33e10d"), looks := false }, kinds := [], alts := [], laidByText := true, laidKinds := [.data, .data], laidTests := true, laidLooks := .later }
def MerkleGrowthsUptoCardSaid : Prop := Claim7.holds Tryd.pinned (.plain (OpenSpec.upto merkleGrowthsSpec)) merkleGrowthsUptoCard

/-- THE SECOND FORM's CARD OF 'scriptoriumlaw05.MerkleGrown'. -/
def merkleGrownUptoCard : Claim7 := { stood := { row := merkleGrownUptoRow, standIns := [], harness := (true, "3712d9b9494e8854d5d350b7d6ac06d0310cebd1fb789baf01a71fa04d33e10d"), looks := false }, kinds := [], alts := [], laidByText := true, laidKinds := [.data, .data], laidTests := true, laidLooks := .later }
def MerkleGrownUptoCardSaid : Prop := Claim7.holds Tryd.pinned (.plain (OpenSpec.upto merkleGrownSpec)) merkleGrownUptoCard

/-- THE SECOND FORM's CARD OF 'scriptoriumlaw05.MerkleRight'. -/
def merkleRightUptoCard : Claim7 := { stood := { row := merkleRightUptoRow, standIns := [], harness := (true, "3712d9b9494e8854d5d350b7d6ac06d0310cebd1fb789baf01a71fa04d33e10d"), looks := false }, kinds := [], alts := [], laidByText := true, laidKinds := [.data, .data], laidTests := true, laidLooks := .later }
def MerkleRightUptoCardSaid : Prop := Claim7.holds Tryd.pinned (.plain (OpenSpec.upto merkleRightSpec)) merkleRightUptoCard

/-- THE SECOND FORM's CARD OF 'scriptoriumlaw05.MerkleBound'. -/
def merkleBoundUptoCard : Claim7 := { stood := { row := merkleBoundUptoRow, standIns := [], harness := (true, "3712d9b9494e8854d5d350b7d6ac06d0310cebd1fb789baf01a71fa04d33e10d"), looks := false }, kinds := [], alts := [], laidByText := true, laidKinds := [.data, .data], laidTests := true, laidLooks := .later }
def MerkleBoundUptoCardSaid : Prop := Claim7.holds Tryd.pinned (.plain (OpenSpec.upto merkleBoundSpec)) merkleBoundUptoCard
end Rows
end Go.Proofs.YtgjepkcdacgieaaDoor
