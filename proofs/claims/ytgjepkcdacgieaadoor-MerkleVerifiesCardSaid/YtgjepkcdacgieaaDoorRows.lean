/-
  NARROWER THAN 'FOR EVERY INPUT', by the rows' own cells (each row's printed sentence says how): MerkleRoots: laid · MerkleProofs: laid · MerkleVerifies: laid · MerkleGrowths: laid · MerkleGrown: laid · MerkleRight: laid · MerkleBound: laid.
  DERIVED. THE GIVEN ROWS OF THIS SEAT. 7 by the template 'for every input the law returns true; each argument reads behind the call as it read before'; 0 by the template 'total and deterministic' (their statements: YtgjepkcdacgieaaDoorTotals.lean).
  GIVEN WITH THE SEED: the statements are not yours to turn. If you find one false, say at which input.
  Laid BY PROGRAM, IN A SANDBOX (cutbox-rows.mjs): the forced cells as the released guide's own fill.sh prints them over the translation 1ca6a84f6ac20b3d… (all of the seat's roots in one cut). By AI agents, Wed Nov 11 2026. No macro, syntax, notation, axiom, sorry.
-/
import Derived.Test.YtgjepkcdacgieaaDoorChecked
import GoSem.Claim
import GoSem.ClaimJoined
import GoSem.ClaimMapViews
import Derived.JoinedTies
import Derived.KernelRfl
namespace Go.Proofs.YtgjepkcdacgieaaDoor
/- THE CELL 'sum', in the pinned program and in every row, IS THE sha256 OF THE DUMP (.gsa) THAT YtgjepkcdacgieaaDoorProg.lean LOADS. Nothing in Lean hashes anything: it is a label: what it is worth is what the hold of that sum in a sandbox is worth. -/
noncomputable def Tryd.pinned : Pinned := { name := "ytgjepkcdacgieaadoor", sum := "1ca6a84f6ac20b3da0eee0be04b49e681d38f7010780df186a90e59c09c4068a", checked := Tryd.checked }
namespace Rows
def none {H : Type} : Left H := { results := [], args := [] }

/- WHAT THE LISTED PACKAGE-LEVEL VARIABLES READ AS WHEN THE CALL BEGINS. Each datum BY PROGRAM (the guide's laid-datum.mjs) off the statement by which the dump's own 'gosem.cut.vars' lays the variable. In a bare row this is a premise. The card (YtgjepkcdacgieaaDoorCards.lean) ties it to the program's text. -/
def laid_scriptorium_digest_first {H : Type} : DataW H := .agg [.lit (.int .u32 1779033703), .lit (.int .u32 3144134277), .lit (.int .u32 1013904242), .lit (.int .u32 2773480762), .lit (.int .u32 1359893119), .lit (.int .u32 2600822924), .lit (.int .u32 528734635), .lit (.int .u32 1541459225)]
def laid_scriptorium_digest_added {H : Type} : DataW H := .agg [.lit (.int .u32 1116352408), .lit (.int .u32 1899447441), .lit (.int .u32 3049323471), .lit (.int .u32 3921009573), .lit (.int .u32 961987163), .lit (.int .u32 1508970993), .lit (.int .u32 2453635748), .lit (.int .u32 2870763221), .lit (.int .u32 3624381080), .lit (.int .u32 310598401), .lit (.int .u32 607225278), .lit (.int .u32 1426881987), .lit (.int .u32 1925078388), .lit (.int .u32 2162078206), .lit (.int .u32 2614888103), .lit (.int .u32 3248222580), .lit (.int .u32 3835390401), .lit (.int .u32 4022224774), .lit (.int .u32 264347078), .lit (.int .u32 604807628), .lit (.int .u32 770255983), .lit (.int .u32 1249150122), .lit (.int .u32 1555081692), .lit (.int .u32 1996064986), .lit (.int .u32 2554220882), .lit (.int .u32 2821834349), .lit (.int .u32 2952996808), .lit (.int .u32 3210313671), .lit (.int .u32 3336571891), .lit (.int .u32 3584528711), .lit (.int .u32 113926993), .lit (.int .u32 338241895), .lit (.int .u32 666307205), .lit (.int .u32 773529912), .lit (.int .u32 1294757372), .lit (.int .u32 1396182291), .lit (.int .u32 1695183700), .lit (.int .u32 1986661051), .lit (.int .u32 2177026350), .lit (.int .u32 2456956037), .lit (.int .u32 2730485921), .lit (.int .u32 2820302411), .lit (.int .u32 3259730800), .lit (.int .u32 3345764771), .lit (.int .u32 3516065817), .lit (.int .u32 3600352804), .lit (.int .u32 4094571909), .lit (.int .u32 275423344), .lit (.int .u32 430227734), .lit (.int .u32 506948616), .lit (.int .u32 659060556), .lit (.int .u32 883997877), .lit (.int .u32 958139571), .lit (.int .u32 1322822218), .lit (.int .u32 1537002063), .lit (.int .u32 1747873779), .lit (.int .u32 1955562222), .lit (.int .u32 2024104815), .lit (.int .u32 2227730452), .lit (.int .u32 2361852424), .lit (.int .u32 2428436474), .lit (.int .u32 2756734187), .lit (.int .u32 3204031479), .lit (.int .u32 3329325298)]

/-- 'scriptoriumlaw05.MerkleRoots': WHATEVER THE INPUT: true; the input reads as it did. -/
def merkleRootsSpec : ChangeSpec := { name := "merkleRoots", fn := fun _ => fun
  | [d1, d2] => { results := [.lit (.bool true)], args := [d1, d2] }
  | _ => none }
def merkleRootsRow : OpenClaim := { program := "ytgjepkcdacgieaadoor", sum := "1ca6a84f6ac20b3da0eee0be04b49e681d38f7010780df186a90e59c09c4068a", func := "scriptorium/scriptoriumlaw05.MerkleRoots", spec := "merkleRoots", unfollowed := true, recurses := true, named := ["scriptorium/digest.first", "scriptorium/digest.added"], apart := false, laid := [("scriptorium/digest.first", laid_scriptorium_digest_first), ("scriptorium/digest.added", laid_scriptorium_digest_added)] }
def MerkleRootsSaid : Prop := merkleRootsRow.holds Tryd.pinned (OpenSpec.ofChange merkleRootsSpec)

/-- ITS FALSE NEIGHBOUR: 'it returns false'. Refute it at one input. -/
def merkleRootsWrong : ChangeSpec := { name := "merkleRoots", fn := fun _ => fun
  | [d1, d2] => { results := [.lit (.bool false)], args := [d1, d2] }
  | _ => none }
def MerkleRootsWrongFalsely : Prop := merkleRootsRow.holds Tryd.pinned (OpenSpec.ofChange merkleRootsWrong)

/-- 'scriptoriumlaw05.MerkleProofs': WHATEVER THE INPUT: true; the input reads as it did. -/
def merkleProofsSpec : ChangeSpec := { name := "merkleProofs", fn := fun _ => fun
  | [d1, d2] => { results := [.lit (.bool true)], args := [d1, d2] }
  | _ => none }
def merkleProofsRow : OpenClaim := { program := "ytgjepkcdacgieaadoor", sum := "1ca6a84f6ac20b3da0eee0be04b49e681d38f7010780df186a90e59c09c4068a", func := "scriptorium/scriptoriumlaw05.MerkleProofs", spec := "merkleProofs", unfollowed := true, recurses := true, named := ["scriptorium/digest.first", "scriptorium/digest.added"], apart := false, laid := [("scriptorium/digest.first", laid_scriptorium_digest_first), ("scriptorium/digest.added", laid_scriptorium_digest_added)] }
def MerkleProofsSaid : Prop := merkleProofsRow.holds Tryd.pinned (OpenSpec.ofChange merkleProofsSpec)

/-- ITS FALSE NEIGHBOUR: 'it returns false'. Refute it at one input. -/
def merkleProofsWrong : ChangeSpec := { name := "merkleProofs", fn := fun _ => fun
  | [d1, d2] => { results := [.lit (.bool false)], args := [d1, d2] }
  | _ => none }
def MerkleProofsWrongFalsely : Prop := merkleProofsRow.holds Tryd.pinned (OpenSpec.ofChange merkleProofsWrong)

/-- 'scriptoriumlaw05.MerkleVerifies': WHATEVER THE INPUT: true; the input reads as it did. -/
def merkleVerifiesSpec : ChangeSpec := { name := "merkleVerifies", fn := fun _ => fun
  | [d1, d2, d3, d4, d5] => { results := [.lit (.bool true)], args := [d1, d2, d3, d4, d5] }
  | _ => none }
def merkleVerifiesRow : OpenClaim := { program := "ytgjepkcdacgieaadoor", sum := "1ca6a84f6ac20b3da0eee0be04b49e681d38f7010780df186a90e59c09c4068a", func := "scriptorium/scriptoriumlaw05.MerkleVerifies", spec := "merkleVerifies", unfollowed := true, recurses := true, named := ["scriptorium/digest.first", "scriptorium/digest.added"], apart := false, laid := [("scriptorium/digest.first", laid_scriptorium_digest_first), ("scriptorium/digest.added", laid_scriptorium_digest_added)] }
def MerkleVerifiesSaid : Prop := merkleVerifiesRow.holds Tryd.pinned (OpenSpec.ofChange merkleVerifiesSpec)

/-- ITS FALSE NEIGHBOUR: 'it returns false'. Refute it at one input. -/
def merkleVerifiesWrong : ChangeSpec := { name := "merkleVerifies", fn := fun _ => fun
  | [d1, d2, d3, d4, d5] => { results := [.lit (.bool false)], args := [d1, d2, d3, d4, d5] }
  | _ => none }
def MerkleVerifiesWrongFalsely : Prop := merkleVerifiesRow.holds Tryd.pinned (OpenSpec.ofChange merkleVerifiesWrong)

/-- 'scriptoriumlaw05.MerkleGrowths': WHATEVER THE INPUT: true; the input reads as it did. -/
def merkleGrowthsSpec : ChangeSpec := { name := "merkleGrowths", fn := fun _ => fun
  | [d1, d2] => { results := [.lit (.bool true)], args := [d1, d2] }
  | _ => none }
def merkleGrowthsRow : OpenClaim := { program := "ytgjepkcdacgieaadoor", sum := "1ca6a84f6ac20b3da0eee0be04b49e681d38f7010780df186a90e59c09c4068a", func := "scriptorium/scriptoriumlaw05.MerkleGrowths", spec := "merkleGrowths", unfollowed := true, recurses := true, named := ["scriptorium/digest.first", "scriptorium/digest.added"], apart := false, laid := [("scriptorium/digest.first", laid_scriptorium_digest_first), ("scriptorium/digest.added", laid_scriptorium_digest_added)] }
def MerkleGrowthsSaid : Prop := merkleGrowthsRow.holds Tryd.pinned (OpenSpec.ofChange merkleGrowthsSpec)

/-- ITS FALSE NEIGHBOUR: 'it returns false'. Refute it at one input. -/
def merkleGrowthsWrong : ChangeSpec := { name := "merkleGrowths", fn := fun _ => fun
  | [d1, d2] => { results := [.lit (.bool false)], args := [d1, d2] }
  | _ => none }
def MerkleGrowthsWrongFalsely : Prop := merkleGrowthsRow.holds Tryd.pinned (OpenSpec.ofChange merkleGrowthsWrong)

/-- 'scriptoriumlaw05.MerkleGrown': WHATEVER THE INPUT: true; the input reads as it did. -/
def merkleGrownSpec : ChangeSpec := { name := "merkleGrown", fn := fun _ => fun
  | [d1, d2, d3, d4, d5] => { results := [.lit (.bool true)], args := [d1, d2, d3, d4, d5] }
  | _ => none }
def merkleGrownRow : OpenClaim := { program := "ytgjepkcdacgieaadoor", sum := "1ca6a84f6ac20b3da0eee0be04b49e681d38f7010780df186a90e59c09c4068a", func := "scriptorium/scriptoriumlaw05.MerkleGrown", spec := "merkleGrown", unfollowed := true, recurses := true, named := ["scriptorium/digest.first", "scriptorium/digest.added"], apart := false, laid := [("scriptorium/digest.first", laid_scriptorium_digest_first), ("scriptorium/digest.added", laid_scriptorium_digest_added)] }
def MerkleGrownSaid : Prop := merkleGrownRow.holds Tryd.pinned (OpenSpec.ofChange merkleGrownSpec)

/-- ITS FALSE NEIGHBOUR: 'it returns false'. Refute it at one input. -/
def merkleGrownWrong : ChangeSpec := { name := "merkleGrown", fn := fun _ => fun
  | [d1, d2, d3, d4, d5] => { results := [.lit (.bool false)], args := [d1, d2, d3, d4, d5] }
  | _ => none }
def MerkleGrownWrongFalsely : Prop := merkleGrownRow.holds Tryd.pinned (OpenSpec.ofChange merkleGrownWrong)

/-- 'scriptoriumlaw05.MerkleRight': WHATEVER THE INPUT: true; the input reads as it did. -/
def merkleRightSpec : ChangeSpec := { name := "merkleRight", fn := fun _ => fun
  | [d1, d2, d3] => { results := [.lit (.bool true)], args := [d1, d2, d3] }
  | _ => none }
def merkleRightRow : OpenClaim := { program := "ytgjepkcdacgieaadoor", sum := "1ca6a84f6ac20b3da0eee0be04b49e681d38f7010780df186a90e59c09c4068a", func := "scriptorium/scriptoriumlaw05.MerkleRight", spec := "merkleRight", unfollowed := true, recurses := true, named := ["scriptorium/digest.first", "scriptorium/digest.added"], apart := false, laid := [("scriptorium/digest.first", laid_scriptorium_digest_first), ("scriptorium/digest.added", laid_scriptorium_digest_added)] }
def MerkleRightSaid : Prop := merkleRightRow.holds Tryd.pinned (OpenSpec.ofChange merkleRightSpec)

/-- ITS FALSE NEIGHBOUR: 'it returns false'. Refute it at one input. -/
def merkleRightWrong : ChangeSpec := { name := "merkleRight", fn := fun _ => fun
  | [d1, d2, d3] => { results := [.lit (.bool false)], args := [d1, d2, d3] }
  | _ => none }
def MerkleRightWrongFalsely : Prop := merkleRightRow.holds Tryd.pinned (OpenSpec.ofChange merkleRightWrong)

/-- 'scriptoriumlaw05.MerkleBound': WHATEVER THE INPUT: true; the input reads as it did. -/
def merkleBoundSpec : ChangeSpec := { name := "merkleBound", fn := fun _ => fun
  | [d1, d2, d3, d4, d5, d6, d7] => { results := [.lit (.bool true)], args := [d1, d2, d3, d4, d5, d6, d7] }
  | _ => none }
def merkleBoundRow : OpenClaim := { program := "ytgjepkcdacgieaadoor", sum := "1ca6a84f6ac20b3da0eee0be04b49e681d38f7010780df186a90e59c09c4068a", func := "scriptorium/scriptoriumlaw05.MerkleBound", spec := "merkleBound", unfollowed := true, recurses := true, named := ["scriptorium/digest.first", "scriptorium/digest.added"], apart := false, laid := [("scriptorium/digest.first", laid_scriptorium_digest_first), ("scriptorium/digest.added", laid_scriptorium_digest_added)] }
def MerkleBoundSaid : Prop := merkleBoundRow.holds Tryd.pinned (OpenSpec.ofChange merkleBoundSpec)

/-- ITS FALSE NEIGHBOUR: 'it returns false'. Refute it at one input. -/
def merkleBoundWrong : ChangeSpec := { name := "merkleBound", fn := fun _ => fun
  | [d1, d2, d3, d4, d5, d6, d7] => { results := [.lit (.bool false)], args := [d1, d2, d3, d4, d5, d6, d7] }
  | _ => none }
def MerkleBoundWrongFalsely : Prop := merkleBoundRow.holds Tryd.pinned (OpenSpec.ofChange merkleBoundWrong)

/- THE SECOND FORM. 'bulk': how many values and letters a reading holds, each counted each time it is reached (what is shared counts as often as it is met; a slice's spare places count too). A statement '..UptoSaid' is the law's where the arguments, and the package variables that the reading takes, are together of bulk at most 1048576: NARROWER than '..Said'. Prove '..Said' where nothing that the law and all that it calls make is longer than what came in: it says more and counts as full. Else prove '..UptoSaid'. A law counts once. -/
mutual
def uptoBulk {H : Type} : DataW H → Nat
  | .lit (.string bytes) => bytes.length + 1
  | .lit _ => 1
  | .nil => 1
  | .ptr d => uptoBulk d + 1
  | .slice elems spare => uptoBulkAll elems + uptoBulkAll spare + 1
  | .agg parts => uptoBulkAll parts + 1
  | .iface _ d => uptoBulk d + 1
  | .map entries => uptoBulkEntries entries + 1
  | .held _ => 1
def uptoBulkAll {H : Type} : List (DataW H) → Nat
  | [] => 0
  | d :: r => uptoBulk d + uptoBulkAll r
def uptoBulkEntries {H : Type} : List (Lit × DataW H) → Nat
  | [] => 0
  | x :: r => uptoBulkEntry x + uptoBulkEntries r
def uptoBulkEntry {H : Type} : Lit × DataW H → Nat
  | (.string bytes, d) => bytes.length + uptoBulk d + 1
  | (_, d) => uptoBulk d + 1
 end
def uptoSmall : (H : Type) → List (DataW H) → Bool := fun _ ds => decide (uptoBulkAll ds ≤ 1048576)
def OpenSpec.upto (s : _root_.Go.ChangeSpec) : _root_.Go.OpenSpec := { _root_.Go.OpenSpec.ofChange s with cond := some uptoSmall }

/-- 'scriptoriumlaw05.MerkleRoots', WHERE WHAT IT READS IS OF BULK AT MOST 1048576: true; the input reads as it did. -/
def merkleRootsUptoRow : OpenClaim := { program := "ytgjepkcdacgieaadoor", sum := "1ca6a84f6ac20b3da0eee0be04b49e681d38f7010780df186a90e59c09c4068a", func := "scriptorium/scriptoriumlaw05.MerkleRoots", spec := "merkleRoots", unfollowed := true, recurses := true, named := ["scriptorium/digest.first", "scriptorium/digest.added"], apart := false, laid := [("scriptorium/digest.first", laid_scriptorium_digest_first), ("scriptorium/digest.added", laid_scriptorium_digest_added)], narrowed := true }
def MerkleRootsUptoSaid : Prop := merkleRootsUptoRow.holds Tryd.pinned (OpenSpec.upto merkleRootsSpec)

/-- 'scriptoriumlaw05.MerkleProofs', WHERE WHAT IT READS IS OF BULK AT MOST 1048576: true; the input reads as it did. -/
def merkleProofsUptoRow : OpenClaim := { program := "ytgjepkcdacgieaadoor", sum := "1ca6a84f6ac20b3da0eee0be04b49e681d38f7010780df186a90e59c09c4068a", func := "scriptorium/scriptoriumlaw05.MerkleProofs", spec := "merkleProofs", unfollowed := true, recurses := true, named := ["scriptorium/digest.first", "scriptorium/digest.added"], apart := false, laid := [("scriptorium/digest.first", laid_scriptorium_digest_first), ("scriptorium/digest.added", laid_scriptorium_digest_added)], narrowed := true }
def MerkleProofsUptoSaid : Prop := merkleProofsUptoRow.holds Tryd.pinned (OpenSpec.upto merkleProofsSpec)

/-- 'scriptoriumlaw05.MerkleVerifies', WHERE WHAT IT READS IS OF BULK AT MOST 1048576: true; the input reads as it did. -/
def merkleVerifiesUptoRow : OpenClaim := { program := "ytgjepkcdacgieaadoor", sum := "1ca6a84f6ac20b3da0eee0be04b49e681d38f7010780df186a90e59c09c4068a", func := "scriptorium/scriptoriumlaw05.MerkleVerifies", spec := "merkleVerifies", unfollowed := true, recurses := true, named := ["scriptorium/digest.first", "scriptorium/digest.added"], apart := false, laid := [("scriptorium/digest.first", laid_scriptorium_digest_first), ("scriptorium/digest.added", laid_scriptorium_digest_added)], narrowed := true }
def MerkleVerifiesUptoSaid : Prop := merkleVerifiesUptoRow.holds Tryd.pinned (OpenSpec.upto merkleVerifiesSpec)

/-- 'scriptoriumlaw05.MerkleGrowths', WHERE WHAT IT READS IS OF BULK AT MOST 1048576: true; the input reads as it did. -/
def merkleGrowthsUptoRow : OpenClaim := { program := "ytgjepkcdacgieaadoor", sum := "1ca6a84f6ac20b3da0eee0be04b49e681d38f7010780df186a90e59c09c4068a", func := "scriptorium/scriptoriumlaw05.MerkleGrowths", spec := "merkleGrowths", unfollowed := true, recurses := true, named := ["scriptorium/digest.first", "scriptorium/digest.added"], apart := false, laid := [("scriptorium/digest.first", laid_scriptorium_digest_first), ("scriptorium/digest.added", laid_scriptorium_digest_added)], narrowed := true }
def MerkleGrowthsUptoSaid : Prop := merkleGrowthsUptoRow.holds Tryd.pinned (OpenSpec.upto merkleGrowthsSpec)

/-- 'scriptoriumlaw05.MerkleGrown', WHERE WHAT IT READS IS OF BULK AT MOST 1048576: true; the input reads as it did. -/
def merkleGrownUptoRow : OpenClaim := { program := "ytgjepkcdacgieaadoor", sum := "1ca6a84f6ac20b3da0eee0be04b49e681d38f7010780df186a90e59c09c4068a", func := "scriptorium/scriptoriumlaw05.MerkleGrown", spec := "merkleGrown", unfollowed := true, recurses := true, named := ["scriptorium/digest.first", "scriptorium/digest.added"], apart := false, laid := [("scriptorium/digest.first", laid_scriptorium_digest_first), ("scriptorium/digest.added", laid_scriptorium_digest_added)], narrowed := true }
def MerkleGrownUptoSaid : Prop := merkleGrownUptoRow.holds Tryd.pinned (OpenSpec.upto merkleGrownSpec)

/-- 'scriptoriumlaw05.MerkleRight', WHERE WHAT IT READS IS OF BULK AT MOST 1048576: true; the input reads as it did. -/
def merkleRightUptoRow : OpenClaim := { program := "ytgjepkcdacgieaadoor", sum := "1ca6a84f6ac20b3da0eee0be04b49e681d38f7010780df186a90e59c09c4068a", func := "scriptorium/scriptoriumlaw05.MerkleRight", spec := "merkleRight", unfollowed := true, recurses := true, named := ["scriptorium/digest.first", "scriptorium/digest.added"], apart := false, laid := [("scriptorium/digest.first", laid_scriptorium_digest_first), ("scriptorium/digest.added", laid_scriptorium_digest_added)], narrowed := true }
def MerkleRightUptoSaid : Prop := merkleRightUptoRow.holds Tryd.pinned (OpenSpec.upto merkleRightSpec)

/-- 'scriptoriumlaw05.MerkleBound', WHERE WHAT IT READS IS OF BULK AT MOST 1048576: true; the input reads as it did. -/
def merkleBoundUptoRow : OpenClaim := { program := "ytgjepkcdacgieaadoor", sum := "1ca6a84f6ac20b3da0eee0be04b49e681d38f7010780df186a90e59c09c4068a", func := "scriptorium/scriptoriumlaw05.MerkleBound", spec := "merkleBound", unfollowed := true, recurses := true, named := ["scriptorium/digest.first", "scriptorium/digest.added"], apart := false, laid := [("scriptorium/digest.first", laid_scriptorium_digest_first), ("scriptorium/digest.added", laid_scriptorium_digest_added)], narrowed := true }
def MerkleBoundUptoSaid : Prop := merkleBoundUptoRow.holds Tryd.pinned (OpenSpec.upto merkleBoundSpec)

end Rows
end Go.Proofs.YtgjepkcdacgieaaDoor
