/-
  NARROWER THAN 'FOR EVERY INPUT', by the rows' own cells (each row's printed sentence says how): MerkleGrown: laid · MerkleRight: laid · MerkleBound: laid · SealOf: laid · SealBytes: laid · SealParses: laid · SealChains: laid · SealHolds: laid · SealBack: laid · SealBound: laid.
  DERIVED. THE GIVEN ROWS OF THIS SEAT. 10 by the template 'for every input the law returns true; each argument reads behind the call as it read before'; 0 by the template 'total and deterministic' (their statements: YtfgdochpnnkpmaaDoorTotals.lean).
  GIVEN WITH THE SEED: the statements are not yours to turn. If you find one false, say at which input.
  Laid BY PROGRAM, IN A SANDBOX (cutbox-rows.mjs): the forced cells as the released guide's own fill.sh prints them over the translation a5086df47b8f4302… (all of the seat's roots in one cut). By AI agents, Wed Nov 11 2026. No macro, syntax, notation, axiom, sorry.
-/
import Derived.Test.YtfgdochpnnkpmaaDoorChecked
import GoSem.Claim
import GoSem.ClaimJoined
import GoSem.ClaimMapViews
import Derived.JoinedTies
import Derived.KernelRfl
namespace Go.Proofs.YtfgdochpnnkpmaaDoor
/- THE CELL 'sum', in the pinned program and in every row, IS THE sha256 OF THE DUMP (.gsa) THAT YtfgdochpnnkpmaaDoorProg.lean LOADS. Nothing in Lean hashes anything: it is a label: what it is worth is what the hold of that sum in a sandbox is worth. -/
noncomputable def Tryd.pinned : Pinned := { name := "ytfgdochpnnkpmaadoor", sum := "a5086df47b8f430244915125f877bc5d0ee5e98039b4506b5f41d7a2188839bd", checked := Tryd.checked }
namespace Rows
def none {H : Type} : Left H := { results := [], args := [] }

/- WHAT THE LISTED PACKAGE-LEVEL VARIABLES READ AS WHEN THE CALL BEGINS. Each datum BY PROGRAM (the guide's laid-datum.mjs) off the statement by which the dump's own 'gosem.cut.vars' lays the variable. In a bare row this is a premise. The card (YtfgdochpnnkpmaaDoorCards.lean) ties it to the program's text. -/
def laid_scriptorium_digest_first {H : Type} : DataW H := .agg [.lit (.int .u32 1779033703), .lit (.int .u32 3144134277), .lit (.int .u32 1013904242), .lit (.int .u32 2773480762), .lit (.int .u32 1359893119), .lit (.int .u32 2600822924), .lit (.int .u32 528734635), .lit (.int .u32 1541459225)]
def laid_scriptorium_digest_added {H : Type} : DataW H := .agg [.lit (.int .u32 1116352408), .lit (.int .u32 1899447441), .lit (.int .u32 3049323471), .lit (.int .u32 3921009573), .lit (.int .u32 961987163), .lit (.int .u32 1508970993), .lit (.int .u32 2453635748), .lit (.int .u32 2870763221), .lit (.int .u32 3624381080), .lit (.int .u32 310598401), .lit (.int .u32 607225278), .lit (.int .u32 1426881987), .lit (.int .u32 1925078388), .lit (.int .u32 2162078206), .lit (.int .u32 2614888103), .lit (.int .u32 3248222580), .lit (.int .u32 3835390401), .lit (.int .u32 4022224774), .lit (.int .u32 264347078), .lit (.int .u32 604807628), .lit (.int .u32 770255983), .lit (.int .u32 1249150122), .lit (.int .u32 1555081692), .lit (.int .u32 1996064986), .lit (.int .u32 2554220882), .lit (.int .u32 2821834349), .lit (.int .u32 2952996808), .lit (.int .u32 3210313671), .lit (.int .u32 3336571891), .lit (.int .u32 3584528711), .lit (.int .u32 113926993), .lit (.int .u32 338241895), .lit (.int .u32 666307205), .lit (.int .u32 773529912), .lit (.int .u32 1294757372), .lit (.int .u32 1396182291), .lit (.int .u32 1695183700), .lit (.int .u32 1986661051), .lit (.int .u32 2177026350), .lit (.int .u32 2456956037), .lit (.int .u32 2730485921), .lit (.int .u32 2820302411), .lit (.int .u32 3259730800), .lit (.int .u32 3345764771), .lit (.int .u32 3516065817), .lit (.int .u32 3600352804), .lit (.int .u32 4094571909), .lit (.int .u32 275423344), .lit (.int .u32 430227734), .lit (.int .u32 506948616), .lit (.int .u32 659060556), .lit (.int .u32 883997877), .lit (.int .u32 958139571), .lit (.int .u32 1322822218), .lit (.int .u32 1537002063), .lit (.int .u32 1747873779), .lit (.int .u32 1955562222), .lit (.int .u32 2024104815), .lit (.int .u32 2227730452), .lit (.int .u32 2361852424), .lit (.int .u32 2428436474), .lit (.int .u32 2756734187), .lit (.int .u32 3204031479), .lit (.int .u32 3329325298)]

/-- 'scriptoriumlaw05.MerkleGrown': WHATEVER THE INPUT: true; the input reads as it did. -/
def merkleGrownSpec : ChangeSpec := { name := "merkleGrown", fn := fun _ => fun
  | [d1, d2, d3, d4, d5] => { results := [.lit (.bool true)], args := [d1, d2, d3, d4, d5] }
  | _ => none }
def merkleGrownRow : OpenClaim := { program := "ytfgdochpnnkpmaadoor", sum := "a5086df47b8f430244915125f877bc5d0ee5e98039b4506b5f41d7a2188839bd", func := "scriptorium/scriptoriumlaw05.MerkleGrown", spec := "merkleGrown", unfollowed := true, recurses := true, named := ["scriptorium/digest.first", "scriptorium/digest.added"], apart := false, laid := [("scriptorium/digest.first", laid_scriptorium_digest_first), ("scriptorium/digest.added", laid_scriptorium_digest_added)] }
def MerkleGrownSaid : Prop := merkleGrownRow.holds Tryd.pinned (OpenSpec.ofChange merkleGrownSpec)

/-- ITS FALSE NEIGHBOUR: 'it returns false'. Refute it at one input. -/
def merkleGrownWrong : ChangeSpec := { name := "merkleGrown", fn := fun _ => fun
  | [d1, d2, d3, d4, d5] => { results := [.lit (.bool false)], args := [d1, d2, d3, d4, d5] }
  | _ => none }
def MerkleGrownWrongFalsely : Prop := merkleGrownRow.holds Tryd.pinned (OpenSpec.ofChange merkleGrownWrong)

/-- 'scriptoriumlaw05.MerkleRight': WHATEVER THE INPUT: true; the input reads as it did. -/
def merkleRightSpec : ChangeSpec := { name := "merkleRight", fn := fun _ => fun
  | [d1, d2, d3] => { results := [.lit (.bool true)], args := [d1, d2, d3] }
  | _ => none }
def merkleRightRow : OpenClaim := { program := "ytfgdochpnnkpmaadoor", sum := "a5086df47b8f430244915125f877bc5d0ee5e98039b4506b5f41d7a2188839bd", func := "scriptorium/scriptoriumlaw05.MerkleRight", spec := "merkleRight", unfollowed := true, recurses := true, named := ["scriptorium/digest.first", "scriptorium/digest.added"], apart := false, laid := [("scriptorium/digest.first", laid_scriptorium_digest_first), ("scriptorium/digest.added", laid_scriptorium_digest_added)] }
def MerkleRightSaid : Prop := merkleRightRow.holds Tryd.pinned (OpenSpec.ofChange merkleRightSpec)

/-- ITS FALSE NEIGHBOUR: 'it returns false'. Refute it at one input. -/
def merkleRightWrong : ChangeSpec := { name := "merkleRight", fn := fun _ => fun
  | [d1, d2, d3] => { results := [.lit (.bool false)], args := [d1, d2, d3] }
  | _ => none }
def MerkleRightWrongFalsely : Prop := merkleRightRow.holds Tryd.pinned (OpenSpec.ofChange merkleRightWrong)

/-- 'scriptoriumlaw05.MerkleBound': WHATEVER THE INPUT: true; the input reads as it did. -/
def merkleBoundSpec : ChangeSpec := { name := "merkleBound", fn := fun _ => fun
  | [d1, d2, d3, d4, d5, d6, d7] => { results := [.lit (.bool true)], args := [d1, d2, d3, d4, d5, d6, d7] }
  | _ => none }
def merkleBoundRow : OpenClaim := { program := "ytfgdochpnnkpmaadoor", sum := "a5086df47b8f430244915125f877bc5d0ee5e98039b4506b5f41d7a2188839bd", func := "scriptorium/scriptoriumlaw05.MerkleBound", spec := "merkleBound", unfollowed := true, recurses := true, named := ["scriptorium/digest.first", "scriptorium/digest.added"], apart := false, laid := [("scriptorium/digest.first", laid_scriptorium_digest_first), ("scriptorium/digest.added", laid_scriptorium_digest_added)] }
def MerkleBoundSaid : Prop := merkleBoundRow.holds Tryd.pinned (OpenSpec.ofChange merkleBoundSpec)

/-- ITS FALSE NEIGHBOUR: 'it returns false'. Refute it at one input. -/
def merkleBoundWrong : ChangeSpec := { name := "merkleBound", fn := fun _ => fun
  | [d1, d2, d3, d4, d5, d6, d7] => { results := [.lit (.bool false)], args := [d1, d2, d3, d4, d5, d6, d7] }
  | _ => none }
def MerkleBoundWrongFalsely : Prop := merkleBoundRow.holds Tryd.pinned (OpenSpec.ofChange merkleBoundWrong)

/-- 'scriptoriumlaw06.SealOf': WHATEVER THE INPUT: true; the input reads as it did. -/
def sealOfSpec : ChangeSpec := { name := "sealOf", fn := fun _ => fun
  | [d1, d2, d3] => { results := [.lit (.bool true)], args := [d1, d2, d3] }
  | _ => none }
def sealOfRow : OpenClaim := { program := "ytfgdochpnnkpmaadoor", sum := "a5086df47b8f430244915125f877bc5d0ee5e98039b4506b5f41d7a2188839bd", func := "scriptorium/scriptoriumlaw06.SealOf", spec := "sealOf", unfollowed := true, recurses := true, named := ["scriptorium/digest.first", "scriptorium/digest.added"], apart := false, laid := [("scriptorium/digest.first", laid_scriptorium_digest_first), ("scriptorium/digest.added", laid_scriptorium_digest_added)] }
def SealOfSaid : Prop := sealOfRow.holds Tryd.pinned (OpenSpec.ofChange sealOfSpec)

/-- ITS FALSE NEIGHBOUR: 'it returns false'. Refute it at one input. -/
def sealOfWrong : ChangeSpec := { name := "sealOf", fn := fun _ => fun
  | [d1, d2, d3] => { results := [.lit (.bool false)], args := [d1, d2, d3] }
  | _ => none }
def SealOfWrongFalsely : Prop := sealOfRow.holds Tryd.pinned (OpenSpec.ofChange sealOfWrong)

/-- 'scriptoriumlaw06.SealBytes': WHATEVER THE INPUT: true; the input reads as it did. -/
def sealBytesSpec : ChangeSpec := { name := "sealBytes", fn := fun _ => fun
  | [d] => { results := [.lit (.bool true)], args := [d] }
  | _ => none }
def sealBytesRow : OpenClaim := { program := "ytfgdochpnnkpmaadoor", sum := "a5086df47b8f430244915125f877bc5d0ee5e98039b4506b5f41d7a2188839bd", func := "scriptorium/scriptoriumlaw06.SealBytes", spec := "sealBytes", unfollowed := true, recurses := true, named := ["scriptorium/digest.first", "scriptorium/digest.added"], apart := false, laid := [("scriptorium/digest.first", laid_scriptorium_digest_first), ("scriptorium/digest.added", laid_scriptorium_digest_added)] }
def SealBytesSaid : Prop := sealBytesRow.holds Tryd.pinned (OpenSpec.ofChange sealBytesSpec)

/-- ITS FALSE NEIGHBOUR: 'it returns false'. Refute it at one input. -/
def sealBytesWrong : ChangeSpec := { name := "sealBytes", fn := fun _ => fun
  | [d] => { results := [.lit (.bool false)], args := [d] }
  | _ => none }
def SealBytesWrongFalsely : Prop := sealBytesRow.holds Tryd.pinned (OpenSpec.ofChange sealBytesWrong)

/-- 'scriptoriumlaw06.SealParses': WHATEVER THE INPUT: true; the input reads as it did. -/
def sealParsesSpec : ChangeSpec := { name := "sealParses", fn := fun _ => fun
  | [d] => { results := [.lit (.bool true)], args := [d] }
  | _ => none }
def sealParsesRow : OpenClaim := { program := "ytfgdochpnnkpmaadoor", sum := "a5086df47b8f430244915125f877bc5d0ee5e98039b4506b5f41d7a2188839bd", func := "scriptorium/scriptoriumlaw06.SealParses", spec := "sealParses", unfollowed := true, recurses := true, named := ["scriptorium/digest.first", "scriptorium/digest.added"], apart := false, laid := [("scriptorium/digest.first", laid_scriptorium_digest_first), ("scriptorium/digest.added", laid_scriptorium_digest_added)] }
def SealParsesSaid : Prop := sealParsesRow.holds Tryd.pinned (OpenSpec.ofChange sealParsesSpec)

/-- ITS FALSE NEIGHBOUR: 'it returns false'. Refute it at one input. -/
def sealParsesWrong : ChangeSpec := { name := "sealParses", fn := fun _ => fun
  | [d] => { results := [.lit (.bool false)], args := [d] }
  | _ => none }
def SealParsesWrongFalsely : Prop := sealParsesRow.holds Tryd.pinned (OpenSpec.ofChange sealParsesWrong)

/-- 'scriptoriumlaw06.SealChains': WHATEVER THE INPUT: true; the input reads as it did. -/
def sealChainsSpec : ChangeSpec := { name := "sealChains", fn := fun _ => fun
  | [d] => { results := [.lit (.bool true)], args := [d] }
  | _ => none }
def sealChainsRow : OpenClaim := { program := "ytfgdochpnnkpmaadoor", sum := "a5086df47b8f430244915125f877bc5d0ee5e98039b4506b5f41d7a2188839bd", func := "scriptorium/scriptoriumlaw06.SealChains", spec := "sealChains", unfollowed := true, recurses := true, named := ["scriptorium/digest.first", "scriptorium/digest.added"], apart := false, laid := [("scriptorium/digest.first", laid_scriptorium_digest_first), ("scriptorium/digest.added", laid_scriptorium_digest_added)] }
def SealChainsSaid : Prop := sealChainsRow.holds Tryd.pinned (OpenSpec.ofChange sealChainsSpec)

/-- ITS FALSE NEIGHBOUR: 'it returns false'. Refute it at one input. -/
def sealChainsWrong : ChangeSpec := { name := "sealChains", fn := fun _ => fun
  | [d] => { results := [.lit (.bool false)], args := [d] }
  | _ => none }
def SealChainsWrongFalsely : Prop := sealChainsRow.holds Tryd.pinned (OpenSpec.ofChange sealChainsWrong)

/-- 'scriptoriumlaw06.SealHolds': WHATEVER THE INPUT: true; the input reads as it did. -/
def sealHoldsSpec : ChangeSpec := { name := "sealHolds", fn := fun _ => fun
  | [d1, d2] => { results := [.lit (.bool true)], args := [d1, d2] }
  | _ => none }
def sealHoldsRow : OpenClaim := { program := "ytfgdochpnnkpmaadoor", sum := "a5086df47b8f430244915125f877bc5d0ee5e98039b4506b5f41d7a2188839bd", func := "scriptorium/scriptoriumlaw06.SealHolds", spec := "sealHolds", unfollowed := true, recurses := true, named := ["scriptorium/digest.first", "scriptorium/digest.added"], apart := false, laid := [("scriptorium/digest.first", laid_scriptorium_digest_first), ("scriptorium/digest.added", laid_scriptorium_digest_added)] }
def SealHoldsSaid : Prop := sealHoldsRow.holds Tryd.pinned (OpenSpec.ofChange sealHoldsSpec)

/-- ITS FALSE NEIGHBOUR: 'it returns false'. Refute it at one input. -/
def sealHoldsWrong : ChangeSpec := { name := "sealHolds", fn := fun _ => fun
  | [d1, d2] => { results := [.lit (.bool false)], args := [d1, d2] }
  | _ => none }
def SealHoldsWrongFalsely : Prop := sealHoldsRow.holds Tryd.pinned (OpenSpec.ofChange sealHoldsWrong)

/-- 'scriptoriumlaw06.SealBack': WHATEVER THE INPUT: true; the input reads as it did. -/
def sealBackSpec : ChangeSpec := { name := "sealBack", fn := fun _ => fun
  | [d] => { results := [.lit (.bool true)], args := [d] }
  | _ => none }
def sealBackRow : OpenClaim := { program := "ytfgdochpnnkpmaadoor", sum := "a5086df47b8f430244915125f877bc5d0ee5e98039b4506b5f41d7a2188839bd", func := "scriptorium/scriptoriumlaw06.SealBack", spec := "sealBack", unfollowed := true, recurses := true, named := ["scriptorium/digest.first", "scriptorium/digest.added"], apart := false, laid := [("scriptorium/digest.first", laid_scriptorium_digest_first), ("scriptorium/digest.added", laid_scriptorium_digest_added)] }
def SealBackSaid : Prop := sealBackRow.holds Tryd.pinned (OpenSpec.ofChange sealBackSpec)

/-- ITS FALSE NEIGHBOUR: 'it returns false'. Refute it at one input. -/
def sealBackWrong : ChangeSpec := { name := "sealBack", fn := fun _ => fun
  | [d] => { results := [.lit (.bool false)], args := [d] }
  | _ => none }
def SealBackWrongFalsely : Prop := sealBackRow.holds Tryd.pinned (OpenSpec.ofChange sealBackWrong)

/-- 'scriptoriumlaw06.SealBound': WHATEVER THE INPUT: true; the input reads as it did. -/
def sealBoundSpec : ChangeSpec := { name := "sealBound", fn := fun _ => fun
  | [d1, d2, d3] => { results := [.lit (.bool true)], args := [d1, d2, d3] }
  | _ => none }
def sealBoundRow : OpenClaim := { program := "ytfgdochpnnkpmaadoor", sum := "a5086df47b8f430244915125f877bc5d0ee5e98039b4506b5f41d7a2188839bd", func := "scriptorium/scriptoriumlaw06.SealBound", spec := "sealBound", unfollowed := true, recurses := true, named := ["scriptorium/digest.first", "scriptorium/digest.added"], apart := false, laid := [("scriptorium/digest.first", laid_scriptorium_digest_first), ("scriptorium/digest.added", laid_scriptorium_digest_added)] }
def SealBoundSaid : Prop := sealBoundRow.holds Tryd.pinned (OpenSpec.ofChange sealBoundSpec)

/-- ITS FALSE NEIGHBOUR: 'it returns false'. Refute it at one input. -/
def sealBoundWrong : ChangeSpec := { name := "sealBound", fn := fun _ => fun
  | [d1, d2, d3] => { results := [.lit (.bool false)], args := [d1, d2, d3] }
  | _ => none }
def SealBoundWrongFalsely : Prop := sealBoundRow.holds Tryd.pinned (OpenSpec.ofChange sealBoundWrong)

/- THE SECOND FORM. 'bulk': how many values and letters a reading holds, each counted each time it is reached (what is shared counts as often as it is met; a slice's spare places count too). A statement '..UptoSaid' is the law's where the arguments, and the package variables that the reading takes, are together of bulk at most 1048576: NARROWER than '..Said'. Prove '..Said' where nothing that the law and all that it calls make is longer than what came in: it says more and counts as full. Else prove '..UptoSaid'. A law counts once. -/
mutual
def uptoBulk {H : Type} : DataW H → Nat
  | .lit (.string bytes) => bytes.length + 1
  | .lit _ => 1
  | .nil => 1
  | .ptr d => uptoBulk d + 1
  | .slice elems spare => uptoBulkAll elems + uptoBulkAll spare + 1
  | .agg parts => uptoBulkAll parts + 1
  | .iface _ d => uptoBulk d + 1
  | .map entries => uptoBulkEntries entries + 1
  | .held _ => 1
def uptoBulkAll {H : Type} : List (DataW H) → Nat
  | [] => 0
  | d :: r => uptoBulk d + uptoBulkAll r
def uptoBulkEntries {H : Type} : List (Lit × DataW H) → Nat
  | [] => 0
  | x :: r => uptoBulkEntry x + uptoBulkEntries r
def uptoBulkEntry {H : Type} : Lit × DataW H → Nat
  | (.string bytes, d) => bytes.length + uptoBulk d + 1
  | (_, d) => uptoBulk d + 1
 end
def uptoSmall : (H : Type) → List (DataW H) → Bool := fun _ ds => decide (uptoBulkAll ds ≤ 1048576)
def OpenSpec.upto (s : _root_.Go.ChangeSpec) : _root_.Go.OpenSpec := { _root_.Go.OpenSpec.ofChange s with cond := some uptoSmall }

/-- 'scriptoriumlaw05.MerkleGrown', WHERE WHAT IT READS IS OF BULK AT MOST 1048576: true; the input reads as it did. -/
def merkleGrownUptoRow : OpenClaim := { program := "ytfgdochpnnkpmaadoor", sum := "a5086df47b8f430244915125f877bc5d0ee5e98039b4506b5f41d7a2188839bd", func := "scriptorium/scriptoriumlaw05.MerkleGrown", spec := "merkleGrown", unfollowed := true, recurses := true, named := ["scriptorium/digest.first", "scriptorium/digest.added"], apart := false, laid := [("scriptorium/digest.first", laid_scriptorium_digest_first), ("scriptorium/digest.added", laid_scriptorium_digest_added)], narrowed := true }
def MerkleGrownUptoSaid : Prop := merkleGrownUptoRow.holds Tryd.pinned (OpenSpec.upto merkleGrownSpec)

/-- 'scriptoriumlaw05.MerkleRight', WHERE WHAT IT READS IS OF BULK AT MOST 1048576: true; the input reads as it did. -/
def merkleRightUptoRow : OpenClaim := { program := "ytfgdochpnnkpmaadoor", sum := "a5086df47b8f430244915125f877bc5d0ee5e98039b4506b5f41d7a2188839bd", func := "scriptorium/scriptoriumlaw05.MerkleRight", spec := "merkleRight", unfollowed := true, recurses := true, named := ["scriptorium/digest.first", "scriptorium/digest.added"], apart := false, laid := [("scriptorium/digest.first", laid_scriptorium_digest_first), ("scriptorium/digest.added", laid_scriptorium_digest_added)], narrowed := true }
def MerkleRightUptoSaid : Prop := merkleRightUptoRow.holds Tryd.pinned (OpenSpec.upto merkleRightSpec)

/-- 'scriptoriumlaw05.MerkleBound', WHERE WHAT IT READS IS OF BULK AT MOST 1048576: true; the input reads as it did. -/
def merkleBoundUptoRow : OpenClaim := { program := "ytfgdochpnnkpmaadoor", sum := "a5086df47b8f430244915125f877bc5d0ee5e98039b4506b5f41d7a2188839bd", func := "scriptorium/scriptoriumlaw05.MerkleBound", spec := "merkleBound", unfollowed := true, recurses := true, named := ["scriptorium/digest.first", "scriptorium/digest.added"], apart := false, laid := [("scriptorium/digest.first", laid_scriptorium_digest_first), ("scriptorium/digest.added", laid_scriptorium_digest_added)], narrowed := true }
def MerkleBoundUptoSaid : Prop := merkleBoundUptoRow.holds Tryd.pinned (OpenSpec.upto merkleBoundSpec)

/-- 'scriptoriumlaw06.SealOf', WHERE WHAT IT READS IS OF BULK AT MOST 1048576: true; the input reads as it did. -/
def sealOfUptoRow : OpenClaim := { program := "ytfgdochpnnkpmaadoor", sum := "a5086df47b8f430244915125f877bc5d0ee5e98039b4506b5f41d7a2188839bd", func := "scriptorium/scriptoriumlaw06.SealOf", spec := "sealOf", unfollowed := true, recurses := true, named := ["scriptorium/digest.first", "scriptorium/digest.added"], apart := false, laid := [("scriptorium/digest.first", laid_scriptorium_digest_first), ("scriptorium/digest.added", laid_scriptorium_digest_added)], narrowed := true }
def SealOfUptoSaid : Prop := sealOfUptoRow.holds Tryd.pinned (OpenSpec.upto sealOfSpec)

/-- 'scriptoriumlaw06.SealBytes', WHERE WHAT IT READS IS OF BULK AT MOST 1048576: true; the input reads as it did. -/
def sealBytesUptoRow : OpenClaim := { program := "ytfgdochpnnkpmaadoor", sum := "a5086df47b8f430244915125f877bc5d0ee5e98039b4506b5f41d7a2188839bd", func := "scriptorium/scriptoriumlaw06.SealBytes", spec := "sealBytes", unfollowed := true, recurses := true, named := ["scriptorium/digest.first", "scriptorium/digest.added"], apart := false, laid := [("scriptorium/digest.first", laid_scriptorium_digest_first), ("scriptorium/digest.added", laid_scriptorium_digest_added)], narrowed := true }
def SealBytesUptoSaid : Prop := sealBytesUptoRow.holds Tryd.pinned (OpenSpec.upto sealBytesSpec)

/-- 'scriptoriumlaw06.SealParses', WHERE WHAT IT READS IS OF BULK AT MOST 1048576: true; the input reads as it did. -/
def sealParsesUptoRow : OpenClaim := { program := "ytfgdochpnnkpmaadoor", sum := "a5086df47b8f430244915125f877bc5d0ee5e98039b4506b5f41d7a2188839bd", func := "scriptorium/scriptoriumlaw06.SealParses", spec := "sealParses", unfollowed := true, recurses := true, named := ["scriptorium/digest.first", "scriptorium/digest.added"], apart := false, laid := [("scriptorium/digest.first", laid_scriptorium_digest_first), ("scriptorium/digest.added", laid_scriptorium_digest_added)], narrowed := true }
def SealParsesUptoSaid : Prop := sealParsesUptoRow.holds Tryd.pinned (OpenSpec.upto sealParsesSpec)

/-- 'scriptoriumlaw06.SealChains', WHERE WHAT IT READS IS OF BULK AT MOST 1048576: true; the input reads as it did. -/
def sealChainsUptoRow : OpenClaim := { program := "ytfgdochpnnkpmaadoor", sum := "a5086df47b8f430244915125f877bc5d0ee5e98039b4506b5f41d7a2188839bd", func := "scriptorium/scriptoriumlaw06.SealChains", spec := "sealChains", unfollowed := true, recurses := true, named := ["scriptorium/digest.first", "scriptorium/digest.added"], apart := false, laid := [("scriptorium/digest.first", laid_scriptorium_digest_first), ("scriptorium/digest.added", laid_scriptorium_digest_added)], narrowed := true }
def SealChainsUptoSaid : Prop := sealChainsUptoRow.holds Tryd.pinned (OpenSpec.upto sealChainsSpec)

/-- 'scriptoriumlaw06.SealHolds', WHERE WHAT IT READS IS OF BULK AT MOST 1048576: true; the input reads as it did. -/
def sealHoldsUptoRow : OpenClaim := { program := "ytfgdochpnnkpmaadoor", sum := "a5086df47b8f430244915125f877bc5d0ee5e98039b4506b5f41d7a2188839bd", func := "scriptorium/scriptoriumlaw06.SealHolds", spec := "sealHolds", unfollowed := true, recurses := true, named := ["scriptorium/digest.first", "scriptorium/digest.added"], apart := false, laid := [("scriptorium/digest.first", laid_scriptorium_digest_first), ("scriptorium/digest.added", laid_scriptorium_digest_added)], narrowed := true }
def SealHoldsUptoSaid : Prop := sealHoldsUptoRow.holds Tryd.pinned (OpenSpec.upto sealHoldsSpec)

/-- 'scriptoriumlaw06.SealBack', WHERE WHAT IT READS IS OF BULK AT MOST 1048576: true; the input reads as it did. -/
def sealBackUptoRow : OpenClaim := { program := "ytfgdochpnnkpmaadoor", sum := "a5086df47b8f430244915125f877bc5d0ee5e98039b4506b5f41d7a2188839bd", func := "scriptorium/scriptoriumlaw06.SealBack", spec := "sealBack", unfollowed := true, recurses := true, named := ["scriptorium/digest.first", "scriptorium/digest.added"], apart := false, laid := [("scriptorium/digest.first", laid_scriptorium_digest_first), ("scriptorium/digest.added", laid_scriptorium_digest_added)], narrowed := true }
def SealBackUptoSaid : Prop := sealBackUptoRow.holds Tryd.pinned (OpenSpec.upto sealBackSpec)

/-- 'scriptoriumlaw06.SealBound', WHERE WHAT IT READS IS OF BULK AT MOST 1048576: true; the input reads as it did. -/
def sealBoundUptoRow : OpenClaim := { program := "ytfgdochpnnkpmaadoor", sum := "a5086df47b8f430244915125f877bc5d0ee5e98039b4506b5f41d7a2188839bd", func := "scriptorium/scriptoriumlaw06.SealBound", spec := "sealBound", unfollowed := true, recurses := true, named := ["scriptorium/digest.first", "scriptorium/digest.added"], apart := false, laid := [("scriptorium/digest.first", laid_scriptorium_digest_first), ("scriptorium/digest.added", laid_scriptorium_digest_added)], narrowed := true }
def SealBoundUptoSaid : Prop := sealBoundUptoRow.holds Tryd.pinned (OpenSpec.upto sealBoundSpec)

end Rows
end Go.Proofs.YtfgdochpnnkpmaaDoor
