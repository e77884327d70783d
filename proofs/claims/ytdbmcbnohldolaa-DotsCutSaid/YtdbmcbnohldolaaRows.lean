/-
  No cell of these rows narrows 'for every input' (looked for: loops, veiled, ifaces, maps, wideKeys, modest, calm, conditions, laid).
  DERIVED. THE GIVEN ROWS OF THIS SEAT. 5 by the template 'for every input the law returns true; each argument reads behind the call as it read before'; 0 by the template 'total and deterministic' (their statements: YtdbmcbnohldolaaTotals.lean).
  GIVEN WITH THE SEED: the statements are not yours to turn. If you find one false, say at which input.
  Laid BY PROGRAM, IN A SANDBOX (cutbox-rows.mjs): the forced cells as the released guide's own fill.sh prints them over the translation e139e123416b46cb… (all of the seat's roots in one cut). By AI agents, Wed Nov 11 2026. No macro, syntax, notation, axiom, sorry.
-/
import Derived.Test.YtdbmcbnohldolaaChecked
import GoSem.Claim
import GoSem.ClaimJoined
import GoSem.ClaimMapViews
import Derived.JoinedTies
import Derived.KernelRfl
namespace Go.Proofs.Ytdbmcbnohldolaa
/- THE CELL 'sum', in the pinned program and in every row, IS THE sha256 OF THE DUMP (.gsa) THAT YtdbmcbnohldolaaProg.lean LOADS. Nothing in Lean hashes anything: it is a label: what it is worth is what the hold of that sum in a sandbox is worth. -/
noncomputable def Try.pinned : Pinned := { name := "ytdbmcbnohldolaa", sum := "e139e123416b46cb3d66c15eaba9aaae47922a60932f4ced189e36a284fb7b1d", checked := Try.checked }
namespace Rows
def none {H : Type} : Left H := { results := [], args := [] }

/-- 'scriptoriumlaw09.DotsWhole': WHATEVER THE INPUT: true; the input reads as it did. -/
def dotsWholeSpec : ChangeSpec := { name := "dotsWhole", fn := fun _ => fun
  | [d] => { results := [.lit (.bool true)], args := [d] }
  | _ => none }
def dotsWholeRow : OpenClaim := { program := "ytdbmcbnohldolaa", sum := "e139e123416b46cb3d66c15eaba9aaae47922a60932f4ced189e36a284fb7b1d", func := "scriptorium/scriptoriumlaw09.DotsWhole", spec := "dotsWhole", inPlace := ["internal/bytealg.IndexByte", "internal/bytealg.Index"], unfollowed := true, recurses := true, named := ["internal/bytealg.MaxLen"], apart := false }
def DotsWholeSaid : Prop := dotsWholeRow.holds Try.pinned (OpenSpec.ofChange dotsWholeSpec)

/-- ITS FALSE NEIGHBOUR: 'it returns false'. Refute it at one input. -/
def dotsWholeWrong : ChangeSpec := { name := "dotsWhole", fn := fun _ => fun
  | [d] => { results := [.lit (.bool false)], args := [d] }
  | _ => none }
def DotsWholeWrongFalsely : Prop := dotsWholeRow.holds Try.pinned (OpenSpec.ofChange dotsWholeWrong)

/-- 'scriptoriumlaw09.DotsStuffs': WHATEVER THE INPUT: true; the input reads as it did. -/
def dotsStuffsSpec : ChangeSpec := { name := "dotsStuffs", fn := fun _ => fun
  | [d] => { results := [.lit (.bool true)], args := [d] }
  | _ => none }
def dotsStuffsRow : OpenClaim := { program := "ytdbmcbnohldolaa", sum := "e139e123416b46cb3d66c15eaba9aaae47922a60932f4ced189e36a284fb7b1d", func := "scriptorium/scriptoriumlaw09.DotsStuffs", spec := "dotsStuffs", inPlace := ["internal/bytealg.IndexByte", "internal/bytealg.Index"], unfollowed := true, recurses := true, named := ["internal/bytealg.MaxLen"], apart := false }
def DotsStuffsSaid : Prop := dotsStuffsRow.holds Try.pinned (OpenSpec.ofChange dotsStuffsSpec)

/-- ITS FALSE NEIGHBOUR: 'it returns false'. Refute it at one input. -/
def dotsStuffsWrong : ChangeSpec := { name := "dotsStuffs", fn := fun _ => fun
  | [d] => { results := [.lit (.bool false)], args := [d] }
  | _ => none }
def DotsStuffsWrongFalsely : Prop := dotsStuffsRow.holds Try.pinned (OpenSpec.ofChange dotsStuffsWrong)

/-- 'scriptoriumlaw09.DotsScans': WHATEVER THE INPUT: true; the input reads as it did. -/
def dotsScansSpec : ChangeSpec := { name := "dotsScans", fn := fun _ => fun
  | [d] => { results := [.lit (.bool true)], args := [d] }
  | _ => none }
def dotsScansRow : OpenClaim := { program := "ytdbmcbnohldolaa", sum := "e139e123416b46cb3d66c15eaba9aaae47922a60932f4ced189e36a284fb7b1d", func := "scriptorium/scriptoriumlaw09.DotsScans", spec := "dotsScans", inPlace := ["internal/bytealg.IndexByte", "internal/bytealg.Index"], unfollowed := true, recurses := true, named := ["internal/bytealg.MaxLen"], apart := false }
def DotsScansSaid : Prop := dotsScansRow.holds Try.pinned (OpenSpec.ofChange dotsScansSpec)

/-- ITS FALSE NEIGHBOUR: 'it returns false'. Refute it at one input. -/
def dotsScansWrong : ChangeSpec := { name := "dotsScans", fn := fun _ => fun
  | [d] => { results := [.lit (.bool false)], args := [d] }
  | _ => none }
def DotsScansWrongFalsely : Prop := dotsScansRow.holds Try.pinned (OpenSpec.ofChange dotsScansWrong)

/-- 'scriptoriumlaw09.DotsBack': WHATEVER THE INPUT: true; the input reads as it did. -/
def dotsBackSpec : ChangeSpec := { name := "dotsBack", fn := fun _ => fun
  | [d1, d2] => { results := [.lit (.bool true)], args := [d1, d2] }
  | _ => none }
def dotsBackRow : OpenClaim := { program := "ytdbmcbnohldolaa", sum := "e139e123416b46cb3d66c15eaba9aaae47922a60932f4ced189e36a284fb7b1d", func := "scriptorium/scriptoriumlaw09.DotsBack", spec := "dotsBack", inPlace := ["internal/bytealg.IndexByte", "internal/bytealg.Index"], unfollowed := true, recurses := true, named := ["internal/bytealg.MaxLen"], apart := false }
def DotsBackSaid : Prop := dotsBackRow.holds Try.pinned (OpenSpec.ofChange dotsBackSpec)

/-- ITS FALSE NEIGHBOUR: 'it returns false'. Refute it at one input. -/
def dotsBackWrong : ChangeSpec := { name := "dotsBack", fn := fun _ => fun
  | [d1, d2] => { results := [.lit (.bool false)], args := [d1, d2] }
  | _ => none }
def DotsBackWrongFalsely : Prop := dotsBackRow.holds Try.pinned (OpenSpec.ofChange dotsBackWrong)

/-- 'scriptoriumlaw09.DotsCut': WHATEVER THE INPUT: true; the input reads as it did. -/
def dotsCutSpec : ChangeSpec := { name := "dotsCut", fn := fun _ => fun
  | [d1, d2] => { results := [.lit (.bool true)], args := [d1, d2] }
  | _ => none }
def dotsCutRow : OpenClaim := { program := "ytdbmcbnohldolaa", sum := "e139e123416b46cb3d66c15eaba9aaae47922a60932f4ced189e36a284fb7b1d", func := "scriptorium/scriptoriumlaw09.DotsCut", spec := "dotsCut", inPlace := ["internal/bytealg.IndexByte", "internal/bytealg.Index"], unfollowed := true, recurses := true, named := ["internal/bytealg.MaxLen"], apart := false }
def DotsCutSaid : Prop := dotsCutRow.holds Try.pinned (OpenSpec.ofChange dotsCutSpec)

/-- ITS FALSE NEIGHBOUR: 'it returns false'. Refute it at one input. -/
def dotsCutWrong : ChangeSpec := { name := "dotsCut", fn := fun _ => fun
  | [d1, d2] => { results := [.lit (.bool false)], args := [d1, d2] }
  | _ => none }
def DotsCutWrongFalsely : Prop := dotsCutRow.holds Try.pinned (OpenSpec.ofChange dotsCutWrong)

/- THE SECOND FORM. 'bulk': how many values and letters a reading holds, each counted each time it is reached (what is shared counts as often as it is met; a slice's spare places count too). A statement '..UptoSaid' is the law's where the arguments, and the package variables that the reading takes, are together of bulk at most 1048576: NARROWER than '..Said'. Prove '..Said' where nothing that the law and all that it calls make is longer than what came in: it says more and counts as full. Else prove '..UptoSaid'. A law counts once. -/
mutual
def uptoBulk {H : Type} : DataW H → Nat
  | .lit (.string bytes) => bytes.length + 1
  | .lit _ => 1
  | .nil => 1
  | .ptr d => uptoBulk d + 1
  | .slice elems spare => uptoBulkAll elems + uptoBulkAll spare + 1
  | .agg parts => uptoBulkAll parts + 1
  | .iface _ d => uptoBulk d + 1
  | .map entries => uptoBulkEntries entries + 1
  | .held _ => 1
def uptoBulkAll {H : Type} : List (DataW H) → Nat
  | [] => 0
  | d :: r => uptoBulk d + uptoBulkAll r
def uptoBulkEntries {H : Type} : List (Lit × DataW H) → Nat
  | [] => 0
  | x :: r => uptoBulkEntry x + uptoBulkEntries r
def uptoBulkEntry {H : Type} : Lit × DataW H → Nat
  | (.string bytes, d) => bytes.length + uptoBulk d + 1
  | (_, d) => uptoBulk d + 1
 end
def uptoSmall : (H : Type) → List (DataW H) → Bool := fun _ ds => decide (uptoBulkAll ds ≤ 1048576)
def OpenSpec.upto (s : _root_.Go.ChangeSpec) : _root_.Go.OpenSpec := { _root_.Go.OpenSpec.ofChange s with cond := some uptoSmall }

/-- 'scriptoriumlaw09.DotsWhole', WHERE WHAT IT READS IS OF BULK AT MOST 1048576: true; the input reads as it did. -/
def dotsWholeUptoRow : OpenClaim := { program := "ytdbmcbnohldolaa", sum := "e139e123416b46cb3d66c15eaba9aaae47922a60932f4ced189e36a284fb7b1d", func := "scriptorium/scriptoriumlaw09.DotsWhole", spec := "dotsWhole", inPlace := ["internal/bytealg.IndexByte", "internal/bytealg.Index"], unfollowed := true, recurses := true, named := ["internal/bytealg.MaxLen"], apart := false, narrowed := true }
def DotsWholeUptoSaid : Prop := dotsWholeUptoRow.holds Try.pinned (OpenSpec.upto dotsWholeSpec)

/-- 'scriptoriumlaw09.DotsStuffs', WHERE WHAT IT READS IS OF BULK AT MOST 1048576: true; the input reads as it did. -/
def dotsStuffsUptoRow : OpenClaim := { program := "ytdbmcbnohldolaa", sum := "e139e123416b46cb3d66c15eaba9aaae47922a60932f4ced189e36a284fb7b1d", func := "scriptorium/scriptoriumlaw09.DotsStuffs", spec := "dotsStuffs", inPlace := ["internal/bytealg.IndexByte", "internal/bytealg.Index"], unfollowed := true, recurses := true, named := ["internal/bytealg.MaxLen"], apart := false, narrowed := true }
def DotsStuffsUptoSaid : Prop := dotsStuffsUptoRow.holds Try.pinned (OpenSpec.upto dotsStuffsSpec)

/-- 'scriptoriumlaw09.DotsScans', WHERE WHAT IT READS IS OF BULK AT MOST 1048576: true; the input reads as it did. -/
def dotsScansUptoRow : OpenClaim := { program := "ytdbmcbnohldolaa", sum := "e139e123416b46cb3d66c15eaba9aaae47922a60932f4ced189e36a284fb7b1d", func := "scriptorium/scriptoriumlaw09.DotsScans", spec := "dotsScans", inPlace := ["internal/bytealg.IndexByte", "internal/bytealg.Index"], unfollowed := true, recurses := true, named := ["internal/bytealg.MaxLen"], apart := false, narrowed := true }
def DotsScansUptoSaid : Prop := dotsScansUptoRow.holds Try.pinned (OpenSpec.upto dotsScansSpec)

/-- 'scriptoriumlaw09.DotsBack', WHERE WHAT IT READS IS OF BULK AT MOST 1048576: true; the input reads as it did. -/
def dotsBackUptoRow : OpenClaim := { program := "ytdbmcbnohldolaa", sum := "e139e123416b46cb3d66c15eaba9aaae47922a60932f4ced189e36a284fb7b1d", func := "scriptorium/scriptoriumlaw09.DotsBack", spec := "dotsBack", inPlace := ["internal/bytealg.IndexByte", "internal/bytealg.Index"], unfollowed := true, recurses := true, named := ["internal/bytealg.MaxLen"], apart := false, narrowed := true }
def DotsBackUptoSaid : Prop := dotsBackUptoRow.holds Try.pinned (OpenSpec.upto dotsBackSpec)

/-- 'scriptoriumlaw09.DotsCut', WHERE WHAT IT READS IS OF BULK AT MOST 1048576: true; the input reads as it did. -/
def dotsCutUptoRow : OpenClaim := { program := "ytdbmcbnohldolaa", sum := "e139e123416b46cb3d66c15eaba9aaae47922a60932f4ced189e36a284fb7b1d", func := "scriptorium/scriptoriumlaw09.DotsCut", spec := "dotsCut", inPlace := ["internal/bytealg.IndexByte", "internal/bytealg.Index"], unfollowed := true, recurses := true, named := ["internal/bytealg.MaxLen"], apart := false, narrowed := true }
def DotsCutUptoSaid : Prop := dotsCutUptoRow.holds Try.pinned (OpenSpec.upto dotsCutSpec)

end Rows
end Go.Proofs.Ytdbmcbnohldolaa
