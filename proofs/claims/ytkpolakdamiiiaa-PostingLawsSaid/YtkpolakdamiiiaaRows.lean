/-
  No cell of these rows narrows 'for every input' (looked for: loops, veiled, ifaces, maps, wideKeys, modest, calm, conditions, laid).
  DERIVED. THE GIVEN ROWS OF THIS SEAT. 5 by the template 'for every input the law returns true; each argument reads behind the call as it read before'; 0 by the template 'total and deterministic' (their statements: YtkpolakdamiiiaaTotals.lean).
  GIVEN WITH THE SEED: the statements are not yours to turn. If you find one false, say at which input.
  Laid BY PROGRAM, IN A SANDBOX (cutbox-rows.mjs): the forced cells as the released guide's own fill.sh prints them over the translation 8e1cbdd9974e7aea… (all of the seat's roots in one cut). By AI agents, Wed Nov 11 2026. No macro, syntax, notation, axiom, sorry.
-/
import Derived.Test.YtkpolakdamiiiaaChecked
import GoSem.Claim
import GoSem.ClaimJoined
import GoSem.ClaimMapViews
import Derived.JoinedTies
import Derived.KernelRfl
namespace Go.Proofs.Ytkpolakdamiiiaa
/- THE CELL 'sum', in the pinned program and in every row, IS THE sha256 OF THE DUMP (.gsa) THAT YtkpolakdamiiiaaProg.lean LOADS. Nothing in Lean hashes anything: it is a label: what it is worth is what the hold of that sum in a sandbox is worth. -/
noncomputable def Try.pinned : Pinned := { name := "ytkpolakdamiiiaa", sum := "8e1cbdd9974e7aea23f91d4262b28dd9850792cac1b849c629ce1aac0fffe7dd", checked := Try.checked }
namespace Rows
def none {H : Type} : Left H := { results := [], args := [] }

/-- 'scriptoriumlaw18.PostingOf': WHATEVER THE INPUT: true; the input reads as it did. -/
def postingOfSpec : ChangeSpec := { name := "postingOf", fn := fun _ => fun
  | [d] => { results := [.lit (.bool true)], args := [d] }
  | _ => none }
def postingOfRow : OpenClaim := { program := "ytkpolakdamiiiaa", sum := "8e1cbdd9974e7aea23f91d4262b28dd9850792cac1b849c629ce1aac0fffe7dd", func := "scriptorium/scriptoriumlaw18.PostingOf", spec := "postingOf", unfollowed := true, recurses := true, apart := false }
def PostingOfSaid : Prop := postingOfRow.holds Try.pinned (OpenSpec.ofChange postingOfSpec)

/-- ITS FALSE NEIGHBOUR: 'it returns false'. Refute it at one input. -/
def postingOfWrong : ChangeSpec := { name := "postingOf", fn := fun _ => fun
  | [d] => { results := [.lit (.bool false)], args := [d] }
  | _ => none }
def PostingOfWrongFalsely : Prop := postingOfRow.holds Try.pinned (OpenSpec.ofChange postingOfWrong)

/-- 'scriptoriumlaw18.PostingSets': WHATEVER THE INPUT: true; the input reads as it did. -/
def postingSetsSpec : ChangeSpec := { name := "postingSets", fn := fun _ => fun
  | [d1, d2] => { results := [.lit (.bool true)], args := [d1, d2] }
  | _ => none }
def postingSetsRow : OpenClaim := { program := "ytkpolakdamiiiaa", sum := "8e1cbdd9974e7aea23f91d4262b28dd9850792cac1b849c629ce1aac0fffe7dd", func := "scriptorium/scriptoriumlaw18.PostingSets", spec := "postingSets", unfollowed := true, recurses := true, apart := false }
def PostingSetsSaid : Prop := postingSetsRow.holds Try.pinned (OpenSpec.ofChange postingSetsSpec)

/-- ITS FALSE NEIGHBOUR: 'it returns false'. Refute it at one input. -/
def postingSetsWrong : ChangeSpec := { name := "postingSets", fn := fun _ => fun
  | [d1, d2] => { results := [.lit (.bool false)], args := [d1, d2] }
  | _ => none }
def PostingSetsWrongFalsely : Prop := postingSetsRow.holds Try.pinned (OpenSpec.ofChange postingSetsWrong)

/-- 'scriptoriumlaw18.PostingMerges': WHATEVER THE INPUT: true; the input reads as it did. -/
def postingMergesSpec : ChangeSpec := { name := "postingMerges", fn := fun _ => fun
  | [d] => { results := [.lit (.bool true)], args := [d] }
  | _ => none }
def postingMergesRow : OpenClaim := { program := "ytkpolakdamiiiaa", sum := "8e1cbdd9974e7aea23f91d4262b28dd9850792cac1b849c629ce1aac0fffe7dd", func := "scriptorium/scriptoriumlaw18.PostingMerges", spec := "postingMerges", unfollowed := true, recurses := true, apart := false }
def PostingMergesSaid : Prop := postingMergesRow.holds Try.pinned (OpenSpec.ofChange postingMergesSpec)

/-- ITS FALSE NEIGHBOUR: 'it returns false'. Refute it at one input. -/
def postingMergesWrong : ChangeSpec := { name := "postingMerges", fn := fun _ => fun
  | [d] => { results := [.lit (.bool false)], args := [d] }
  | _ => none }
def PostingMergesWrongFalsely : Prop := postingMergesRow.holds Try.pinned (OpenSpec.ofChange postingMergesWrong)

/-- 'scriptoriumlaw18.PostingHas': WHATEVER THE INPUT: true; the input reads as it did. -/
def postingHasSpec : ChangeSpec := { name := "postingHas", fn := fun _ => fun
  | [d1, d2] => { results := [.lit (.bool true)], args := [d1, d2] }
  | _ => none }
def postingHasRow : OpenClaim := { program := "ytkpolakdamiiiaa", sum := "8e1cbdd9974e7aea23f91d4262b28dd9850792cac1b849c629ce1aac0fffe7dd", func := "scriptorium/scriptoriumlaw18.PostingHas", spec := "postingHas", unfollowed := true, recurses := true, apart := false }
def PostingHasSaid : Prop := postingHasRow.holds Try.pinned (OpenSpec.ofChange postingHasSpec)

/-- ITS FALSE NEIGHBOUR: 'it returns false'. Refute it at one input. -/
def postingHasWrong : ChangeSpec := { name := "postingHas", fn := fun _ => fun
  | [d1, d2] => { results := [.lit (.bool false)], args := [d1, d2] }
  | _ => none }
def PostingHasWrongFalsely : Prop := postingHasRow.holds Try.pinned (OpenSpec.ofChange postingHasWrong)

/-- 'scriptoriumlaw18.PostingLaws': WHATEVER THE INPUT: true; the input reads as it did. -/
def postingLawsSpec : ChangeSpec := { name := "postingLaws", fn := fun _ => fun
  | [d1, d2, d3] => { results := [.lit (.bool true)], args := [d1, d2, d3] }
  | _ => none }
def postingLawsRow : OpenClaim := { program := "ytkpolakdamiiiaa", sum := "8e1cbdd9974e7aea23f91d4262b28dd9850792cac1b849c629ce1aac0fffe7dd", func := "scriptorium/scriptoriumlaw18.PostingLaws", spec := "postingLaws", unfollowed := true, recurses := true, apart := false }
def PostingLawsSaid : Prop := postingLawsRow.holds Try.pinned (OpenSpec.ofChange postingLawsSpec)

/-- ITS FALSE NEIGHBOUR: 'it returns false'. Refute it at one input. -/
def postingLawsWrong : ChangeSpec := { name := "postingLaws", fn := fun _ => fun
  | [d1, d2, d3] => { results := [.lit (.bool false)], args := [d1, d2, d3] }
  | _ => none }
def PostingLawsWrongFalsely : Prop := postingLawsRow.holds Try.pinned (OpenSpec.ofChange postingLawsWrong)

/- THE SECOND FORM. 'bulk': how many values and letters a reading holds, each counted each time it is reached (what is shared counts as often as it is met; a slice's spare places count too). A statement '..UptoSaid' is the law's where the arguments, and the package variables that the reading takes, are together of bulk at most 1048576: NARROWER than '..Said'. Prove '..Said' where nothing that the law and all that it calls make is longer than what came in: it says more and counts as full. Else prove '..UptoSaid'. A law counts once. -/
mutual
def uptoBulk {H : Type} : DataW H → Nat
  | .lit (.string bytes) => bytes.length + 1
  | .lit _ => 1
  | .nil => 1
  | .ptr d => uptoBulk d + 1
  | .slice elems spare => uptoBulkAll elems + uptoBulkAll spare + 1
  | .agg parts => uptoBulkAll parts + 1
  | .iface _ d => uptoBulk d + 1
  | .map entries => uptoBulkEntries entries + 1
  | .held _ => 1
def uptoBulkAll {H : Type} : List (DataW H) → Nat
  | [] => 0
  | d :: r => uptoBulk d + uptoBulkAll r
def uptoBulkEntries {H : Type} : List (Lit × DataW H) → Nat
  | [] => 0
  | x :: r => uptoBulkEntry x + uptoBulkEntries r
def uptoBulkEntry {H : Type} : Lit × DataW H → Nat
  | (.string bytes, d) => bytes.length + uptoBulk d + 1
  | (_, d) => uptoBulk d + 1
 end
def uptoSmall : (H : Type) → List (DataW H) → Bool := fun _ ds => decide (uptoBulkAll ds ≤ 1048576)
def OpenSpec.upto (s : _root_.Go.ChangeSpec) : _root_.Go.OpenSpec := { _root_.Go.OpenSpec.ofChange s with cond := some uptoSmall }

/-- 'scriptoriumlaw18.PostingOf', WHERE WHAT IT READS IS OF BULK AT MOST 1048576: true; the input reads as it did. -/
def postingOfUptoRow : OpenClaim := { program := "ytkpolakdamiiiaa", sum := "8e1cbdd9974e7aea23f91d4262b28dd9850792cac1b849c629ce1aac0fffe7dd", func := "scriptorium/scriptoriumlaw18.PostingOf", spec := "postingOf", unfollowed := true, recurses := true, apart := false, narrowed := true }
def PostingOfUptoSaid : Prop := postingOfUptoRow.holds Try.pinned (OpenSpec.upto postingOfSpec)

/-- 'scriptoriumlaw18.PostingSets', WHERE WHAT IT READS IS OF BULK AT MOST 1048576: true; the input reads as it did. -/
def postingSetsUptoRow : OpenClaim := { program := "ytkpolakdamiiiaa", sum := "8e1cbdd9974e7aea23f91d4262b28dd9850792cac1b849c629ce1aac0fffe7dd", func := "scriptorium/scriptoriumlaw18.PostingSets", spec := "postingSets", unfollowed := true, recurses := true, apart := false, narrowed := true }
def PostingSetsUptoSaid : Prop := postingSetsUptoRow.holds Try.pinned (OpenSpec.upto postingSetsSpec)

/-- 'scriptoriumlaw18.PostingMerges', WHERE WHAT IT READS IS OF BULK AT MOST 1048576: true; the input reads as it did. -/
def postingMergesUptoRow : OpenClaim := { program := "ytkpolakdamiiiaa", sum := "8e1cbdd9974e7aea23f91d4262b28dd9850792cac1b849c629ce1aac0fffe7dd", func := "scriptorium/scriptoriumlaw18.PostingMerges", spec := "postingMerges", unfollowed := true, recurses := true, apart := false, narrowed := true }
def PostingMergesUptoSaid : Prop := postingMergesUptoRow.holds Try.pinned (OpenSpec.upto postingMergesSpec)

/-- 'scriptoriumlaw18.PostingHas', WHERE WHAT IT READS IS OF BULK AT MOST 1048576: true; the input reads as it did. -/
def postingHasUptoRow : OpenClaim := { program := "ytkpolakdamiiiaa", sum := "8e1cbdd9974e7aea23f91d4262b28dd9850792cac1b849c629ce1aac0fffe7dd", func := "scriptorium/scriptoriumlaw18.PostingHas", spec := "postingHas", unfollowed := true, recurses := true, apart := false, narrowed := true }
def PostingHasUptoSaid : Prop := postingHasUptoRow.holds Try.pinned (OpenSpec.upto postingHasSpec)

/-- 'scriptoriumlaw18.PostingLaws', WHERE WHAT IT READS IS OF BULK AT MOST 1048576: true; the input reads as it did. -/
def postingLawsUptoRow : OpenClaim := { program := "ytkpolakdamiiiaa", sum := "8e1cbdd9974e7aea23f91d4262b28dd9850792cac1b849c629ce1aac0fffe7dd", func := "scriptorium/scriptoriumlaw18.PostingLaws", spec := "postingLaws", unfollowed := true, recurses := true, apart := false, narrowed := true }
def PostingLawsUptoSaid : Prop := postingLawsUptoRow.holds Try.pinned (OpenSpec.upto postingLawsSpec)

end Rows
end Go.Proofs.Ytkpolakdamiiiaa
