/-
  No cell of these rows narrows 'for every input' (looked for: loops, veiled, ifaces, maps, wideKeys, modest, calm, conditions, laid).
  DERIVED. THE GIVEN ROWS OF THIS SEAT. 6 by the template 'for every input the law returns true; each argument reads behind the call as it read before'; 0 by the template 'total and deterministic' (their statements: YtokaifnpmhkkpaaTotals.lean).
  GIVEN WITH THE SEED: the statements are not yours to turn. If you find one false, say at which input.
  Laid BY PROGRAM, IN A SANDBOX (cutbox-rows.mjs): the forced cells as the released guide's own fill.sh prints them over the translation 132a980d84d592ca… (all of the seat's roots in one cut). By AI agents, Wed Nov 11 2026. No macro, syntax, notation, axiom, sorry.
-/
import Derived.Test.YtokaifnpmhkkpaaChecked
import GoSem.Claim
import GoSem.ClaimJoined
import GoSem.ClaimMapViews
import Derived.JoinedTies
import Derived.KernelRfl
namespace Go.Proofs.Ytokaifnpmhkkpaa
/- THE CELL 'sum', in the pinned program and in every row, IS THE sha256 OF THE DUMP (.gsa) THAT YtokaifnpmhkkpaaProg.lean LOADS. Nothing in Lean hashes anything: it is a label: what it is worth is what the hold of that sum in a sandbox is worth. -/
noncomputable def Try.pinned : Pinned := { name := "ytokaifnpmhkkpaa", sum := "132a980d84d592ca867dc5f7159d3ada908686ddc99dba0810c3411c43a8af9b", checked := Try.checked }
namespace Rows
def none {H : Type} : Left H := { results := [], args := [] }

/-- 'scriptoriumlaw13.RetainChecks': WHATEVER THE INPUT: true; the input reads as it did. -/
def retainChecksSpec : ChangeSpec := { name := "retainChecks", fn := fun _ => fun
  | [d1, d2] => { results := [.lit (.bool true)], args := [d1, d2] }
  | _ => none }
def retainChecksRow : OpenClaim := { program := "ytokaifnpmhkkpaa", sum := "132a980d84d592ca867dc5f7159d3ada908686ddc99dba0810c3411c43a8af9b", func := "scriptorium/scriptoriumlaw13.RetainChecks", spec := "retainChecks", inPlace := ["internal/bytealg.IndexByteString", "internal/bytealg.IndexString"], unfollowed := true, recurses := true, named := ["internal/bytealg.MaxLen"], apart := false }
def RetainChecksSaid : Prop := retainChecksRow.holds Try.pinned (OpenSpec.ofChange retainChecksSpec)

/-- ITS FALSE NEIGHBOUR: 'it returns false'. Refute it at one input. -/
def retainChecksWrong : ChangeSpec := { name := "retainChecks", fn := fun _ => fun
  | [d1, d2] => { results := [.lit (.bool false)], args := [d1, d2] }
  | _ => none }
def RetainChecksWrongFalsely : Prop := retainChecksRow.holds Try.pinned (OpenSpec.ofChange retainChecksWrong)

/-- 'scriptoriumlaw13.RetainChooses': WHATEVER THE INPUT: true; the input reads as it did. -/
def retainChoosesSpec : ChangeSpec := { name := "retainChooses", fn := fun _ => fun
  | [d1, d2, d3, d4] => { results := [.lit (.bool true)], args := [d1, d2, d3, d4] }
  | _ => none }
def retainChoosesRow : OpenClaim := { program := "ytokaifnpmhkkpaa", sum := "132a980d84d592ca867dc5f7159d3ada908686ddc99dba0810c3411c43a8af9b", func := "scriptorium/scriptoriumlaw13.RetainChooses", spec := "retainChooses", inPlace := ["internal/bytealg.IndexByteString", "internal/bytealg.IndexString"], unfollowed := true, recurses := true, named := ["internal/bytealg.MaxLen"], apart := false }
def RetainChoosesSaid : Prop := retainChoosesRow.holds Try.pinned (OpenSpec.ofChange retainChoosesSpec)

/-- ITS FALSE NEIGHBOUR: 'it returns false'. Refute it at one input. -/
def retainChoosesWrong : ChangeSpec := { name := "retainChooses", fn := fun _ => fun
  | [d1, d2, d3, d4] => { results := [.lit (.bool false)], args := [d1, d2, d3, d4] }
  | _ => none }
def RetainChoosesWrongFalsely : Prop := retainChoosesRow.holds Try.pinned (OpenSpec.ofChange retainChoosesWrong)

/-- 'scriptoriumlaw13.RetainUntil': WHATEVER THE INPUT: true; the input reads as it did. -/
def retainUntilSpec : ChangeSpec := { name := "retainUntil", fn := fun _ => fun
  | [d1, d2] => { results := [.lit (.bool true)], args := [d1, d2] }
  | _ => none }
def retainUntilRow : OpenClaim := { program := "ytokaifnpmhkkpaa", sum := "132a980d84d592ca867dc5f7159d3ada908686ddc99dba0810c3411c43a8af9b", func := "scriptorium/scriptoriumlaw13.RetainUntil", spec := "retainUntil", inPlace := ["internal/bytealg.IndexByteString", "internal/bytealg.IndexString"], unfollowed := true, recurses := true, named := ["internal/bytealg.MaxLen"], apart := false }
def RetainUntilSaid : Prop := retainUntilRow.holds Try.pinned (OpenSpec.ofChange retainUntilSpec)

/-- ITS FALSE NEIGHBOUR: 'it returns false'. Refute it at one input. -/
def retainUntilWrong : ChangeSpec := { name := "retainUntil", fn := fun _ => fun
  | [d1, d2] => { results := [.lit (.bool false)], args := [d1, d2] }
  | _ => none }
def RetainUntilWrongFalsely : Prop := retainUntilRow.holds Try.pinned (OpenSpec.ofChange retainUntilWrong)

/-- 'scriptoriumlaw13.RetainOver': WHATEVER THE INPUT: true; the input reads as it did. -/
def retainOverSpec : ChangeSpec := { name := "retainOver", fn := fun _ => fun
  | [d1, d2, d3, d4] => { results := [.lit (.bool true)], args := [d1, d2, d3, d4] }
  | _ => none }
def retainOverRow : OpenClaim := { program := "ytokaifnpmhkkpaa", sum := "132a980d84d592ca867dc5f7159d3ada908686ddc99dba0810c3411c43a8af9b", func := "scriptorium/scriptoriumlaw13.RetainOver", spec := "retainOver", inPlace := ["internal/bytealg.IndexByteString", "internal/bytealg.IndexString"], unfollowed := true, recurses := true, named := ["internal/bytealg.MaxLen"], apart := false }
def RetainOverSaid : Prop := retainOverRow.holds Try.pinned (OpenSpec.ofChange retainOverSpec)

/-- ITS FALSE NEIGHBOUR: 'it returns false'. Refute it at one input. -/
def retainOverWrong : ChangeSpec := { name := "retainOver", fn := fun _ => fun
  | [d1, d2, d3, d4] => { results := [.lit (.bool false)], args := [d1, d2, d3, d4] }
  | _ => none }
def RetainOverWrongFalsely : Prop := retainOverRow.holds Try.pinned (OpenSpec.ofChange retainOverWrong)

/-- 'scriptoriumlaw13.RetainEver': WHATEVER THE INPUT: true; the input reads as it did. -/
def retainEverSpec : ChangeSpec := { name := "retainEver", fn := fun _ => fun
  | [d1, d2, d3, d4, d5] => { results := [.lit (.bool true)], args := [d1, d2, d3, d4, d5] }
  | _ => none }
def retainEverRow : OpenClaim := { program := "ytokaifnpmhkkpaa", sum := "132a980d84d592ca867dc5f7159d3ada908686ddc99dba0810c3411c43a8af9b", func := "scriptorium/scriptoriumlaw13.RetainEver", spec := "retainEver", inPlace := ["internal/bytealg.IndexByteString", "internal/bytealg.IndexString"], unfollowed := true, recurses := true, named := ["internal/bytealg.MaxLen"], apart := false }
def RetainEverSaid : Prop := retainEverRow.holds Try.pinned (OpenSpec.ofChange retainEverSpec)

/-- ITS FALSE NEIGHBOUR: 'it returns false'. Refute it at one input. -/
def retainEverWrong : ChangeSpec := { name := "retainEver", fn := fun _ => fun
  | [d1, d2, d3, d4, d5] => { results := [.lit (.bool false)], args := [d1, d2, d3, d4, d5] }
  | _ => none }
def RetainEverWrongFalsely : Prop := retainEverRow.holds Try.pinned (OpenSpec.ofChange retainEverWrong)

/-- 'scriptoriumlaw13.RetainMore': WHATEVER THE INPUT: true; the input reads as it did. -/
def retainMoreSpec : ChangeSpec := { name := "retainMore", fn := fun _ => fun
  | [d1, d2, d3, d4] => { results := [.lit (.bool true)], args := [d1, d2, d3, d4] }
  | _ => none }
def retainMoreRow : OpenClaim := { program := "ytokaifnpmhkkpaa", sum := "132a980d84d592ca867dc5f7159d3ada908686ddc99dba0810c3411c43a8af9b", func := "scriptorium/scriptoriumlaw13.RetainMore", spec := "retainMore", inPlace := ["internal/bytealg.IndexByteString", "internal/bytealg.IndexString"], unfollowed := true, recurses := true, named := ["internal/bytealg.MaxLen"], apart := false }
def RetainMoreSaid : Prop := retainMoreRow.holds Try.pinned (OpenSpec.ofChange retainMoreSpec)

/-- ITS FALSE NEIGHBOUR: 'it returns false'. Refute it at one input. -/
def retainMoreWrong : ChangeSpec := { name := "retainMore", fn := fun _ => fun
  | [d1, d2, d3, d4] => { results := [.lit (.bool false)], args := [d1, d2, d3, d4] }
  | _ => none }
def RetainMoreWrongFalsely : Prop := retainMoreRow.holds Try.pinned (OpenSpec.ofChange retainMoreWrong)

/- THE SECOND FORM. 'bulk': how many values and letters a reading holds, each counted each time it is reached (what is shared counts as often as it is met; a slice's spare places count too). A statement '..UptoSaid' is the law's where the arguments, and the package variables that the reading takes, are together of bulk at most 1048576: NARROWER than '..Said'. Prove '..Said' where nothing that the law and all that it calls make is longer than what came in: it says more and counts as full. Else prove '..UptoSaid'. A law counts once. -/
mutual
def uptoBulk {H : Type} : DataW H → Nat
  | .lit (.string bytes) => bytes.length + 1
  | .lit _ => 1
  | .nil => 1
  | .ptr d => uptoBulk d + 1
  | .slice elems spare => uptoBulkAll elems + uptoBulkAll spare + 1
  | .agg parts => uptoBulkAll parts + 1
  | .iface _ d => uptoBulk d + 1
  | .map entries => uptoBulkEntries entries + 1
  | .held _ => 1
def uptoBulkAll {H : Type} : List (DataW H) → Nat
  | [] => 0
  | d :: r => uptoBulk d + uptoBulkAll r
def uptoBulkEntries {H : Type} : List (Lit × DataW H) → Nat
  | [] => 0
  | x :: r => uptoBulkEntry x + uptoBulkEntries r
def uptoBulkEntry {H : Type} : Lit × DataW H → Nat
  | (.string bytes, d) => bytes.length + uptoBulk d + 1
  | (_, d) => uptoBulk d + 1
 end
def uptoSmall : (H : Type) → List (DataW H) → Bool := fun _ ds => decide (uptoBulkAll ds ≤ 1048576)
def OpenSpec.upto (s : _root_.Go.ChangeSpec) : _root_.Go.OpenSpec := { _root_.Go.OpenSpec.ofChange s with cond := some uptoSmall }

/-- 'scriptoriumlaw13.RetainChecks', WHERE WHAT IT READS IS OF BULK AT MOST 1048576: true; the input reads as it did. -/
def retainChecksUptoRow : OpenClaim := { program := "ytokaifnpmhkkpaa", sum := "132a980d84d592ca867dc5f7159d3ada908686ddc99dba0810c3411c43a8af9b", func := "scriptorium/scriptoriumlaw13.RetainChecks", spec := "retainChecks", inPlace := ["internal/bytealg.IndexByteString", "internal/bytealg.IndexString"], unfollowed := true, recurses := true, named := ["internal/bytealg.MaxLen"], apart := false, narrowed := true }
def RetainChecksUptoSaid : Prop := retainChecksUptoRow.holds Try.pinned (OpenSpec.upto retainChecksSpec)

/-- 'scriptoriumlaw13.RetainChooses', WHERE WHAT IT READS IS OF BULK AT MOST 1048576: true; the input reads as it did. -/
def retainChoosesUptoRow : OpenClaim := { program := "ytokaifnpmhkkpaa", sum := "132a980d84d592ca867dc5f7159d3ada908686ddc99dba0810c3411c43a8af9b", func := "scriptorium/scriptoriumlaw13.RetainChooses", spec := "retainChooses", inPlace := ["internal/bytealg.IndexByteString", "internal/bytealg.IndexString"], unfollowed := true, recurses := true, named := ["internal/bytealg.MaxLen"], apart := false, narrowed := true }
def RetainChoosesUptoSaid : Prop := retainChoosesUptoRow.holds Try.pinned (OpenSpec.upto retainChoosesSpec)

/-- 'scriptoriumlaw13.RetainUntil', WHERE WHAT IT READS IS OF BULK AT MOST 1048576: true; the input reads as it did. -/
def retainUntilUptoRow : OpenClaim := { program := "ytokaifnpmhkkpaa", sum := "132a980d84d592ca867dc5f7159d3ada908686ddc99dba0810c3411c43a8af9b", func := "scriptorium/scriptoriumlaw13.RetainUntil", spec := "retainUntil", inPlace := ["internal/bytealg.IndexByteString", "internal/bytealg.IndexString"], unfollowed := true, recurses := true, named := ["internal/bytealg.MaxLen"], apart := false, narrowed := true }
def RetainUntilUptoSaid : Prop := retainUntilUptoRow.holds Try.pinned (OpenSpec.upto retainUntilSpec)

/-- 'scriptoriumlaw13.RetainOver', WHERE WHAT IT READS IS OF BULK AT MOST 1048576: true; the input reads as it did. -/
def retainOverUptoRow : OpenClaim := { program := "ytokaifnpmhkkpaa", sum := "132a980d84d592ca867dc5f7159d3ada908686ddc99dba0810c3411c43a8af9b", func := "scriptorium/scriptoriumlaw13.RetainOver", spec := "retainOver", inPlace := ["internal/bytealg.IndexByteString", "internal/bytealg.IndexString"], unfollowed := true, recurses := true, named := ["internal/bytealg.MaxLen"], apart := false, narrowed := true }
def RetainOverUptoSaid : Prop := retainOverUptoRow.holds Try.pinned (OpenSpec.upto retainOverSpec)

/-- 'scriptoriumlaw13.RetainEver', WHERE WHAT IT READS IS OF BULK AT MOST 1048576: true; the input reads as it did. -/
def retainEverUptoRow : OpenClaim := { program := "ytokaifnpmhkkpaa", sum := "132a980d84d592ca867dc5f7159d3ada908686ddc99dba0810c3411c43a8af9b", func := "scriptorium/scriptoriumlaw13.RetainEver", spec := "retainEver", inPlace := ["internal/bytealg.IndexByteString", "internal/bytealg.IndexString"], unfollowed := true, recurses := true, named := ["internal/bytealg.MaxLen"], apart := false, narrowed := true }
def RetainEverUptoSaid : Prop := retainEverUptoRow.holds Try.pinned (OpenSpec.upto retainEverSpec)

/-- 'scriptoriumlaw13.RetainMore', WHERE WHAT IT READS IS OF BULK AT MOST 1048576: true; the input reads as it did. -/
def retainMoreUptoRow : OpenClaim := { program := "ytokaifnpmhkkpaa", sum := "132a980d84d592ca867dc5f7159d3ada908686ddc99dba0810c3411c43a8af9b", func := "scriptorium/scriptoriumlaw13.RetainMore", spec := "retainMore", inPlace := ["internal/bytealg.IndexByteString", "internal/bytealg.IndexString"], unfollowed := true, recurses := true, named := ["internal/bytealg.MaxLen"], apart := false, narrowed := true }
def RetainMoreUptoSaid : Prop := retainMoreUptoRow.holds Try.pinned (OpenSpec.upto retainMoreSpec)

end Rows
end Go.Proofs.Ytokaifnpmhkkpaa
