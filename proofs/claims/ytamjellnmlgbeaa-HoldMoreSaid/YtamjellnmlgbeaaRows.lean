/-
  No cell of these rows narrows 'for every input' (looked for: loops, veiled, ifaces, maps, wideKeys, modest, calm, conditions, laid).
  DERIVED. THE GIVEN ROWS OF THIS SEAT. 4 by the template 'for every input the law returns true; each argument reads behind the call as it read before'; 0 by the template 'total and deterministic' (their statements: YtamjellnmlgbeaaTotals.lean).
  GIVEN WITH THE SEED: the statements are not yours to turn. If you find one false, say at which input.
  Laid BY PROGRAM, IN A SANDBOX (cutbox-rows.mjs): the forced cells as the released guide's own fill.sh prints them over the translation 6eb5f5d72d245524… (all of the seat's roots in one cut). By AI agents, Wed Nov 11 2026. No macro, syntax, notation, axiom, sorry.
-/
import Derived.Test.YtamjellnmlgbeaaChecked
import GoSem.Claim
import GoSem.ClaimJoined
import GoSem.ClaimMapViews
import Derived.JoinedTies
import Derived.KernelRfl
namespace Go.Proofs.Ytamjellnmlgbeaa
/- THE CELL 'sum', in the pinned program and in every row, IS THE sha256 OF THE DUMP (.gsa) THAT YtamjellnmlgbeaaProg.lean LOADS. Nothing in Lean hashes anything: it is a label: what it is worth is what the hold of that sum in a sandbox is worth. -/
noncomputable def Try.pinned : Pinned := { name := "ytamjellnmlgbeaa", sum := "6eb5f5d72d245524967515c0e65de3cbcd2b8ab4573c7d71d4c231abac88ae09", checked := Try.checked }
namespace Rows
def none {H : Type} : Left H := { results := [], args := [] }

/-- 'scriptoriumlaw14.HoldPlaces': WHATEVER THE INPUT: true; the input reads as it did. -/
def holdPlacesSpec : ChangeSpec := { name := "holdPlaces", fn := fun _ => fun
  | [d1, d2] => { results := [.lit (.bool true)], args := [d1, d2] }
  | _ => none }
def holdPlacesRow : OpenClaim := { program := "ytamjellnmlgbeaa", sum := "6eb5f5d72d245524967515c0e65de3cbcd2b8ab4573c7d71d4c231abac88ae09", func := "scriptorium/scriptoriumlaw14.HoldPlaces", spec := "holdPlaces", inPlace := ["internal/bytealg.IndexByteString", "internal/bytealg.IndexString"], unfollowed := true, recurses := true, named := ["internal/bytealg.MaxLen"], apart := false }
def HoldPlacesSaid : Prop := holdPlacesRow.holds Try.pinned (OpenSpec.ofChange holdPlacesSpec)

/-- ITS FALSE NEIGHBOUR: 'it returns false'. Refute it at one input. -/
def holdPlacesWrong : ChangeSpec := { name := "holdPlaces", fn := fun _ => fun
  | [d1, d2] => { results := [.lit (.bool false)], args := [d1, d2] }
  | _ => none }
def HoldPlacesWrongFalsely : Prop := holdPlacesRow.holds Try.pinned (OpenSpec.ofChange holdPlacesWrong)

/-- 'scriptoriumlaw14.HoldLifts': WHATEVER THE INPUT: true; the input reads as it did. -/
def holdLiftsSpec : ChangeSpec := { name := "holdLifts", fn := fun _ => fun
  | [d1, d2] => { results := [.lit (.bool true)], args := [d1, d2] }
  | _ => none }
def holdLiftsRow : OpenClaim := { program := "ytamjellnmlgbeaa", sum := "6eb5f5d72d245524967515c0e65de3cbcd2b8ab4573c7d71d4c231abac88ae09", func := "scriptorium/scriptoriumlaw14.HoldLifts", spec := "holdLifts", inPlace := ["internal/bytealg.IndexByteString", "internal/bytealg.IndexString"], unfollowed := true, recurses := true, named := ["internal/bytealg.MaxLen"], apart := false }
def HoldLiftsSaid : Prop := holdLiftsRow.holds Try.pinned (OpenSpec.ofChange holdLiftsSpec)

/-- ITS FALSE NEIGHBOUR: 'it returns false'. Refute it at one input. -/
def holdLiftsWrong : ChangeSpec := { name := "holdLifts", fn := fun _ => fun
  | [d1, d2] => { results := [.lit (.bool false)], args := [d1, d2] }
  | _ => none }
def HoldLiftsWrongFalsely : Prop := holdLiftsRow.holds Try.pinned (OpenSpec.ofChange holdLiftsWrong)

/-- 'scriptoriumlaw14.HoldCovers': WHATEVER THE INPUT: true; the input reads as it did. -/
def holdCoversSpec : ChangeSpec := { name := "holdCovers", fn := fun _ => fun
  | [d1, d2] => { results := [.lit (.bool true)], args := [d1, d2] }
  | _ => none }
def holdCoversRow : OpenClaim := { program := "ytamjellnmlgbeaa", sum := "6eb5f5d72d245524967515c0e65de3cbcd2b8ab4573c7d71d4c231abac88ae09", func := "scriptorium/scriptoriumlaw14.HoldCovers", spec := "holdCovers", inPlace := ["internal/bytealg.IndexByteString", "internal/bytealg.IndexString"], unfollowed := true, recurses := true, named := ["internal/bytealg.MaxLen"], apart := false }
def HoldCoversSaid : Prop := holdCoversRow.holds Try.pinned (OpenSpec.ofChange holdCoversSpec)

/-- ITS FALSE NEIGHBOUR: 'it returns false'. Refute it at one input. -/
def holdCoversWrong : ChangeSpec := { name := "holdCovers", fn := fun _ => fun
  | [d1, d2] => { results := [.lit (.bool false)], args := [d1, d2] }
  | _ => none }
def HoldCoversWrongFalsely : Prop := holdCoversRow.holds Try.pinned (OpenSpec.ofChange holdCoversWrong)

/-- 'scriptoriumlaw14.HoldMore': WHATEVER THE INPUT: true; the input reads as it did. -/
def holdMoreSpec : ChangeSpec := { name := "holdMore", fn := fun _ => fun
  | [d1, d2, d3, d4] => { results := [.lit (.bool true)], args := [d1, d2, d3, d4] }
  | _ => none }
def holdMoreRow : OpenClaim := { program := "ytamjellnmlgbeaa", sum := "6eb5f5d72d245524967515c0e65de3cbcd2b8ab4573c7d71d4c231abac88ae09", func := "scriptorium/scriptoriumlaw14.HoldMore", spec := "holdMore", inPlace := ["internal/bytealg.IndexByteString", "internal/bytealg.IndexString"], unfollowed := true, recurses := true, named := ["internal/bytealg.MaxLen"], apart := false }
def HoldMoreSaid : Prop := holdMoreRow.holds Try.pinned (OpenSpec.ofChange holdMoreSpec)

/-- ITS FALSE NEIGHBOUR: 'it returns false'. Refute it at one input. -/
def holdMoreWrong : ChangeSpec := { name := "holdMore", fn := fun _ => fun
  | [d1, d2, d3, d4] => { results := [.lit (.bool false)], args := [d1, d2, d3, d4] }
  | _ => none }
def HoldMoreWrongFalsely : Prop := holdMoreRow.holds Try.pinned (OpenSpec.ofChange holdMoreWrong)

/- THE SECOND FORM. 'bulk': how many values and letters a reading holds, each counted each time it is reached (what is shared counts as often as it is met; a slice's spare places count too). A statement '..UptoSaid' is the law's where the arguments, and the package variables that the reading takes, are together of bulk at most 1048576: NARROWER than '..Said'. Prove '..Said' where nothing that the law and all that it calls make is longer than what came in: it says more and counts as full. Else prove '..UptoSaid'. A law counts once. -/
mutual
def uptoBulk {H : Type} : DataW H → Nat
  | .lit (.string bytes) => bytes.length + 1
  | .lit _ => 1
  | .nil => 1
  | .ptr d => uptoBulk d + 1
  | .slice elems spare => uptoBulkAll elems + uptoBulkAll spare + 1
  | .agg parts => uptoBulkAll parts + 1
  | .iface _ d => uptoBulk d + 1
  | .map entries => uptoBulkEntries entries + 1
  | .held _ => 1
def uptoBulkAll {H : Type} : List (DataW H) → Nat
  | [] => 0
  | d :: r => uptoBulk d + uptoBulkAll r
def uptoBulkEntries {H : Type} : List (Lit × DataW H) → Nat
  | [] => 0
  | x :: r => uptoBulkEntry x + uptoBulkEntries r
def uptoBulkEntry {H : Type} : Lit × DataW H → Nat
  | (.string bytes, d) => bytes.length + uptoBulk d + 1
  | (_, d) => uptoBulk d + 1
 end
def uptoSmall : (H : Type) → List (DataW H) → Bool := fun _ ds => decide (uptoBulkAll ds ≤ 1048576)
def OpenSpec.upto (s : _root_.Go.ChangeSpec) : _root_.Go.OpenSpec := { _root_.Go.OpenSpec.ofChange s with cond := some uptoSmall }

/-- 'scriptoriumlaw14.HoldPlaces', WHERE WHAT IT READS IS OF BULK AT MOST 1048576: true; the input reads as it did. -/
def holdPlacesUptoRow : OpenClaim := { program := "ytamjellnmlgbeaa", sum := "6eb5f5d72d245524967515c0e65de3cbcd2b8ab4573c7d71d4c231abac88ae09", func := "scriptorium/scriptoriumlaw14.HoldPlaces", spec := "holdPlaces", inPlace := ["internal/bytealg.IndexByteString", "internal/bytealg.IndexString"], unfollowed := true, recurses := true, named := ["internal/bytealg.MaxLen"], apart := false, narrowed := true }
def HoldPlacesUptoSaid : Prop := holdPlacesUptoRow.holds Try.pinned (OpenSpec.upto holdPlacesSpec)

/-- 'scriptoriumlaw14.HoldLifts', WHERE WHAT IT READS IS OF BULK AT MOST 1048576: true; the input reads as it did. -/
def holdLiftsUptoRow : OpenClaim := { program := "ytamjellnmlgbeaa", sum := "6eb5f5d72d245524967515c0e65de3cbcd2b8ab4573c7d71d4c231abac88ae09", func := "scriptorium/scriptoriumlaw14.HoldLifts", spec := "holdLifts", inPlace := ["internal/bytealg.IndexByteString", "internal/bytealg.IndexString"], unfollowed := true, recurses := true, named := ["internal/bytealg.MaxLen"], apart := false, narrowed := true }
def HoldLiftsUptoSaid : Prop := holdLiftsUptoRow.holds Try.pinned (OpenSpec.upto holdLiftsSpec)

/-- 'scriptoriumlaw14.HoldCovers', WHERE WHAT IT READS IS OF BULK AT MOST 1048576: true; the input reads as it did. -/
def holdCoversUptoRow : OpenClaim := { program := "ytamjellnmlgbeaa", sum := "6eb5f5d72d245524967515c0e65de3cbcd2b8ab4573c7d71d4c231abac88ae09", func := "scriptorium/scriptoriumlaw14.HoldCovers", spec := "holdCovers", inPlace := ["internal/bytealg.IndexByteString", "internal/bytealg.IndexString"], unfollowed := true, recurses := true, named := ["internal/bytealg.MaxLen"], apart := false, narrowed := true }
def HoldCoversUptoSaid : Prop := holdCoversUptoRow.holds Try.pinned (OpenSpec.upto holdCoversSpec)

/-- 'scriptoriumlaw14.HoldMore', WHERE WHAT IT READS IS OF BULK AT MOST 1048576: true; the input reads as it did. -/
def holdMoreUptoRow : OpenClaim := { program := "ytamjellnmlgbeaa", sum := "6eb5f5d72d245524967515c0e65de3cbcd2b8ab4573c7d71d4c231abac88ae09", func := "scriptorium/scriptoriumlaw14.HoldMore", spec := "holdMore", inPlace := ["internal/bytealg.IndexByteString", "internal/bytealg.IndexString"], unfollowed := true, recurses := true, named := ["internal/bytealg.MaxLen"], apart := false, narrowed := true }
def HoldMoreUptoSaid : Prop := holdMoreUptoRow.holds Try.pinned (OpenSpec.upto holdMoreSpec)

end Rows
end Go.Proofs.Ytamjellnmlgbeaa
