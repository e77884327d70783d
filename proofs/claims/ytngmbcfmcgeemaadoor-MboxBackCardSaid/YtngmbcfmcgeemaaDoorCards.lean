/-
  DERIVED. GIVEN WITH THE SEED: THE CARDS: each row of YtngmbcfmcgeemaaDoorRows.lean that lists a variable, with what it lists TIED to the program's text (the seventh form; the later family's looks); each row that meets fmt, with fmt's text TOLD by the authors' own Lean function (tested against real Go, not proved from fmt's source: count such statements apart). THE CARD IS WHAT COUNTS. Prove the row's statement (the work); the ties are given (YtngmbcfmcgeemaaDoorTie.lean); close each card by the builder's one call (the guide's Derived/Test/ToyasCard.lean, 'card_holds'). Laid BY PROGRAM, IN A SANDBOX (cutbox-door.mjs). By AI agents, Wed Nov 11 2026. No macro, syntax, notation, axiom, sorry.
-/
import Derived.Test.YtngmbcfmcgeemaaDoorRows
import GoSem.ClaimSeven
namespace Go.Proofs.YtngmbcfmcgeemaaDoor
namespace Rows

/-- THE TIED CARD OF 'scriptoriumlaw10.MboxQuotes'. -/
def mboxQuotesCard : Claim7 := { stood := { row := mboxQuotesRow, standIns := [], harness := (true, "e70f743d139405b06b271298bdd80b3fa824d9f8e196d85dd0757891b96df65a"), looks := true }, kinds := [], alts := [], laidByText := true, laidKinds := [.data, .data, .data, .data, .pinned], laidTests := true, laidLooks := .later }
def MboxQuotesCardSaid : Prop := Claim7.holds Tryd.pinned (.plain (OpenSpec.ofChange mboxQuotesSpec)) mboxQuotesCard

/-- THE TIED CARD OF 'scriptoriumlaw10.MboxExports'. -/
def mboxExportsCard : Claim7 := { stood := { row := mboxExportsRow, standIns := [], harness := (true, "e70f743d139405b06b271298bdd80b3fa824d9f8e196d85dd0757891b96df65a"), looks := true }, kinds := [], alts := [], laidByText := true, laidKinds := [.data, .data, .data, .data, .pinned], laidTests := true, laidLooks := .later }
def MboxExportsCardSaid : Prop := Claim7.holds Tryd.pinned (.plain (OpenSpec.ofChange mboxExportsSpec)) mboxExportsCard

/-- THE TIED CARD OF 'scriptoriumlaw10.MboxBack'. -/
def mboxBackCard : Claim7 := { stood := { row := mboxBackRow, standIns := [], harness := (true, "e70f743d139405b06b271298bdd80b3fa824d9f8e196d85dd0757891b96df65a"), looks := true }, kinds := [], alts := [], laidByText := true, laidKinds := [.data, .data, .data, .data, .sentinel, .sentinel, .pinned], laidTests := true, laidLooks := .later }
def MboxBackCardSaid : Prop := Claim7.holds Tryd.pinned (.plain (OpenSpec.ofChange mboxBackSpec)) mboxBackCard

/-- THE TIED CARD OF 'scriptoriumlaw10.MboxLines'. -/
def mboxLinesCard : Claim7 := { stood := { row := mboxLinesRow, standIns := [], harness := (true, "e70f743d139405b06b271298bdd80b3fa824d9f8e196d85dd0757891b96df65a"), looks := true }, kinds := [], alts := [], laidByText := true, laidKinds := [.data, .data, .data, .data, .pinned], laidTests := true, laidLooks := .later }
def MboxLinesCardSaid : Prop := Claim7.holds Tryd.pinned (.plain (OpenSpec.ofChange mboxLinesSpec)) mboxLinesCard

/-- THE SECOND FORM's CARD OF 'scriptoriumlaw10.MboxQuotes'. -/
def mboxQuotesUptoCard : Claim7 := { stood := { row := mboxQuotesUptoRow, standIns := [], harness := (true, "e70f743d139405b06b271298bdd80b3fa824d9f8e196d85dd0757891b96df65a"), looks := true }, kinds := [], alts := [], laidByText := true, laidKinds := [.data, .data, .data, .data, .pinned], laidTests := true, laidLooks := .later }
def MboxQuotesUptoCardSaid : Prop := Claim7.holds Tryd.pinned (.plain (OpenSpec.upto mboxQuotesSpec)) mboxQuotesUptoCard

/-- THE SECOND FORM's CARD OF 'scriptoriumlaw10.MboxExports'. -/
def mboxExportsUptoCard : Claim7 := { stood := { row := mboxExportsUptoRow, standIns := [], harness := (true, "e70f743d139405b06b271298bdd80b3fa824d9f8e196d85dd0757891b96df65a"), looks := true }, kinds := [], alts := [], laidByText := true, laidKinds := [.data, .data, .data, .data, .pinned], laidTests := true, laidLooks := .later }
def MboxExportsUptoCardSaid : Prop := Claim7.holds Tryd.pinned (.plain (OpenSpec.upto mboxExportsSpec)) mboxExportsUptoCard

/-- THE SECOND FORM's CARD OF 'scriptoriumlaw10.MboxBack'. -/
def mboxBackUptoCard : Claim7 := { stood := { row := mboxBackUptoRow, standIns := [], harness := (true, "e70f743d139405b06b271298bdd80b3fa824d9f8e196d85dd0757891b96df65a"), looks := true }, kinds := [], alts := [], laidByText := true, laidKinds := [.data, .data, .data, .data, .sentinel, .sentinel, .pinned], laidTests := true, laidLooks := .later }
def MboxBackUptoCardSaid : Prop := Claim7.holds Tryd.pinned (.plain (OpenSpec.upto mboxBackSpec)) mboxBackUptoCard

/-- THE SECOND FORM's CARD OF 'scriptoriumlaw10.MboxLines'. -/
def mboxLinesUptoCard : Claim7 := { stood := { row := mboxLinesUptoRow, standIns := [], harness := (true, "e70f743d139405b06b271298bdd80b3fa824d9f8e196d85dd0757891b96df65a"), looks := true }, kinds := [], alts := [], laidByText := true, laidKinds := [.data, .data, .data, .data, .pinned], laidTests := true, laidLooks := .later }
def MboxLinesUptoCardSaid : Prop := Claim7.holds Tryd.pinned (.plain (OpenSpec.upto mboxLinesSpec)) mboxLinesUptoCard
end Rows
end Go.Proofs.YtngmbcfmcgeemaaDoor
