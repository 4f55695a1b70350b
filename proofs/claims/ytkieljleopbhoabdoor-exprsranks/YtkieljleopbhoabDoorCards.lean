/-
  DERIVED. GIVEN WITH THE SEED: THE CARDS: each row of YtkieljleopbhoabDoorRows.lean that lists a variable, with what it lists TIED to the program's text (the seventh form; the later family's looks); each row that meets fmt, with fmt's text TOLD by the authors' own Lean function (tested against real Go, not proved from fmt's source: count such statements apart). THE CARD IS WHAT COUNTS. Prove the row's statement (the work); the ties are given (YtkieljleopbhoabDoorTie.lean); close each card by the builder's one call (the guide's Derived/Test/ToyasCard.lean, 'card_holds'). Laid BY PROGRAM, IN A SANDBOX (cutbox-door.mjs). By AI agents, Wed Nov 11 2026. No macro, syntax, notation, axiom, sorry.
-/
import Derived.Test.YtkieljleopbhoabDoorRows
import GoSem.ClaimSeven
namespace Go.Proofs.YtkieljleopbhoabDoor
namespace Rows

/-- THE TIED CARD OF 'belfrylaw05.ExprsGreat'. -/
def exprsGreatCard : Claim7 := { stood := { row := exprsGreatRow, standIns := [], harness := (true, "19503ce24fb75b6069b222af28961c8721a8c3637a56bd79b46d9972c641ff55"), looks := true }, kinds := [], alts := [], laidByText := true, laidKinds := [.data, .data, .data, .sentinel, .sentinel, .data, .data, .data], laidTests := true, laidLooks := .later }
def ExprsGreatCardSaid : Prop := Claim7.holds Tryd.pinned (.plain (OpenSpec.ofChange exprsGreatSpec)) exprsGreatCard

/-- THE TIED CARD OF 'belfrylaw05.ExprsOdd'. -/
def exprsOddCard : Claim7 := { stood := { row := exprsOddRow, standIns := [], harness := (true, "19503ce24fb75b6069b222af28961c8721a8c3637a56bd79b46d9972c641ff55"), looks := true }, kinds := [], alts := [], laidByText := true, laidKinds := [.data, .data, .data, .sentinel, .sentinel, .data, .data, .data], laidTests := true, laidLooks := .later }
def ExprsOddCardSaid : Prop := Claim7.holds Tryd.pinned (.plain (OpenSpec.ofChange exprsOddSpec)) exprsOddCard

/-- THE TIED CARD OF 'belfrylaw05.ExprsRanks'. -/
def exprsRanksCard : Claim7 := { stood := { row := exprsRanksRow, standIns := [], harness := (true, "19503ce24fb75b6069b222af28961c8721a8c3637a56bd79b46d9972c641ff55"), looks := true }, kinds := [], alts := [], laidByText := true, laidKinds := [.data, .data, .data, .sentinel, .sentinel, .data, .data, .data], laidTests := true, laidLooks := .later }
def ExprsRanksCardSaid : Prop := Claim7.holds Tryd.pinned (.plain (OpenSpec.ofChange exprsRanksSpec)) exprsRanksCard

/-- THE SECOND FORM's CARD OF 'belfrylaw05.ExprsGreat'. -/
def exprsGreatUptoCard : Claim7 := { stood := { row := exprsGreatUptoRow, standIns := [], harness := (true, "19503ce24fb75b6069b222af28961c8721a8c3637a56bd79b46d9972c641ff55"), looks := true }, kinds := [], alts := [], laidByText := true, laidKinds := [.data, .data, .data, .sentinel, .sentinel, .data, .data, .data], laidTests := true, laidLooks := .later }
def ExprsGreatUptoCardSaid : Prop := Claim7.holds Tryd.pinned (.plain (OpenSpec.upto exprsGreatSpec)) exprsGreatUptoCard

/-- THE SECOND FORM's CARD OF 'belfrylaw05.ExprsOdd'. -/
def exprsOddUptoCard : Claim7 := { stood := { row := exprsOddUptoRow, standIns := [], harness := (true, "19503ce24fb75b6069b222af28961c8721a8c3637a56bd79b46d9972c641ff55"), looks := true }, kinds := [], alts := [], laidByText := true, laidKinds := [.data, .data, .data, .sentinel, .sentinel, .data, .data, .data], laidTests := true, laidLooks := .later }
def ExprsOddUptoCardSaid : Prop := Claim7.holds Tryd.pinned (.plain (OpenSpec.upto exprsOddSpec)) exprsOddUptoCard

/-- THE SECOND FORM's CARD OF 'belfrylaw05.ExprsRanks'. -/
def exprsRanksUptoCard : Claim7 := { stood := { row := exprsRanksUptoRow, standIns := [], harness := (true, "19503ce24fb75b6069b222af28961c8721a8c3637a56bd79b46d9972c641ff55"), looks := true }, kinds := [], alts := [], laidByText := true, laidKinds := [.data, .data, .data, .sentinel, .sentinel, .data, .data, .data], laidTests := true, laidLooks := .later }
def ExprsRanksUptoCardSaid : Prop := Claim7.holds Tryd.pinned (.plain (OpenSpec.upto exprsRanksSpec)) exprsRanksUptoCard
end Rows
end Go.Proofs.YtkieljleopbhoabDoor
