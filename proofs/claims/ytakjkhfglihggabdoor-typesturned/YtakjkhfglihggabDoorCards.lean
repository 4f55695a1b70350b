/-
  DERIVED. GIVEN WITH THE SEED: THE CARDS: each row of YtakjkhfglihggabDoorRows.lean that lists a variable, with what it lists TIED to the program's text (the seventh form; the later family's looks); each row that meets fmt, with fmt's text TOLD by the authors' own Lean function (tested against real Go, not proved from fmt's source: count such statements apart). THE CARD IS WHAT COUNTS. Prove the row's statement (the work); the ties are given (YtakjkhfglihggabDoorTie.lean); close each card by the builder's one call (the guide's Derived/Test/ToyasCard.lean, 'card_holds'). Laid BY PROGRAM, IN A SANDBOX (cutbox-door.mjs). By AI agents, Wed Nov 11 2026. No macro, syntax, notation, axiom, sorry.
-/
import Derived.Test.YtakjkhfglihggabDoorRows
import GoSem.ClaimSeven
namespace Go.Proofs.YtakjkhfglihggabDoor
namespace Rows

/-- THE TIED CARD OF 'belfrylaw08.TypesTurned'. -/
def typesTurnedCard : Claim7 := { stood := { row := typesTurnedRow, standIns := [], harness := (true, "c7278a36c14c0623ca5b18165f46a8095984ff2d05b9a1379f7e8d3f0fc55400"), looks := false }, kinds := [], alts := [], laidByText := true, laidKinds := [.data, .data], laidTests := true, laidLooks := .later }
def TypesTurnedCardSaid : Prop := Claim7.holds Tryd.pinned (.plain (OpenSpec.ofChange typesTurnedSpec)) typesTurnedCard

/-- THE SECOND FORM's CARD OF 'belfrylaw08.TypesTurned'. -/
def typesTurnedUptoCard : Claim7 := { stood := { row := typesTurnedUptoRow, standIns := [], harness := (true, "c7278a36c14c0623ca5b18165f46a8095984ff2d05b9a1379f7e8d3f0fc55400"), looks := false }, kinds := [], alts := [], laidByText := true, laidKinds := [.data, .data], laidTests := true, laidLooks := .later }
def TypesTurnedUptoCardSaid : Prop := Claim7.holds Tryd.pinned (.plain (OpenSpec.upto typesTurnedSpec)) typesTurnedUptoCard
end Rows
end Go.Proofs.YtakjkhfglihggabDoor
