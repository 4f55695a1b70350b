/-
  DERIVED. GIVEN WITH THE SEED: THE CARDS: each row of YtmbkdalmnfcbfaaDoorRows.lean that lists a variable, with what it lists TIED to the program's text (the seventh form; the later family's looks); each row that meets fmt, with fmt's text TOLD by the authors' own Lean function (tested against real Go, not proved from fmt's source: count such statements apart). THE CARD IS WHAT COUNTS. Prove the row's statement (the work); the ties are given (YtmbkdalmnfcbfaaDoorTie.lean); close each card by the builder's one call (the guide's Derived/Test/ToyasCard.lean, 'card_holds'). Laid BY PROGRAM, IN A SANDBOX (cutbox-door.mjs). By AI agents, Wed Nov 11 2026. No macro, syntax, notation, axiom, sorry.
-/
import Derived.Test.YtmbkdalmnfcbfaaDoorRows
import GoSem.ClaimSeven
namespace Go.Proofs.YtmbkdalmnfcbfaaDoor
namespace Rows

/-- THE TIED CARD OF 'belfrylaw03.FramesBack'. -/
def framesBackCard : Claim7 := { stood := { row := framesBackRow, standIns := [], harness := (true, "6525b21df60cf5d582edadf5f271d4a736718953109f34fb1cc0d7602dd76e27"), looks := false }, kinds := [], alts := [], laidByText := true, laidKinds := [.data], laidTests := true, laidLooks := .later }
def FramesBackCardSaid : Prop := Claim7.holds Tryd.pinned (.plain (OpenSpec.ofChange framesBackSpec)) framesBackCard

/-- THE TIED CARD OF 'belfrylaw03.FramesSpoils'. -/
def framesSpoilsCard : Claim7 := { stood := { row := framesSpoilsRow, standIns := [], harness := (true, "6525b21df60cf5d582edadf5f271d4a736718953109f34fb1cc0d7602dd76e27"), looks := false }, kinds := [], alts := [], laidByText := true, laidKinds := [.data], laidTests := true, laidLooks := .later }
def FramesSpoilsCardSaid : Prop := Claim7.holds Tryd.pinned (.plain (OpenSpec.ofChange framesSpoilsSpec)) framesSpoilsCard

/-- THE SECOND FORM's CARD OF 'belfrylaw03.FramesBack'. -/
def framesBackUptoCard : Claim7 := { stood := { row := framesBackUptoRow, standIns := [], harness := (true, "6525b21df60cf5d582edadf5f271d4a736718953109f34fb1cc0d7602dd76e27"), looks := false }, kinds := [], alts := [], laidByText := true, laidKinds := [.data], laidTests := true, laidLooks := .later }
def FramesBackUptoCardSaid : Prop := Claim7.holds Tryd.pinned (.plain (OpenSpec.upto framesBackSpec)) framesBackUptoCard

/-- THE SECOND FORM's CARD OF 'belfrylaw03.FramesSpoils'. -/
def framesSpoilsUptoCard : Claim7 := { stood := { row := framesSpoilsUptoRow, standIns := [], harness := (true, "6525b21df60cf5d582edadf5f271d4a736718953109f34fb1cc0d7602dd76e27"), looks := false }, kinds := [], alts := [], laidByText := true, laidKinds := [.data], laidTests := true, laidLooks := .later }
def FramesSpoilsUptoCardSaid : Prop := Claim7.holds Tryd.pinned (.plain (OpenSpec.upto framesSpoilsSpec)) framesSpoilsUptoCard
end Rows
end Go.Proofs.YtmbkdalmnfcbfaaDoor
