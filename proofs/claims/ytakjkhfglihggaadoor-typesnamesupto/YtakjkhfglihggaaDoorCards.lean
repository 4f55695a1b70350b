/-
  DERIVED. GIVEN WITH THE SEED: THE CARDS: each row of YtakjkhfglihggaaDoorRows.lean that lists a variable, with what it lists TIED to the program's text (the seventh form; the later family's looks); each row that meets fmt, with fmt's text TOLD by the authors' own Lean function (tested against real Go, not proved from fmt's source: count such statements apart). THE CARD IS WHAT COUNTS. Prove the row's statement (the work); the ties are given (YtakjkhfglihggaaDoorTie.lean); close each card by the builder's one call (the guide's Derived/Test/ToyasCard.lean, 'card_holds'). Laid BY PROGRAM, IN A SANDBOX (cutbox-door.mjs). By AI agents, Wed Nov 11 2026. No macro, syntax, notation, axiom, sorry.
-/
import Derived.Test.YtakjkhfglihggaaDoorRows
import GoSem.ClaimSeven
namespace Go.Proofs.YtakjkhfglihggaaDoor
namespace Rows

/-- THE TIED CARD OF 'belfrylaw08.TypesOf'. -/
def typesOfCard : Claim7 := { stood := { row := typesOfRow, standIns := [], harness := (true, "d711a1b1008bef7a858ca8b46b4f07235ccb85e24a17bcdeb79c1aadfaf2bd19"), looks := false }, kinds := [], alts := [], laidByText := true, laidKinds := [.data, .data], laidTests := true, laidLooks := .later }
def TypesOfCardSaid : Prop := Claim7.holds Tryd.pinned (.plain (OpenSpec.ofChange typesOfSpec)) typesOfCard

/-- THE TIED CARD OF 'belfrylaw08.TypesChecks'. -/
def typesChecksCard : Claim7 := { stood := { row := typesChecksRow, standIns := [], harness := (true, "d711a1b1008bef7a858ca8b46b4f07235ccb85e24a17bcdeb79c1aadfaf2bd19"), looks := false }, kinds := [], alts := [], laidByText := true, laidKinds := [.data, .data], laidTests := true, laidLooks := .later }
def TypesChecksCardSaid : Prop := Claim7.holds Tryd.pinned (.plain (OpenSpec.ofChange typesChecksSpec)) typesChecksCard

/-- THE TIED CARD OF 'belfrylaw08.TypesParts'. -/
def typesPartsCard : Claim7 := { stood := { row := typesPartsRow, standIns := [], harness := (true, "d711a1b1008bef7a858ca8b46b4f07235ccb85e24a17bcdeb79c1aadfaf2bd19"), looks := false }, kinds := [], alts := [], laidByText := true, laidKinds := [.data, .data], laidTests := true, laidLooks := .later }
def TypesPartsCardSaid : Prop := Claim7.holds Tryd.pinned (.plain (OpenSpec.ofChange typesPartsSpec)) typesPartsCard

/-- THE TIED CARD OF 'belfrylaw08.TypesChanged'. -/
def typesChangedCard : Claim7 := { stood := { row := typesChangedRow, standIns := [], harness := (true, "d711a1b1008bef7a858ca8b46b4f07235ccb85e24a17bcdeb79c1aadfaf2bd19"), looks := false }, kinds := [], alts := [], laidByText := true, laidKinds := [.data, .data], laidTests := true, laidLooks := .later }
def TypesChangedCardSaid : Prop := Claim7.holds Tryd.pinned (.plain (OpenSpec.ofChange typesChangedSpec)) typesChangedCard

/-- THE TIED CARD OF 'belfrylaw08.TypesFlows'. -/
def typesFlowsCard : Claim7 := { stood := { row := typesFlowsRow, standIns := [], harness := (true, "d711a1b1008bef7a858ca8b46b4f07235ccb85e24a17bcdeb79c1aadfaf2bd19"), looks := false }, kinds := [], alts := [], laidByText := true, laidKinds := [.data, .data], laidTests := true, laidLooks := .later }
def TypesFlowsCardSaid : Prop := Claim7.holds Tryd.pinned (.plain (OpenSpec.ofChange typesFlowsSpec)) typesFlowsCard

/-- THE TIED CARD OF 'belfrylaw08.TypesNames'. -/
def typesNamesCard : Claim7 := { stood := { row := typesNamesRow, standIns := [], harness := (true, "d711a1b1008bef7a858ca8b46b4f07235ccb85e24a17bcdeb79c1aadfaf2bd19"), looks := false }, kinds := [], alts := [], laidByText := true, laidKinds := [.data, .data], laidTests := true, laidLooks := .later }
def TypesNamesCardSaid : Prop := Claim7.holds Tryd.pinned (.plain (OpenSpec.ofChange typesNamesSpec)) typesNamesCard

/-- THE SECOND FORM's CARD OF 'belfrylaw08.TypesOf'. -/
def typesOfUptoCard : Claim7 := { stood := { row := typesOfUptoRow, standIns := [], harness := (true, "d711a1b1008bef7a858ca8b46b4f07235ccb85e24a17bcdeb79c1aadfaf2bd19"), looks := false }, kinds := [], alts := [], laidByText := true, laidKinds := [.data, .data], laidTests := true, laidLooks := .later }
def TypesOfUptoCardSaid : Prop := Claim7.holds Tryd.pinned (.plain (OpenSpec.upto typesOfSpec)) typesOfUptoCard

/-- THE SECOND FORM's CARD OF 'belfrylaw08.TypesChecks'. -/
def typesChecksUptoCard : Claim7 := { stood := { row := typesChecksUptoRow, standIns := [], harness := (true, "d711a1b1008bef7a858ca8b46b4f07235ccb85e24a17bcdeb79c1aadfaf2bd19"), looks := false }, kinds := [], alts := [], laidByText := true, laidKinds := [.data, .data], laidTests := true, laidLooks := .later }
def TypesChecksUptoCardSaid : Prop := Claim7.holds Tryd.pinned (.plain (OpenSpec.upto typesChecksSpec)) typesChecksUptoCard

/-- THE SECOND FORM's CARD OF 'belfrylaw08.TypesParts'. -/
def typesPartsUptoCard : Claim7 := { stood := { row := typesPartsUptoRow, standIns := [], harness := (true, "d711a1b1008bef7a858ca8b46b4f07235ccb85e24a17bcdeb79c1aadfaf2bd19"), looks := false }, kinds := [], alts := [], laidByText := true, laidKinds := [.data, .data], laidTests := true, laidLooks := .later }
def TypesPartsUptoCardSaid : Prop := Claim7.holds Tryd.pinned (.plain (OpenSpec.upto typesPartsSpec)) typesPartsUptoCard

/-- THE SECOND FORM's CARD OF 'belfrylaw08.TypesChanged'. -/
def typesChangedUptoCard : Claim7 := { stood := { row := typesChangedUptoRow, standIns := [], harness := (true, "d711a1b1008bef7a858ca8b46b4f07235ccb85e24a17bcdeb79c1aadfaf2bd19"), looks := false }, kinds := [], alts := [], laidByText := true, laidKinds := [.data, .data], laidTests := true, laidLooks := .later }
def TypesChangedUptoCardSaid : Prop := Claim7.holds Tryd.pinned (.plain (OpenSpec.upto typesChangedSpec)) typesChangedUptoCard

/-- THE SECOND FORM's CARD OF 'belfrylaw08.TypesFlows'. -/
def typesFlowsUptoCard : Claim7 := { stood := { row := typesFlowsUptoRow, standIns := [], harness := (true, "d711a1b1008bef7a858ca8b46b4f07235ccb85e24a17bcdeb79c1aadfaf2bd19"), looks := false }, kinds := [], alts := [], laidByText := true, laidKinds := [.data, .data], laidTests := true, laidLooks := .later }
def TypesFlowsUptoCardSaid : Prop := Claim7.holds Tryd.pinned (.plain (OpenSpec.upto typesFlowsSpec)) typesFlowsUptoCard

/-- THE SECOND FORM's CARD OF 'belfrylaw08.TypesNames'. -/
def typesNamesUptoCard : Claim7 := { stood := { row := typesNamesUptoRow, standIns := [], harness := (true, "d711a1b1008bef7a858ca8b46b4f07235ccb85e24a17bcdeb79c1aadfaf2bd19"), looks := false }, kinds := [], alts := [], laidByText := true, laidKinds := [.data, .data], laidTests := true, laidLooks := .later }
def TypesNamesUptoCardSaid : Prop := Claim7.holds Tryd.pinned (.plain (OpenSpec.upto typesNamesSpec)) typesNamesUptoCard
end Rows
end Go.Proofs.YtakjkhfglihggaaDoor
