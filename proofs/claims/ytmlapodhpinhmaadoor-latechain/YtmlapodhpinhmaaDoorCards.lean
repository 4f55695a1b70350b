/-
  DERIVED. GIVEN WITH THE SEED: THE CARDS: each row of YtmlapodhpinhmaaDoorRows.lean that lists a variable, with what it lists TIED to the program's text (the seventh form; the later family's looks); each row that meets fmt, with fmt's text TOLD by the authors' own Lean function (tested against real Go, not proved from fmt's source: count such statements apart). THE CARD IS WHAT COUNTS. Prove the row's statement (the work); the ties are given (YtmlapodhpinhmaaDoorTie.lean); close each card by the builder's one call (the guide's Derived/Test/ToyasCard.lean, 'card_holds'). Laid BY PROGRAM, IN A SANDBOX (cutbox-door.mjs). By AI agents, Wed Nov 11 2026. No macro, syntax, notation, axiom, sorry.
-/
import Derived.Test.YtmlapodhpinhmaaDoorRows
import GoSem.ClaimSeven
namespace Go.Proofs.YtmlapodhpinhmaaDoor
namespace Rows

/-- THE TIED CARD OF 'belfrylaw14.LateTells'. -/
def lateTellsCard : Claim7 := { stood := { row := lateTellsRow, standIns := [], harness := (true, "e985ac89ceee277c92d2fc20412541916cceb85279dab1fcd5cfc802019e721e"), looks := false }, kinds := [], alts := [], laidByText := true, laidKinds := [.data, .data], laidTests := true, laidLooks := .later }
def LateTellsCardSaid : Prop := Claim7.holds Tryd.pinned (.plain (OpenSpec.ofChange lateTellsSpec)) lateTellsCard

/-- THE TIED CARD OF 'belfrylaw14.LateLeast'. -/
def lateLeastCard : Claim7 := { stood := { row := lateLeastRow, standIns := [], harness := (true, "e985ac89ceee277c92d2fc20412541916cceb85279dab1fcd5cfc802019e721e"), looks := false }, kinds := [], alts := [], laidByText := true, laidKinds := [.data, .data], laidTests := true, laidLooks := .later }
def LateLeastCardSaid : Prop := Claim7.holds Tryd.pinned (.plain (OpenSpec.ofChange lateLeastSpec)) lateLeastCard

/-- THE TIED CARD OF 'belfrylaw14.LateChain'. -/
def lateChainCard : Claim7 := { stood := { row := lateChainRow, standIns := [], harness := (true, "e985ac89ceee277c92d2fc20412541916cceb85279dab1fcd5cfc802019e721e"), looks := false }, kinds := [], alts := [], laidByText := true, laidKinds := [.data, .data], laidTests := true, laidLooks := .later }
def LateChainCardSaid : Prop := Claim7.holds Tryd.pinned (.plain (OpenSpec.ofChange lateChainSpec)) lateChainCard

/-- THE TIED CARD OF 'belfrylaw14.LateMore'. -/
def lateMoreCard : Claim7 := { stood := { row := lateMoreRow, standIns := [], harness := (true, "e985ac89ceee277c92d2fc20412541916cceb85279dab1fcd5cfc802019e721e"), looks := false }, kinds := [], alts := [], laidByText := true, laidKinds := [.data, .data], laidTests := true, laidLooks := .later }
def LateMoreCardSaid : Prop := Claim7.holds Tryd.pinned (.plain (OpenSpec.ofChange lateMoreSpec)) lateMoreCard

/-- THE SECOND FORM's CARD OF 'belfrylaw14.LateTells'. -/
def lateTellsUptoCard : Claim7 := { stood := { row := lateTellsUptoRow, standIns := [], harness := (true, "e985ac89ceee277c92d2fc20412541916cceb85279dab1fcd5cfc802019e721e"), looks := false }, kinds := [], alts := [], laidByText := true, laidKinds := [.data, .data], laidTests := true, laidLooks := .later }
def LateTellsUptoCardSaid : Prop := Claim7.holds Tryd.pinned (.plain (OpenSpec.upto lateTellsSpec)) lateTellsUptoCard

/-- THE SECOND FORM's CARD OF 'belfrylaw14.LateLeast'. -/
def lateLeastUptoCard : Claim7 := { stood := { row := lateLeastUptoRow, standIns := [], harness := (true, "e985ac89ceee277c92d2fc20412541916cceb85279dab1fcd5cfc802019e721e"), looks := false }, kinds := [], alts := [], laidByText := true, laidKinds := [.data, .data], laidTests := true, laidLooks := .later }
def LateLeastUptoCardSaid : Prop := Claim7.holds Tryd.pinned (.plain (OpenSpec.upto lateLeastSpec)) lateLeastUptoCard

/-- THE SECOND FORM's CARD OF 'belfrylaw14.LateChain'. -/
def lateChainUptoCard : Claim7 := { stood := { row := lateChainUptoRow, standIns := [], harness := (true, "e985ac89ceee277c92d2fc20412541916cceb85279dab1fcd5cfc802019e721e"), looks := false }, kinds := [], alts := [], laidByText := true, laidKinds := [.data, .data], laidTests := true, laidLooks := .later }
def LateChainUptoCardSaid : Prop := Claim7.holds Tryd.pinned (.plain (OpenSpec.upto lateChainSpec)) lateChainUptoCard

/-- THE SECOND FORM's CARD OF 'belfrylaw14.LateMore'. -/
def lateMoreUptoCard : Claim7 := { stood := { row := lateMoreUptoRow, standIns := [], harness := (true, "e985ac89ceee277c92d2fc20412541916cceb85279dab1fcd5cfc802019e721e"), looks := false }, kinds := [], alts := [], laidByText := true, laidKinds := [.data, .data], laidTests := true, laidLooks := .later }
def LateMoreUptoCardSaid : Prop := Claim7.holds Tryd.pinned (.plain (OpenSpec.upto lateMoreSpec)) lateMoreUptoCard
end Rows
end Go.Proofs.YtmlapodhpinhmaaDoor
