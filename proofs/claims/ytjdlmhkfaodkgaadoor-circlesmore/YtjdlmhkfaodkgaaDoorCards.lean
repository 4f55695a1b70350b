/-
  DERIVED. GIVEN WITH THE SEED: THE CARDS: each row of YtjdlmhkfaodkgaaDoorRows.lean that lists a variable, with what it lists TIED to the program's text (the seventh form; the later family's looks); each row that meets fmt, with fmt's text TOLD by the authors' own Lean function (tested against real Go, not proved from fmt's source: count such statements apart). THE CARD IS WHAT COUNTS. Prove the row's statement (the work); the ties are given (YtjdlmhkfaodkgaaDoorTie.lean); close each card by the builder's one call (the guide's Derived/Test/ToyasCard.lean, 'card_holds'). Laid BY PROGRAM, IN A SANDBOX (cutbox-door.mjs). By AI agents, Wed Nov 11 2026. No macro, syntax, notation, axiom, sorry.
-/
import Derived.Test.YtjdlmhkfaodkgaaDoorRows
import GoSem.ClaimSeven
namespace Go.Proofs.YtjdlmhkfaodkgaaDoor
namespace Rows

/-- THE TIED CARD OF 'belfrylaw09.CirclesRound'. -/
def circlesRoundCard : Claim7 := { stood := { row := circlesRoundRow, standIns := [], harness := (true, "dbcfa382f3344d6d78b9d3c1738c21b62f0a7d25f27a166032a920bab8d3369c"), looks := false }, kinds := [], alts := [], laidByText := true, laidKinds := [.data, .data], laidTests := true, laidLooks := .later }
def CirclesRoundCardSaid : Prop := Claim7.holds Tryd.pinned (.plain (OpenSpec.ofChange circlesRoundSpec)) circlesRoundCard

/-- THE TIED CARD OF 'belfrylaw09.CirclesOrdered'. -/
def circlesOrderedCard : Claim7 := { stood := { row := circlesOrderedRow, standIns := [], harness := (true, "dbcfa382f3344d6d78b9d3c1738c21b62f0a7d25f27a166032a920bab8d3369c"), looks := false }, kinds := [], alts := [], laidByText := true, laidKinds := [.data, .data], laidTests := true, laidLooks := .later }
def CirclesOrderedCardSaid : Prop := Claim7.holds Tryd.pinned (.plain (OpenSpec.ofChange circlesOrderedSpec)) circlesOrderedCard

/-- THE TIED CARD OF 'belfrylaw09.CirclesRing'. -/
def circlesRingCard : Claim7 := { stood := { row := circlesRingRow, standIns := [], harness := (true, "dbcfa382f3344d6d78b9d3c1738c21b62f0a7d25f27a166032a920bab8d3369c"), looks := false }, kinds := [], alts := [], laidByText := true, laidKinds := [.data, .data], laidTests := true, laidLooks := .later }
def CirclesRingCardSaid : Prop := Claim7.holds Tryd.pinned (.plain (OpenSpec.ofChange circlesRingSpec)) circlesRingCard

/-- THE TIED CARD OF 'belfrylaw09.CirclesShort'. -/
def circlesShortCard : Claim7 := { stood := { row := circlesShortRow, standIns := [], harness := (true, "dbcfa382f3344d6d78b9d3c1738c21b62f0a7d25f27a166032a920bab8d3369c"), looks := false }, kinds := [], alts := [], laidByText := true, laidKinds := [.data, .data], laidTests := true, laidLooks := .later }
def CirclesShortCardSaid : Prop := Claim7.holds Tryd.pinned (.plain (OpenSpec.ofChange circlesShortSpec)) circlesShortCard

/-- THE TIED CARD OF 'belfrylaw09.CirclesMore'. -/
def circlesMoreCard : Claim7 := { stood := { row := circlesMoreRow, standIns := [], harness := (true, "dbcfa382f3344d6d78b9d3c1738c21b62f0a7d25f27a166032a920bab8d3369c"), looks := false }, kinds := [], alts := [], laidByText := true, laidKinds := [.data, .data], laidTests := true, laidLooks := .later }
def CirclesMoreCardSaid : Prop := Claim7.holds Tryd.pinned (.plain (OpenSpec.ofChange circlesMoreSpec)) circlesMoreCard

/-- THE SECOND FORM's CARD OF 'belfrylaw09.CirclesRound'. -/
def circlesRoundUptoCard : Claim7 := { stood := { row := circlesRoundUptoRow, standIns := [], harness := (true, "dbcfa382f3344d6d78b9d3c1738c21b62f0a7d25f27a166032a920bab8d3369c"), looks := false }, kinds := [], alts := [], laidByText := true, laidKinds := [.data, .data], laidTests := true, laidLooks := .later }
def CirclesRoundUptoCardSaid : Prop := Claim7.holds Tryd.pinned (.plain (OpenSpec.upto circlesRoundSpec)) circlesRoundUptoCard

/-- THE SECOND FORM's CARD OF 'belfrylaw09.CirclesOrdered'. -/
def circlesOrderedUptoCard : Claim7 := { stood := { row := circlesOrderedUptoRow, standIns := [], harness := (true, "dbcfa382f3344d6d78b9d3c1738c21b62f0a7d25f27a166032a920bab8d3369c"), looks := false }, kinds := [], alts := [], laidByText := true, laidKinds := [.data, .data], laidTests := true, laidLooks := .later }
def CirclesOrderedUptoCardSaid : Prop := Claim7.holds Tryd.pinned (.plain (OpenSpec.upto circlesOrderedSpec)) circlesOrderedUptoCard

/-- THE SECOND FORM's CARD OF 'belfrylaw09.CirclesRing'. -/
def circlesRingUptoCard : Claim7 := { stood := { row := circlesRingUptoRow, standIns := [], harness := (true, "dbcfa382f3344d6d78b9d3c1738c21b62f0a7d25f27a166032a920bab8d3369c"), looks := false }, kinds := [], alts := [], laidByText := true, laidKinds := [.data, .data], laidTests := true, laidLooks := .later }
def CirclesRingUptoCardSaid : Prop := Claim7.holds Tryd.pinned (.plain (OpenSpec.upto circlesRingSpec)) circlesRingUptoCard

/-- THE SECOND FORM's CARD OF 'belfrylaw09.CirclesShort'. -/
def circlesShortUptoCard : Claim7 := { stood := { row := circlesShortUptoRow, standIns := [], harness := (true, "dbcfa382f3344d6d78b9d3c1738c21b62f0a7d25f27a166032a920bab8d3369c"), looks := false }, kinds := [], alts := [], laidByText := true, laidKinds := [.data, .data], laidTests := true, laidLooks := .later }
def CirclesShortUptoCardSaid : Prop := Claim7.holds Tryd.pinned (.plain (OpenSpec.upto circlesShortSpec)) circlesShortUptoCard

/-- THE SECOND FORM's CARD OF 'belfrylaw09.CirclesMore'. -/
def circlesMoreUptoCard : Claim7 := { stood := { row := circlesMoreUptoRow, standIns := [], harness := (true, "dbcfa382f3344d6d78b9d3c1738c21b62f0a7d25f27a166032a920bab8d3369c"), looks := false }, kinds := [], alts := [], laidByText := true, laidKinds := [.data, .data], laidTests := true, laidLooks := .later }
def CirclesMoreUptoCardSaid : Prop := Claim7.holds Tryd.pinned (.plain (OpenSpec.upto circlesMoreSpec)) circlesMoreUptoCard
end Rows
end Go.Proofs.YtjdlmhkfaodkgaaDoor
