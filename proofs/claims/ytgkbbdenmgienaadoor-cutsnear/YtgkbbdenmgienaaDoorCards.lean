/-
  DERIVED. GIVEN WITH THE SEED: THE CARDS: each row of YtgkbbdenmgienaaDoorRows.lean that lists a variable, with what it lists TIED to the program's text (the seventh form; the later family's looks); each row that meets fmt, with fmt's text TOLD by the authors' own Lean function (tested against real Go, not proved from fmt's source: count such statements apart). THE CARD IS WHAT COUNTS. Prove the row's statement (the work); the ties are given (YtgkbbdenmgienaaDoorTie.lean); close each card by the builder's one call (the guide's Derived/Test/ToyasCard.lean, 'card_holds'). Laid BY PROGRAM, IN A SANDBOX (cutbox-door.mjs). By AI agents, Wed Nov 11 2026. No macro, syntax, notation, axiom, sorry.
-/
import Derived.Test.YtgkbbdenmgienaaDoorRows
import GoSem.ClaimSeven
namespace Go.Proofs.YtgkbbdenmgienaaDoor
namespace Rows

/-- THE TIED CARD OF 'belfrylaw15.CutsMeet'. -/
def cutsMeetCard : Claim7 := { stood := { row := cutsMeetRow, standIns := [], harness := (true, "f80d6c84430c10267210a83c47d3914faac41ca782e3a62457c924a4f985f4f8"), looks := false }, kinds := [], alts := [], laidByText := true, laidKinds := [.data, .data], laidTests := true, laidLooks := .later }
def CutsMeetCardSaid : Prop := Claim7.holds Tryd.pinned (.plain (OpenSpec.ofChange cutsMeetSpec)) cutsMeetCard

/-- THE TIED CARD OF 'belfrylaw15.CutsNear'. -/
def cutsNearCard : Claim7 := { stood := { row := cutsNearRow, standIns := [], harness := (true, "f80d6c84430c10267210a83c47d3914faac41ca782e3a62457c924a4f985f4f8"), looks := false }, kinds := [], alts := [], laidByText := true, laidKinds := [.data, .data], laidTests := true, laidLooks := .later }
def CutsNearCardSaid : Prop := Claim7.holds Tryd.pinned (.plain (OpenSpec.ofChange cutsNearSpec)) cutsNearCard

/-- THE SECOND FORM's CARD OF 'belfrylaw15.CutsMeet'. -/
def cutsMeetUptoCard : Claim7 := { stood := { row := cutsMeetUptoRow, standIns := [], harness := (true, "f80d6c84430c10267210a83c47d3914faac41ca782e3a62457c924a4f985f4f8"), looks := false }, kinds := [], alts := [], laidByText := true, laidKinds := [.data, .data], laidTests := true, laidLooks := .later }
def CutsMeetUptoCardSaid : Prop := Claim7.holds Tryd.pinned (.plain (OpenSpec.upto cutsMeetSpec)) cutsMeetUptoCard

/-- THE SECOND FORM's CARD OF 'belfrylaw15.CutsNear'. -/
def cutsNearUptoCard : Claim7 := { stood := { row := cutsNearUptoRow, standIns := [], harness := (true, "f80d6c84430c10267210a83c47d3914faac41ca782e3a62457c924a4f985f4f8"), looks := false }, kinds := [], alts := [], laidByText := true, laidKinds := [.data, .data], laidTests := true, laidLooks := .later }
def CutsNearUptoCardSaid : Prop := Claim7.holds Tryd.pinned (.plain (OpenSpec.upto cutsNearSpec)) cutsNearUptoCard
end Rows
end Go.Proofs.YtgkbbdenmgienaaDoor
