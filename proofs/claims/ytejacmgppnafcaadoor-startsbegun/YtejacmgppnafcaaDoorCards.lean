/-
  DERIVED. GIVEN WITH THE SEED: THE CARDS: each row of YtejacmgppnafcaaDoorRows.lean that lists a variable, with what it lists TIED to the program's text (the seventh form; the later family's looks); each row that meets fmt, with fmt's text TOLD by the authors' own Lean function (tested against real Go, not proved from fmt's source: count such statements apart). THE CARD IS WHAT COUNTS. Prove the row's statement (the work); the ties are given (YtejacmgppnafcaaDoorTie.lean); close each card by the builder's one call (the guide's Derived/Test/ToyasCard.lean, 'card_holds'). Laid BY PROGRAM, IN A SANDBOX (cutbox-door.mjs). By AI agents, Wed Nov 11 2026. No macro, syntax, notation, axiom, sorry.
-/
import Derived.Test.YtejacmgppnafcaaDoorRows
import GoSem.ClaimSeven
namespace Go.Proofs.YtejacmgppnafcaaDoor
namespace Rows

/-- THE TIED CARD OF 'belfrylaw10.StartsOf'. -/
def startsOfCard : Claim7 := { stood := { row := startsOfRow, standIns := [], harness := (true, "3e5f257663e0ae55e6a47ace758e3d9a63e07c22eeae382ea08fcf038008303b"), looks := false }, kinds := [], alts := [], laidByText := true, laidKinds := [.data, .data], laidTests := true, laidLooks := .later }
def StartsOfCardSaid : Prop := Claim7.holds Tryd.pinned (.plain (OpenSpec.ofChange startsOfSpec)) startsOfCard

/-- THE TIED CARD OF 'belfrylaw10.StartsChecks'. -/
def startsChecksCard : Claim7 := { stood := { row := startsChecksRow, standIns := [], harness := (true, "3e5f257663e0ae55e6a47ace758e3d9a63e07c22eeae382ea08fcf038008303b"), looks := false }, kinds := [], alts := [], laidByText := true, laidKinds := [.data, .data], laidTests := true, laidLooks := .later }
def StartsChecksCardSaid : Prop := Claim7.holds Tryd.pinned (.plain (OpenSpec.ofChange startsChecksSpec)) startsChecksCard

/-- THE TIED CARD OF 'belfrylaw10.StartsRows'. -/
def startsRowsCard : Claim7 := { stood := { row := startsRowsRow, standIns := [], harness := (true, "3e5f257663e0ae55e6a47ace758e3d9a63e07c22eeae382ea08fcf038008303b"), looks := false }, kinds := [], alts := [], laidByText := true, laidKinds := [.data, .data], laidTests := true, laidLooks := .later }
def StartsRowsCardSaid : Prop := Claim7.holds Tryd.pinned (.plain (OpenSpec.ofChange startsRowsSpec)) startsRowsCard

/-- THE TIED CARD OF 'belfrylaw10.StartsParts'. -/
def startsPartsCard : Claim7 := { stood := { row := startsPartsRow, standIns := [], harness := (true, "3e5f257663e0ae55e6a47ace758e3d9a63e07c22eeae382ea08fcf038008303b"), looks := false }, kinds := [], alts := [], laidByText := true, laidKinds := [.data, .data], laidTests := true, laidLooks := .later }
def StartsPartsCardSaid : Prop := Claim7.holds Tryd.pinned (.plain (OpenSpec.ofChange startsPartsSpec)) startsPartsCard

/-- THE TIED CARD OF 'belfrylaw10.StartsLess'. -/
def startsLessCard : Claim7 := { stood := { row := startsLessRow, standIns := [], harness := (true, "3e5f257663e0ae55e6a47ace758e3d9a63e07c22eeae382ea08fcf038008303b"), looks := false }, kinds := [], alts := [], laidByText := true, laidKinds := [.data, .data], laidTests := true, laidLooks := .later }
def StartsLessCardSaid : Prop := Claim7.holds Tryd.pinned (.plain (OpenSpec.ofChange startsLessSpec)) startsLessCard

/-- THE TIED CARD OF 'belfrylaw10.StartsBegun'. -/
def startsBegunCard : Claim7 := { stood := { row := startsBegunRow, standIns := [], harness := (true, "3e5f257663e0ae55e6a47ace758e3d9a63e07c22eeae382ea08fcf038008303b"), looks := false }, kinds := [], alts := [], laidByText := true, laidKinds := [.data, .data], laidTests := true, laidLooks := .later }
def StartsBegunCardSaid : Prop := Claim7.holds Tryd.pinned (.plain (OpenSpec.ofChange startsBegunSpec)) startsBegunCard

/-- THE SECOND FORM's CARD OF 'belfrylaw10.StartsOf'. -/
def startsOfUptoCard : Claim7 := { stood := { row := startsOfUptoRow, standIns := [], harness := (true, "3e5f257663e0ae55e6a47ace758e3d9a63e07c22eeae382ea08fcf038008303b"), looks := false }, kinds := [], alts := [], laidByText := true, laidKinds := [.data, .data], laidTests := true, laidLooks := .later }
def StartsOfUptoCardSaid : Prop := Claim7.holds Tryd.pinned (.plain (OpenSpec.upto startsOfSpec)) startsOfUptoCard

/-- THE SECOND FORM's CARD OF 'belfrylaw10.StartsChecks'. -/
def startsChecksUptoCard : Claim7 := { stood := { row := startsChecksUptoRow, standIns := [], harness := (true, "3e5f257663e0ae55e6a47ace758e3d9a63e07c22eeae382ea08fcf038008303b"), looks := false }, kinds := [], alts := [], laidByText := true, laidKinds := [.data, .data], laidTests := true, laidLooks := .later }
def StartsChecksUptoCardSaid : Prop := Claim7.holds Tryd.pinned (.plain (OpenSpec.upto startsChecksSpec)) startsChecksUptoCard

/-- THE SECOND FORM's CARD OF 'belfrylaw10.StartsRows'. -/
def startsRowsUptoCard : Claim7 := { stood := { row := startsRowsUptoRow, standIns := [], harness := (true, "3e5f257663e0ae55e6a47ace758e3d9a63e07c22eeae382ea08fcf038008303b"), looks := false }, kinds := [], alts := [], laidByText := true, laidKinds := [.data, .data], laidTests := true, laidLooks := .later }
def StartsRowsUptoCardSaid : Prop := Claim7.holds Tryd.pinned (.plain (OpenSpec.upto startsRowsSpec)) startsRowsUptoCard

/-- THE SECOND FORM's CARD OF 'belfrylaw10.StartsParts'. -/
def startsPartsUptoCard : Claim7 := { stood := { row := startsPartsUptoRow, standIns := [], harness := (true, "3e5f257663e0ae55e6a47ace758e3d9a63e07c22eeae382ea08fcf038008303b"), looks := false }, kinds := [], alts := [], laidByText := true, laidKinds := [.data, .data], laidTests := true, laidLooks := .later }
def StartsPartsUptoCardSaid : Prop := Claim7.holds Tryd.pinned (.plain (OpenSpec.upto startsPartsSpec)) startsPartsUptoCard

/-- THE SECOND FORM's CARD OF 'belfrylaw10.StartsLess'. -/
def startsLessUptoCard : Claim7 := { stood := { row := startsLessUptoRow, standIns := [], harness := (true, "3e5f257663e0ae55e6a47ace758e3d9a63e07c22eeae382ea08fcf038008303b"), looks := false }, kinds := [], alts := [], laidByText := true, laidKinds := [.data, .data], laidTests := true, laidLooks := .later }
def StartsLessUptoCardSaid : Prop := Claim7.holds Tryd.pinned (.plain (OpenSpec.upto startsLessSpec)) startsLessUptoCard

/-- THE SECOND FORM's CARD OF 'belfrylaw10.StartsBegun'. -/
def startsBegunUptoCard : Claim7 := { stood := { row := startsBegunUptoRow, standIns := [], harness := (true, "3e5f257663e0ae55e6a47ace758e3d9a63e07c22eeae382ea08fcf038008303b"), looks := false }, kinds := [], alts := [], laidByText := true, laidKinds := [.data, .data], laidTests := true, laidLooks := .later }
def StartsBegunUptoCardSaid : Prop := Claim7.holds Tryd.pinned (.plain (OpenSpec.upto startsBegunSpec)) startsBegunUptoCard
end Rows
end Go.Proofs.YtejacmgppnafcaaDoor
