/-
  DERIVED. GIVEN WITH THE SEED: THE CARDS: each row of YtilpoiihoikhlaaDoorRows.lean that lists a variable, with what it lists TIED to the program's text (the seventh form; the later family's looks); each row that meets fmt, with fmt's text TOLD by the authors' own Lean function (tested against real Go, not proved from fmt's source: count such statements apart). THE CARD IS WHAT COUNTS. Prove the row's statement (the work); the ties are given (YtilpoiihoikhlaaDoorTie.lean); close each card by the builder's one call (the guide's Derived/Test/ToyasCard.lean, 'card_holds'). Laid BY PROGRAM, IN A SANDBOX (cutbox-door.mjs). By AI agents, Wed Nov 11 2026. No macro, syntax, notation, axiom, sorry.
-/
import Derived.Test.YtilpoiihoikhlaaDoorRows
import GoSem.ClaimSeven
namespace Go.Proofs.YtilpoiihoikhlaaDoor
namespace Rows

/-- THE TIED CARD OF 'belfrylaw07.NamesChecks'. -/
def namesChecksCard : Claim7 := { stood := { row := namesChecksRow, standIns := [], harness := (true, "d9456d4945086be666637161e2aa5d768b1e134b286ffc2d9331e4efbec2e097"), looks := false }, kinds := [], alts := [], laidByText := true, laidKinds := [.data, .data], laidTests := true, laidLooks := .later }
def NamesChecksCardSaid : Prop := Claim7.holds Tryd.pinned (.plain (OpenSpec.ofChange namesChecksSpec)) namesChecksCard

/-- THE TIED CARD OF 'belfrylaw07.NamesFound'. -/
def namesFoundCard : Claim7 := { stood := { row := namesFoundRow, standIns := [], harness := (true, "d9456d4945086be666637161e2aa5d768b1e134b286ffc2d9331e4efbec2e097"), looks := false }, kinds := [], alts := [], laidByText := true, laidKinds := [.data, .data], laidTests := true, laidLooks := .later }
def NamesFoundCardSaid : Prop := Claim7.holds Tryd.pinned (.plain (OpenSpec.ofChange namesFoundSpec)) namesFoundCard

/-- THE TIED CARD OF 'belfrylaw07.NamesLess'. -/
def namesLessCard : Claim7 := { stood := { row := namesLessRow, standIns := [], harness := (true, "d9456d4945086be666637161e2aa5d768b1e134b286ffc2d9331e4efbec2e097"), looks := false }, kinds := [], alts := [], laidByText := true, laidKinds := [.data, .data], laidTests := true, laidLooks := .later }
def NamesLessCardSaid : Prop := Claim7.holds Tryd.pinned (.plain (OpenSpec.ofChange namesLessSpec)) namesLessCard

/-- THE TIED CARD OF 'belfrylaw07.NamesNew'. -/
def namesNewCard : Claim7 := { stood := { row := namesNewRow, standIns := [], harness := (true, "d9456d4945086be666637161e2aa5d768b1e134b286ffc2d9331e4efbec2e097"), looks := false }, kinds := [], alts := [], laidByText := true, laidKinds := [.data, .data], laidTests := true, laidLooks := .later }
def NamesNewCardSaid : Prop := Claim7.holds Tryd.pinned (.plain (OpenSpec.ofChange namesNewSpec)) namesNewCard

/-- THE TIED CARD OF 'belfrylaw07.NamesTurned'. -/
def namesTurnedCard : Claim7 := { stood := { row := namesTurnedRow, standIns := [], harness := (true, "d9456d4945086be666637161e2aa5d768b1e134b286ffc2d9331e4efbec2e097"), looks := false }, kinds := [], alts := [], laidByText := true, laidKinds := [.data, .data], laidTests := true, laidLooks := .later }
def NamesTurnedCardSaid : Prop := Claim7.holds Tryd.pinned (.plain (OpenSpec.ofChange namesTurnedSpec)) namesTurnedCard

/-- THE SECOND FORM's CARD OF 'belfrylaw07.NamesChecks'. -/
def namesChecksUptoCard : Claim7 := { stood := { row := namesChecksUptoRow, standIns := [], harness := (true, "d9456d4945086be666637161e2aa5d768b1e134b286ffc2d9331e4efbec2e097"), looks := false }, kinds := [], alts := [], laidByText := true, laidKinds := [.data, .data], laidTests := true, laidLooks := .later }
def NamesChecksUptoCardSaid : Prop := Claim7.holds Tryd.pinned (.plain (OpenSpec.upto namesChecksSpec)) namesChecksUptoCard

/-- THE SECOND FORM's CARD OF 'belfrylaw07.NamesFound'. -/
def namesFoundUptoCard : Claim7 := { stood := { row := namesFoundUptoRow, standIns := [], harness := (true, "d9456d4945086be666637161e2aa5d768b1e134b286ffc2d9331e4efbec2e097"), looks := false }, kinds := [], alts := [], laidByText := true, laidKinds := [.data, .data], laidTests := true, laidLooks := .later }
def NamesFoundUptoCardSaid : Prop := Claim7.holds Tryd.pinned (.plain (OpenSpec.upto namesFoundSpec)) namesFoundUptoCard

/-- THE SECOND FORM's CARD OF 'belfrylaw07.NamesLess'. -/
def namesLessUptoCard : Claim7 := { stood := { row := namesLessUptoRow, standIns := [], harness := (true, "d9456d4945086be666637161e2aa5d768b1e134b286ffc2d9331e4efbec2e097"), looks := false }, kinds := [], alts := [], laidByText := true, laidKinds := [.data, .data], laidTests := true, laidLooks := .later }
def NamesLessUptoCardSaid : Prop := Claim7.holds Tryd.pinned (.plain (OpenSpec.upto namesLessSpec)) namesLessUptoCard

/-- THE SECOND FORM's CARD OF 'belfrylaw07.NamesNew'. -/
def namesNewUptoCard : Claim7 := { stood := { row := namesNewUptoRow, standIns := [], harness := (true, "d9456d4945086be666637161e2aa5d768b1e134b286ffc2d9331e4efbec2e097"), looks := false }, kinds := [], alts := [], laidByText := true, laidKinds := [.data, .data], laidTests := true, laidLooks := .later }
def NamesNewUptoCardSaid : Prop := Claim7.holds Tryd.pinned (.plain (OpenSpec.upto namesNewSpec)) namesNewUptoCard

/-- THE SECOND FORM's CARD OF 'belfrylaw07.NamesTurned'. -/
def namesTurnedUptoCard : Claim7 := { stood := { row := namesTurnedUptoRow, standIns := [], harness := (true, "d9456d4945086be666637161e2aa5d768b1e134b286ffc2d9331e4efbec2e097"), looks := false }, kinds := [], alts := [], laidByText := true, laidKinds := [.data, .data], laidTests := true, laidLooks := .later }
def NamesTurnedUptoCardSaid : Prop := Claim7.holds Tryd.pinned (.plain (OpenSpec.upto namesTurnedSpec)) namesTurnedUptoCard
end Rows
end Go.Proofs.YtilpoiihoikhlaaDoor
