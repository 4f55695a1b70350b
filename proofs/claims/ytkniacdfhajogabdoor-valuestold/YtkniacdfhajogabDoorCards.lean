/-
  DERIVED. GIVEN WITH THE SEED: THE CARDS: each row of YtkniacdfhajogabDoorRows.lean that lists a variable, with what it lists TIED to the program's text (the seventh form; the later family's looks); each row that meets fmt, with fmt's text TOLD by the authors' own Lean function (tested against real Go, not proved from fmt's source: count such statements apart). THE CARD IS WHAT COUNTS. Prove the row's statement (the work); the ties are given (YtkniacdfhajogabDoorTie.lean); close each card by the builder's one call (the guide's Derived/Test/ToyasCard.lean, 'card_holds'). Laid BY PROGRAM, IN A SANDBOX (cutbox-door.mjs). By AI agents, Wed Nov 11 2026. No macro, syntax, notation, axiom, sorry.
-/
import Derived.Test.YtkniacdfhajogabDoorRows
import GoSem.ClaimSeven
namespace Go.Proofs.YtkniacdfhajogabDoor
namespace Rows

/-- THE TIED CARD OF 'belfrylaw11.ValuesTold'. -/
def valuesToldCard : Claim7 := { stood := { row := valuesToldRow, standIns := [], harness := (true, "3a67a0217598a8676defb33d5664a067dab27bb99228ff1cd8a3d3c4211c8bbc"), looks := false }, kinds := [], alts := [], laidByText := true, laidKinds := [.data, .data, .data], laidTests := true, laidLooks := .later }
def ValuesToldCardSaid : Prop := Claim7.holds Tryd.pinned (.plain (OpenSpec.ofChange valuesToldSpec)) valuesToldCard

/-- THE TIED CARD OF 'belfrylaw11.ValuesRing'. -/
def valuesRingCard : Claim7 := { stood := { row := valuesRingRow, standIns := [], harness := (true, "3a67a0217598a8676defb33d5664a067dab27bb99228ff1cd8a3d3c4211c8bbc"), looks := false }, kinds := [], alts := [], laidByText := true, laidKinds := [.data, .data, .data], laidTests := true, laidLooks := .later }
def ValuesRingCardSaid : Prop := Claim7.holds Tryd.pinned (.plain (OpenSpec.ofChange valuesRingSpec)) valuesRingCard

/-- THE SECOND FORM's CARD OF 'belfrylaw11.ValuesTold'. -/
def valuesToldUptoCard : Claim7 := { stood := { row := valuesToldUptoRow, standIns := [], harness := (true, "3a67a0217598a8676defb33d5664a067dab27bb99228ff1cd8a3d3c4211c8bbc"), looks := false }, kinds := [], alts := [], laidByText := true, laidKinds := [.data, .data, .data], laidTests := true, laidLooks := .later }
def ValuesToldUptoCardSaid : Prop := Claim7.holds Tryd.pinned (.plain (OpenSpec.upto valuesToldSpec)) valuesToldUptoCard

/-- THE SECOND FORM's CARD OF 'belfrylaw11.ValuesRing'. -/
def valuesRingUptoCard : Claim7 := { stood := { row := valuesRingUptoRow, standIns := [], harness := (true, "3a67a0217598a8676defb33d5664a067dab27bb99228ff1cd8a3d3c4211c8bbc"), looks := false }, kinds := [], alts := [], laidByText := true, laidKinds := [.data, .data, .data], laidTests := true, laidLooks := .later }
def ValuesRingUptoCardSaid : Prop := Claim7.holds Tryd.pinned (.plain (OpenSpec.upto valuesRingSpec)) valuesRingUptoCard
end Rows
end Go.Proofs.YtkniacdfhajogabDoor
