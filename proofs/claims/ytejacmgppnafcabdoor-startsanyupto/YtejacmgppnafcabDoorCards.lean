/-
  DERIVED. GIVEN WITH THE SEED: THE CARDS: each row of YtejacmgppnafcabDoorRows.lean that lists a variable, with what it lists TIED to the program's text (the seventh form; the later family's looks); each row that meets fmt, with fmt's text TOLD by the authors' own Lean function (tested against real Go, not proved from fmt's source: count such statements apart). THE CARD IS WHAT COUNTS. Prove the row's statement (the work); the ties are given (YtejacmgppnafcabDoorTie.lean); close each card by the builder's one call (the guide's Derived/Test/ToyasCard.lean, 'card_holds'). Laid BY PROGRAM, IN A SANDBOX (cutbox-door.mjs). By AI agents, Wed Nov 11 2026. No macro, syntax, notation, axiom, sorry.
-/
import Derived.Test.YtejacmgppnafcabDoorRows
import GoSem.ClaimSeven
namespace Go.Proofs.YtejacmgppnafcabDoor
namespace Rows

/-- THE TIED CARD OF 'belfrylaw10.StartsAny'. -/
def startsAnyCard : Claim7 := { stood := { row := startsAnyRow, standIns := [], harness := (true, "b7a511a5872a7787552065ae864080cf9f14374f3f59a9b8c4fc278382d470bc"), looks := false }, kinds := [], alts := [], laidByText := true, laidKinds := [.data, .data], laidTests := true, laidLooks := .later }
def StartsAnyCardSaid : Prop := Claim7.holds Tryd.pinned (.plain (OpenSpec.ofChange startsAnySpec)) startsAnyCard

/-- THE SECOND FORM's CARD OF 'belfrylaw10.StartsAny'. -/
def startsAnyUptoCard : Claim7 := { stood := { row := startsAnyUptoRow, standIns := [], harness := (true, "b7a511a5872a7787552065ae864080cf9f14374f3f59a9b8c4fc278382d470bc"), looks := false }, kinds := [], alts := [], laidByText := true, laidKinds := [.data, .data], laidTests := true, laidLooks := .later }
def StartsAnyUptoCardSaid : Prop := Claim7.holds Tryd.pinned (.plain (OpenSpec.upto startsAnySpec)) startsAnyUptoCard
end Rows
end Go.Proofs.YtejacmgppnafcabDoor
