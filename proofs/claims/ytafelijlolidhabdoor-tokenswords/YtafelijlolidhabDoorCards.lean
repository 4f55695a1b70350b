/-
  DERIVED. GIVEN WITH THE SEED: THE CARDS: each row of YtafelijlolidhabDoorRows.lean that lists a variable, with what it lists TIED to the program's text (the seventh form; the later family's looks); each row that meets fmt, with fmt's text TOLD by the authors' own Lean function (tested against real Go, not proved from fmt's source: count such statements apart). THE CARD IS WHAT COUNTS. Prove the row's statement (the work); the ties are given (YtafelijlolidhabDoorTie.lean); close each card by the builder's one call (the guide's Derived/Test/ToyasCard.lean, 'card_holds'). Laid BY PROGRAM, IN A SANDBOX (cutbox-door.mjs). By AI agents, Wed Nov 11 2026. No macro, syntax, notation, axiom, sorry.
-/
import Derived.Test.YtafelijlolidhabDoorRows
import GoSem.ClaimSeven
namespace Go.Proofs.YtafelijlolidhabDoor
namespace Rows

/-- THE TIED CARD OF 'belfrylaw04.TokensWords'. -/
def tokensWordsCard : Claim7 := { stood := { row := tokensWordsRow, standIns := [], harness := (true, "c62bf533805de0764c6b989ce0baa64d12cbd55396a1b4b16726fad1c466f588"), looks := true }, kinds := [], alts := [], laidByText := true, laidKinds := [.data, .data, .data, .sentinel, .sentinel, .data, .data], laidTests := true, laidLooks := .later }
def TokensWordsCardSaid : Prop := Claim7.holds Tryd.pinned (.plain (OpenSpec.ofChange tokensWordsSpec)) tokensWordsCard

/-- THE TIED CARD OF 'belfrylaw04.TokensAhead'. -/
def tokensAheadCard : Claim7 := { stood := { row := tokensAheadRow, standIns := [], harness := (true, "c62bf533805de0764c6b989ce0baa64d12cbd55396a1b4b16726fad1c466f588"), looks := true }, kinds := [], alts := [], laidByText := true, laidKinds := [.data, .data, .data, .sentinel, .sentinel, .data, .data], laidTests := true, laidLooks := .later }
def TokensAheadCardSaid : Prop := Claim7.holds Tryd.pinned (.plain (OpenSpec.ofChange tokensAheadSpec)) tokensAheadCard

/-- THE SECOND FORM's CARD OF 'belfrylaw04.TokensWords'. -/
def tokensWordsUptoCard : Claim7 := { stood := { row := tokensWordsUptoRow, standIns := [], harness := (true, "c62bf533805de0764c6b989ce0baa64d12cbd55396a1b4b16726fad1c466f588"), looks := true }, kinds := [], alts := [], laidByText := true, laidKinds := [.data, .data, .data, .sentinel, .sentinel, .data, .data], laidTests := true, laidLooks := .later }
def TokensWordsUptoCardSaid : Prop := Claim7.holds Tryd.pinned (.plain (OpenSpec.upto tokensWordsSpec)) tokensWordsUptoCard

/-- THE SECOND FORM's CARD OF 'belfrylaw04.TokensAhead'. -/
def tokensAheadUptoCard : Claim7 := { stood := { row := tokensAheadUptoRow, standIns := [], harness := (true, "c62bf533805de0764c6b989ce0baa64d12cbd55396a1b4b16726fad1c466f588"), looks := true }, kinds := [], alts := [], laidByText := true, laidKinds := [.data, .data, .data, .sentinel, .sentinel, .data, .data], laidTests := true, laidLooks := .later }
def TokensAheadUptoCardSaid : Prop := Claim7.holds Tryd.pinned (.plain (OpenSpec.upto tokensAheadSpec)) tokensAheadUptoCard
end Rows
end Go.Proofs.YtafelijlolidhabDoor
