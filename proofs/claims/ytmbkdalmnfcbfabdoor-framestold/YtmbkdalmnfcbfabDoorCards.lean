/-
  DERIVED. GIVEN WITH THE SEED: THE CARDS: each row of YtmbkdalmnfcbfabDoorRows.lean that lists a variable, with what it lists TIED to the program's text (the seventh form; the later family's looks); each row that meets fmt, with fmt's text TOLD by the authors' own Lean function (tested against real Go, not proved from fmt's source: count such statements apart). THE CARD IS WHAT COUNTS. Prove the row's statement (the work); the ties are given (YtmbkdalmnfcbfabDoorTie.lean); close each card by the builder's one call (the guide's Derived/Test/ToyasCard.lean, 'card_holds'). Laid BY PROGRAM, IN A SANDBOX (cutbox-door.mjs). By AI agents, Wed Nov 11 2026. No macro, syntax, notation, axiom, sorry.
-/
import Derived.Test.YtmbkdalmnfcbfabDoorRows
import GoSem.ClaimSeven
namespace Go.Proofs.YtmbkdalmnfcbfabDoor
namespace Rows

/-- THE TIED CARD OF 'belfrylaw03.FramesAgain'. -/
def framesAgainCard : Claim7 := { stood := { row := framesAgainRow, standIns := [], harness := (true, "a980b1c3fc21458d55bc1e37b97a57686bd50ff24b10921f1b1e78a6f6ffd73d"), looks := false }, kinds := [], alts := [], laidByText := true, laidKinds := [.data], laidTests := true, laidLooks := .later }
def FramesAgainCardSaid : Prop := Claim7.holds Tryd.pinned (.plain (OpenSpec.ofChange framesAgainSpec)) framesAgainCard

/-- THE TIED CARD OF 'belfrylaw03.FramesTold'. -/
def framesToldCard : Claim7 := { stood := { row := framesToldRow, standIns := [], harness := (true, "a980b1c3fc21458d55bc1e37b97a57686bd50ff24b10921f1b1e78a6f6ffd73d"), looks := false }, kinds := [], alts := [], laidByText := true, laidKinds := [.data], laidTests := true, laidLooks := .later }
def FramesToldCardSaid : Prop := Claim7.holds Tryd.pinned (.plain (OpenSpec.ofChange framesToldSpec)) framesToldCard

/-- THE TIED CARD OF 'belfrylaw03.FramesRead'. -/
def framesReadCard : Claim7 := { stood := { row := framesReadRow, standIns := [], harness := (true, "a980b1c3fc21458d55bc1e37b97a57686bd50ff24b10921f1b1e78a6f6ffd73d"), looks := false }, kinds := [], alts := [], laidByText := true, laidKinds := [.data], laidTests := true, laidLooks := .later }
def FramesReadCardSaid : Prop := Claim7.holds Tryd.pinned (.plain (OpenSpec.ofChange framesReadSpec)) framesReadCard

/-- THE TIED CARD OF 'belfrylaw03.FramesApart'. -/
def framesApartCard : Claim7 := { stood := { row := framesApartRow, standIns := [], harness := (true, "a980b1c3fc21458d55bc1e37b97a57686bd50ff24b10921f1b1e78a6f6ffd73d"), looks := false }, kinds := [], alts := [], laidByText := true, laidKinds := [.data], laidTests := true, laidLooks := .later }
def FramesApartCardSaid : Prop := Claim7.holds Tryd.pinned (.plain (OpenSpec.ofChange framesApartSpec)) framesApartCard

/-- THE SECOND FORM's CARD OF 'belfrylaw03.FramesAgain'. -/
def framesAgainUptoCard : Claim7 := { stood := { row := framesAgainUptoRow, standIns := [], harness := (true, "a980b1c3fc21458d55bc1e37b97a57686bd50ff24b10921f1b1e78a6f6ffd73d"), looks := false }, kinds := [], alts := [], laidByText := true, laidKinds := [.data], laidTests := true, laidLooks := .later }
def FramesAgainUptoCardSaid : Prop := Claim7.holds Tryd.pinned (.plain (OpenSpec.upto framesAgainSpec)) framesAgainUptoCard

/-- THE SECOND FORM's CARD OF 'belfrylaw03.FramesTold'. -/
def framesToldUptoCard : Claim7 := { stood := { row := framesToldUptoRow, standIns := [], harness := (true, "a980b1c3fc21458d55bc1e37b97a57686bd50ff24b10921f1b1e78a6f6ffd73d"), looks := false }, kinds := [], alts := [], laidByText := true, laidKinds := [.data], laidTests := true, laidLooks := .later }
def FramesToldUptoCardSaid : Prop := Claim7.holds Tryd.pinned (.plain (OpenSpec.upto framesToldSpec)) framesToldUptoCard

/-- THE SECOND FORM's CARD OF 'belfrylaw03.FramesRead'. -/
def framesReadUptoCard : Claim7 := { stood := { row := framesReadUptoRow, standIns := [], harness := (true, "a980b1c3fc21458d55bc1e37b97a57686bd50ff24b10921f1b1e78a6f6ffd73d"), looks := false }, kinds := [], alts := [], laidByText := true, laidKinds := [.data], laidTests := true, laidLooks := .later }
def FramesReadUptoCardSaid : Prop := Claim7.holds Tryd.pinned (.plain (OpenSpec.upto framesReadSpec)) framesReadUptoCard

/-- THE SECOND FORM's CARD OF 'belfrylaw03.FramesApart'. -/
def framesApartUptoCard : Claim7 := { stood := { row := framesApartUptoRow, standIns := [], harness := (true, "a980b1c3fc21458d55bc1e37b97a57686bd50ff24b10921f1b1e78a6f6ffd73d"), looks := false }, kinds := [], alts := [], laidByText := true, laidKinds := [.data], laidTests := true, laidLooks := .later }
def FramesApartUptoCardSaid : Prop := Claim7.holds Tryd.pinned (.plain (OpenSpec.upto framesApartSpec)) framesApartUptoCard
end Rows
end Go.Proofs.YtmbkdalmnfcbfabDoor
