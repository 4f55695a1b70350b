/-
  NARROWER THAN 'FOR EVERY INPUT', by the rows' own cells (each row's printed sentence says how): FramesBack: laid · FramesSpoils: laid.
  DERIVED. THE GIVEN ROWS OF THIS SEAT. 2 by the template 'for every input the law returns true; each argument reads behind the call as it read before'; 0 by the template 'total and deterministic' (their statements: YtmbkdalmnfcbfaaDoorTotals.lean).
  GIVEN WITH THE SEED: the statements are not yours to turn. If you find one false, say at which input.
  Laid BY PROGRAM, IN A SANDBOX (cutbox-rows.mjs): the forced cells as the released guide's own fill.sh prints them over the translation 237fff1bfa5070f1… (all of the seat's roots in one cut). By AI agents, Wed Nov 11 2026. No macro, syntax, notation, axiom, sorry.
-/
import Derived.Test.YtmbkdalmnfcbfaaDoorChecked
import GoSem.Claim
import GoSem.ClaimJoined
import GoSem.ClaimMapViews
import Derived.JoinedTies
import Derived.KernelRfl
namespace Go.Proofs.YtmbkdalmnfcbfaaDoor
/- THE CELL 'sum', in the pinned program and in every row, IS THE sha256 OF THE DUMP (.gsa) THAT YtmbkdalmnfcbfaaDoorProg.lean LOADS. Nothing in Lean hashes anything: it is a label: what it is worth is what the hold of that sum in a sandbox is worth. -/
noncomputable def Tryd.pinned : Pinned := { name := "ytmbkdalmnfcbfaadoor", sum := "237fff1bfa5070f1f15186e9827a8860a4962b65f83f9f8dd23567c1bf6cd673", checked := Tryd.checked }
namespace Rows
def none {H : Type} : Left H := { results := [], args := [] }

/- WHAT THE LISTED PACKAGE-LEVEL VARIABLES READ AS WHEN THE CALL BEGINS. Each datum BY PROGRAM (the guide's laid-datum.mjs) off the statement by which the dump's own 'gosem.cut.vars' lays the variable. In a bare row this is a premise. The card (YtmbkdalmnfcbfaaDoorCards.lean) ties it to the program's text. -/
def laid_belfry_frames_widths {H : Type} : DataW H := .agg [.lit (.int .i64 4), .lit (.int .i64 32), .lit (.int .i64 8), .lit (.int .i64 16), .lit (.int .i64 12), .lit (.int .i64 32)]

/-- 'belfrylaw03.FramesBack': WHATEVER THE INPUT: true; the input reads as it did. -/
def framesBackSpec : ChangeSpec := { name := "framesBack", fn := fun _ => fun
  | [d1, d2] => { results := [.lit (.bool true)], args := [d1, d2] }
  | _ => none }
def framesBackRow : OpenClaim := { program := "ytmbkdalmnfcbfaadoor", sum := "237fff1bfa5070f1f15186e9827a8860a4962b65f83f9f8dd23567c1bf6cd673", func := "belfry/belfrylaw03.FramesBack", spec := "framesBack", unfollowed := true, recurses := true, named := ["belfry/frames.widths"], apart := false, laid := [("belfry/frames.widths", laid_belfry_frames_widths)] }
def FramesBackSaid : Prop := framesBackRow.holds Tryd.pinned (OpenSpec.ofChange framesBackSpec)

/-- ITS FALSE NEIGHBOUR: 'it returns false'. Refute it at one input. -/
def framesBackWrong : ChangeSpec := { name := "framesBack", fn := fun _ => fun
  | [d1, d2] => { results := [.lit (.bool false)], args := [d1, d2] }
  | _ => none }
def FramesBackWrongFalsely : Prop := framesBackRow.holds Tryd.pinned (OpenSpec.ofChange framesBackWrong)

/-- 'belfrylaw03.FramesSpoils': WHATEVER THE INPUT: true; the input reads as it did. -/
def framesSpoilsSpec : ChangeSpec := { name := "framesSpoils", fn := fun _ => fun
  | [d1, d2, d3] => { results := [.lit (.bool true)], args := [d1, d2, d3] }
  | _ => none }
def framesSpoilsRow : OpenClaim := { program := "ytmbkdalmnfcbfaadoor", sum := "237fff1bfa5070f1f15186e9827a8860a4962b65f83f9f8dd23567c1bf6cd673", func := "belfry/belfrylaw03.FramesSpoils", spec := "framesSpoils", unfollowed := true, recurses := true, named := ["belfry/frames.widths"], apart := false, laid := [("belfry/frames.widths", laid_belfry_frames_widths)] }
def FramesSpoilsSaid : Prop := framesSpoilsRow.holds Tryd.pinned (OpenSpec.ofChange framesSpoilsSpec)

/-- ITS FALSE NEIGHBOUR: 'it returns false'. Refute it at one input. -/
def framesSpoilsWrong : ChangeSpec := { name := "framesSpoils", fn := fun _ => fun
  | [d1, d2, d3] => { results := [.lit (.bool false)], args := [d1, d2, d3] }
  | _ => none }
def FramesSpoilsWrongFalsely : Prop := framesSpoilsRow.holds Tryd.pinned (OpenSpec.ofChange framesSpoilsWrong)

/- THE SECOND FORM. 'bulk': how many values and letters a reading holds, each counted each time it is reached (what is shared counts as often as it is met; a slice's spare places count too). A statement '..UptoSaid' is the law's where the arguments, and the package variables that the reading takes, are together of bulk at most 1048576: NARROWER than '..Said'. Prove '..Said' where nothing that the law and all that it calls make is longer than what came in: it says more and counts as full. Else prove '..UptoSaid'. A law counts once. -/
mutual
def uptoBulk {H : Type} : DataW H → Nat
  | .lit (.string bytes) => bytes.length + 1
  | .lit _ => 1
  | .nil => 1
  | .ptr d => uptoBulk d + 1
  | .slice elems spare => uptoBulkAll elems + uptoBulkAll spare + 1
  | .agg parts => uptoBulkAll parts + 1
  | .iface _ d => uptoBulk d + 1
  | .map entries => uptoBulkEntries entries + 1
  | .held _ => 1
def uptoBulkAll {H : Type} : List (DataW H) → Nat
  | [] => 0
  | d :: r => uptoBulk d + uptoBulkAll r
def uptoBulkEntries {H : Type} : List (Lit × DataW H) → Nat
  | [] => 0
  | x :: r => uptoBulkEntry x + uptoBulkEntries r
def uptoBulkEntry {H : Type} : Lit × DataW H → Nat
  | (.string bytes, d) => bytes.length + uptoBulk d + 1
  | (_, d) => uptoBulk d + 1
 end
def uptoSmall : (H : Type) → List (DataW H) → Bool := fun _ ds => decide (uptoBulkAll ds ≤ 1048576)
def OpenSpec.upto (s : _root_.Go.ChangeSpec) : _root_.Go.OpenSpec := { _root_.Go.OpenSpec.ofChange s with cond := some uptoSmall }

/-- 'belfrylaw03.FramesBack', WHERE WHAT IT READS IS OF BULK AT MOST 1048576: true; the input reads as it did. -/
def framesBackUptoRow : OpenClaim := { program := "ytmbkdalmnfcbfaadoor", sum := "237fff1bfa5070f1f15186e9827a8860a4962b65f83f9f8dd23567c1bf6cd673", func := "belfry/belfrylaw03.FramesBack", spec := "framesBack", unfollowed := true, recurses := true, named := ["belfry/frames.widths"], apart := false, laid := [("belfry/frames.widths", laid_belfry_frames_widths)], narrowed := true }
def FramesBackUptoSaid : Prop := framesBackUptoRow.holds Tryd.pinned (OpenSpec.upto framesBackSpec)

/-- 'belfrylaw03.FramesSpoils', WHERE WHAT IT READS IS OF BULK AT MOST 1048576: true; the input reads as it did. -/
def framesSpoilsUptoRow : OpenClaim := { program := "ytmbkdalmnfcbfaadoor", sum := "237fff1bfa5070f1f15186e9827a8860a4962b65f83f9f8dd23567c1bf6cd673", func := "belfry/belfrylaw03.FramesSpoils", spec := "framesSpoils", unfollowed := true, recurses := true, named := ["belfry/frames.widths"], apart := false, laid := [("belfry/frames.widths", laid_belfry_frames_widths)], narrowed := true }
def FramesSpoilsUptoSaid : Prop := framesSpoilsUptoRow.holds Tryd.pinned (OpenSpec.upto framesSpoilsSpec)

end Rows
end Go.Proofs.YtmbkdalmnfcbfaaDoor
