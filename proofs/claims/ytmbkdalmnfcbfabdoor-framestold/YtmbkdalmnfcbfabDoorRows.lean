/-
  NARROWER THAN 'FOR EVERY INPUT', by the rows' own cells (each row's printed sentence says how): FramesAgain: laid · FramesTold: laid · FramesRead: laid · FramesApart: laid.
  DERIVED. THE GIVEN ROWS OF THIS SEAT. 4 by the template 'for every input the law returns true; each argument reads behind the call as it read before'; 0 by the template 'total and deterministic' (their statements: YtmbkdalmnfcbfabDoorTotals.lean).
  GIVEN WITH THE SEED: the statements are not yours to turn. If you find one false, say at which input.
  Laid BY PROGRAM, IN A SANDBOX (cutbox-rows.mjs): the forced cells as the released guide's own fill.sh prints them over the translation 416d65c68a10dd70… (all of the seat's roots in one cut). By AI agents, Wed Nov 11 2026. No macro, syntax, notation, axiom, sorry.
-/
import Derived.Test.YtmbkdalmnfcbfabDoorChecked
import GoSem.Claim
import GoSem.ClaimJoined
import GoSem.ClaimMapViews
import Derived.JoinedTies
import Derived.KernelRfl
namespace Go.Proofs.YtmbkdalmnfcbfabDoor
/- THE CELL 'sum', in the pinned program and in every row, IS THE sha256 OF THE DUMP (.gsa) THAT YtmbkdalmnfcbfabDoorProg.lean LOADS. Nothing in Lean hashes anything: it is a label: what it is worth is what the hold of that sum in a sandbox is worth. -/
noncomputable def Tryd.pinned : Pinned := { name := "ytmbkdalmnfcbfabdoor", sum := "416d65c68a10dd7038f1e8ba2c370f90b0e5e08c786ad6d3db1ca7f6bb04c7e0", checked := Tryd.checked }
namespace Rows
def none {H : Type} : Left H := { results := [], args := [] }

/- WHAT THE LISTED PACKAGE-LEVEL VARIABLES READ AS WHEN THE CALL BEGINS. Each datum BY PROGRAM (the guide's laid-datum.mjs) off the statement by which the dump's own 'gosem.cut.vars' lays the variable. In a bare row this is a premise. The card (YtmbkdalmnfcbfabDoorCards.lean) ties it to the program's text. -/
def laid_belfry_frames_widths {H : Type} : DataW H := .agg [.lit (.int .i64 4), .lit (.int .i64 32), .lit (.int .i64 8), .lit (.int .i64 16), .lit (.int .i64 12), .lit (.int .i64 32)]

/-- 'belfrylaw03.FramesAgain': WHATEVER THE INPUT: true; the input reads as it did. -/
def framesAgainSpec : ChangeSpec := { name := "framesAgain", fn := fun _ => fun
  | [d] => { results := [.lit (.bool true)], args := [d] }
  | _ => none }
def framesAgainRow : OpenClaim := { program := "ytmbkdalmnfcbfabdoor", sum := "416d65c68a10dd7038f1e8ba2c370f90b0e5e08c786ad6d3db1ca7f6bb04c7e0", func := "belfry/belfrylaw03.FramesAgain", spec := "framesAgain", unfollowed := true, recurses := true, named := ["belfry/frames.widths"], apart := false, laid := [("belfry/frames.widths", laid_belfry_frames_widths)] }
def FramesAgainSaid : Prop := framesAgainRow.holds Tryd.pinned (OpenSpec.ofChange framesAgainSpec)

/-- ITS FALSE NEIGHBOUR: 'it returns false'. Refute it at one input. -/
def framesAgainWrong : ChangeSpec := { name := "framesAgain", fn := fun _ => fun
  | [d] => { results := [.lit (.bool false)], args := [d] }
  | _ => none }
def FramesAgainWrongFalsely : Prop := framesAgainRow.holds Tryd.pinned (OpenSpec.ofChange framesAgainWrong)

/-- 'belfrylaw03.FramesTold': WHATEVER THE INPUT: true; the input reads as it did. -/
def framesToldSpec : ChangeSpec := { name := "framesTold", fn := fun _ => fun
  | [d1, d2] => { results := [.lit (.bool true)], args := [d1, d2] }
  | _ => none }
def framesToldRow : OpenClaim := { program := "ytmbkdalmnfcbfabdoor", sum := "416d65c68a10dd7038f1e8ba2c370f90b0e5e08c786ad6d3db1ca7f6bb04c7e0", func := "belfry/belfrylaw03.FramesTold", spec := "framesTold", unfollowed := true, recurses := true, named := ["belfry/frames.widths"], apart := false, laid := [("belfry/frames.widths", laid_belfry_frames_widths)] }
def FramesToldSaid : Prop := framesToldRow.holds Tryd.pinned (OpenSpec.ofChange framesToldSpec)

/-- ITS FALSE NEIGHBOUR: 'it returns false'. Refute it at one input. -/
def framesToldWrong : ChangeSpec := { name := "framesTold", fn := fun _ => fun
  | [d1, d2] => { results := [.lit (.bool false)], args := [d1, d2] }
  | _ => none }
def FramesToldWrongFalsely : Prop := framesToldRow.holds Tryd.pinned (OpenSpec.ofChange framesToldWrong)

/-- 'belfrylaw03.FramesRead': WHATEVER THE INPUT: true; the input reads as it did. -/
def framesReadSpec : ChangeSpec := { name := "framesRead", fn := fun _ => fun
  | [d1, d2] => { results := [.lit (.bool true)], args := [d1, d2] }
  | _ => none }
def framesReadRow : OpenClaim := { program := "ytmbkdalmnfcbfabdoor", sum := "416d65c68a10dd7038f1e8ba2c370f90b0e5e08c786ad6d3db1ca7f6bb04c7e0", func := "belfry/belfrylaw03.FramesRead", spec := "framesRead", unfollowed := true, recurses := true, named := ["belfry/frames.widths"], apart := false, laid := [("belfry/frames.widths", laid_belfry_frames_widths)] }
def FramesReadSaid : Prop := framesReadRow.holds Tryd.pinned (OpenSpec.ofChange framesReadSpec)

/-- ITS FALSE NEIGHBOUR: 'it returns false'. Refute it at one input. -/
def framesReadWrong : ChangeSpec := { name := "framesRead", fn := fun _ => fun
  | [d1, d2] => { results := [.lit (.bool false)], args := [d1, d2] }
  | _ => none }
def FramesReadWrongFalsely : Prop := framesReadRow.holds Tryd.pinned (OpenSpec.ofChange framesReadWrong)

/-- 'belfrylaw03.FramesApart': WHATEVER THE INPUT: true; the input reads as it did. -/
def framesApartSpec : ChangeSpec := { name := "framesApart", fn := fun _ => fun
  | [d1, d2] => { results := [.lit (.bool true)], args := [d1, d2] }
  | _ => none }
def framesApartRow : OpenClaim := { program := "ytmbkdalmnfcbfabdoor", sum := "416d65c68a10dd7038f1e8ba2c370f90b0e5e08c786ad6d3db1ca7f6bb04c7e0", func := "belfry/belfrylaw03.FramesApart", spec := "framesApart", unfollowed := true, recurses := true, named := ["belfry/frames.widths"], apart := false, laid := [("belfry/frames.widths", laid_belfry_frames_widths)] }
def FramesApartSaid : Prop := framesApartRow.holds Tryd.pinned (OpenSpec.ofChange framesApartSpec)

/-- ITS FALSE NEIGHBOUR: 'it returns false'. Refute it at one input. -/
def framesApartWrong : ChangeSpec := { name := "framesApart", fn := fun _ => fun
  | [d1, d2] => { results := [.lit (.bool false)], args := [d1, d2] }
  | _ => none }
def FramesApartWrongFalsely : Prop := framesApartRow.holds Tryd.pinned (OpenSpec.ofChange framesApartWrong)

/- THE SECOND FORM. 'bulk': how many values and letters a reading holds, each counted each time it is reached (what is shared counts as often as it is met; a slice's spare places count too). A statement '..UptoSaid' is the law's where the arguments, and the package variables that the reading takes, are together of bulk at most 1048576: NARROWER than '..Said'. Prove '..Said' where nothing that the law and all that it calls make is longer than what came in: it says more and counts as full. Else prove '..UptoSaid'. A law counts once. -/
mutual
def uptoBulk {H : Type} : DataW H → Nat
  | .lit (.string bytes) => bytes.length + 1
  | .lit _ => 1
  | .nil => 1
  | .ptr d => uptoBulk d + 1
  | .slice elems spare => uptoBulkAll elems + uptoBulkAll spare + 1
  | .agg parts => uptoBulkAll parts + 1
  | .iface _ d => uptoBulk d + 1
  | .map entries => uptoBulkEntries entries + 1
  | .held _ => 1
def uptoBulkAll {H : Type} : List (DataW H) → Nat
  | [] => 0
  | d :: r => uptoBulk d + uptoBulkAll r
def uptoBulkEntries {H : Type} : List (Lit × DataW H) → Nat
  | [] => 0
  | x :: r => uptoBulkEntry x + uptoBulkEntries r
def uptoBulkEntry {H : Type} : Lit × DataW H → Nat
  | (.string bytes, d) => bytes.length + uptoBulk d + 1
  | (_, d) => uptoBulk d + 1
 end
def uptoSmall : (H : Type) → List (DataW H) → Bool := fun _ ds => decide (uptoBulkAll ds ≤ 1048576)
def OpenSpec.upto (s : _root_.Go.ChangeSpec) : _root_.Go.OpenSpec := { _root_.Go.OpenSpec.ofChange s with cond := some uptoSmall }

/-- 'belfrylaw03.FramesAgain', WHERE WHAT IT READS IS OF BULK AT MOST 1048576: true; the input reads as it did. -/
def framesAgainUptoRow : OpenClaim := { program := "ytmbkdalmnfcbfabdoor", sum := "416d65c68a10dd7038f1e8ba2c370f90b0e5e08c786ad6d3db1ca7f6bb04c7e0", func := "belfry/belfrylaw03.FramesAgain", spec := "framesAgain", unfollowed := true, recurses := true, named := ["belfry/frames.widths"], apart := false, laid := [("belfry/frames.widths", laid_belfry_frames_widths)], narrowed := true }
def FramesAgainUptoSaid : Prop := framesAgainUptoRow.holds Tryd.pinned (OpenSpec.upto framesAgainSpec)

/-- 'belfrylaw03.FramesTold', WHERE WHAT IT READS IS OF BULK AT MOST 1048576: true; the input reads as it did. -/
def framesToldUptoRow : OpenClaim := { program := "ytmbkdalmnfcbfabdoor", sum := "416d65c68a10dd7038f1e8ba2c370f90b0e5e08c786ad6d3db1ca7f6bb04c7e0", func := "belfry/belfrylaw03.FramesTold", spec := "framesTold", unfollowed := true, recurses := true, named := ["belfry/frames.widths"], apart := false, laid := [("belfry/frames.widths", laid_belfry_frames_widths)], narrowed := true }
def FramesToldUptoSaid : Prop := framesToldUptoRow.holds Tryd.pinned (OpenSpec.upto framesToldSpec)

/-- 'belfrylaw03.FramesRead', WHERE WHAT IT READS IS OF BULK AT MOST 1048576: true; the input reads as it did. -/
def framesReadUptoRow : OpenClaim := { program := "ytmbkdalmnfcbfabdoor", sum := "416d65c68a10dd7038f1e8ba2c370f90b0e5e08c786ad6d3db1ca7f6bb04c7e0", func := "belfry/belfrylaw03.FramesRead", spec := "framesRead", unfollowed := true, recurses := true, named := ["belfry/frames.widths"], apart := false, laid := [("belfry/frames.widths", laid_belfry_frames_widths)], narrowed := true }
def FramesReadUptoSaid : Prop := framesReadUptoRow.holds Tryd.pinned (OpenSpec.upto framesReadSpec)

/-- 'belfrylaw03.FramesApart', WHERE WHAT IT READS IS OF BULK AT MOST 1048576: true; the input reads as it did. -/
def framesApartUptoRow : OpenClaim := { program := "ytmbkdalmnfcbfabdoor", sum := "416d65c68a10dd7038f1e8ba2c370f90b0e5e08c786ad6d3db1ca7f6bb04c7e0", func := "belfry/belfrylaw03.FramesApart", spec := "framesApart", unfollowed := true, recurses := true, named := ["belfry/frames.widths"], apart := false, laid := [("belfry/frames.widths", laid_belfry_frames_widths)], narrowed := true }
def FramesApartUptoSaid : Prop := framesApartUptoRow.holds Tryd.pinned (OpenSpec.upto framesApartSpec)

end Rows
end Go.Proofs.YtmbkdalmnfcbfabDoor
