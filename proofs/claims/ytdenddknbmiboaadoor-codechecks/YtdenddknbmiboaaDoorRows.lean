/-
  NARROWER THAN 'FOR EVERY INPUT', by the rows' own cells (each row's printed sentence says how): CodeChecks: laid · CodeSpoilt: laid · CodeJoins: laid.
  DERIVED. THE GIVEN ROWS OF THIS SEAT. 3 by the template 'for every input the law returns true; each argument reads behind the call as it read before'; 0 by the template 'total and deterministic' (their statements: YtdenddknbmiboaaDoorTotals.lean).
  GIVEN WITH THE SEED: the statements are not yours to turn. If you find one false, say at which input.
  Laid BY PROGRAM, IN A SANDBOX (cutbox-rows.mjs): the forced cells as the released guide's own fill.sh prints them over the translation 3f40590cd0983837… (all of the seat's roots in one cut). By AI agents, Wed Nov 11 2026. No macro, syntax, notation, axiom, sorry.
-/
import Derived.Test.YtdenddknbmiboaaDoorChecked
import GoSem.Claim
import GoSem.ClaimJoined
import GoSem.ClaimMapViews
import Derived.JoinedTies
import Derived.KernelRfl
namespace Go.Proofs.YtdenddknbmiboaaDoor
/- THE CELL 'sum', in the pinned program and in every row, IS THE sha256 OF THE DUMP (.gsa) THAT YtdenddknbmiboaaDoorProg.lean LOADS. Nothing in Lean hashes anything: it is a label: what it is worth is what the hold of that sum in a sandbox is worth. -/
noncomputable def Tryd.pinned : Pinned := { name := "ytdenddknbmiboaadoor", sum := "3f40590cd0983837463ad803f1f4edcb21be208d816c27440a0c3608cfa5ffbb", checked := Tryd.checked }
namespace Rows
def none {H : Type} : Left H := { results := [], args := [] }

/- WHAT THE LISTED PACKAGE-LEVEL VARIABLES READ AS WHEN THE CALL BEGINS. Each datum BY PROGRAM (the guide's laid-datum.mjs) off the statement by which the dump's own 'gosem.cut.vars' lays the variable. In a bare row this is a premise. The card (YtdenddknbmiboaaDoorCards.lean) ties it to the program's text. -/
def laid_belfry_tokens_reserved {H : Type} : DataW H := .agg [.lit (.string [115, 116, 97, 116, 105, 111, 110, 115]), .lit (.string [105, 110]), .lit (.string [97, 116]), .lit (.string [102, 108, 111, 119]), .lit (.string [100, 101, 102, 97, 117, 108, 116]), .lit (.string [111, 117, 116]), .lit (.string [105, 102]), .lit (.string [116, 104, 101, 110]), .lit (.string [101, 108, 115, 101]), .lit (.string [112, 114, 101]), .lit (.string [97, 110, 100]), .lit (.string [111, 114]), .lit (.string [110, 111, 116]), .lit (.string [116, 114, 117, 101]), .lit (.string [102, 97, 108, 115, 101]), .lit (.string [105, 110, 116]), .lit (.string [98, 111, 111, 108])]
def laid_belfry_exprs_joins {H : Type} : DataW H := .agg [.agg [.lit (.int .u8 18), .agg [.lit (.int .u8 3), .lit (.string [45, 62])], .lit (.int .i64 0), .lit (.int .i64 1), .lit (.int .i64 0)], .agg [.lit (.int .u8 16), .agg [.lit (.int .u8 1), .lit (.string [111, 114])], .lit (.int .i64 1), .lit (.int .i64 1), .lit (.int .i64 2)], .agg [.lit (.int .u8 15), .agg [.lit (.int .u8 1), .lit (.string [97, 110, 100])], .lit (.int .i64 2), .lit (.int .i64 2), .lit (.int .i64 3)], .agg [.lit (.int .u8 11), .agg [.lit (.int .u8 3), .lit (.string [61, 61])], .lit (.int .i64 3), .lit (.int .i64 4), .lit (.int .i64 4)], .agg [.lit (.int .u8 12), .agg [.lit (.int .u8 3), .lit (.string [33, 61])], .lit (.int .i64 3), .lit (.int .i64 4), .lit (.int .i64 4)], .agg [.lit (.int .u8 13), .agg [.lit (.int .u8 3), .lit (.string [60])], .lit (.int .i64 3), .lit (.int .i64 4), .lit (.int .i64 4)], .agg [.lit (.int .u8 14), .agg [.lit (.int .u8 3), .lit (.string [60, 61])], .lit (.int .i64 3), .lit (.int .i64 4), .lit (.int .i64 4)], .agg [.lit (.int .u8 6), .agg [.lit (.int .u8 3), .lit (.string [43])], .lit (.int .i64 4), .lit (.int .i64 4), .lit (.int .i64 5)], .agg [.lit (.int .u8 7), .agg [.lit (.int .u8 3), .lit (.string [45])], .lit (.int .i64 4), .lit (.int .i64 4), .lit (.int .i64 5)], .agg [.lit (.int .u8 8), .agg [.lit (.int .u8 3), .lit (.string [42])], .lit (.int .i64 5), .lit (.int .i64 5), .lit (.int .i64 6)], .agg [.lit (.int .u8 9), .agg [.lit (.int .u8 3), .lit (.string [47])], .lit (.int .i64 5), .lit (.int .i64 5), .lit (.int .i64 6)], .agg [.lit (.int .u8 10), .agg [.lit (.int .u8 3), .lit (.string [37])], .lit (.int .i64 5), .lit (.int .i64 5), .lit (.int .i64 6)]]

/-- 'belfrylaw17.CodeChecks': WHATEVER THE INPUT: true; the input reads as it did. -/
def codeChecksSpec : ChangeSpec := { name := "codeChecks", fn := fun _ => fun
  | [d1, d2] => { results := [.lit (.bool true)], args := [d1, d2] }
  | _ => none }
def codeChecksRow : OpenClaim := { program := "ytdenddknbmiboaadoor", sum := "3f40590cd0983837463ad803f1f4edcb21be208d816c27440a0c3608cfa5ffbb", func := "belfry/belfrylaw17.CodeChecks", spec := "codeChecks", unfollowed := true, recurses := true, named := ["belfry/tokens.reserved", "belfry/exprs.joins"], plainKeys := false, apart := false, laid := [("belfry/tokens.reserved", laid_belfry_tokens_reserved), ("belfry/exprs.joins", laid_belfry_exprs_joins)] }
def CodeChecksSaid : Prop := codeChecksRow.holds Tryd.pinned (OpenSpec.ofChange codeChecksSpec)

/-- ITS FALSE NEIGHBOUR: 'it returns false'. Refute it at one input. -/
def codeChecksWrong : ChangeSpec := { name := "codeChecks", fn := fun _ => fun
  | [d1, d2] => { results := [.lit (.bool false)], args := [d1, d2] }
  | _ => none }
def CodeChecksWrongFalsely : Prop := codeChecksRow.holds Tryd.pinned (OpenSpec.ofChange codeChecksWrong)

/-- 'belfrylaw17.CodeSpoilt': WHATEVER THE INPUT: true; the input reads as it did. -/
def codeSpoiltSpec : ChangeSpec := { name := "codeSpoilt", fn := fun _ => fun
  | [d] => { results := [.lit (.bool true)], args := [d] }
  | _ => none }
def codeSpoiltRow : OpenClaim := { program := "ytdenddknbmiboaadoor", sum := "3f40590cd0983837463ad803f1f4edcb21be208d816c27440a0c3608cfa5ffbb", func := "belfry/belfrylaw17.CodeSpoilt", spec := "codeSpoilt", unfollowed := true, recurses := true, named := ["belfry/tokens.reserved", "belfry/exprs.joins"], plainKeys := false, apart := false, laid := [("belfry/tokens.reserved", laid_belfry_tokens_reserved), ("belfry/exprs.joins", laid_belfry_exprs_joins)] }
def CodeSpoiltSaid : Prop := codeSpoiltRow.holds Tryd.pinned (OpenSpec.ofChange codeSpoiltSpec)

/-- ITS FALSE NEIGHBOUR: 'it returns false'. Refute it at one input. -/
def codeSpoiltWrong : ChangeSpec := { name := "codeSpoilt", fn := fun _ => fun
  | [d] => { results := [.lit (.bool false)], args := [d] }
  | _ => none }
def CodeSpoiltWrongFalsely : Prop := codeSpoiltRow.holds Tryd.pinned (OpenSpec.ofChange codeSpoiltWrong)

/-- 'belfrylaw17.CodeJoins': WHATEVER THE INPUT: true; the input reads as it did. -/
def codeJoinsSpec : ChangeSpec := { name := "codeJoins", fn := fun _ => fun
  | [d1, d2, d3] => { results := [.lit (.bool true)], args := [d1, d2, d3] }
  | _ => none }
def codeJoinsRow : OpenClaim := { program := "ytdenddknbmiboaadoor", sum := "3f40590cd0983837463ad803f1f4edcb21be208d816c27440a0c3608cfa5ffbb", func := "belfry/belfrylaw17.CodeJoins", spec := "codeJoins", unfollowed := true, recurses := true, named := ["belfry/tokens.reserved", "belfry/exprs.joins"], plainKeys := false, apart := false, laid := [("belfry/tokens.reserved", laid_belfry_tokens_reserved), ("belfry/exprs.joins", laid_belfry_exprs_joins)] }
def CodeJoinsSaid : Prop := codeJoinsRow.holds Tryd.pinned (OpenSpec.ofChange codeJoinsSpec)

/-- ITS FALSE NEIGHBOUR: 'it returns false'. Refute it at one input. -/
def codeJoinsWrong : ChangeSpec := { name := "codeJoins", fn := fun _ => fun
  | [d1, d2, d3] => { results := [.lit (.bool false)], args := [d1, d2, d3] }
  | _ => none }
def CodeJoinsWrongFalsely : Prop := codeJoinsRow.holds Tryd.pinned (OpenSpec.ofChange codeJoinsWrong)

/- THE SECOND FORM. 'bulk': how many values and letters a reading holds, each counted each time it is reached (what is shared counts as often as it is met; a slice's spare places count too). A statement '..UptoSaid' is the law's where the arguments, and the package variables that the reading takes, are together of bulk at most 1048576: NARROWER than '..Said'. Prove '..Said' where nothing that the law and all that it calls make is longer than what came in: it says more and counts as full. Else prove '..UptoSaid'. A law counts once. -/
mutual
def uptoBulk {H : Type} : DataW H → Nat
  | .lit (.string bytes) => bytes.length + 1
  | .lit _ => 1
  | .nil => 1
  | .ptr d => uptoBulk d + 1
  | .slice elems spare => uptoBulkAll elems + uptoBulkAll spare + 1
  | .agg parts => uptoBulkAll parts + 1
  | .iface _ d => uptoBulk d + 1
  | .map entries => uptoBulkEntries entries + 1
  | .held _ => 1
def uptoBulkAll {H : Type} : List (DataW H) → Nat
  | [] => 0
  | d :: r => uptoBulk d + uptoBulkAll r
def uptoBulkEntries {H : Type} : List (Lit × DataW H) → Nat
  | [] => 0
  | x :: r => uptoBulkEntry x + uptoBulkEntries r
def uptoBulkEntry {H : Type} : Lit × DataW H → Nat
  | (.string bytes, d) => bytes.length + uptoBulk d + 1
  | (_, d) => uptoBulk d + 1
 end
def uptoSmall : (H : Type) → List (DataW H) → Bool := fun _ ds => decide (uptoBulkAll ds ≤ 1048576)
def OpenSpec.upto (s : _root_.Go.ChangeSpec) : _root_.Go.OpenSpec := { _root_.Go.OpenSpec.ofChange s with cond := some uptoSmall }

/-- 'belfrylaw17.CodeChecks', WHERE WHAT IT READS IS OF BULK AT MOST 1048576: true; the input reads as it did. -/
def codeChecksUptoRow : OpenClaim := { program := "ytdenddknbmiboaadoor", sum := "3f40590cd0983837463ad803f1f4edcb21be208d816c27440a0c3608cfa5ffbb", func := "belfry/belfrylaw17.CodeChecks", spec := "codeChecks", unfollowed := true, recurses := true, named := ["belfry/tokens.reserved", "belfry/exprs.joins"], plainKeys := false, apart := false, laid := [("belfry/tokens.reserved", laid_belfry_tokens_reserved), ("belfry/exprs.joins", laid_belfry_exprs_joins)], narrowed := true }
def CodeChecksUptoSaid : Prop := codeChecksUptoRow.holds Tryd.pinned (OpenSpec.upto codeChecksSpec)

/-- 'belfrylaw17.CodeSpoilt', WHERE WHAT IT READS IS OF BULK AT MOST 1048576: true; the input reads as it did. -/
def codeSpoiltUptoRow : OpenClaim := { program := "ytdenddknbmiboaadoor", sum := "3f40590cd0983837463ad803f1f4edcb21be208d816c27440a0c3608cfa5ffbb", func := "belfry/belfrylaw17.CodeSpoilt", spec := "codeSpoilt", unfollowed := true, recurses := true, named := ["belfry/tokens.reserved", "belfry/exprs.joins"], plainKeys := false, apart := false, laid := [("belfry/tokens.reserved", laid_belfry_tokens_reserved), ("belfry/exprs.joins", laid_belfry_exprs_joins)], narrowed := true }
def CodeSpoiltUptoSaid : Prop := codeSpoiltUptoRow.holds Tryd.pinned (OpenSpec.upto codeSpoiltSpec)

/-- 'belfrylaw17.CodeJoins', WHERE WHAT IT READS IS OF BULK AT MOST 1048576: true; the input reads as it did. -/
def codeJoinsUptoRow : OpenClaim := { program := "ytdenddknbmiboaadoor", sum := "3f40590cd0983837463ad803f1f4edcb21be208d816c27440a0c3608cfa5ffbb", func := "belfry/belfrylaw17.CodeJoins", spec := "codeJoins", unfollowed := true, recurses := true, named := ["belfry/tokens.reserved", "belfry/exprs.joins"], plainKeys := false, apart := false, laid := [("belfry/tokens.reserved", laid_belfry_tokens_reserved), ("belfry/exprs.joins", laid_belfry_exprs_joins)], narrowed := true }
def CodeJoinsUptoSaid : Prop := codeJoinsUptoRow.holds Tryd.pinned (OpenSpec.upto codeJoinsSpec)

end Rows
end Go.Proofs.YtdenddknbmiboaaDoor
