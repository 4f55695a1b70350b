/-
  NARROWER THAN 'FOR EVERY INPUT', by the rows' own cells (each row's printed sentence says how): NamesChecks: loops, laid · NamesFound: loops, laid · NamesLess: loops, laid · NamesNew: loops, laid · NamesTurned: loops, laid.
  DERIVED. THE GIVEN ROWS OF THIS SEAT. 5 by the template 'for every input the law returns true; each argument reads behind the call as it read before'; 0 by the template 'total and deterministic' (their statements: YtilpoiihoikhlaaDoorTotals.lean).
  GIVEN WITH THE SEED: the statements are not yours to turn. If you find one false, say at which input.
  Laid BY PROGRAM, IN A SANDBOX (cutbox-rows.mjs): the forced cells as the released guide's own fill.sh prints them over the translation e29ea28101637421… (all of the seat's roots in one cut). By AI agents, Wed Nov 11 2026. No macro, syntax, notation, axiom, sorry.
-/
import Derived.Test.YtilpoiihoikhlaaDoorChecked
import GoSem.Claim
import GoSem.ClaimJoined
import GoSem.ClaimMapViews
import Derived.JoinedTies
import Derived.KernelRfl
namespace Go.Proofs.YtilpoiihoikhlaaDoor
/- THE CELL 'sum', in the pinned program and in every row, IS THE sha256 OF THE DUMP (.gsa) THAT YtilpoiihoikhlaaDoorProg.lean LOADS. Nothing in Lean hashes anything: it is a label: what it is worth is what the hold of that sum in a sandbox is worth. -/
noncomputable def Tryd.pinned : Pinned := { name := "ytilpoiihoikhlaadoor", sum := "e29ea28101637421331710641ee04c30ad823b10e420aaaeaa01bb615e3730f0", checked := Tryd.checked }
namespace Rows
def none {H : Type} : Left H := { results := [], args := [] }

/- WHAT THE LISTED PACKAGE-LEVEL VARIABLES READ AS WHEN THE CALL BEGINS. Each datum BY PROGRAM (the guide's laid-datum.mjs) off the statement by which the dump's own 'gosem.cut.vars' lays the variable. In a bare row this is a premise. The card (YtilpoiihoikhlaaDoorCards.lean) ties it to the program's text. -/
def laid_belfry_tokens_reserved {H : Type} : DataW H := .agg [.lit (.string [115, 116, 97, 116, 105, 111, 110, 115]), .lit (.string [105, 110]), .lit (.string [97, 116]), .lit (.string [102, 108, 111, 119]), .lit (.string [100, 101, 102, 97, 117, 108, 116]), .lit (.string [111, 117, 116]), .lit (.string [105, 102]), .lit (.string [116, 104, 101, 110]), .lit (.string [101, 108, 115, 101]), .lit (.string [112, 114, 101]), .lit (.string [97, 110, 100]), .lit (.string [111, 114]), .lit (.string [110, 111, 116]), .lit (.string [116, 114, 117, 101]), .lit (.string [102, 97, 108, 115, 101]), .lit (.string [105, 110, 116]), .lit (.string [98, 111, 111, 108])]
def laid_belfry_exprs_joins {H : Type} : DataW H := .agg [.agg [.lit (.int .u8 18), .agg [.lit (.int .u8 3), .lit (.string [45, 62])], .lit (.int .i64 0), .lit (.int .i64 1), .lit (.int .i64 0)], .agg [.lit (.int .u8 16), .agg [.lit (.int .u8 1), .lit (.string [111, 114])], .lit (.int .i64 1), .lit (.int .i64 1), .lit (.int .i64 2)], .agg [.lit (.int .u8 15), .agg [.lit (.int .u8 1), .lit (.string [97, 110, 100])], .lit (.int .i64 2), .lit (.int .i64 2), .lit (.int .i64 3)], .agg [.lit (.int .u8 11), .agg [.lit (.int .u8 3), .lit (.string [61, 61])], .lit (.int .i64 3), .lit (.int .i64 4), .lit (.int .i64 4)], .agg [.lit (.int .u8 12), .agg [.lit (.int .u8 3), .lit (.string [33, 61])], .lit (.int .i64 3), .lit (.int .i64 4), .lit (.int .i64 4)], .agg [.lit (.int .u8 13), .agg [.lit (.int .u8 3), .lit (.string [60])], .lit (.int .i64 3), .lit (.int .i64 4), .lit (.int .i64 4)], .agg [.lit (.int .u8 14), .agg [.lit (.int .u8 3), .lit (.string [60, 61])], .lit (.int .i64 3), .lit (.int .i64 4), .lit (.int .i64 4)], .agg [.lit (.int .u8 6), .agg [.lit (.int .u8 3), .lit (.string [43])], .lit (.int .i64 4), .lit (.int .i64 4), .lit (.int .i64 5)], .agg [.lit (.int .u8 7), .agg [.lit (.int .u8 3), .lit (.string [45])], .lit (.int .i64 4), .lit (.int .i64 4), .lit (.int .i64 5)], .agg [.lit (.int .u8 8), .agg [.lit (.int .u8 3), .lit (.string [42])], .lit (.int .i64 5), .lit (.int .i64 5), .lit (.int .i64 6)], .agg [.lit (.int .u8 9), .agg [.lit (.int .u8 3), .lit (.string [47])], .lit (.int .i64 5), .lit (.int .i64 5), .lit (.int .i64 6)], .agg [.lit (.int .u8 10), .agg [.lit (.int .u8 3), .lit (.string [37])], .lit (.int .i64 5), .lit (.int .i64 5), .lit (.int .i64 6)]]

/-- 'belfrylaw07.NamesChecks': WHATEVER THE INPUT: true; the input reads as it did. -/
def namesChecksSpec : ChangeSpec := { name := "namesChecks", fn := fun _ => fun
  | [d] => { results := [.lit (.bool true)], args := [d] }
  | _ => none }
def namesChecksRow : OpenClaim := { program := "ytilpoiihoikhlaadoor", sum := "e29ea28101637421331710641ee04c30ad823b10e420aaaeaa01bb615e3730f0", func := "belfry/belfrylaw07.NamesChecks", spec := "namesChecks", unfollowed := true, recurses := true, named := ["belfry/tokens.reserved", "belfry/exprs.joins"], loops := true, plainKeys := false, apart := false, laid := [("belfry/tokens.reserved", laid_belfry_tokens_reserved), ("belfry/exprs.joins", laid_belfry_exprs_joins)] }
def NamesChecksSaid : Prop := namesChecksRow.holds Tryd.pinned (OpenSpec.ofChange namesChecksSpec)

/-- ITS FALSE NEIGHBOUR: 'it returns false'. Refute it at one input. -/
def namesChecksWrong : ChangeSpec := { name := "namesChecks", fn := fun _ => fun
  | [d] => { results := [.lit (.bool false)], args := [d] }
  | _ => none }
def NamesChecksWrongFalsely : Prop := namesChecksRow.holds Tryd.pinned (OpenSpec.ofChange namesChecksWrong)

/-- 'belfrylaw07.NamesFound': WHATEVER THE INPUT: true; the input reads as it did. -/
def namesFoundSpec : ChangeSpec := { name := "namesFound", fn := fun _ => fun
  | [d] => { results := [.lit (.bool true)], args := [d] }
  | _ => none }
def namesFoundRow : OpenClaim := { program := "ytilpoiihoikhlaadoor", sum := "e29ea28101637421331710641ee04c30ad823b10e420aaaeaa01bb615e3730f0", func := "belfry/belfrylaw07.NamesFound", spec := "namesFound", unfollowed := true, recurses := true, named := ["belfry/tokens.reserved", "belfry/exprs.joins"], loops := true, plainKeys := false, apart := false, laid := [("belfry/tokens.reserved", laid_belfry_tokens_reserved), ("belfry/exprs.joins", laid_belfry_exprs_joins)] }
def NamesFoundSaid : Prop := namesFoundRow.holds Tryd.pinned (OpenSpec.ofChange namesFoundSpec)

/-- ITS FALSE NEIGHBOUR: 'it returns false'. Refute it at one input. -/
def namesFoundWrong : ChangeSpec := { name := "namesFound", fn := fun _ => fun
  | [d] => { results := [.lit (.bool false)], args := [d] }
  | _ => none }
def NamesFoundWrongFalsely : Prop := namesFoundRow.holds Tryd.pinned (OpenSpec.ofChange namesFoundWrong)

/-- 'belfrylaw07.NamesLess': WHATEVER THE INPUT: true; the input reads as it did. -/
def namesLessSpec : ChangeSpec := { name := "namesLess", fn := fun _ => fun
  | [d1, d2] => { results := [.lit (.bool true)], args := [d1, d2] }
  | _ => none }
def namesLessRow : OpenClaim := { program := "ytilpoiihoikhlaadoor", sum := "e29ea28101637421331710641ee04c30ad823b10e420aaaeaa01bb615e3730f0", func := "belfry/belfrylaw07.NamesLess", spec := "namesLess", unfollowed := true, recurses := true, named := ["belfry/tokens.reserved", "belfry/exprs.joins"], loops := true, plainKeys := false, apart := false, laid := [("belfry/tokens.reserved", laid_belfry_tokens_reserved), ("belfry/exprs.joins", laid_belfry_exprs_joins)] }
def NamesLessSaid : Prop := namesLessRow.holds Tryd.pinned (OpenSpec.ofChange namesLessSpec)

/-- ITS FALSE NEIGHBOUR: 'it returns false'. Refute it at one input. -/
def namesLessWrong : ChangeSpec := { name := "namesLess", fn := fun _ => fun
  | [d1, d2] => { results := [.lit (.bool false)], args := [d1, d2] }
  | _ => none }
def NamesLessWrongFalsely : Prop := namesLessRow.holds Tryd.pinned (OpenSpec.ofChange namesLessWrong)

/-- 'belfrylaw07.NamesNew': WHATEVER THE INPUT: true; the input reads as it did. -/
def namesNewSpec : ChangeSpec := { name := "namesNew", fn := fun _ => fun
  | [d1, d2] => { results := [.lit (.bool true)], args := [d1, d2] }
  | _ => none }
def namesNewRow : OpenClaim := { program := "ytilpoiihoikhlaadoor", sum := "e29ea28101637421331710641ee04c30ad823b10e420aaaeaa01bb615e3730f0", func := "belfry/belfrylaw07.NamesNew", spec := "namesNew", unfollowed := true, recurses := true, named := ["belfry/tokens.reserved", "belfry/exprs.joins"], loops := true, plainKeys := false, apart := false, laid := [("belfry/tokens.reserved", laid_belfry_tokens_reserved), ("belfry/exprs.joins", laid_belfry_exprs_joins)] }
def NamesNewSaid : Prop := namesNewRow.holds Tryd.pinned (OpenSpec.ofChange namesNewSpec)

/-- ITS FALSE NEIGHBOUR: 'it returns false'. Refute it at one input. -/
def namesNewWrong : ChangeSpec := { name := "namesNew", fn := fun _ => fun
  | [d1, d2] => { results := [.lit (.bool false)], args := [d1, d2] }
  | _ => none }
def NamesNewWrongFalsely : Prop := namesNewRow.holds Tryd.pinned (OpenSpec.ofChange namesNewWrong)

/-- 'belfrylaw07.NamesTurned': WHATEVER THE INPUT: true; the input reads as it did. -/
def namesTurnedSpec : ChangeSpec := { name := "namesTurned", fn := fun _ => fun
  | [d] => { results := [.lit (.bool true)], args := [d] }
  | _ => none }
def namesTurnedRow : OpenClaim := { program := "ytilpoiihoikhlaadoor", sum := "e29ea28101637421331710641ee04c30ad823b10e420aaaeaa01bb615e3730f0", func := "belfry/belfrylaw07.NamesTurned", spec := "namesTurned", unfollowed := true, recurses := true, named := ["belfry/tokens.reserved", "belfry/exprs.joins"], loops := true, plainKeys := false, apart := false, laid := [("belfry/tokens.reserved", laid_belfry_tokens_reserved), ("belfry/exprs.joins", laid_belfry_exprs_joins)] }
def NamesTurnedSaid : Prop := namesTurnedRow.holds Tryd.pinned (OpenSpec.ofChange namesTurnedSpec)

/-- ITS FALSE NEIGHBOUR: 'it returns false'. Refute it at one input. -/
def namesTurnedWrong : ChangeSpec := { name := "namesTurned", fn := fun _ => fun
  | [d] => { results := [.lit (.bool false)], args := [d] }
  | _ => none }
def NamesTurnedWrongFalsely : Prop := namesTurnedRow.holds Tryd.pinned (OpenSpec.ofChange namesTurnedWrong)

/- THE SECOND FORM. 'bulk': how many values and letters a reading holds, each counted each time it is reached (what is shared counts as often as it is met; a slice's spare places count too). A statement '..UptoSaid' is the law's where the arguments, and the package variables that the reading takes, are together of bulk at most 1048576: NARROWER than '..Said'. Prove '..Said' where nothing that the law and all that it calls make is longer than what came in: it says more and counts as full. Else prove '..UptoSaid'. A law counts once. -/
mutual
def uptoBulk {H : Type} : DataW H → Nat
  | .lit (.string bytes) => bytes.length + 1
  | .lit _ => 1
  | .nil => 1
  | .ptr d => uptoBulk d + 1
  | .slice elems spare => uptoBulkAll elems + uptoBulkAll spare + 1
  | .agg parts => uptoBulkAll parts + 1
  | .iface _ d => uptoBulk d + 1
  | .map entries => uptoBulkEntries entries + 1
  | .held _ => 1
def uptoBulkAll {H : Type} : List (DataW H) → Nat
  | [] => 0
  | d :: r => uptoBulk d + uptoBulkAll r
def uptoBulkEntries {H : Type} : List (Lit × DataW H) → Nat
  | [] => 0
  | x :: r => uptoBulkEntry x + uptoBulkEntries r
def uptoBulkEntry {H : Type} : Lit × DataW H → Nat
  | (.string bytes, d) => bytes.length + uptoBulk d + 1
  | (_, d) => uptoBulk d + 1
 end
def uptoSmall : (H : Type) → List (DataW H) → Bool := fun _ ds => decide (uptoBulkAll ds ≤ 1048576)
def OpenSpec.upto (s : _root_.Go.ChangeSpec) : _root_.Go.OpenSpec := { _root_.Go.OpenSpec.ofChange s with cond := some uptoSmall }

/-- 'belfrylaw07.NamesChecks', WHERE WHAT IT READS IS OF BULK AT MOST 1048576: true; the input reads as it did. -/
def namesChecksUptoRow : OpenClaim := { program := "ytilpoiihoikhlaadoor", sum := "e29ea28101637421331710641ee04c30ad823b10e420aaaeaa01bb615e3730f0", func := "belfry/belfrylaw07.NamesChecks", spec := "namesChecks", unfollowed := true, recurses := true, named := ["belfry/tokens.reserved", "belfry/exprs.joins"], loops := true, plainKeys := false, apart := false, laid := [("belfry/tokens.reserved", laid_belfry_tokens_reserved), ("belfry/exprs.joins", laid_belfry_exprs_joins)], narrowed := true }
def NamesChecksUptoSaid : Prop := namesChecksUptoRow.holds Tryd.pinned (OpenSpec.upto namesChecksSpec)

/-- 'belfrylaw07.NamesFound', WHERE WHAT IT READS IS OF BULK AT MOST 1048576: true; the input reads as it did. -/
def namesFoundUptoRow : OpenClaim := { program := "ytilpoiihoikhlaadoor", sum := "e29ea28101637421331710641ee04c30ad823b10e420aaaeaa01bb615e3730f0", func := "belfry/belfrylaw07.NamesFound", spec := "namesFound", unfollowed := true, recurses := true, named := ["belfry/tokens.reserved", "belfry/exprs.joins"], loops := true, plainKeys := false, apart := false, laid := [("belfry/tokens.reserved", laid_belfry_tokens_reserved), ("belfry/exprs.joins", laid_belfry_exprs_joins)], narrowed := true }
def NamesFoundUptoSaid : Prop := namesFoundUptoRow.holds Tryd.pinned (OpenSpec.upto namesFoundSpec)

/-- 'belfrylaw07.NamesLess', WHERE WHAT IT READS IS OF BULK AT MOST 1048576: true; the input reads as it did. -/
def namesLessUptoRow : OpenClaim := { program := "ytilpoiihoikhlaadoor", sum := "e29ea28101637421331710641ee04c30ad823b10e420aaaeaa01bb615e3730f0", func := "belfry/belfrylaw07.NamesLess", spec := "namesLess", unfollowed := true, recurses := true, named := ["belfry/tokens.reserved", "belfry/exprs.joins"], loops := true, plainKeys := false, apart := false, laid := [("belfry/tokens.reserved", laid_belfry_tokens_reserved), ("belfry/exprs.joins", laid_belfry_exprs_joins)], narrowed := true }
def NamesLessUptoSaid : Prop := namesLessUptoRow.holds Tryd.pinned (OpenSpec.upto namesLessSpec)

/-- 'belfrylaw07.NamesNew', WHERE WHAT IT READS IS OF BULK AT MOST 1048576: true; the input reads as it did. -/
def namesNewUptoRow : OpenClaim := { program := "ytilpoiihoikhlaadoor", sum := "e29ea28101637421331710641ee04c30ad823b10e420aaaeaa01bb615e3730f0", func := "belfry/belfrylaw07.NamesNew", spec := "namesNew", unfollowed := true, recurses := true, named := ["belfry/tokens.reserved", "belfry/exprs.joins"], loops := true, plainKeys := false, apart := false, laid := [("belfry/tokens.reserved", laid_belfry_tokens_reserved), ("belfry/exprs.joins", laid_belfry_exprs_joins)], narrowed := true }
def NamesNewUptoSaid : Prop := namesNewUptoRow.holds Tryd.pinned (OpenSpec.upto namesNewSpec)

/-- 'belfrylaw07.NamesTurned', WHERE WHAT IT READS IS OF BULK AT MOST 1048576: true; the input reads as it did. -/
def namesTurnedUptoRow : OpenClaim := { program := "ytilpoiihoikhlaadoor", sum := "e29ea28101637421331710641ee04c30ad823b10e420aaaeaa01bb615e3730f0", func := "belfry/belfrylaw07.NamesTurned", spec := "namesTurned", unfollowed := true, recurses := true, named := ["belfry/tokens.reserved", "belfry/exprs.joins"], loops := true, plainKeys := false, apart := false, laid := [("belfry/tokens.reserved", laid_belfry_tokens_reserved), ("belfry/exprs.joins", laid_belfry_exprs_joins)], narrowed := true }
def NamesTurnedUptoSaid : Prop := namesTurnedUptoRow.holds Tryd.pinned (OpenSpec.upto namesTurnedSpec)

end Rows
end Go.Proofs.YtilpoiihoikhlaaDoor
