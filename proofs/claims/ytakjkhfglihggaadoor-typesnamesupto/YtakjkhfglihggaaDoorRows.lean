/-
  NARROWER THAN 'FOR EVERY INPUT', by the rows' own cells (each row's printed sentence says how): TypesOf: loops, laid · TypesChecks: loops, laid · TypesParts: loops, laid · TypesChanged: loops, laid · TypesFlows: loops, laid · TypesNames: loops, laid.
  DERIVED. THE GIVEN ROWS OF THIS SEAT. 6 by the template 'for every input the law returns true; each argument reads behind the call as it read before'; 0 by the template 'total and deterministic' (their statements: YtakjkhfglihggaaDoorTotals.lean).
  GIVEN WITH THE SEED: the statements are not yours to turn. If you find one false, say at which input.
  Laid BY PROGRAM, IN A SANDBOX (cutbox-rows.mjs): the forced cells as the released guide's own fill.sh prints them over the translation 02c3891eede26f67… (all of the seat's roots in one cut). By AI agents, Wed Nov 11 2026. No macro, syntax, notation, axiom, sorry.
-/
import Derived.Test.YtakjkhfglihggaaDoorChecked
import GoSem.Claim
import GoSem.ClaimJoined
import GoSem.ClaimMapViews
import Derived.JoinedTies
import Derived.KernelRfl
namespace Go.Proofs.YtakjkhfglihggaaDoor
/- THE CELL 'sum', in the pinned program and in every row, IS THE sha256 OF THE DUMP (.gsa) THAT YtakjkhfglihggaaDoorProg.lean LOADS. Nothing in Lean hashes anything: it is a label: what it is worth is what the hold of that sum in a sandbox is worth. -/
noncomputable def Tryd.pinned : Pinned := { name := "ytakjkhfglihggaadoor", sum := "02c3891eede26f674ab26476efcdf486b054aa02286c9d1aa241e4376bd8d898", checked := Tryd.checked }
namespace Rows
def none {H : Type} : Left H := { results := [], args := [] }

/- WHAT THE LISTED PACKAGE-LEVEL VARIABLES READ AS WHEN THE CALL BEGINS. Each datum BY PROGRAM (the guide's laid-datum.mjs) off the statement by which the dump's own 'gosem.cut.vars' lays the variable. In a bare row this is a premise. The card (YtakjkhfglihggaaDoorCards.lean) ties it to the program's text. -/
def laid_belfry_tokens_reserved {H : Type} : DataW H := .agg [.lit (.string [115, 116, 97, 116, 105, 111, 110, 115]), .lit (.string [105, 110]), .lit (.string [97, 116]), .lit (.string [102, 108, 111, 119]), .lit (.string [100, 101, 102, 97, 117, 108, 116]), .lit (.string [111, 117, 116]), .lit (.string [105, 102]), .lit (.string [116, 104, 101, 110]), .lit (.string [101, 108, 115, 101]), .lit (.string [112, 114, 101]), .lit (.string [97, 110, 100]), .lit (.string [111, 114]), .lit (.string [110, 111, 116]), .lit (.string [116, 114, 117, 101]), .lit (.string [102, 97, 108, 115, 101]), .lit (.string [105, 110, 116]), .lit (.string [98, 111, 111, 108])]
def laid_belfry_exprs_joins {H : Type} : DataW H := .agg [.agg [.lit (.int .u8 18), .agg [.lit (.int .u8 3), .lit (.string [45, 62])], .lit (.int .i64 0), .lit (.int .i64 1), .lit (.int .i64 0)], .agg [.lit (.int .u8 16), .agg [.lit (.int .u8 1), .lit (.string [111, 114])], .lit (.int .i64 1), .lit (.int .i64 1), .lit (.int .i64 2)], .agg [.lit (.int .u8 15), .agg [.lit (.int .u8 1), .lit (.string [97, 110, 100])], .lit (.int .i64 2), .lit (.int .i64 2), .lit (.int .i64 3)], .agg [.lit (.int .u8 11), .agg [.lit (.int .u8 3), .lit (.string [61, 61])], .lit (.int .i64 3), .lit (.int .i64 4), .lit (.int .i64 4)], .agg [.lit (.int .u8 12), .agg [.lit (.int .u8 3), .lit (.string [33, 61])], .lit (.int .i64 3), .lit (.int .i64 4), .lit (.int .i64 4)], .agg [.lit (.int .u8 13), .agg [.lit (.int .u8 3), .lit (.string [60])], .lit (.int .i64 3), .lit (.int .i64 4), .lit (.int .i64 4)], .agg [.lit (.int .u8 14), .agg [.lit (.int .u8 3), .lit (.string [60, 61])], .lit (.int .i64 3), .lit (.int .i64 4), .lit (.int .i64 4)], .agg [.lit (.int .u8 6), .agg [.lit (.int .u8 3), .lit (.string [43])], .lit (.int .i64 4), .lit (.int .i64 4), .lit (.int .i64 5)], .agg [.lit (.int .u8 7), .agg [.lit (.int .u8 3), .lit (.string [45])], .lit (.int .i64 4), .lit (.int .i64 4), .lit (.int .i64 5)], .agg [.lit (.int .u8 8), .agg [.lit (.int .u8 3), .lit (.string [42])], .lit (.int .i64 5), .lit (.int .i64 5), .lit (.int .i64 6)], .agg [.lit (.int .u8 9), .agg [.lit (.int .u8 3), .lit (.string [47])], .lit (.int .i64 5), .lit (.int .i64 5), .lit (.int .i64 6)], .agg [.lit (.int .u8 10), .agg [.lit (.int .u8 3), .lit (.string [37])], .lit (.int .i64 5), .lit (.int .i64 5), .lit (.int .i64 6)]]

/-- 'belfrylaw08.TypesOf': WHATEVER THE INPUT: true; the input reads as it did. -/
def typesOfSpec : ChangeSpec := { name := "typesOf", fn := fun _ => fun
  | [d1, d2] => { results := [.lit (.bool true)], args := [d1, d2] }
  | _ => none }
def typesOfRow : OpenClaim := { program := "ytakjkhfglihggaadoor", sum := "02c3891eede26f674ab26476efcdf486b054aa02286c9d1aa241e4376bd8d898", func := "belfry/belfrylaw08.TypesOf", spec := "typesOf", unfollowed := true, recurses := true, named := ["belfry/tokens.reserved", "belfry/exprs.joins"], loops := true, plainKeys := false, apart := false, laid := [("belfry/tokens.reserved", laid_belfry_tokens_reserved), ("belfry/exprs.joins", laid_belfry_exprs_joins)] }
def TypesOfSaid : Prop := typesOfRow.holds Tryd.pinned (OpenSpec.ofChange typesOfSpec)

/-- ITS FALSE NEIGHBOUR: 'it returns false'. Refute it at one input. -/
def typesOfWrong : ChangeSpec := { name := "typesOf", fn := fun _ => fun
  | [d1, d2] => { results := [.lit (.bool false)], args := [d1, d2] }
  | _ => none }
def TypesOfWrongFalsely : Prop := typesOfRow.holds Tryd.pinned (OpenSpec.ofChange typesOfWrong)

/-- 'belfrylaw08.TypesChecks': WHATEVER THE INPUT: true; the input reads as it did. -/
def typesChecksSpec : ChangeSpec := { name := "typesChecks", fn := fun _ => fun
  | [d] => { results := [.lit (.bool true)], args := [d] }
  | _ => none }
def typesChecksRow : OpenClaim := { program := "ytakjkhfglihggaadoor", sum := "02c3891eede26f674ab26476efcdf486b054aa02286c9d1aa241e4376bd8d898", func := "belfry/belfrylaw08.TypesChecks", spec := "typesChecks", unfollowed := true, recurses := true, named := ["belfry/tokens.reserved", "belfry/exprs.joins"], loops := true, plainKeys := false, apart := false, laid := [("belfry/tokens.reserved", laid_belfry_tokens_reserved), ("belfry/exprs.joins", laid_belfry_exprs_joins)] }
def TypesChecksSaid : Prop := typesChecksRow.holds Tryd.pinned (OpenSpec.ofChange typesChecksSpec)

/-- ITS FALSE NEIGHBOUR: 'it returns false'. Refute it at one input. -/
def typesChecksWrong : ChangeSpec := { name := "typesChecks", fn := fun _ => fun
  | [d] => { results := [.lit (.bool false)], args := [d] }
  | _ => none }
def TypesChecksWrongFalsely : Prop := typesChecksRow.holds Tryd.pinned (OpenSpec.ofChange typesChecksWrong)

/-- 'belfrylaw08.TypesParts': WHATEVER THE INPUT: true; the input reads as it did. -/
def typesPartsSpec : ChangeSpec := { name := "typesParts", fn := fun _ => fun
  | [d1, d2] => { results := [.lit (.bool true)], args := [d1, d2] }
  | _ => none }
def typesPartsRow : OpenClaim := { program := "ytakjkhfglihggaadoor", sum := "02c3891eede26f674ab26476efcdf486b054aa02286c9d1aa241e4376bd8d898", func := "belfry/belfrylaw08.TypesParts", spec := "typesParts", unfollowed := true, recurses := true, named := ["belfry/tokens.reserved", "belfry/exprs.joins"], loops := true, plainKeys := false, apart := false, laid := [("belfry/tokens.reserved", laid_belfry_tokens_reserved), ("belfry/exprs.joins", laid_belfry_exprs_joins)] }
def TypesPartsSaid : Prop := typesPartsRow.holds Tryd.pinned (OpenSpec.ofChange typesPartsSpec)

/-- ITS FALSE NEIGHBOUR: 'it returns false'. Refute it at one input. -/
def typesPartsWrong : ChangeSpec := { name := "typesParts", fn := fun _ => fun
  | [d1, d2] => { results := [.lit (.bool false)], args := [d1, d2] }
  | _ => none }
def TypesPartsWrongFalsely : Prop := typesPartsRow.holds Tryd.pinned (OpenSpec.ofChange typesPartsWrong)

/-- 'belfrylaw08.TypesChanged': WHATEVER THE INPUT: true; the input reads as it did. -/
def typesChangedSpec : ChangeSpec := { name := "typesChanged", fn := fun _ => fun
  | [d1, d2, d3] => { results := [.lit (.bool true)], args := [d1, d2, d3] }
  | _ => none }
def typesChangedRow : OpenClaim := { program := "ytakjkhfglihggaadoor", sum := "02c3891eede26f674ab26476efcdf486b054aa02286c9d1aa241e4376bd8d898", func := "belfry/belfrylaw08.TypesChanged", spec := "typesChanged", unfollowed := true, recurses := true, named := ["belfry/tokens.reserved", "belfry/exprs.joins"], loops := true, plainKeys := false, apart := false, laid := [("belfry/tokens.reserved", laid_belfry_tokens_reserved), ("belfry/exprs.joins", laid_belfry_exprs_joins)] }
def TypesChangedSaid : Prop := typesChangedRow.holds Tryd.pinned (OpenSpec.ofChange typesChangedSpec)

/-- ITS FALSE NEIGHBOUR: 'it returns false'. Refute it at one input. -/
def typesChangedWrong : ChangeSpec := { name := "typesChanged", fn := fun _ => fun
  | [d1, d2, d3] => { results := [.lit (.bool false)], args := [d1, d2, d3] }
  | _ => none }
def TypesChangedWrongFalsely : Prop := typesChangedRow.holds Tryd.pinned (OpenSpec.ofChange typesChangedWrong)

/-- 'belfrylaw08.TypesFlows': WHATEVER THE INPUT: true; the input reads as it did. -/
def typesFlowsSpec : ChangeSpec := { name := "typesFlows", fn := fun _ => fun
  | [d1, d2] => { results := [.lit (.bool true)], args := [d1, d2] }
  | _ => none }
def typesFlowsRow : OpenClaim := { program := "ytakjkhfglihggaadoor", sum := "02c3891eede26f674ab26476efcdf486b054aa02286c9d1aa241e4376bd8d898", func := "belfry/belfrylaw08.TypesFlows", spec := "typesFlows", unfollowed := true, recurses := true, named := ["belfry/tokens.reserved", "belfry/exprs.joins"], loops := true, plainKeys := false, apart := false, laid := [("belfry/tokens.reserved", laid_belfry_tokens_reserved), ("belfry/exprs.joins", laid_belfry_exprs_joins)] }
def TypesFlowsSaid : Prop := typesFlowsRow.holds Tryd.pinned (OpenSpec.ofChange typesFlowsSpec)

/-- ITS FALSE NEIGHBOUR: 'it returns false'. Refute it at one input. -/
def typesFlowsWrong : ChangeSpec := { name := "typesFlows", fn := fun _ => fun
  | [d1, d2] => { results := [.lit (.bool false)], args := [d1, d2] }
  | _ => none }
def TypesFlowsWrongFalsely : Prop := typesFlowsRow.holds Tryd.pinned (OpenSpec.ofChange typesFlowsWrong)

/-- 'belfrylaw08.TypesNames': WHATEVER THE INPUT: true; the input reads as it did. -/
def typesNamesSpec : ChangeSpec := { name := "typesNames", fn := fun _ => fun
  | [d1, d2, d3] => { results := [.lit (.bool true)], args := [d1, d2, d3] }
  | _ => none }
def typesNamesRow : OpenClaim := { program := "ytakjkhfglihggaadoor", sum := "02c3891eede26f674ab26476efcdf486b054aa02286c9d1aa241e4376bd8d898", func := "belfry/belfrylaw08.TypesNames", spec := "typesNames", unfollowed := true, recurses := true, named := ["belfry/tokens.reserved", "belfry/exprs.joins"], loops := true, plainKeys := false, apart := false, laid := [("belfry/tokens.reserved", laid_belfry_tokens_reserved), ("belfry/exprs.joins", laid_belfry_exprs_joins)] }
def TypesNamesSaid : Prop := typesNamesRow.holds Tryd.pinned (OpenSpec.ofChange typesNamesSpec)

/-- ITS FALSE NEIGHBOUR: 'it returns false'. Refute it at one input. -/
def typesNamesWrong : ChangeSpec := { name := "typesNames", fn := fun _ => fun
  | [d1, d2, d3] => { results := [.lit (.bool false)], args := [d1, d2, d3] }
  | _ => none }
def TypesNamesWrongFalsely : Prop := typesNamesRow.holds Tryd.pinned (OpenSpec.ofChange typesNamesWrong)

/- THE SECOND FORM. 'bulk': how many values and letters a reading holds, each counted each time it is reached (what is shared counts as often as it is met; a slice's spare places count too). A statement '..UptoSaid' is the law's where the arguments, and the package variables that the reading takes, are together of bulk at most 1048576: NARROWER than '..Said'. Prove '..Said' where nothing that the law and all that it calls make is longer than what came in: it says more and counts as full. Else prove '..UptoSaid'. A law counts once. -/
mutual
def uptoBulk {H : Type} : DataW H → Nat
  | .lit (.string bytes) => bytes.length + 1
  | .lit _ => 1
  | .nil => 1
  | .ptr d => uptoBulk d + 1
  | .slice elems spare => uptoBulkAll elems + uptoBulkAll spare + 1
  | .agg parts => uptoBulkAll parts + 1
  | .iface _ d => uptoBulk d + 1
  | .map entries => uptoBulkEntries entries + 1
  | .held _ => 1
def uptoBulkAll {H : Type} : List (DataW H) → Nat
  | [] => 0
  | d :: r => uptoBulk d + uptoBulkAll r
def uptoBulkEntries {H : Type} : List (Lit × DataW H) → Nat
  | [] => 0
  | x :: r => uptoBulkEntry x + uptoBulkEntries r
def uptoBulkEntry {H : Type} : Lit × DataW H → Nat
  | (.string bytes, d) => bytes.length + uptoBulk d + 1
  | (_, d) => uptoBulk d + 1
 end
def uptoSmall : (H : Type) → List (DataW H) → Bool := fun _ ds => decide (uptoBulkAll ds ≤ 1048576)
def OpenSpec.upto (s : _root_.Go.ChangeSpec) : _root_.Go.OpenSpec := { _root_.Go.OpenSpec.ofChange s with cond := some uptoSmall }

/-- 'belfrylaw08.TypesOf', WHERE WHAT IT READS IS OF BULK AT MOST 1048576: true; the input reads as it did. -/
def typesOfUptoRow : OpenClaim := { program := "ytakjkhfglihggaadoor", sum := "02c3891eede26f674ab26476efcdf486b054aa02286c9d1aa241e4376bd8d898", func := "belfry/belfrylaw08.TypesOf", spec := "typesOf", unfollowed := true, recurses := true, named := ["belfry/tokens.reserved", "belfry/exprs.joins"], loops := true, plainKeys := false, apart := false, laid := [("belfry/tokens.reserved", laid_belfry_tokens_reserved), ("belfry/exprs.joins", laid_belfry_exprs_joins)], narrowed := true }
def TypesOfUptoSaid : Prop := typesOfUptoRow.holds Tryd.pinned (OpenSpec.upto typesOfSpec)

/-- 'belfrylaw08.TypesChecks', WHERE WHAT IT READS IS OF BULK AT MOST 1048576: true; the input reads as it did. -/
def typesChecksUptoRow : OpenClaim := { program := "ytakjkhfglihggaadoor", sum := "02c3891eede26f674ab26476efcdf486b054aa02286c9d1aa241e4376bd8d898", func := "belfry/belfrylaw08.TypesChecks", spec := "typesChecks", unfollowed := true, recurses := true, named := ["belfry/tokens.reserved", "belfry/exprs.joins"], loops := true, plainKeys := false, apart := false, laid := [("belfry/tokens.reserved", laid_belfry_tokens_reserved), ("belfry/exprs.joins", laid_belfry_exprs_joins)], narrowed := true }
def TypesChecksUptoSaid : Prop := typesChecksUptoRow.holds Tryd.pinned (OpenSpec.upto typesChecksSpec)

/-- 'belfrylaw08.TypesParts', WHERE WHAT IT READS IS OF BULK AT MOST 1048576: true; the input reads as it did. -/
def typesPartsUptoRow : OpenClaim := { program := "ytakjkhfglihggaadoor", sum := "02c3891eede26f674ab26476efcdf486b054aa02286c9d1aa241e4376bd8d898", func := "belfry/belfrylaw08.TypesParts", spec := "typesParts", unfollowed := true, recurses := true, named := ["belfry/tokens.reserved", "belfry/exprs.joins"], loops := true, plainKeys := false, apart := false, laid := [("belfry/tokens.reserved", laid_belfry_tokens_reserved), ("belfry/exprs.joins", laid_belfry_exprs_joins)], narrowed := true }
def TypesPartsUptoSaid : Prop := typesPartsUptoRow.holds Tryd.pinned (OpenSpec.upto typesPartsSpec)

/-- 'belfrylaw08.TypesChanged', WHERE WHAT IT READS IS OF BULK AT MOST 1048576: true; the input reads as it did. -/
def typesChangedUptoRow : OpenClaim := { program := "ytakjkhfglihggaadoor", sum := "02c3891eede26f674ab26476efcdf486b054aa02286c9d1aa241e4376bd8d898", func := "belfry/belfrylaw08.TypesChanged", spec := "typesChanged", unfollowed := true, recurses := true, named := ["belfry/tokens.reserved", "belfry/exprs.joins"], loops := true, plainKeys := false, apart := false, laid := [("belfry/tokens.reserved", laid_belfry_tokens_reserved), ("belfry/exprs.joins", laid_belfry_exprs_joins)], narrowed := true }
def TypesChangedUptoSaid : Prop := typesChangedUptoRow.holds Tryd.pinned (OpenSpec.upto typesChangedSpec)

/-- 'belfrylaw08.TypesFlows', WHERE WHAT IT READS IS OF BULK AT MOST 1048576: true; the input reads as it did. -/
def typesFlowsUptoRow : OpenClaim := { program := "ytakjkhfglihggaadoor", sum := "02c3891eede26f674ab26476efcdf486b054aa02286c9d1aa241e4376bd8d898", func := "belfry/belfrylaw08.TypesFlows", spec := "typesFlows", unfollowed := true, recurses := true, named := ["belfry/tokens.reserved", "belfry/exprs.joins"], loops := true, plainKeys := false, apart := false, laid := [("belfry/tokens.reserved", laid_belfry_tokens_reserved), ("belfry/exprs.joins", laid_belfry_exprs_joins)], narrowed := true }
def TypesFlowsUptoSaid : Prop := typesFlowsUptoRow.holds Tryd.pinned (OpenSpec.upto typesFlowsSpec)

/-- 'belfrylaw08.TypesNames', WHERE WHAT IT READS IS OF BULK AT MOST 1048576: true; the input reads as it did. -/
def typesNamesUptoRow : OpenClaim := { program := "ytakjkhfglihggaadoor", sum := "02c3891eede26f674ab26476efcdf486b054aa02286c9d1aa241e4376bd8d898", func := "belfry/belfrylaw08.TypesNames", spec := "typesNames", unfollowed := true, recurses := true, named := ["belfry/tokens.reserved", "belfry/exprs.joins"], loops := true, plainKeys := false, apart := false, laid := [("belfry/tokens.reserved", laid_belfry_tokens_reserved), ("belfry/exprs.joins", laid_belfry_exprs_joins)], narrowed := true }
def TypesNamesUptoSaid : Prop := typesNamesUptoRow.holds Tryd.pinned (OpenSpec.upto typesNamesSpec)

end Rows
end Go.Proofs.YtakjkhfglihggaaDoor
