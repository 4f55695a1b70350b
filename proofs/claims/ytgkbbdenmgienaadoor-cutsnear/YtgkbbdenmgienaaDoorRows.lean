/-
  NARROWER THAN 'FOR EVERY INPUT', by the rows' own cells (each row's printed sentence says how): CutsMeet: loops, laid · CutsNear: loops, laid.
  DERIVED. THE GIVEN ROWS OF THIS SEAT. 2 by the template 'for every input the law returns true; each argument reads behind the call as it read before'; 0 by the template 'total and deterministic' (their statements: YtgkbbdenmgienaaDoorTotals.lean).
  GIVEN WITH THE SEED: the statements are not yours to turn. If you find one false, say at which input.
  Laid BY PROGRAM, IN A SANDBOX (cutbox-rows.mjs): the forced cells as the released guide's own fill.sh prints them over the translation 4b234e3deb51cd2d… (all of the seat's roots in one cut). By AI agents, Wed Nov 11 2026. No macro, syntax, notation, axiom, sorry.
-/
import Derived.Test.YtgkbbdenmgienaaDoorChecked
import GoSem.Claim
import GoSem.ClaimJoined
import GoSem.ClaimMapViews
import Derived.JoinedTies
import Derived.KernelRfl
namespace Go.Proofs.YtgkbbdenmgienaaDoor
/- THE CELL 'sum', in the pinned program and in every row, IS THE sha256 OF THE DUMP (.gsa) THAT YtgkbbdenmgienaaDoorProg.lean LOADS. Nothing in Lean hashes anything: it is a label: what it is worth is what the hold of that sum in a sandbox is worth. -/
noncomputable def Tryd.pinned : Pinned := { name := "ytgkbbdenmgienaadoor", sum := "4b234e3deb51cd2d26f0bbab25720fbac69a9832a95eb51eece65413908c9df9", checked := Tryd.checked }
namespace Rows
def none {H : Type} : Left H := { results := [], args := [] }

/- WHAT THE LISTED PACKAGE-LEVEL VARIABLES READ AS WHEN THE CALL BEGINS. Each datum BY PROGRAM (the guide's laid-datum.mjs) off the statement by which the dump's own 'gosem.cut.vars' lays the variable. In a bare row this is a premise. The card (YtgkbbdenmgienaaDoorCards.lean) ties it to the program's text. -/
def laid_belfry_tokens_reserved {H : Type} : DataW H := .agg [.lit (.string [115, 116, 97, 116, 105, 111, 110, 115]), .lit (.string [105, 110]), .lit (.string [97, 116]), .lit (.string [102, 108, 111, 119]), .lit (.string [100, 101, 102, 97, 117, 108, 116]), .lit (.string [111, 117, 116]), .lit (.string [105, 102]), .lit (.string [116, 104, 101, 110]), .lit (.string [101, 108, 115, 101]), .lit (.string [112, 114, 101]), .lit (.string [97, 110, 100]), .lit (.string [111, 114]), .lit (.string [110, 111, 116]), .lit (.string [116, 114, 117, 101]), .lit (.string [102, 97, 108, 115, 101]), .lit (.string [105, 110, 116]), .lit (.string [98, 111, 111, 108])]
def laid_belfry_exprs_joins {H : Type} : DataW H := .agg [.agg [.lit (.int .u8 18), .agg [.lit (.int .u8 3), .lit (.string [45, 62])], .lit (.int .i64 0), .lit (.int .i64 1), .lit (.int .i64 0)], .agg [.lit (.int .u8 16), .agg [.lit (.int .u8 1), .lit (.string [111, 114])], .lit (.int .i64 1), .lit (.int .i64 1), .lit (.int .i64 2)], .agg [.lit (.int .u8 15), .agg [.lit (.int .u8 1), .lit (.string [97, 110, 100])], .lit (.int .i64 2), .lit (.int .i64 2), .lit (.int .i64 3)], .agg [.lit (.int .u8 11), .agg [.lit (.int .u8 3), .lit (.string [61, 61])], .lit (.int .i64 3), .lit (.int .i64 4), .lit (.int .i64 4)], .agg [.lit (.int .u8 12), .agg [.lit (.int .u8 3), .lit (.string [33, 61])], .lit (.int .i64 3), .lit (.int .i64 4), .lit (.int .i64 4)], .agg [.lit (.int .u8 13), .agg [.lit (.int .u8 3), .lit (.string [60])], .lit (.int .i64 3), .lit (.int .i64 4), .lit (.int .i64 4)], .agg [.lit (.int .u8 14), .agg [.lit (.int .u8 3), .lit (.string [60, 61])], .lit (.int .i64 3), .lit (.int .i64 4), .lit (.int .i64 4)], .agg [.lit (.int .u8 6), .agg [.lit (.int .u8 3), .lit (.string [43])], .lit (.int .i64 4), .lit (.int .i64 4), .lit (.int .i64 5)], .agg [.lit (.int .u8 7), .agg [.lit (.int .u8 3), .lit (.string [45])], .lit (.int .i64 4), .lit (.int .i64 4), .lit (.int .i64 5)], .agg [.lit (.int .u8 8), .agg [.lit (.int .u8 3), .lit (.string [42])], .lit (.int .i64 5), .lit (.int .i64 5), .lit (.int .i64 6)], .agg [.lit (.int .u8 9), .agg [.lit (.int .u8 3), .lit (.string [47])], .lit (.int .i64 5), .lit (.int .i64 5), .lit (.int .i64 6)], .agg [.lit (.int .u8 10), .agg [.lit (.int .u8 3), .lit (.string [37])], .lit (.int .i64 5), .lit (.int .i64 5), .lit (.int .i64 6)]]

/-- 'belfrylaw15.CutsMeet': WHATEVER THE INPUT: true; the input reads as it did. -/
def cutsMeetSpec : ChangeSpec := { name := "cutsMeet", fn := fun _ => fun
  | [d] => { results := [.lit (.bool true)], args := [d] }
  | _ => none }
def cutsMeetRow : OpenClaim := { program := "ytgkbbdenmgienaadoor", sum := "4b234e3deb51cd2d26f0bbab25720fbac69a9832a95eb51eece65413908c9df9", func := "belfry/belfrylaw15.CutsMeet", spec := "cutsMeet", unfollowed := true, recurses := true, named := ["belfry/tokens.reserved", "belfry/exprs.joins"], loops := true, plainKeys := false, apart := false, laid := [("belfry/tokens.reserved", laid_belfry_tokens_reserved), ("belfry/exprs.joins", laid_belfry_exprs_joins)] }
def CutsMeetSaid : Prop := cutsMeetRow.holds Tryd.pinned (OpenSpec.ofChange cutsMeetSpec)

/-- ITS FALSE NEIGHBOUR: 'it returns false'. Refute it at one input. -/
def cutsMeetWrong : ChangeSpec := { name := "cutsMeet", fn := fun _ => fun
  | [d] => { results := [.lit (.bool false)], args := [d] }
  | _ => none }
def CutsMeetWrongFalsely : Prop := cutsMeetRow.holds Tryd.pinned (OpenSpec.ofChange cutsMeetWrong)

/-- 'belfrylaw15.CutsNear': WHATEVER THE INPUT: true; the input reads as it did. -/
def cutsNearSpec : ChangeSpec := { name := "cutsNear", fn := fun _ => fun
  | [d1, d2] => { results := [.lit (.bool true)], args := [d1, d2] }
  | _ => none }
def cutsNearRow : OpenClaim := { program := "ytgkbbdenmgienaadoor", sum := "4b234e3deb51cd2d26f0bbab25720fbac69a9832a95eb51eece65413908c9df9", func := "belfry/belfrylaw15.CutsNear", spec := "cutsNear", unfollowed := true, recurses := true, named := ["belfry/tokens.reserved", "belfry/exprs.joins"], loops := true, plainKeys := false, apart := false, laid := [("belfry/tokens.reserved", laid_belfry_tokens_reserved), ("belfry/exprs.joins", laid_belfry_exprs_joins)] }
def CutsNearSaid : Prop := cutsNearRow.holds Tryd.pinned (OpenSpec.ofChange cutsNearSpec)

/-- ITS FALSE NEIGHBOUR: 'it returns false'. Refute it at one input. -/
def cutsNearWrong : ChangeSpec := { name := "cutsNear", fn := fun _ => fun
  | [d1, d2] => { results := [.lit (.bool false)], args := [d1, d2] }
  | _ => none }
def CutsNearWrongFalsely : Prop := cutsNearRow.holds Tryd.pinned (OpenSpec.ofChange cutsNearWrong)

/- THE SECOND FORM. 'bulk': how many values and letters a reading holds, each counted each time it is reached (what is shared counts as often as it is met; a slice's spare places count too). A statement '..UptoSaid' is the law's where the arguments, and the package variables that the reading takes, are together of bulk at most 1048576: NARROWER than '..Said'. Prove '..Said' where nothing that the law and all that it calls make is longer than what came in: it says more and counts as full. Else prove '..UptoSaid'. A law counts once. -/
mutual
def uptoBulk {H : Type} : DataW H → Nat
  | .lit (.string bytes) => bytes.length + 1
  | .lit _ => 1
  | .nil => 1
  | .ptr d => uptoBulk d + 1
  | .slice elems spare => uptoBulkAll elems + uptoBulkAll spare + 1
  | .agg parts => uptoBulkAll parts + 1
  | .iface _ d => uptoBulk d + 1
  | .map entries => uptoBulkEntries entries + 1
  | .held _ => 1
def uptoBulkAll {H : Type} : List (DataW H) → Nat
  | [] => 0
  | d :: r => uptoBulk d + uptoBulkAll r
def uptoBulkEntries {H : Type} : List (Lit × DataW H) → Nat
  | [] => 0
  | x :: r => uptoBulkEntry x + uptoBulkEntries r
def uptoBulkEntry {H : Type} : Lit × DataW H → Nat
  | (.string bytes, d) => bytes.length + uptoBulk d + 1
  | (_, d) => uptoBulk d + 1
 end
def uptoSmall : (H : Type) → List (DataW H) → Bool := fun _ ds => decide (uptoBulkAll ds ≤ 1048576)
def OpenSpec.upto (s : _root_.Go.ChangeSpec) : _root_.Go.OpenSpec := { _root_.Go.OpenSpec.ofChange s with cond := some uptoSmall }

/-- 'belfrylaw15.CutsMeet', WHERE WHAT IT READS IS OF BULK AT MOST 1048576: true; the input reads as it did. -/
def cutsMeetUptoRow : OpenClaim := { program := "ytgkbbdenmgienaadoor", sum := "4b234e3deb51cd2d26f0bbab25720fbac69a9832a95eb51eece65413908c9df9", func := "belfry/belfrylaw15.CutsMeet", spec := "cutsMeet", unfollowed := true, recurses := true, named := ["belfry/tokens.reserved", "belfry/exprs.joins"], loops := true, plainKeys := false, apart := false, laid := [("belfry/tokens.reserved", laid_belfry_tokens_reserved), ("belfry/exprs.joins", laid_belfry_exprs_joins)], narrowed := true }
def CutsMeetUptoSaid : Prop := cutsMeetUptoRow.holds Tryd.pinned (OpenSpec.upto cutsMeetSpec)

/-- 'belfrylaw15.CutsNear', WHERE WHAT IT READS IS OF BULK AT MOST 1048576: true; the input reads as it did. -/
def cutsNearUptoRow : OpenClaim := { program := "ytgkbbdenmgienaadoor", sum := "4b234e3deb51cd2d26f0bbab25720fbac69a9832a95eb51eece65413908c9df9", func := "belfry/belfrylaw15.CutsNear", spec := "cutsNear", unfollowed := true, recurses := true, named := ["belfry/tokens.reserved", "belfry/exprs.joins"], loops := true, plainKeys := false, apart := false, laid := [("belfry/tokens.reserved", laid_belfry_tokens_reserved), ("belfry/exprs.joins", laid_belfry_exprs_joins)], narrowed := true }
def CutsNearUptoSaid : Prop := cutsNearUptoRow.holds Tryd.pinned (OpenSpec.upto cutsNearSpec)

end Rows
end Go.Proofs.YtgkbbdenmgienaaDoor
