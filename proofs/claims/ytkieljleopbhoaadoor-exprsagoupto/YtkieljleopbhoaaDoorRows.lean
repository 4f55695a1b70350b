/-
  NARROWER THAN 'FOR EVERY INPUT', by the rows' own cells (each row's printed sentence says how): ExprsTexts: loops, laid · ExprsBack: loops, laid · ExprsBrackets: loops, laid · ExprsAgo: loops, laid.
  DERIVED. THE GIVEN ROWS OF THIS SEAT. 4 by the template 'for every input the law returns true; each argument reads behind the call as it read before'; 0 by the template 'total and deterministic' (their statements: YtkieljleopbhoaaDoorTotals.lean).
  GIVEN WITH THE SEED: the statements are not yours to turn. If you find one false, say at which input.
  Laid BY PROGRAM, IN A SANDBOX (cutbox-rows.mjs): the forced cells as the released guide's own fill.sh prints them over the translation 7e821b63cf77ce89… (all of the seat's roots in one cut). By AI agents, Wed Nov 11 2026. No macro, syntax, notation, axiom, sorry.
-/
import Derived.Test.YtkieljleopbhoaaDoorChecked
import GoSem.Claim
import GoSem.ClaimJoined
import GoSem.ClaimMapViews
import Derived.JoinedTies
import Derived.KernelRfl
namespace Go.Proofs.YtkieljleopbhoaaDoor
/- THE CELL 'sum', in the pinned program and in every row, IS THE sha256 OF THE DUMP (.gsa) THAT YtkieljleopbhoaaDoorProg.lean LOADS. Nothing in Lean hashes anything: it is a label: what it is worth is what the hold of that sum in a sandbox is worth. -/
noncomputable def Tryd.pinned : Pinned := { name := "ytkieljleopbhoaadoor", sum := "7e821b63cf77ce89b63432ca0c7dda9628994b4beae54e195476fd07d7d5fdc9", checked := Tryd.checked }
namespace Rows
def none {H : Type} : Left H := { results := [], args := [] }

/- WHAT THE LISTED PACKAGE-LEVEL VARIABLES READ AS WHEN THE CALL BEGINS. Each datum BY PROGRAM (the guide's laid-datum.mjs) off the statement by which the dump's own 'gosem.cut.vars' lays the variable. In a bare row this is a premise. The card (YtkieljleopbhoaaDoorCards.lean) ties it to the program's text. -/
def laid_math_bits_deBruijn32tab {H : Type} : DataW H := .agg [.lit (.int .u8 0), .lit (.int .u8 1), .lit (.int .u8 28), .lit (.int .u8 2), .lit (.int .u8 29), .lit (.int .u8 14), .lit (.int .u8 24), .lit (.int .u8 3), .lit (.int .u8 30), .lit (.int .u8 22), .lit (.int .u8 20), .lit (.int .u8 15), .lit (.int .u8 25), .lit (.int .u8 17), .lit (.int .u8 4), .lit (.int .u8 8), .lit (.int .u8 31), .lit (.int .u8 27), .lit (.int .u8 13), .lit (.int .u8 23), .lit (.int .u8 21), .lit (.int .u8 19), .lit (.int .u8 16), .lit (.int .u8 7), .lit (.int .u8 26), .lit (.int .u8 12), .lit (.int .u8 18), .lit (.int .u8 6), .lit (.int .u8 11), .lit (.int .u8 5), .lit (.int .u8 10), .lit (.int .u8 9)]
def laid_math_bits_deBruijn64tab {H : Type} : DataW H := .agg [.lit (.int .u8 0), .lit (.int .u8 1), .lit (.int .u8 56), .lit (.int .u8 2), .lit (.int .u8 57), .lit (.int .u8 49), .lit (.int .u8 28), .lit (.int .u8 3), .lit (.int .u8 61), .lit (.int .u8 58), .lit (.int .u8 42), .lit (.int .u8 50), .lit (.int .u8 38), .lit (.int .u8 29), .lit (.int .u8 17), .lit (.int .u8 4), .lit (.int .u8 62), .lit (.int .u8 47), .lit (.int .u8 59), .lit (.int .u8 36), .lit (.int .u8 45), .lit (.int .u8 43), .lit (.int .u8 51), .lit (.int .u8 22), .lit (.int .u8 53), .lit (.int .u8 39), .lit (.int .u8 33), .lit (.int .u8 30), .lit (.int .u8 24), .lit (.int .u8 18), .lit (.int .u8 12), .lit (.int .u8 5), .lit (.int .u8 63), .lit (.int .u8 55), .lit (.int .u8 48), .lit (.int .u8 27), .lit (.int .u8 60), .lit (.int .u8 41), .lit (.int .u8 37), .lit (.int .u8 16), .lit (.int .u8 46), .lit (.int .u8 35), .lit (.int .u8 44), .lit (.int .u8 21), .lit (.int .u8 52), .lit (.int .u8 32), .lit (.int .u8 23), .lit (.int .u8 11), .lit (.int .u8 54), .lit (.int .u8 26), .lit (.int .u8 40), .lit (.int .u8 15), .lit (.int .u8 34), .lit (.int .u8 20), .lit (.int .u8 31), .lit (.int .u8 10), .lit (.int .u8 25), .lit (.int .u8 14), .lit (.int .u8 19), .lit (.int .u8 9), .lit (.int .u8 13), .lit (.int .u8 8), .lit (.int .u8 7), .lit (.int .u8 6)]
def laid_internal_strconv_uint64pow10 {H : Type} : DataW H := .agg [.lit (.int .u64 1), .lit (.int .u64 10), .lit (.int .u64 100), .lit (.int .u64 1000), .lit (.int .u64 10000), .lit (.int .u64 100000), .lit (.int .u64 1000000), .lit (.int .u64 10000000), .lit (.int .u64 100000000), .lit (.int .u64 1000000000), .lit (.int .u64 10000000000), .lit (.int .u64 100000000000), .lit (.int .u64 1000000000000), .lit (.int .u64 10000000000000), .lit (.int .u64 100000000000000), .lit (.int .u64 1000000000000000), .lit (.int .u64 10000000000000000), .lit (.int .u64 100000000000000000), .lit (.int .u64 1000000000000000000), .lit (.int .u64 10000000000000000000)]
def laid_belfry_tokens_reserved {H : Type} : DataW H := .agg [.lit (.string [115, 116, 97, 116, 105, 111, 110, 115]), .lit (.string [105, 110]), .lit (.string [97, 116]), .lit (.string [102, 108, 111, 119]), .lit (.string [100, 101, 102, 97, 117, 108, 116]), .lit (.string [111, 117, 116]), .lit (.string [105, 102]), .lit (.string [116, 104, 101, 110]), .lit (.string [101, 108, 115, 101]), .lit (.string [112, 114, 101]), .lit (.string [97, 110, 100]), .lit (.string [111, 114]), .lit (.string [110, 111, 116]), .lit (.string [116, 114, 117, 101]), .lit (.string [102, 97, 108, 115, 101]), .lit (.string [105, 110, 116]), .lit (.string [98, 111, 111, 108])]
def laid_belfry_exprs_joins {H : Type} : DataW H := .agg [.agg [.lit (.int .u8 18), .agg [.lit (.int .u8 3), .lit (.string [45, 62])], .lit (.int .i64 0), .lit (.int .i64 1), .lit (.int .i64 0)], .agg [.lit (.int .u8 16), .agg [.lit (.int .u8 1), .lit (.string [111, 114])], .lit (.int .i64 1), .lit (.int .i64 1), .lit (.int .i64 2)], .agg [.lit (.int .u8 15), .agg [.lit (.int .u8 1), .lit (.string [97, 110, 100])], .lit (.int .i64 2), .lit (.int .i64 2), .lit (.int .i64 3)], .agg [.lit (.int .u8 11), .agg [.lit (.int .u8 3), .lit (.string [61, 61])], .lit (.int .i64 3), .lit (.int .i64 4), .lit (.int .i64 4)], .agg [.lit (.int .u8 12), .agg [.lit (.int .u8 3), .lit (.string [33, 61])], .lit (.int .i64 3), .lit (.int .i64 4), .lit (.int .i64 4)], .agg [.lit (.int .u8 13), .agg [.lit (.int .u8 3), .lit (.string [60])], .lit (.int .i64 3), .lit (.int .i64 4), .lit (.int .i64 4)], .agg [.lit (.int .u8 14), .agg [.lit (.int .u8 3), .lit (.string [60, 61])], .lit (.int .i64 3), .lit (.int .i64 4), .lit (.int .i64 4)], .agg [.lit (.int .u8 6), .agg [.lit (.int .u8 3), .lit (.string [43])], .lit (.int .i64 4), .lit (.int .i64 4), .lit (.int .i64 5)], .agg [.lit (.int .u8 7), .agg [.lit (.int .u8 3), .lit (.string [45])], .lit (.int .i64 4), .lit (.int .i64 4), .lit (.int .i64 5)], .agg [.lit (.int .u8 8), .agg [.lit (.int .u8 3), .lit (.string [42])], .lit (.int .i64 5), .lit (.int .i64 5), .lit (.int .i64 6)], .agg [.lit (.int .u8 9), .agg [.lit (.int .u8 3), .lit (.string [47])], .lit (.int .i64 5), .lit (.int .i64 5), .lit (.int .i64 6)], .agg [.lit (.int .u8 10), .agg [.lit (.int .u8 3), .lit (.string [37])], .lit (.int .i64 5), .lit (.int .i64 5), .lit (.int .i64 6)]]
def laid_strconv_ErrRange {H : Type} : DataW H := .iface "*errors.errorString" (.ptr (.agg [.lit (.string [118, 97, 108, 117, 101, 32, 111, 117, 116, 32, 111, 102, 32, 114, 97, 110, 103, 101])]))
def laid_strconv_ErrSyntax {H : Type} : DataW H := .iface "*errors.errorString" (.ptr (.agg [.lit (.string [105, 110, 118, 97, 108, 105, 100, 32, 115, 121, 110, 116, 97, 120])]))
def laid_belfry_tokens_signTexts {H : Type} : DataW H := .agg [.lit (.string [60, 61]), .lit (.string [61, 61]), .lit (.string [33, 61]), .lit (.string [45, 62]), .lit (.string [40]), .lit (.string [41]), .lit (.string [58]), .lit (.string [59]), .lit (.string [44]), .lit (.string [61]), .lit (.string [43]), .lit (.string [45]), .lit (.string [42]), .lit (.string [47]), .lit (.string [37]), .lit (.string [60])]

/-- 'belfrylaw05.ExprsTexts': WHATEVER THE INPUT: true; the input reads as it did. -/
def exprsTextsSpec : ChangeSpec := { name := "exprsTexts", fn := fun _ => fun
  | [d] => { results := [.lit (.bool true)], args := [d] }
  | _ => none }
def exprsTextsRow : OpenClaim := { program := "ytkieljleopbhoaadoor", sum := "7e821b63cf77ce89b63432ca0c7dda9628994b4beae54e195476fd07d7d5fdc9", func := "belfry/belfrylaw05.ExprsTexts", spec := "exprsTexts", unfollowed := true, recurses := true, named := ["belfry/tokens.reserved", "belfry/exprs.joins", "internal/strconv.uint64pow10", "math/bits.deBruijn32tab", "math/bits.deBruijn64tab"], loops := true, plainKeys := false, apart := false, laid := [("math/bits.deBruijn32tab", laid_math_bits_deBruijn32tab), ("math/bits.deBruijn64tab", laid_math_bits_deBruijn64tab), ("internal/strconv.uint64pow10", laid_internal_strconv_uint64pow10), ("belfry/tokens.reserved", laid_belfry_tokens_reserved), ("belfry/exprs.joins", laid_belfry_exprs_joins)] }
def ExprsTextsSaid : Prop := exprsTextsRow.holds Tryd.pinned (OpenSpec.ofChange exprsTextsSpec)

/-- ITS FALSE NEIGHBOUR: 'it returns false'. Refute it at one input. -/
def exprsTextsWrong : ChangeSpec := { name := "exprsTexts", fn := fun _ => fun
  | [d] => { results := [.lit (.bool false)], args := [d] }
  | _ => none }
def ExprsTextsWrongFalsely : Prop := exprsTextsRow.holds Tryd.pinned (OpenSpec.ofChange exprsTextsWrong)

/-- 'belfrylaw05.ExprsBack': WHATEVER THE INPUT: true; the input reads as it did. -/
def exprsBackSpec : ChangeSpec := { name := "exprsBack", fn := fun _ => fun
  | [d1, d2] => { results := [.lit (.bool true)], args := [d1, d2] }
  | _ => none }
def exprsBackRow : OpenClaim := { program := "ytkieljleopbhoaadoor", sum := "7e821b63cf77ce89b63432ca0c7dda9628994b4beae54e195476fd07d7d5fdc9", func := "belfry/belfrylaw05.ExprsBack", spec := "exprsBack", unfollowed := true, recurses := true, named := ["belfry/tokens.signTexts", "belfry/tokens.reserved", "strconv.ErrSyntax", "strconv.ErrRange", "internal/strconv.uint64pow10", "math/bits.deBruijn32tab", "math/bits.deBruijn64tab", "belfry/exprs.joins"], loops := true, plainKeys := false, apart := false, laid := [("math/bits.deBruijn32tab", laid_math_bits_deBruijn32tab), ("math/bits.deBruijn64tab", laid_math_bits_deBruijn64tab), ("internal/strconv.uint64pow10", laid_internal_strconv_uint64pow10), ("strconv.ErrRange", laid_strconv_ErrRange), ("strconv.ErrSyntax", laid_strconv_ErrSyntax), ("belfry/tokens.reserved", laid_belfry_tokens_reserved), ("belfry/tokens.signTexts", laid_belfry_tokens_signTexts), ("belfry/exprs.joins", laid_belfry_exprs_joins)] }
def ExprsBackSaid : Prop := exprsBackRow.holds Tryd.pinned (OpenSpec.ofChange exprsBackSpec)

/-- ITS FALSE NEIGHBOUR: 'it returns false'. Refute it at one input. -/
def exprsBackWrong : ChangeSpec := { name := "exprsBack", fn := fun _ => fun
  | [d1, d2] => { results := [.lit (.bool false)], args := [d1, d2] }
  | _ => none }
def ExprsBackWrongFalsely : Prop := exprsBackRow.holds Tryd.pinned (OpenSpec.ofChange exprsBackWrong)

/-- 'belfrylaw05.ExprsBrackets': WHATEVER THE INPUT: true; the input reads as it did. -/
def exprsBracketsSpec : ChangeSpec := { name := "exprsBrackets", fn := fun _ => fun
  | [d1, d2] => { results := [.lit (.bool true)], args := [d1, d2] }
  | _ => none }
def exprsBracketsRow : OpenClaim := { program := "ytkieljleopbhoaadoor", sum := "7e821b63cf77ce89b63432ca0c7dda9628994b4beae54e195476fd07d7d5fdc9", func := "belfry/belfrylaw05.ExprsBrackets", spec := "exprsBrackets", unfollowed := true, recurses := true, named := ["belfry/tokens.signTexts", "belfry/tokens.reserved", "strconv.ErrSyntax", "strconv.ErrRange", "internal/strconv.uint64pow10", "math/bits.deBruijn32tab", "math/bits.deBruijn64tab", "belfry/exprs.joins"], loops := true, plainKeys := false, apart := false, laid := [("math/bits.deBruijn32tab", laid_math_bits_deBruijn32tab), ("math/bits.deBruijn64tab", laid_math_bits_deBruijn64tab), ("internal/strconv.uint64pow10", laid_internal_strconv_uint64pow10), ("strconv.ErrRange", laid_strconv_ErrRange), ("strconv.ErrSyntax", laid_strconv_ErrSyntax), ("belfry/tokens.reserved", laid_belfry_tokens_reserved), ("belfry/tokens.signTexts", laid_belfry_tokens_signTexts), ("belfry/exprs.joins", laid_belfry_exprs_joins)] }
def ExprsBracketsSaid : Prop := exprsBracketsRow.holds Tryd.pinned (OpenSpec.ofChange exprsBracketsSpec)

/-- ITS FALSE NEIGHBOUR: 'it returns false'. Refute it at one input. -/
def exprsBracketsWrong : ChangeSpec := { name := "exprsBrackets", fn := fun _ => fun
  | [d1, d2] => { results := [.lit (.bool false)], args := [d1, d2] }
  | _ => none }
def ExprsBracketsWrongFalsely : Prop := exprsBracketsRow.holds Tryd.pinned (OpenSpec.ofChange exprsBracketsWrong)

/-- 'belfrylaw05.ExprsAgo': WHATEVER THE INPUT: true; the input reads as it did. -/
def exprsAgoSpec : ChangeSpec := { name := "exprsAgo", fn := fun _ => fun
  | [d1, d2, d3] => { results := [.lit (.bool true)], args := [d1, d2, d3] }
  | _ => none }
def exprsAgoRow : OpenClaim := { program := "ytkieljleopbhoaadoor", sum := "7e821b63cf77ce89b63432ca0c7dda9628994b4beae54e195476fd07d7d5fdc9", func := "belfry/belfrylaw05.ExprsAgo", spec := "exprsAgo", unfollowed := true, recurses := true, named := ["belfry/tokens.signTexts", "belfry/tokens.reserved", "strconv.ErrSyntax", "strconv.ErrRange", "internal/strconv.uint64pow10", "math/bits.deBruijn32tab", "math/bits.deBruijn64tab", "belfry/exprs.joins"], loops := true, plainKeys := false, apart := false, laid := [("math/bits.deBruijn32tab", laid_math_bits_deBruijn32tab), ("math/bits.deBruijn64tab", laid_math_bits_deBruijn64tab), ("internal/strconv.uint64pow10", laid_internal_strconv_uint64pow10), ("strconv.ErrRange", laid_strconv_ErrRange), ("strconv.ErrSyntax", laid_strconv_ErrSyntax), ("belfry/tokens.reserved", laid_belfry_tokens_reserved), ("belfry/tokens.signTexts", laid_belfry_tokens_signTexts), ("belfry/exprs.joins", laid_belfry_exprs_joins)] }
def ExprsAgoSaid : Prop := exprsAgoRow.holds Tryd.pinned (OpenSpec.ofChange exprsAgoSpec)

/-- ITS FALSE NEIGHBOUR: 'it returns false'. Refute it at one input. -/
def exprsAgoWrong : ChangeSpec := { name := "exprsAgo", fn := fun _ => fun
  | [d1, d2, d3] => { results := [.lit (.bool false)], args := [d1, d2, d3] }
  | _ => none }
def ExprsAgoWrongFalsely : Prop := exprsAgoRow.holds Tryd.pinned (OpenSpec.ofChange exprsAgoWrong)

/- THE SECOND FORM. 'bulk': how many values and letters a reading holds, each counted each time it is reached (what is shared counts as often as it is met; a slice's spare places count too). A statement '..UptoSaid' is the law's where the arguments, and the package variables that the reading takes, are together of bulk at most 1048576: NARROWER than '..Said'. Prove '..Said' where nothing that the law and all that it calls make is longer than what came in: it says more and counts as full. Else prove '..UptoSaid'. A law counts once. -/
mutual
def uptoBulk {H : Type} : DataW H → Nat
  | .lit (.string bytes) => bytes.length + 1
  | .lit _ => 1
  | .nil => 1
  | .ptr d => uptoBulk d + 1
  | .slice elems spare => uptoBulkAll elems + uptoBulkAll spare + 1
  | .agg parts => uptoBulkAll parts + 1
  | .iface _ d => uptoBulk d + 1
  | .map entries => uptoBulkEntries entries + 1
  | .held _ => 1
def uptoBulkAll {H : Type} : List (DataW H) → Nat
  | [] => 0
  | d :: r => uptoBulk d + uptoBulkAll r
def uptoBulkEntries {H : Type} : List (Lit × DataW H) → Nat
  | [] => 0
  | x :: r => uptoBulkEntry x + uptoBulkEntries r
def uptoBulkEntry {H : Type} : Lit × DataW H → Nat
  | (.string bytes, d) => bytes.length + uptoBulk d + 1
  | (_, d) => uptoBulk d + 1
 end
def uptoSmall : (H : Type) → List (DataW H) → Bool := fun _ ds => decide (uptoBulkAll ds ≤ 1048576)
def OpenSpec.upto (s : _root_.Go.ChangeSpec) : _root_.Go.OpenSpec := { _root_.Go.OpenSpec.ofChange s with cond := some uptoSmall }

/-- 'belfrylaw05.ExprsTexts', WHERE WHAT IT READS IS OF BULK AT MOST 1048576: true; the input reads as it did. -/
def exprsTextsUptoRow : OpenClaim := { program := "ytkieljleopbhoaadoor", sum := "7e821b63cf77ce89b63432ca0c7dda9628994b4beae54e195476fd07d7d5fdc9", func := "belfry/belfrylaw05.ExprsTexts", spec := "exprsTexts", unfollowed := true, recurses := true, named := ["belfry/tokens.reserved", "belfry/exprs.joins", "internal/strconv.uint64pow10", "math/bits.deBruijn32tab", "math/bits.deBruijn64tab"], loops := true, plainKeys := false, apart := false, laid := [("math/bits.deBruijn32tab", laid_math_bits_deBruijn32tab), ("math/bits.deBruijn64tab", laid_math_bits_deBruijn64tab), ("internal/strconv.uint64pow10", laid_internal_strconv_uint64pow10), ("belfry/tokens.reserved", laid_belfry_tokens_reserved), ("belfry/exprs.joins", laid_belfry_exprs_joins)], narrowed := true }
def ExprsTextsUptoSaid : Prop := exprsTextsUptoRow.holds Tryd.pinned (OpenSpec.upto exprsTextsSpec)

/-- 'belfrylaw05.ExprsBack', WHERE WHAT IT READS IS OF BULK AT MOST 1048576: true; the input reads as it did. -/
def exprsBackUptoRow : OpenClaim := { program := "ytkieljleopbhoaadoor", sum := "7e821b63cf77ce89b63432ca0c7dda9628994b4beae54e195476fd07d7d5fdc9", func := "belfry/belfrylaw05.ExprsBack", spec := "exprsBack", unfollowed := true, recurses := true, named := ["belfry/tokens.signTexts", "belfry/tokens.reserved", "strconv.ErrSyntax", "strconv.ErrRange", "internal/strconv.uint64pow10", "math/bits.deBruijn32tab", "math/bits.deBruijn64tab", "belfry/exprs.joins"], loops := true, plainKeys := false, apart := false, laid := [("math/bits.deBruijn32tab", laid_math_bits_deBruijn32tab), ("math/bits.deBruijn64tab", laid_math_bits_deBruijn64tab), ("internal/strconv.uint64pow10", laid_internal_strconv_uint64pow10), ("strconv.ErrRange", laid_strconv_ErrRange), ("strconv.ErrSyntax", laid_strconv_ErrSyntax), ("belfry/tokens.reserved", laid_belfry_tokens_reserved), ("belfry/tokens.signTexts", laid_belfry_tokens_signTexts), ("belfry/exprs.joins", laid_belfry_exprs_joins)], narrowed := true }
def ExprsBackUptoSaid : Prop := exprsBackUptoRow.holds Tryd.pinned (OpenSpec.upto exprsBackSpec)

/-- 'belfrylaw05.ExprsBrackets', WHERE WHAT IT READS IS OF BULK AT MOST 1048576: true; the input reads as it did. -/
def exprsBracketsUptoRow : OpenClaim := { program := "ytkieljleopbhoaadoor", sum := "7e821b63cf77ce89b63432ca0c7dda9628994b4beae54e195476fd07d7d5fdc9", func := "belfry/belfrylaw05.ExprsBrackets", spec := "exprsBrackets", unfollowed := true, recurses := true, named := ["belfry/tokens.signTexts", "belfry/tokens.reserved", "strconv.ErrSyntax", "strconv.ErrRange", "internal/strconv.uint64pow10", "math/bits.deBruijn32tab", "math/bits.deBruijn64tab", "belfry/exprs.joins"], loops := true, plainKeys := false, apart := false, laid := [("math/bits.deBruijn32tab", laid_math_bits_deBruijn32tab), ("math/bits.deBruijn64tab", laid_math_bits_deBruijn64tab), ("internal/strconv.uint64pow10", laid_internal_strconv_uint64pow10), ("strconv.ErrRange", laid_strconv_ErrRange), ("strconv.ErrSyntax", laid_strconv_ErrSyntax), ("belfry/tokens.reserved", laid_belfry_tokens_reserved), ("belfry/tokens.signTexts", laid_belfry_tokens_signTexts), ("belfry/exprs.joins", laid_belfry_exprs_joins)], narrowed := true }
def ExprsBracketsUptoSaid : Prop := exprsBracketsUptoRow.holds Tryd.pinned (OpenSpec.upto exprsBracketsSpec)

/-- 'belfrylaw05.ExprsAgo', WHERE WHAT IT READS IS OF BULK AT MOST 1048576: true; the input reads as it did. -/
def exprsAgoUptoRow : OpenClaim := { program := "ytkieljleopbhoaadoor", sum := "7e821b63cf77ce89b63432ca0c7dda9628994b4beae54e195476fd07d7d5fdc9", func := "belfry/belfrylaw05.ExprsAgo", spec := "exprsAgo", unfollowed := true, recurses := true, named := ["belfry/tokens.signTexts", "belfry/tokens.reserved", "strconv.ErrSyntax", "strconv.ErrRange", "internal/strconv.uint64pow10", "math/bits.deBruijn32tab", "math/bits.deBruijn64tab", "belfry/exprs.joins"], loops := true, plainKeys := false, apart := false, laid := [("math/bits.deBruijn32tab", laid_math_bits_deBruijn32tab), ("math/bits.deBruijn64tab", laid_math_bits_deBruijn64tab), ("internal/strconv.uint64pow10", laid_internal_strconv_uint64pow10), ("strconv.ErrRange", laid_strconv_ErrRange), ("strconv.ErrSyntax", laid_strconv_ErrSyntax), ("belfry/tokens.reserved", laid_belfry_tokens_reserved), ("belfry/tokens.signTexts", laid_belfry_tokens_signTexts), ("belfry/exprs.joins", laid_belfry_exprs_joins)], narrowed := true }
def ExprsAgoUptoSaid : Prop := exprsAgoUptoRow.holds Tryd.pinned (OpenSpec.upto exprsAgoSpec)

end Rows
end Go.Proofs.YtkieljleopbhoaaDoor
