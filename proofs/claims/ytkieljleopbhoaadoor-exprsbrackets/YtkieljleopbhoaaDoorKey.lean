/-
  The law of the keys of atoms.
-/
import Derived.Test.YtkieljleopbhoaaDoorChoice
import Derived.DeepKeys4
import Derived.Maps.Keyed
namespace Go.Proofs.YtkieljleopbhoaaDoor.Lex
open Go.ChangeShapes Go.WideShapes Go.ChangeAt Go.RowKit Go.Joins Go.WideMaps Go.WideElems Go.Maps
theorem laidOut : laidOutB Tryd.prog = true := by kernel_rfl
theorem row81 : (81 : TypeId) < Tryd.prog.types.size := of_decide_eq_true (by kernel_rfl)
theorem wide81 : (match Tryd.prog.underlying 81 with | some (.array _ _) | some (.struct _) => true | _ => false) = true := by kernel_rfl
theorem deep81 : Tryd.prog.keyTypeAt 3 81 = true := by kernel_rfl
set_option maxRecDepth 100000 in
theorem law81 : KeyLaw Tryd.prog 81 := deep_law_laid laidOut (m := 3) (by omega) row81 deep81 wide81
theorem keyed81 : Keyed Tryd.prog 81 := Keyed.of_law law81
end Go.Proofs.YtkieljleopbhoaaDoor.Lex
