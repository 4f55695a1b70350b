/-
  An array of a known size, slot by slot.
-/
import Derived.Test.YtkniacdfhajogabDoorRby
namespace Go.Proofs.YtkniacdfhajogabDoor.Rby
open Go.ChangeShapes Go.WideShapes Go.ChangeAt Go.RowKit Go.Joins
theorem arr_lit (t : Array Value) (n : Nat) (h : t.size = n) : t = ((List.range n).map fun i => t.getD i undef).toArray := by
  apply Array.ext
  · simp [h]
  · intro i h1 h2
    simp [h1]
theorem getD_of {t : Array Value} {d : Nat} {c : Value} (h : t[d]? = some c) : t.getD d undef = c := by rw [Array.getD_eq_getD_getElem?, h]; rfl
end Go.Proofs.YtkniacdfhajogabDoor.Rby
