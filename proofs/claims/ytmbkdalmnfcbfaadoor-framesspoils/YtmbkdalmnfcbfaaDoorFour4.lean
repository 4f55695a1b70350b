/-
  How an array of four bytes that came in is opened.
-/
import Derived.Test.YtmbkdalmnfcbfaaDoorOpen
import Derived.Laws.IdiomArrays
namespace Go.Proofs.YtmbkdalmnfcbfaaDoor.Bits
open Go.ChangeShapes Go.WideShapes Go.ChangeAt Go.RowKit
theorem cells35 : Tryd.prog.cellsOf 35 = 4 := by kernel_rfl
/-- An array of four bytes that came in. -/
theorem view4 {H : Type} {enc : TypeId × Value → H} {W : World} {base : Nat} {v : Value} {d : DataW H} {p : List MemPlace}
    (hv : Value.okWide Tryd.prog W .any base 35 v) (hd : DataW.Trod enc Tryd.prog W 0 (fun _ => true) true 35 v d p) :
    ∃ y0 y1 y2 y3, v = .agg #[.int .u8 y0, .int .u8 y1, .int .u8 y2, .int .u8 y3] ∧ Byte [y0, y1, y2, y3] := by
  obtain ⟨cs, rfl, hsz, _⟩ : ∃ cs, v = .agg cs ∧ cs.size = Tryd.prog.cellsOf 35 ∧ Row.okWide Tryd.prog W .any base 35 cs := by
    simpa [Value.okWide, Tryd.underlying35] using hv
  rw [cells35] at hsz
  obtain ⟨c0, c1, c2, c3, rfl⟩ := Joins.array4 hsz
  obtain ⟨fuel, hf⟩ := hd
  obtain ⟨q0, q1, q2, q3, m, hx, hy0, hy1, hy2, hy3⟩ := trod_array4 Tryd.underlying35 cells5 hf
  obtain ⟨x0, e0, rfl, w0⟩ := DataW.trod_int Tryd.underlying5 hy0
  obtain ⟨x1, e1, rfl, w1⟩ := DataW.trod_int Tryd.underlying5 hy1
  obtain ⟨x2, e2, rfl, w2⟩ := DataW.trod_int Tryd.underlying5 hy2
  obtain ⟨x3, e3, rfl, w3⟩ := DataW.trod_int Tryd.underlying5 hy3
  simp at e0 e1 e2 e3
  subst e0 e1 e2 e3
  refine ⟨x0, x1, x2, x3, rfl, fun z hz => ?_⟩
  simp at hz
  rcases hz with rfl | rfl | rfl | rfl
  · exact byte_wf w0
  · exact byte_wf w1
  · exact byte_wf w2
  · exact byte_wf w3
end Go.Proofs.YtmbkdalmnfcbfaaDoor.Bits
