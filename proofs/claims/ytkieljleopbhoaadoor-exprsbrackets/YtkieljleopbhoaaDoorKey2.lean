/-
  A mark as a key.
-/
import Derived.Test.YtkieljleopbhoaaDoorKey
namespace Go.Proofs.YtkieljleopbhoaaDoor.Lex
open Go.ChangeShapes Go.WideShapes Go.ChangeAt Go.RowKit Go.Joins Go.WideMaps Go.WideElems Go.Maps
theorem size_types : ∃ n, Tryd.prog.types.size + 1 = n + 2 := ⟨Tryd.prog.types.size - 1, by have : 0 < Tryd.prog.types.size := of_decide_eq_true (by kernel_rfl); omega⟩
theorem keyT81 : Tryd.prog.keyType 81 = true := by kernel_rfl
theorem cells81 : Tryd.prog.cellsOf 81 = 2 := by kernel_rfl
theorem cells5 : Tryd.prog.cellsOf 5 = 1 := by kernel_rfl
theorem cells9 : Tryd.prog.cellsOf 9 = 1 := by kernel_rfl
theorem lits5 (n : Nat) (k : Nat) (hk : k < 256) : Tryd.prog.keyLits (n + 1) 5 [.int .u8 (k : Int)] = some [.int .u8 (k : Int)] := by
  have hwf : (Lit.int .u8 (k : Int)).wf = true := by simp [Lit.wf, IntKind.min, IntKind.max, IntKind.signed, IntKind.bits]; omega
  unfold Program.keyLits
  rw [Tryd.underlying5]
  simp [hwf]
theorem lits9 (n : Nat) (s : ByteArray) (hs : s.size ≤ maxLen) : Tryd.prog.keyLits (n + 1) 9 [.string s] = some [.string s.data.toList] := by
  unfold Program.keyLits
  rw [Tryd.underlying9]
  simp [hs]
theorem key_is (m : Mark) (hk : m.kind < 256) (hs : m.text.size ≤ maxLen) : ∃ l, keyOf Tryd.prog 81 (mkV m) = some l := by
  obtain ⟨n, hn⟩ := size_types
  have hf : (mkV m).formed Tryd.prog 81 = true := by simp [Value.formed, Tryd.underlying81, cells81]
  have h5 := lits5 n m.kind hk
  have h9 := lits9 n m.text hs
  unfold keyOf
  rw [hn, Tryd.underlying81]
  simp only [keyT81, hf]
  unfold Program.keyLits
  rw [Tryd.underlying81]
  simp [Value.cells, cells81, cells5, cells9, h5, h9]
end Go.Proofs.YtkieljleopbhoaaDoor.Lex
