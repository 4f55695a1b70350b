/-
  Contracts told from the world in which a law of this seat was called.
-/
import Derived.Test.YtbndgdahokldeaaAlive
namespace Go.Proofs.Ytbndgdahokldeaa.Crc
open Go.ChangeShapes Go.WideShapes Go.ChangeAt Go.RowKit
theorem word_ne {x y : BitVec 32} (h : ¬ x = y) : (((x.toNat : Nat) : Int) == ((y.toNat : Nat) : Int)) = false := by
  have : ¬ x.toNat = y.toNat := fun e => h (BitVec.eq_of_toNat_eq e)
  rw [beq_eq_false_iff_ne]
  omega
/-! ### The contracts, told from the world in which the law was called -/
theorem alive_acc {W w : World} (hB : Below W.heap.size W w) : Calls Try.prog 16 #[] w fun e w' => e = .returned (.bool true) ∧ Below W.heap.size W w' :=
  (w16 w).mono fun _ _ ⟨h1, h2⟩ => ⟨h1, bstep hB h2⟩
theorem more_acc {W w : World} (hB : Below W.heap.size W w) (s : BitVec 32) (a : Option Addr) (len cap : Nat) (l : List Int) (hE : Elems w a len l) :
    Calls Try.prog 13 #[.int .u32 (s.toNat : Int), .slice a len cap] w fun e w' => e = .returned (.int .u32 ((more s l).toNat : Int)) ∧ Below W.heap.size W w' ∧ Below w.heap.size w w' :=
  (w13 s a len cap l w hE).mono fun _ _ ⟨h1, h2⟩ => ⟨h1, bstep hB h2, h2⟩
theorem of_acc {W w : World} (hB : Below W.heap.size W w) (a : Option Addr) (len cap : Nat) (l : List Int) (hE : Elems w a len l) :
    Calls Try.prog 11 #[.slice a len cap] w fun e w' => e = .returned (.int .u32 ((more 0#32 l).toNat : Int)) ∧ Below W.heap.size W w' ∧ Below w.heap.size w w' :=
  (w11 a len cap l w hE).mono fun _ _ ⟨h1, h2⟩ => ⟨h1, bstep hB h2, h2⟩
end Go.Proofs.Ytbndgdahokldeaa.Crc
