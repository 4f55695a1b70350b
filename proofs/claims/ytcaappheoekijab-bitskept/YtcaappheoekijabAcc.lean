/-
  Contracts as told from a law's first world on, and one word on numbers of 64 bits.
-/
import Derived.Test.YtcaappheoekijabCame
import Derived.Laws.IdiomArrays
namespace Go.Proofs.Ytcaappheoekijab.Bits
open Go.ChangeShapes Go.WideShapes Go.ChangeAt Go.RowKit
theorem alive_a (w0 w : World) (hb : Below w0.heap.size w0 w) : Calls Try.prog 8 #[] w fun e w' => e = .returned (.bool true) ∧ Below w.heap.size w w' ∧ Below w0.heap.size w0 w' :=
  (alive w).mono fun _ _ h => ⟨h.1, h.2, bstep hb h.2⟩
theorem get_ok_a (w0 : World) (s : Option Addr) (len cap : Nat) (B : List Int) (at_ k : Nat) (w : World) (hb : Below w0.heap.size w0 w) (hE : Elems w s len B) (hk : k ≤ 64) (hr : at_ + k ≤ 8 * len) (i j : Int) (hi : i = at_) (hj : j = k) :
    Calls Try.prog 17 #[.slice s len cap, .int .i64 i, .int .i64 j] w fun e w' => e = .returned (.tuple #[.int .u64 (val (part B at_ k) : Int), .int .i64 0]) ∧ Elems w' s len B ∧ Below w0.heap.size w0 w' := by
  subst hi hj
  exact (get_ok s len cap B at_ k w hE hk hr).mono fun e w' h => ⟨h.1, hE.below h.2, bstep hb h.2⟩
theorem get_short_a (s : Option Addr) (len cap : Nat) (at_ k : Nat) (w : World) (hl : len ≤ 1048576) (ha : at_ < 9223372036854775808) (hk : k ≤ 64) (hr : 8 * len < at_ + k) (i j : Int) (hi : i = at_) (hj : j = k) :
    Calls Try.prog 17 #[.slice s len cap, .int .i64 i, .int .i64 j] w fun e w' => e = .returned (.tuple #[.int .u64 0, .int .i64 4]) ∧ w' = w := by
  subst hi hj
  exact get_short s len cap at_ k w hl ha hk hr
theorem join64 (p q d : Nat) (hq : q < 2 ^ d) (h : p * 2 ^ d + q < 2 ^ 64) : bits BinOp.or IntKind.u64 (IntKind.u64.wrap ((p : Int) * 2 ^ d)) (q : Int) = ((p * 2 ^ d + q : Nat) : Int) := by
  have e : (p : Int) * 2 ^ d = ((p * 2 ^ d : Nat) : Int) := by simp
  have e2 : IntKind.u64.wrap ((p * 2 ^ d : Nat) : Int) = ((p * 2 ^ d : Nat) : Int) := by rw [IntKind.wrap_u64]; omega
  rw [e, e2, or64 _ _ (by omega) (by omega), Nat.mul_comm p, ← Nat.two_pow_add_eq_or_of_lt hq]
end Go.Proofs.Ytcaappheoekijab.Bits
