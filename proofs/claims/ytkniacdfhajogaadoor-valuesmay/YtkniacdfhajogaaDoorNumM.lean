/-
  What numbers are by their sums, differences and parts: plain mathematics of the law ValuesNumbers.
-/
import Derived.Test.YtkniacdfhajogaaDoorLv
namespace Go.Proofs.YtkniacdfhajogaaDoor.Val
open Go.ChangeShapes Go.WideShapes Go.ChangeAt Go.RowKit Go.Joins
theorem wr_add (x y : Int) : wr (wr x + y) = wr (x + y) := by unfold wr wrap64; omega
theorem wr_add' (x y : Int) : wr (x + wr y) = wr (x + y) := by unfold wr wrap64; omega
theorem wr_in {n : Int} (h : -9223372036854775808 ≤ n ∧ n ≤ 9223372036854775807) : wr n = n := by unfold wr wrap64; omega
theorem wr_mul (x y : Int) : wr (wr x * y) = wr (x * y) := by
  have h : wr x * y = x * y + 18446744073709551616 * (-((x + 9223372036854775808) / 18446744073709551616) * y) := by
    unfold wr wrap64
    rw [Int.emod_def (x + 9223372036854775808) 18446744073709551616]
    generalize (x + 9223372036854775808) / 18446744073709551616 = k
    rw [show x + 9223372036854775808 - 18446744073709551616 * k - 9223372036854775808 = x + 18446744073709551616 * -k by omega, Int.add_mul, Int.mul_assoc]
  rw [h]
  generalize -((x + 9223372036854775808) / 18446744073709551616) * y = k
  generalize x * y = z
  unfold wr wrap64
  omega
theorem wr_mul' (x y : Int) : wr (x * wr y) = wr (x * y) := by rw [Int.mul_comm, wr_mul, Int.mul_comm]
theorem back (a b : Int) (ha : -9223372036854775808 ≤ a ∧ a ≤ 9223372036854775807) (hb : b ≠ 0) : wr (wr (quoV a b * b) + remV a b) = a := by
  unfold quoV remV
  rw [if_neg hb, if_neg hb, wr_mul, wr_add, Int.mul_comm, Int.mul_tdiv_add_tmod, wr_in ha]
/-- What is left is nearer to nothing than the second one, and has the first one's sign. -/
def NearP (a b r : Int) : Prop := (0 < r → 0 < a ∧ (b < 0 → r < -b) ∧ (0 < b → r < b)) ∧ (r < 0 → a < 0 ∧ (0 < b → -b < r) ∧ (b < 0 → b < r))
theorem near_rem (a b : Int) (hb : b ≠ 0) : NearP a b (remV a b) := by
  unfold remV
  rw [if_neg hb]
  have h1 := Int.natAbs_tmod a b
  have h2 : (a.tmod b).natAbs < b.natAbs := by
    rw [h1]
    exact Nat.mod_lt _ (by omega)
  have h3 : 0 ≤ a → 0 ≤ a.tmod b := fun h => Int.tmod_nonneg b h
  have h4 : a ≤ 0 → a.tmod b ≤ 0 := fun h => by
    have := Int.tmod_nonneg b (a := -a) (by omega)
    rw [Int.neg_tmod] at this
    omega
  generalize a.tmod b = r at *
  unfold NearP
  omega
end Go.Proofs.YtkniacdfhajogaaDoor.Val
