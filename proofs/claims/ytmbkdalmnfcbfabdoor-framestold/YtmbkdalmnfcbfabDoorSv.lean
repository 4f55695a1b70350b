/-
  SameValues, of values that are the same; how a []int64 and a []bool that came in are opened.
-/
import Derived.Test.YtmbkdalmnfcbfabDoorKinds
import Derived.Deep.Grids
import Derived.Deep.QuietTactic
import Derived.BigQuiet
namespace Go.Proofs.YtmbkdalmnfcbfabDoor.Bits
open Go.ChangeShapes Go.WideShapes Go.ChangeAt Go.RowKit Go.Shelf Go.Maps
theorem sameVals (a b : Option Addr) (len ca cb : Nat) (T : Nat → Nat) (Z : Nat → Int) (w : World) (hA : Vals w a len T Z) (hB : Vals w b len T Z) :
    Calls Tryd.prog 15 #[.slice a len ca, .slice b len cb] w fun e w' => e = .returned (.bool true) ∧ Below w.heap.size w w' := by
  have hlm : len ≤ 1048576 := hA.1
  have hne : ((len : Int) != (len : Int)) = false := by simp
  go_enter Tryd.func15, Tryd.ntmps15
  go_wp2
  go_loopw [5] (fun i wr => ∃ k n : Nat, k ≤ len ∧ i = .int .i64 k ∧ wr = w.drewN n) (fun i _ => len - (intOf i).toNat)
  case atStart => exact ⟨0, 0, Nat.zero_le _, rfl, rfl⟩
  case round =>
    obtain ⟨k, n, hk, rfl, rfl⟩ := hrel
    by_cases hlt : k < len
    · obtain ⟨b1, o1, rfl, hc1⟩ := hA.2.2.resolve_left (by omega)
      obtain ⟨b2, o2, rfl, hc2⟩ := hB.2.2.resolve_left (by omega)
      obtain ⟨h1, h2⟩ := hc1 k hlt
      obtain ⟨h3, h4⟩ := hc2 k hlt
      have hlt' : (k : Int) < (len : Int) := by omega
      have hk0 : (0 : Int) ≤ (k : Int) := by omega
      generalize T k = t at h1 h3
      generalize Z k = z at h2 h4
      clear hc1 hc2 hA hB
      go_wp2
      go_quiet (fail)
      go_wp2
      go_roundw
      case rel => exact ⟨k + 1, n + nq, by omega, by go_num, rfl⟩
      case measure => simp [intOf]; omega
    · go_wp2
      go_ret
      exact ⟨rfl, below_drewN (Below.refl _ _) n⟩
end Go.Proofs.YtmbkdalmnfcbfabDoor.Bits
