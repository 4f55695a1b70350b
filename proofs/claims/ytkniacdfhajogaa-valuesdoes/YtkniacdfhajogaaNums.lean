/-
  What is done with numbers: the contracts of the functions that the maps hold.
-/
import Derived.Test.YtkniacdfhajogaaSmall
namespace Go.Proofs.Ytkniacdfhajogaa.Val
open Go.ChangeShapes Go.WideShapes Go.ChangeAt Go.RowKit Go.Joins
theorem neg_at (a : Int) (w : World) : Calls Try.prog 24 #[.int .i64 a] w fun e w' => e = .returned (.int .i64 (wr (-a))) ∧ w' = w := by
  go_enter Try.func24, Try.ntmps24
  go_wp2_with (fail)
  go_ret
  exact ⟨rfl, rfl⟩
theorem add_at (a : Int) (b : Int) (w : World) : Calls Try.prog 26 #[.int .i64 a, .int .i64 b] w fun e w' => e = .returned (.int .i64 (wr (a + b))) ∧ w' = w := by
  go_enter Try.func26, Try.ntmps26
  go_wp2_with (fail)
  go_ret
  exact ⟨rfl, rfl⟩
theorem sub_at (a : Int) (b : Int) (w : World) : Calls Try.prog 27 #[.int .i64 a, .int .i64 b] w fun e w' => e = .returned (.int .i64 (wr (a - b))) ∧ w' = w := by
  go_enter Try.func27, Try.ntmps27
  go_wp2_with (fail)
  go_ret
  exact ⟨rfl, rfl⟩
theorem mul_at (a : Int) (b : Int) (w : World) : Calls Try.prog 28 #[.int .i64 a, .int .i64 b] w fun e w' => e = .returned (.int .i64 (wr (a * b))) ∧ w' = w := by
  go_enter Try.func28, Try.ntmps28
  go_wp2_with (fail)
  go_ret
  exact ⟨rfl, rfl⟩
theorem lt_at (a : Int) (b : Int) (w : World) : Calls Try.prog 33 #[.int .i64 a, .int .i64 b] w fun e w' => e = .returned (.bool (decide (a < b))) ∧ w' = w := by
  go_enter Try.func33, Try.ntmps33
  go_wp2_with (fail)
  go_ret
  exact ⟨rfl, rfl⟩
theorem le_at (a : Int) (b : Int) (w : World) : Calls Try.prog 34 #[.int .i64 a, .int .i64 b] w fun e w' => e = .returned (.bool (decide (a ≤ b))) ∧ w' = w := by
  go_enter Try.func34, Try.ntmps34
  go_wp2_with (fail)
  go_ret
  exact ⟨rfl, rfl⟩
theorem eq_at (a : Int) (b : Int) (w : World) : Calls Try.prog 35 #[.int .i64 a, .int .i64 b] w fun e w' => e = .returned (.bool (decide (a = b))) ∧ w' = w := by
  go_enter Try.func35, Try.ntmps35
  go_wp2_with (fail)
  go_ret
  exact ⟨by first | rfl | (simp; done) | (simp [bne]; rfl), rfl⟩
theorem ne_at (a : Int) (b : Int) (w : World) : Calls Try.prog 36 #[.int .i64 a, .int .i64 b] w fun e w' => e = .returned (.bool (!decide (a = b))) ∧ w' = w := by
  go_enter Try.func36, Try.ntmps36
  go_wp2_with (fail)
  go_ret
  exact ⟨by first | rfl | (simp; done) | (simp [bne]; rfl), rfl⟩
theorem not_at (a : Int) (w : World) : Calls Try.prog 38 #[.int .i64 a] w fun e w' => e = .returned (.bool (decide (a = 0))) ∧ w' = w := by
  go_enter Try.func38, Try.ntmps38
  go_wp2_with (fail)
  go_ret
  exact ⟨by first | rfl | (simp; done) | (simp [bne]; rfl), rfl⟩
theorem quo_at (a b : Int) (w : World) : Calls Try.prog 29 #[.int .i64 a, .int .i64 b] w fun e w' => e = .returned (.int .i64 (quoV a b)) ∧ w' = w := by
  by_cases h : b = 0
  · have e0 : (b == 0) = true := by rw [beq_iff_eq]; exact h
    have HV : Hid (quoV a b = 0) := hid (by unfold quoV; rw [if_pos h])
    clear h
    go_enter Try.func29, Try.ntmps29
    go_wp2_with (fail)
    go_ret
    exact ⟨by rw [HV.out]; rfl, rfl⟩
  · have e0 : (b == 0) = false := by rw [beq_eq_false_iff_ne]; exact h
    have HV : Hid (quoV a b = wr (a.tdiv b)) := hid (by unfold quoV; rw [if_neg h])
    go_enter Try.func29, Try.ntmps29
    go_wp2_with (fail)
    go_ret
    exact ⟨by rw [HV.out]; rfl, rfl⟩
theorem rem_at (a b : Int) (w : World) : Calls Try.prog 30 #[.int .i64 a, .int .i64 b] w fun e w' => e = .returned (.int .i64 (remV a b)) ∧ w' = w := by
  by_cases h : b = 0
  · have e0 : (b == 0) = true := by rw [beq_iff_eq]; exact h
    have HV : Hid (remV a b = 0) := hid (by unfold remV; rw [if_pos h])
    clear h
    go_enter Try.func30, Try.ntmps30
    go_wp2_with (fail)
    go_ret
    exact ⟨by rw [HV.out]; rfl, rfl⟩
  · have e0 : (b == 0) = false := by rw [beq_eq_false_iff_ne]; exact h
    have HV : Hid (remV a b = a.tmod b) := hid (by unfold remV; rw [if_neg h])
    go_enter Try.func30, Try.ntmps30
    go_wp2_with (fail)
    go_ret
    exact ⟨by rw [HV.out]; rfl, rfl⟩
theorem and_at (a b : Int) (w : World) : Calls Try.prog 39 #[.int .i64 a, .int .i64 b] w fun e w' => e = .returned (.bool (decide (a = 1) && decide (b = 1))) ∧ w' = w := by
  by_cases h : a = 1
  · have e0 : (a == 1) = true := by rw [beq_iff_eq]; exact h
    have HV : Hid ((decide (a = 1) && decide (b = 1)) = (b == 1)) := hid (by rw [Bool.eq_iff_iff]; simp [h])
    clear h
    go_enter Try.func39, Try.ntmps39
    go_wp2_with (fail)
    go_ret
    exact ⟨by rw [HV.out]; rfl, rfl⟩
  · have e0 : (a == 1) = false := by rw [beq_eq_false_iff_ne]; exact h
    have HV : Hid ((decide (a = 1) && decide (b = 1)) = false) := hid (by rw [Bool.eq_iff_iff]; simp [h])
    clear h
    go_enter Try.func39, Try.ntmps39
    go_wp2_with (fail)
    go_ret
    exact ⟨by rw [HV.out]; rfl, rfl⟩
theorem or_at (a b : Int) (w : World) : Calls Try.prog 40 #[.int .i64 a, .int .i64 b] w fun e w' => e = .returned (.bool (decide (a = 1) || decide (b = 1))) ∧ w' = w := by
  by_cases h : a = 1
  · have e0 : (a == 1) = true := by rw [beq_iff_eq]; exact h
    have HV : Hid ((decide (a = 1) || decide (b = 1)) = true) := hid (by rw [Bool.eq_iff_iff]; simp [h])
    clear h
    go_enter Try.func40, Try.ntmps40
    go_wp2_with (fail)
    go_ret
    exact ⟨by rw [HV.out]; rfl, rfl⟩
  · have e0 : (a == 1) = false := by rw [beq_eq_false_iff_ne]; exact h
    have HV : Hid ((decide (a = 1) || decide (b = 1)) = (b == 1)) := hid (by rw [Bool.eq_iff_iff]; simp [h])
    clear h
    go_enter Try.func40, Try.ntmps40
    go_wp2_with (fail)
    go_ret
    exact ⟨by rw [HV.out]; rfl, rfl⟩
end Go.Proofs.Ytkniacdfhajogaa.Val
