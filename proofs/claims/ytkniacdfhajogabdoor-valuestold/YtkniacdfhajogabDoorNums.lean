/-
  What is done with numbers: the contracts of the functions that the maps hold.
-/
import Derived.Test.YtkniacdfhajogabDoorSmall
namespace Go.Proofs.YtkniacdfhajogabDoor.Val
open Go.ChangeShapes Go.WideShapes Go.ChangeAt Go.RowKit Go.Joins
theorem neg_at (a : Int) (w : World) : Calls Tryd.prog 34 #[.int .i64 a] w fun e w' => e = .returned (.int .i64 (wr (-a))) ∧ w' = w := by
  go_enter Tryd.func34, Tryd.ntmps34
  go_wp2_with (fail)
  go_ret
  exact ⟨rfl, rfl⟩
theorem add_at (a : Int) (b : Int) (w : World) : Calls Tryd.prog 36 #[.int .i64 a, .int .i64 b] w fun e w' => e = .returned (.int .i64 (wr (a + b))) ∧ w' = w := by
  go_enter Tryd.func36, Tryd.ntmps36
  go_wp2_with (fail)
  go_ret
  exact ⟨rfl, rfl⟩
theorem sub_at (a : Int) (b : Int) (w : World) : Calls Tryd.prog 37 #[.int .i64 a, .int .i64 b] w fun e w' => e = .returned (.int .i64 (wr (a - b))) ∧ w' = w := by
  go_enter Tryd.func37, Tryd.ntmps37
  go_wp2_with (fail)
  go_ret
  exact ⟨rfl, rfl⟩
theorem mul_at (a : Int) (b : Int) (w : World) : Calls Tryd.prog 38 #[.int .i64 a, .int .i64 b] w fun e w' => e = .returned (.int .i64 (wr (a * b))) ∧ w' = w := by
  go_enter Tryd.func38, Tryd.ntmps38
  go_wp2_with (fail)
  go_ret
  exact ⟨rfl, rfl⟩
theorem lt_at (a : Int) (b : Int) (w : World) : Calls Tryd.prog 43 #[.int .i64 a, .int .i64 b] w fun e w' => e = .returned (.bool (decide (a < b))) ∧ w' = w := by
  go_enter Tryd.func43, Tryd.ntmps43
  go_wp2_with (fail)
  go_ret
  exact ⟨rfl, rfl⟩
theorem le_at (a : Int) (b : Int) (w : World) : Calls Tryd.prog 44 #[.int .i64 a, .int .i64 b] w fun e w' => e = .returned (.bool (decide (a ≤ b))) ∧ w' = w := by
  go_enter Tryd.func44, Tryd.ntmps44
  go_wp2_with (fail)
  go_ret
  exact ⟨rfl, rfl⟩
theorem eq_at (a : Int) (b : Int) (w : World) : Calls Tryd.prog 45 #[.int .i64 a, .int .i64 b] w fun e w' => e = .returned (.bool (decide (a = b))) ∧ w' = w := by
  go_enter Tryd.func45, Tryd.ntmps45
  go_wp2_with (fail)
  go_ret
  exact ⟨by first | rfl | (simp; done) | (simp [bne]; rfl), rfl⟩
theorem ne_at (a : Int) (b : Int) (w : World) : Calls Tryd.prog 46 #[.int .i64 a, .int .i64 b] w fun e w' => e = .returned (.bool (!decide (a = b))) ∧ w' = w := by
  go_enter Tryd.func46, Tryd.ntmps46
  go_wp2_with (fail)
  go_ret
  exact ⟨by first | rfl | (simp; done) | (simp [bne]; rfl), rfl⟩
theorem not_at (a : Int) (w : World) : Calls Tryd.prog 48 #[.int .i64 a] w fun e w' => e = .returned (.bool (decide (a = 0))) ∧ w' = w := by
  go_enter Tryd.func48, Tryd.ntmps48
  go_wp2_with (fail)
  go_ret
  exact ⟨by first | rfl | (simp; done) | (simp [bne]; rfl), rfl⟩
theorem quo_at (a b : Int) (w : World) : Calls Tryd.prog 39 #[.int .i64 a, .int .i64 b] w fun e w' => e = .returned (.int .i64 (quoV a b)) ∧ w' = w := by
  by_cases h : b = 0
  · have e0 : (b == 0) = true := by rw [beq_iff_eq]; exact h
    have HV : Hid (quoV a b = 0) := hid (by unfold quoV; rw [if_pos h])
    clear h
    go_enter Tryd.func39, Tryd.ntmps39
    go_wp2_with (fail)
    go_ret
    exact ⟨by rw [HV.out]; rfl, rfl⟩
  · have e0 : (b == 0) = false := by rw [beq_eq_false_iff_ne]; exact h
    have HV : Hid (quoV a b = wr (a.tdiv b)) := hid (by unfold quoV; rw [if_neg h])
    go_enter Tryd.func39, Tryd.ntmps39
    go_wp2_with (fail)
    go_ret
    exact ⟨by rw [HV.out]; rfl, rfl⟩
theorem rem_at (a b : Int) (w : World) : Calls Tryd.prog 40 #[.int .i64 a, .int .i64 b] w fun e w' => e = .returned (.int .i64 (remV a b)) ∧ w' = w := by
  by_cases h : b = 0
  · have e0 : (b == 0) = true := by rw [beq_iff_eq]; exact h
    have HV : Hid (remV a b = 0) := hid (by unfold remV; rw [if_pos h])
    clear h
    go_enter Tryd.func40, Tryd.ntmps40
    go_wp2_with (fail)
    go_ret
    exact ⟨by rw [HV.out]; rfl, rfl⟩
  · have e0 : (b == 0) = false := by rw [beq_eq_false_iff_ne]; exact h
    have HV : Hid (remV a b = a.tmod b) := hid (by unfold remV; rw [if_neg h])
    go_enter Tryd.func40, Tryd.ntmps40
    go_wp2_with (fail)
    go_ret
    exact ⟨by rw [HV.out]; rfl, rfl⟩
theorem and_at (a b : Int) (w : World) : Calls Tryd.prog 49 #[.int .i64 a, .int .i64 b] w fun e w' => e = .returned (.bool (decide (a = 1) && decide (b = 1))) ∧ w' = w := by
  by_cases h : a = 1
  · have e0 : (a == 1) = true := by rw [beq_iff_eq]; exact h
    have HV : Hid ((decide (a = 1) && decide (b = 1)) = (b == 1)) := hid (by rw [Bool.eq_iff_iff]; simp [h])
    clear h
    go_enter Tryd.func49, Tryd.ntmps49
    go_wp2_with (fail)
    go_ret
    exact ⟨by rw [HV.out]; rfl, rfl⟩
  · have e0 : (a == 1) = false := by rw [beq_eq_false_iff_ne]; exact h
    have HV : Hid ((decide (a = 1) && decide (b = 1)) = false) := hid (by rw [Bool.eq_iff_iff]; simp [h])
    clear h
    go_enter Tryd.func49, Tryd.ntmps49
    go_wp2_with (fail)
    go_ret
    exact ⟨by rw [HV.out]; rfl, rfl⟩
theorem or_at (a b : Int) (w : World) : Calls Tryd.prog 50 #[.int .i64 a, .int .i64 b] w fun e w' => e = .returned (.bool (decide (a = 1) || decide (b = 1))) ∧ w' = w := by
  by_cases h : a = 1
  · have e0 : (a == 1) = true := by rw [beq_iff_eq]; exact h
    have HV : Hid ((decide (a = 1) || decide (b = 1)) = true) := hid (by rw [Bool.eq_iff_iff]; simp [h])
    clear h
    go_enter Tryd.func50, Tryd.ntmps50
    go_wp2_with (fail)
    go_ret
    exact ⟨by rw [HV.out]; rfl, rfl⟩
  · have e0 : (a == 1) = false := by rw [beq_eq_false_iff_ne]; exact h
    have HV : Hid ((decide (a = 1) || decide (b = 1)) = (b == 1)) := hid (by rw [Bool.eq_iff_iff]; simp [h])
    clear h
    go_enter Tryd.func50, Tryd.ntmps50
    go_wp2_with (fail)
    go_ret
    exact ⟨by rw [HV.out]; rfl, rfl⟩
end Go.Proofs.YtkniacdfhajogabDoor.Val
