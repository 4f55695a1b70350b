/-
  The two maps: the contracts of sums and questions.
-/
import Derived.Test.YtkniacdfhajogaaDoorMaps
namespace Go.Proofs.YtkniacdfhajogaaDoor.Val
open Go.ChangeShapes Go.WideShapes Go.ChangeAt Go.RowKit Go.Joins
set_option maxHeartbeats 1000000
/-- What the operators do that answer a number. -/
theorem sums_at (w : World) : Calls Tryd.prog 27 #[] w fun e w' => ∃ b, e = .returned (.map (some b)) ∧ Deed w' b 4 57 34 35 ∧ Deed w' b 6 58 34 37 ∧ Deed w' b 7 58 34 38 ∧ Deed w' b 8 58 34 39 ∧ Deed w' b 9 58 34 40 ∧ Deed w' b 10 58 34 41 ∧ Below w.heap.size w w' := by
  have hmm := @run_makeMap Tryd.prog
  have M0 := hid (MI.new w)
  go_enter Tryd.func27, Tryd.ntmps27
  go_wp2_with (fail)
  generalize (w.alloc (.map #[] 0)) = W0 at *
  refine (of_one_n 35 _).mono ?_
  rintro e w1 ⟨rfl, rfl⟩
  obtain ⟨W1, r, m⟩ := M0.out.step (by omega) 4 57 34 35 27 62 (by omega)
  have M1 := hid m
  clear m
  go_wp2_with (refine wpList_mapIns rfl (.tmp 1) (.const (.int .u8 4)) (.tmp 2) 51 rfl r ?_; clear r)
  refine (of_two_n 37 _).mono ?_
  rintro e w1 ⟨rfl, rfl⟩
  obtain ⟨W2, r, m⟩ := M1.out.step (by omega) 6 58 34 37 27 64 (by omega)
  have M2 := hid m
  clear m
  go_wp2_with (refine wpList_mapIns rfl (.tmp 1) (.const (.int .u8 6)) (.tmp 3) 51 rfl r ?_; clear r)
  refine (of_two_n 38 _).mono ?_
  rintro e w1 ⟨rfl, rfl⟩
  obtain ⟨W3, r, m⟩ := M2.out.step (by omega) 7 58 34 38 27 64 (by omega)
  have M3 := hid m
  clear m
  go_wp2_with (refine wpList_mapIns rfl (.tmp 1) (.const (.int .u8 7)) (.tmp 4) 51 rfl r ?_; clear r)
  refine (of_two_n 39 _).mono ?_
  rintro e w1 ⟨rfl, rfl⟩
  obtain ⟨W4, r, m⟩ := M3.out.step (by omega) 8 58 34 39 27 64 (by omega)
  have M4 := hid m
  clear m
  go_wp2_with (refine wpList_mapIns rfl (.tmp 1) (.const (.int .u8 8)) (.tmp 5) 51 rfl r ?_; clear r)
  refine (of_two_n 40 _).mono ?_
  rintro e w1 ⟨rfl, rfl⟩
  obtain ⟨W5, r, m⟩ := M4.out.step (by omega) 9 58 34 40 27 64 (by omega)
  have M5 := hid m
  clear m
  go_wp2_with (refine wpList_mapIns rfl (.tmp 1) (.const (.int .u8 9)) (.tmp 6) 51 rfl r ?_; clear r)
  refine (of_two_n 41 _).mono ?_
  rintro e w1 ⟨rfl, rfl⟩
  obtain ⟨W6, r, m⟩ := M5.out.step (by omega) 10 58 34 41 27 64 (by omega)
  have M6 := hid m
  clear m
  go_wp2_with (refine wpList_mapIns rfl (.tmp 1) (.const (.int .u8 10)) (.tmp 7) 51 rfl r ?_; clear r)
  go_ret
  exact ⟨_, rfl, M6.out.deed (by omega) (by rfl) (by simp) (by simp), M6.out.deed (by omega) (by rfl) (by simp) (by simp), M6.out.deed (by omega) (by rfl) (by simp) (by simp), M6.out.deed (by omega) (by rfl) (by simp) (by simp), M6.out.deed (by omega) (by rfl) (by simp) (by simp), M6.out.deed (by omega) (by rfl) (by simp) (by simp), M6.out.below⟩
/-- What the operators do that answer yes or no. -/
theorem questions_at (w : World) : Calls Tryd.prog 28 #[] w fun e w' => ∃ b, e = .returned (.map (some b)) ∧ Deed w' b 13 59 43 44 ∧ Deed w' b 14 59 43 45 ∧ Deed w' b 11 59 43 46 ∧ Deed w' b 12 59 43 47 ∧ Deed w' b 5 60 43 49 ∧ Deed w' b 15 59 43 50 ∧ Deed w' b 16 59 43 51 ∧ Below w.heap.size w w' := by
  have hmm := @run_makeMap Tryd.prog
  have M0 := hid (MI.new w)
  go_enter Tryd.func28, Tryd.ntmps28
  go_wp2_with (fail)
  generalize (w.alloc (.map #[] 0)) = W0 at *
  refine (of_two_b 44 _).mono ?_
  rintro e w1 ⟨rfl, rfl⟩
  obtain ⟨W1, r, m⟩ := M0.out.step (by omega) 13 59 43 44 32 31 (by omega)
  have M1 := hid m
  clear m
  go_wp2_with (refine wpList_mapIns rfl (.tmp 1) (.const (.int .u8 13)) (.tmp 2) 51 rfl r ?_; clear r)
  refine (of_two_b 45 _).mono ?_
  rintro e w1 ⟨rfl, rfl⟩
  obtain ⟨W2, r, m⟩ := M1.out.step (by omega) 14 59 43 45 32 31 (by omega)
  have M2 := hid m
  clear m
  go_wp2_with (refine wpList_mapIns rfl (.tmp 1) (.const (.int .u8 14)) (.tmp 3) 51 rfl r ?_; clear r)
  refine (of_two_b 46 _).mono ?_
  rintro e w1 ⟨rfl, rfl⟩
  obtain ⟨W3, r, m⟩ := M2.out.step (by omega) 11 59 43 46 32 31 (by omega)
  have M3 := hid m
  clear m
  go_wp2_with (refine wpList_mapIns rfl (.tmp 1) (.const (.int .u8 11)) (.tmp 4) 51 rfl r ?_; clear r)
  refine (of_two_b 47 _).mono ?_
  rintro e w1 ⟨rfl, rfl⟩
  obtain ⟨W4, r, m⟩ := M3.out.step (by omega) 12 59 43 47 32 31 (by omega)
  have M4 := hid m
  clear m
  go_wp2_with (refine wpList_mapIns rfl (.tmp 1) (.const (.int .u8 12)) (.tmp 5) 51 rfl r ?_; clear r)
  refine (of_one_b 49 _).mono ?_
  rintro e w1 ⟨rfl, rfl⟩
  obtain ⟨W5, r, m⟩ := M4.out.step (by omega) 5 60 43 49 32 67 (by omega)
  have M5 := hid m
  clear m
  go_wp2_with (refine wpList_mapIns rfl (.tmp 1) (.const (.int .u8 5)) (.tmp 6) 51 rfl r ?_; clear r)
  refine (of_two_b 50 _).mono ?_
  rintro e w1 ⟨rfl, rfl⟩
  obtain ⟨W6, r, m⟩ := M5.out.step (by omega) 15 59 43 50 32 31 (by omega)
  have M6 := hid m
  clear m
  go_wp2_with (refine wpList_mapIns rfl (.tmp 1) (.const (.int .u8 15)) (.tmp 7) 51 rfl r ?_; clear r)
  refine (of_two_b 51 _).mono ?_
  rintro e w1 ⟨rfl, rfl⟩
  obtain ⟨W7, r, m⟩ := M6.out.step (by omega) 16 59 43 51 32 31 (by omega)
  have M7 := hid m
  clear m
  go_wp2_with (refine wpList_mapIns rfl (.tmp 1) (.const (.int .u8 16)) (.tmp 8) 51 rfl r ?_; clear r)
  go_ret
  exact ⟨_, rfl, M7.out.deed (by omega) (by rfl) (by simp) (by simp), M7.out.deed (by omega) (by rfl) (by simp) (by simp), M7.out.deed (by omega) (by rfl) (by simp) (by simp), M7.out.deed (by omega) (by rfl) (by simp) (by simp), M7.out.deed (by omega) (by rfl) (by simp) (by simp), M7.out.deed (by omega) (by rfl) (by simp) (by simp), M7.out.deed (by omega) (by rfl) (by simp) (by simp), M7.out.below⟩
end Go.Proofs.YtkniacdfhajogaaDoor.Val
