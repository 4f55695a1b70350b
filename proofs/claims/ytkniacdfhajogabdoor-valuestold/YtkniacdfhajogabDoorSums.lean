/-
  The two maps: the contracts of sums and questions.
-/
import Derived.Test.YtkniacdfhajogabDoorMaps
namespace Go.Proofs.YtkniacdfhajogabDoor.Val
open Go.ChangeShapes Go.WideShapes Go.ChangeAt Go.RowKit Go.Joins
set_option maxHeartbeats 1000000
/-- What the operators do that answer a number. -/
theorem sums_at (w : World) : Calls Tryd.prog 25 #[] w fun e w' => ∃ b, e = .returned (.map (some b)) ∧ Deed w' b 4 53 33 34 ∧ Deed w' b 6 54 33 36 ∧ Deed w' b 7 54 33 37 ∧ Deed w' b 8 54 33 38 ∧ Deed w' b 9 54 33 39 ∧ Deed w' b 10 54 33 40 ∧ Below w.heap.size w w' := by
  have hmm := @run_makeMap Tryd.prog
  have M0 := hid (MI.new w)
  go_enter Tryd.func25, Tryd.ntmps25
  go_wp2_with (fail)
  generalize (w.alloc (.map #[] 0)) = W0 at *
  refine (of_one_n 34 _).mono ?_
  rintro e w1 ⟨rfl, rfl⟩
  obtain ⟨W1, r, m⟩ := M0.out.step (by omega) 4 53 33 34 26 67 (by omega)
  have M1 := hid m
  clear m
  go_wp2_with (refine wpList_mapIns rfl (.tmp 1) (.const (.int .u8 4)) (.tmp 2) 56 rfl r ?_; clear r)
  refine (of_two_n 36 _).mono ?_
  rintro e w1 ⟨rfl, rfl⟩
  obtain ⟨W2, r, m⟩ := M1.out.step (by omega) 6 54 33 36 26 69 (by omega)
  have M2 := hid m
  clear m
  go_wp2_with (refine wpList_mapIns rfl (.tmp 1) (.const (.int .u8 6)) (.tmp 3) 56 rfl r ?_; clear r)
  refine (of_two_n 37 _).mono ?_
  rintro e w1 ⟨rfl, rfl⟩
  obtain ⟨W3, r, m⟩ := M2.out.step (by omega) 7 54 33 37 26 69 (by omega)
  have M3 := hid m
  clear m
  go_wp2_with (refine wpList_mapIns rfl (.tmp 1) (.const (.int .u8 7)) (.tmp 4) 56 rfl r ?_; clear r)
  refine (of_two_n 38 _).mono ?_
  rintro e w1 ⟨rfl, rfl⟩
  obtain ⟨W4, r, m⟩ := M3.out.step (by omega) 8 54 33 38 26 69 (by omega)
  have M4 := hid m
  clear m
  go_wp2_with (refine wpList_mapIns rfl (.tmp 1) (.const (.int .u8 8)) (.tmp 5) 56 rfl r ?_; clear r)
  refine (of_two_n 39 _).mono ?_
  rintro e w1 ⟨rfl, rfl⟩
  obtain ⟨W5, r, m⟩ := M4.out.step (by omega) 9 54 33 39 26 69 (by omega)
  have M5 := hid m
  clear m
  go_wp2_with (refine wpList_mapIns rfl (.tmp 1) (.const (.int .u8 9)) (.tmp 6) 56 rfl r ?_; clear r)
  refine (of_two_n 40 _).mono ?_
  rintro e w1 ⟨rfl, rfl⟩
  obtain ⟨W6, r, m⟩ := M5.out.step (by omega) 10 54 33 40 26 69 (by omega)
  have M6 := hid m
  clear m
  go_wp2_with (refine wpList_mapIns rfl (.tmp 1) (.const (.int .u8 10)) (.tmp 7) 56 rfl r ?_; clear r)
  go_ret
  exact ⟨_, rfl, M6.out.deed (by omega) (by rfl) (by simp) (by simp), M6.out.deed (by omega) (by rfl) (by simp) (by simp), M6.out.deed (by omega) (by rfl) (by simp) (by simp), M6.out.deed (by omega) (by rfl) (by simp) (by simp), M6.out.deed (by omega) (by rfl) (by simp) (by simp), M6.out.deed (by omega) (by rfl) (by simp) (by simp), M6.out.below⟩
/-- What the operators do that answer yes or no. -/
theorem questions_at (w : World) : Calls Tryd.prog 26 #[] w fun e w' => ∃ b, e = .returned (.map (some b)) ∧ Deed w' b 13 55 42 43 ∧ Deed w' b 14 55 42 44 ∧ Deed w' b 11 55 42 45 ∧ Deed w' b 12 55 42 46 ∧ Deed w' b 5 56 42 48 ∧ Deed w' b 15 55 42 49 ∧ Deed w' b 16 55 42 50 ∧ Below w.heap.size w w' := by
  have hmm := @run_makeMap Tryd.prog
  have M0 := hid (MI.new w)
  go_enter Tryd.func26, Tryd.ntmps26
  go_wp2_with (fail)
  generalize (w.alloc (.map #[] 0)) = W0 at *
  refine (of_two_b 43 _).mono ?_
  rintro e w1 ⟨rfl, rfl⟩
  obtain ⟨W1, r, m⟩ := M0.out.step (by omega) 13 55 42 43 29 30 (by omega)
  have M1 := hid m
  clear m
  go_wp2_with (refine wpList_mapIns rfl (.tmp 1) (.const (.int .u8 13)) (.tmp 2) 56 rfl r ?_; clear r)
  refine (of_two_b 44 _).mono ?_
  rintro e w1 ⟨rfl, rfl⟩
  obtain ⟨W2, r, m⟩ := M1.out.step (by omega) 14 55 42 44 29 30 (by omega)
  have M2 := hid m
  clear m
  go_wp2_with (refine wpList_mapIns rfl (.tmp 1) (.const (.int .u8 14)) (.tmp 3) 56 rfl r ?_; clear r)
  refine (of_two_b 45 _).mono ?_
  rintro e w1 ⟨rfl, rfl⟩
  obtain ⟨W3, r, m⟩ := M2.out.step (by omega) 11 55 42 45 29 30 (by omega)
  have M3 := hid m
  clear m
  go_wp2_with (refine wpList_mapIns rfl (.tmp 1) (.const (.int .u8 11)) (.tmp 4) 56 rfl r ?_; clear r)
  refine (of_two_b 46 _).mono ?_
  rintro e w1 ⟨rfl, rfl⟩
  obtain ⟨W4, r, m⟩ := M3.out.step (by omega) 12 55 42 46 29 30 (by omega)
  have M4 := hid m
  clear m
  go_wp2_with (refine wpList_mapIns rfl (.tmp 1) (.const (.int .u8 12)) (.tmp 5) 56 rfl r ?_; clear r)
  refine (of_one_b 48 _).mono ?_
  rintro e w1 ⟨rfl, rfl⟩
  obtain ⟨W5, r, m⟩ := M4.out.step (by omega) 5 56 42 48 29 72 (by omega)
  have M5 := hid m
  clear m
  go_wp2_with (refine wpList_mapIns rfl (.tmp 1) (.const (.int .u8 5)) (.tmp 6) 56 rfl r ?_; clear r)
  refine (of_two_b 49 _).mono ?_
  rintro e w1 ⟨rfl, rfl⟩
  obtain ⟨W6, r, m⟩ := M5.out.step (by omega) 15 55 42 49 29 30 (by omega)
  have M6 := hid m
  clear m
  go_wp2_with (refine wpList_mapIns rfl (.tmp 1) (.const (.int .u8 15)) (.tmp 7) 56 rfl r ?_; clear r)
  refine (of_two_b 50 _).mono ?_
  rintro e w1 ⟨rfl, rfl⟩
  obtain ⟨W7, r, m⟩ := M6.out.step (by omega) 16 55 42 50 29 30 (by omega)
  have M7 := hid m
  clear m
  go_wp2_with (refine wpList_mapIns rfl (.tmp 1) (.const (.int .u8 16)) (.tmp 8) 56 rfl r ?_; clear r)
  go_ret
  exact ⟨_, rfl, M7.out.deed (by omega) (by rfl) (by simp) (by simp), M7.out.deed (by omega) (by rfl) (by simp) (by simp), M7.out.deed (by omega) (by rfl) (by simp) (by simp), M7.out.deed (by omega) (by rfl) (by simp) (by simp), M7.out.deed (by omega) (by rfl) (by simp) (by simp), M7.out.deed (by omega) (by rfl) (by simp) (by simp), M7.out.deed (by omega) (by rfl) (by simp) (by simp), M7.out.below⟩
end Go.Proofs.YtkniacdfhajogabDoor.Val
