/-
  The two maps: the contracts of sums and questions.
-/
import Derived.Test.YtkniacdfhajogaaMaps
namespace Go.Proofs.Ytkniacdfhajogaa.Val
open Go.ChangeShapes Go.WideShapes Go.ChangeAt Go.RowKit Go.Joins
set_option maxHeartbeats 1000000
/-- What the operators do that answer a number. -/
theorem sums_at (w : World) : Calls Try.prog 20 #[] w fun e w' => ∃ b, e = .returned (.map (some b)) ∧ Deed w' b 4 41 23 24 ∧ Deed w' b 6 42 23 26 ∧ Deed w' b 7 42 23 27 ∧ Deed w' b 8 42 23 28 ∧ Deed w' b 9 42 23 29 ∧ Deed w' b 10 42 23 30 ∧ Below w.heap.size w w' := by
  have hmm := @run_makeMap Try.prog
  have M0 := hid (MI.new w)
  go_enter Try.func20, Try.ntmps20
  go_wp2_with (fail)
  generalize (w.alloc (.map #[] 0)) = W0 at *
  refine (of_one_n 24 _).mono ?_
  rintro e w1 ⟨rfl, rfl⟩
  obtain ⟨W1, r, m⟩ := M0.out.step (by omega) 4 41 23 24 42 50 (by omega)
  have M1 := hid m
  clear m
  go_wp2_with (refine wpList_mapIns rfl (.tmp 1) (.const (.int .u8 4)) (.tmp 2) 47 rfl r ?_; clear r)
  refine (of_two_n 26 _).mono ?_
  rintro e w1 ⟨rfl, rfl⟩
  obtain ⟨W2, r, m⟩ := M1.out.step (by omega) 6 42 23 26 42 52 (by omega)
  have M2 := hid m
  clear m
  go_wp2_with (refine wpList_mapIns rfl (.tmp 1) (.const (.int .u8 6)) (.tmp 3) 47 rfl r ?_; clear r)
  refine (of_two_n 27 _).mono ?_
  rintro e w1 ⟨rfl, rfl⟩
  obtain ⟨W3, r, m⟩ := M2.out.step (by omega) 7 42 23 27 42 52 (by omega)
  have M3 := hid m
  clear m
  go_wp2_with (refine wpList_mapIns rfl (.tmp 1) (.const (.int .u8 7)) (.tmp 4) 47 rfl r ?_; clear r)
  refine (of_two_n 28 _).mono ?_
  rintro e w1 ⟨rfl, rfl⟩
  obtain ⟨W4, r, m⟩ := M3.out.step (by omega) 8 42 23 28 42 52 (by omega)
  have M4 := hid m
  clear m
  go_wp2_with (refine wpList_mapIns rfl (.tmp 1) (.const (.int .u8 8)) (.tmp 5) 47 rfl r ?_; clear r)
  refine (of_two_n 29 _).mono ?_
  rintro e w1 ⟨rfl, rfl⟩
  obtain ⟨W5, r, m⟩ := M4.out.step (by omega) 9 42 23 29 42 52 (by omega)
  have M5 := hid m
  clear m
  go_wp2_with (refine wpList_mapIns rfl (.tmp 1) (.const (.int .u8 9)) (.tmp 6) 47 rfl r ?_; clear r)
  refine (of_two_n 30 _).mono ?_
  rintro e w1 ⟨rfl, rfl⟩
  obtain ⟨W6, r, m⟩ := M5.out.step (by omega) 10 42 23 30 42 52 (by omega)
  have M6 := hid m
  clear m
  go_wp2_with (refine wpList_mapIns rfl (.tmp 1) (.const (.int .u8 10)) (.tmp 7) 47 rfl r ?_; clear r)
  go_ret
  exact ⟨_, rfl, M6.out.deed (by omega) (by rfl) (by simp) (by simp), M6.out.deed (by omega) (by rfl) (by simp) (by simp), M6.out.deed (by omega) (by rfl) (by simp) (by simp), M6.out.deed (by omega) (by rfl) (by simp) (by simp), M6.out.deed (by omega) (by rfl) (by simp) (by simp), M6.out.deed (by omega) (by rfl) (by simp) (by simp), M6.out.below⟩
/-- What the operators do that answer yes or no. -/
theorem questions_at (w : World) : Calls Try.prog 21 #[] w fun e w' => ∃ b, e = .returned (.map (some b)) ∧ Deed w' b 13 43 32 33 ∧ Deed w' b 14 43 32 34 ∧ Deed w' b 11 43 32 35 ∧ Deed w' b 12 43 32 36 ∧ Deed w' b 5 44 32 38 ∧ Deed w' b 15 43 32 39 ∧ Deed w' b 16 43 32 40 ∧ Below w.heap.size w w' := by
  have hmm := @run_makeMap Try.prog
  have M0 := hid (MI.new w)
  go_enter Try.func21, Try.ntmps21
  go_wp2_with (fail)
  generalize (w.alloc (.map #[] 0)) = W0 at *
  refine (of_two_b 33 _).mono ?_
  rintro e w1 ⟨rfl, rfl⟩
  obtain ⟨W1, r, m⟩ := M0.out.step (by omega) 13 43 32 33 43 54 (by omega)
  have M1 := hid m
  clear m
  go_wp2_with (refine wpList_mapIns rfl (.tmp 1) (.const (.int .u8 13)) (.tmp 2) 47 rfl r ?_; clear r)
  refine (of_two_b 34 _).mono ?_
  rintro e w1 ⟨rfl, rfl⟩
  obtain ⟨W2, r, m⟩ := M1.out.step (by omega) 14 43 32 34 43 54 (by omega)
  have M2 := hid m
  clear m
  go_wp2_with (refine wpList_mapIns rfl (.tmp 1) (.const (.int .u8 14)) (.tmp 3) 47 rfl r ?_; clear r)
  refine (of_two_b 35 _).mono ?_
  rintro e w1 ⟨rfl, rfl⟩
  obtain ⟨W3, r, m⟩ := M2.out.step (by omega) 11 43 32 35 43 54 (by omega)
  have M3 := hid m
  clear m
  go_wp2_with (refine wpList_mapIns rfl (.tmp 1) (.const (.int .u8 11)) (.tmp 4) 47 rfl r ?_; clear r)
  refine (of_two_b 36 _).mono ?_
  rintro e w1 ⟨rfl, rfl⟩
  obtain ⟨W4, r, m⟩ := M3.out.step (by omega) 12 43 32 36 43 54 (by omega)
  have M4 := hid m
  clear m
  go_wp2_with (refine wpList_mapIns rfl (.tmp 1) (.const (.int .u8 12)) (.tmp 5) 47 rfl r ?_; clear r)
  refine (of_one_b 38 _).mono ?_
  rintro e w1 ⟨rfl, rfl⟩
  obtain ⟨W5, r, m⟩ := M4.out.step (by omega) 5 44 32 38 43 56 (by omega)
  have M5 := hid m
  clear m
  go_wp2_with (refine wpList_mapIns rfl (.tmp 1) (.const (.int .u8 5)) (.tmp 6) 47 rfl r ?_; clear r)
  refine (of_two_b 39 _).mono ?_
  rintro e w1 ⟨rfl, rfl⟩
  obtain ⟨W6, r, m⟩ := M5.out.step (by omega) 15 43 32 39 43 54 (by omega)
  have M6 := hid m
  clear m
  go_wp2_with (refine wpList_mapIns rfl (.tmp 1) (.const (.int .u8 15)) (.tmp 7) 47 rfl r ?_; clear r)
  refine (of_two_b 40 _).mono ?_
  rintro e w1 ⟨rfl, rfl⟩
  obtain ⟨W7, r, m⟩ := M6.out.step (by omega) 16 43 32 40 43 54 (by omega)
  have M7 := hid m
  clear m
  go_wp2_with (refine wpList_mapIns rfl (.tmp 1) (.const (.int .u8 16)) (.tmp 8) 47 rfl r ?_; clear r)
  go_ret
  exact ⟨_, rfl, M7.out.deed (by omega) (by rfl) (by simp) (by simp), M7.out.deed (by omega) (by rfl) (by simp) (by simp), M7.out.deed (by omega) (by rfl) (by simp) (by simp), M7.out.deed (by omega) (by rfl) (by simp) (by simp), M7.out.deed (by omega) (by rfl) (by simp) (by simp), M7.out.deed (by omega) (by rfl) (by simp) (by simp), M7.out.deed (by omega) (by rfl) (by simp) (by simp), M7.out.below⟩
end Go.Proofs.Ytkniacdfhajogaa.Val
