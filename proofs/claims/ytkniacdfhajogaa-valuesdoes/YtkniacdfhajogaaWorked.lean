/-
  What an operator makes of values that it may be of: the contracts of chosen and worked.
-/
import Derived.Test.YtkniacdfhajogaaSums
namespace Go.Proofs.Ytkniacdfhajogaa.Val
open Go.ChangeShapes Go.WideShapes Go.ChangeAt Go.RowKit Go.Joins
set_option maxHeartbeats 1000000
theorem bstep {B : Nat} {w w1 w2 : World} (h : Below B w w1) (h2 : Below w1.heap.size w1 w2) (hB : B ≤ w1.heap.size) : Below B w w2 := h.trans (h2.mono hB)
theorem plain35 : Plain 24 := fun _ _ => by kernel_rfl
theorem plain37 : Plain 26 := fun _ _ => by kernel_rfl
theorem plain38 : Plain 27 := fun _ _ => by kernel_rfl
theorem plain39 : Plain 28 := fun _ _ => by kernel_rfl
theorem plain40 : Plain 29 := fun _ _ => by kernel_rfl
theorem plain41 : Plain 30 := fun _ _ => by kernel_rfl
theorem plain44 : Plain 33 := fun _ _ => by kernel_rfl
theorem plain45 : Plain 34 := fun _ _ => by kernel_rfl
theorem plain46 : Plain 35 := fun _ _ => by kernel_rfl
theorem plain47 : Plain 36 := fun _ _ => by kernel_rfl
theorem plain49 : Plain 38 := fun _ _ => by kernel_rfl
theorem plain50 : Plain 39 := fun _ _ => by kernel_rfl
theorem plain51 : Plain 40 := fun _ _ => by kernel_rfl
theorem chosen_at (a b c : Vl) (w : World) : Calls Try.prog 19 #[vV a, vV b, vV c] w fun e w' => e = .returned (vV (if a.n = 1 then b else c)) ∧ Below w.heap.size w w' := by
  have b1 := (Below.refl w.heap.size w).alloc (Nat.le_refl _) (.cells (vC a) 28)
  have b2 := b1.alloc b1.size (.cells (vC b) 28)
  have b3 := b2.alloc b2.size (.cells (vC c) 28)
  have B4 := hid (b3.alloc b3.size (.cells c24 28))
  have X4 := heap_alloc_new (((w.alloc (.cells (vC a) 28)).alloc (.cells (vC b) 28)).alloc (.cells (vC c) 28)) (.cells c24 28)
  have hsz : (((w.alloc (.cells (vC a) 28)).alloc (.cells (vC b) 28)).alloc (.cells (vC c) 28)).heap.size = w.heap.size + 1 + 1 + 1 := by simp
  rw [hsz] at X4
  clear hsz b1 b2 b3
  by_cases h : a.n = 1
  · have e0 : (a.n == 1) = true := by rw [beq_iff_eq]; exact h
    rw [if_pos h]
    clear h
    go_enter Try.func19, Try.ntmps19
    go_wp2_with (refine wpList_store_row rfl 28 _ _ rfl (w.heap.size + 1 + 1 + 1) (vC b) rfl rfl 28 _ X4 info24 rfl (by simp [Value.oneCell']) ?_)
    exact bodyPost_ret (results_cell_row rfl _ _ (w.heap.size + 1 + 1 + 1) 28 (vC b) (0, 0) _ rfl (setRow_heap _ _ _ _ _ _ X4) Try.underlying28 rfl info24) rfl ⟨rfl, below_row B4.out B4.out.size (by omega) _⟩
  · have e0 : (a.n == 1) = false := by rw [beq_eq_false_iff_ne]; exact h
    rw [if_neg h]
    clear h
    go_enter Try.func19, Try.ntmps19
    go_wp2_with (refine wpList_store_row rfl 28 _ _ rfl (w.heap.size + 1 + 1 + 1) (vC c) rfl rfl 28 _ X4 info24 rfl (by simp [Value.oneCell']) ?_)
    exact bodyPost_ret (results_cell_row rfl _ _ (w.heap.size + 1 + 1 + 1) 28 (vC c) (0, 0) _ rfl (setRow_heap _ _ _ _ _ _ X4) Try.underlying28 rfl info24) rfl ⟨rfl, below_row B4.out B4.out.size (by omega) _⟩
theorem worked4 (a : Vl) (g o cap : Nat) (w : World) (hV : VAt w g o [a]) : Calls Try.prog 12 #[.int .u8 4, .slice (some ⟨g, o, none⟩) 1 cap] w fun e w' => e = .returned (vV (wkV 4 [a])) ∧ Below w.heap.size w w' := by
  have B0 := hid ((Below.refl w.heap.size w).alloc (Nat.le_refl _) (.cells c24 28))
  have X0 := hid (heap_alloc_new w (.cells c24 28))
  have HV := hid hV
  have HW : Hid (numV ((fun a => wr (-a)) a.n) = wkV 4 [a]) := hid rfl
  clear hV
  generalize wkV 4 [a] = r at *
  go_enter Try.func12, Try.ntmps12
  go_wp2_with (fail)
  refine (sums_at _).mono ?_
  rintro e w1 ⟨mb, rfl, dd, -, -, -, -, -, hb1⟩
  obtain ⟨b1, b2, hl0, c1, c2⟩ := dd
  have hl : (Instr.lookup 47 (.map (some mb)) (.int .u8 4) false).run Try.prog w1 = .ok (fcV 41 b1 b2) w1 := hl0
  clear hl0
  have B1 := hid (bstep B0.out hb1 B0.out.size)
  have X1 := hid (keep_row X0.out hb1)
  clear hb1
  go_wp2_with (fail)
  refine (deed1n 24 plain35 (fun a => wr (-a)) neg_at b1 b2 g o cap a w1 c1 c2 (HV.out.keep B1.out)).mono ?_
  rintro e w2 ⟨rfl, hb2⟩
  have B2 := hid (bstep B1.out hb2 B1.out.size)
  have X2 := keep_row X1.out hb2
  rw [HW.out]
  clear hb2 hl c1 c2
  go_wp2_with (refine wpList_store_row rfl 28 _ _ rfl w.heap.size (vC r) rfl rfl 28 _ X2 info24 rfl (by simp [Value.oneCell']) ?_)
  exact bodyPost_ret (results_cell_row rfl _ _ w.heap.size 28 (vC r) (0, 0) _ rfl (setRow_heap _ _ _ _ _ _ X2) Try.underlying28 rfl info24) rfl ⟨rfl, below_row B2.out B2.out.size (Nat.le_refl _) _⟩
theorem worked5 (a : Vl) (g o cap : Nat) (w : World) (hV : VAt w g o [a]) : Calls Try.prog 12 #[.int .u8 5, .slice (some ⟨g, o, none⟩) 1 cap] w fun e w' => e = .returned (vV (wkV 5 [a])) ∧ Below w.heap.size w w' := by
  have B0 := hid ((Below.refl w.heap.size w).alloc (Nat.le_refl _) (.cells c24 28))
  have X0 := hid (heap_alloc_new w (.cells c24 28))
  have HV := hid hV
  have HW : Hid (yesV ((fun a => decide (a = 0)) a.n) = wkV 5 [a]) := hid rfl
  clear hV
  generalize wkV 5 [a] = r at *
  go_enter Try.func12, Try.ntmps12
  go_wp2_with (fail)
  refine (questions_at _).mono ?_
  rintro e w1 ⟨mb, rfl, -, -, -, -, dd, -, -, hb1⟩
  obtain ⟨b1, b2, hl0, c1, c2⟩ := dd
  have hl : (Instr.lookup 47 (.map (some mb)) (.int .u8 5) false).run Try.prog w1 = .ok (fcV 44 b1 b2) w1 := hl0
  clear hl0
  have B1 := hid (bstep B0.out hb1 B0.out.size)
  have X1 := hid (keep_row X0.out hb1)
  clear hb1
  go_wp2_with (fail)
  refine (deed1b 38 plain49 (fun a => decide (a = 0)) not_at b1 b2 g o cap a w1 c1 c2 (HV.out.keep B1.out)).mono ?_
  rintro e w2 ⟨rfl, hb2⟩
  have B2 := hid (bstep B1.out hb2 B1.out.size)
  have X2 := keep_row X1.out hb2
  rw [HW.out]
  clear hb2 hl c1 c2
  go_wp2_with (refine wpList_store_row rfl 28 _ _ rfl w.heap.size (vC r) rfl rfl 28 _ X2 info24 rfl (by simp [Value.oneCell']) ?_)
  exact bodyPost_ret (results_cell_row rfl _ _ w.heap.size 28 (vC r) (0, 0) _ rfl (setRow_heap _ _ _ _ _ _ X2) Try.underlying28 rfl info24) rfl ⟨rfl, below_row B2.out B2.out.size (Nat.le_refl _) _⟩
theorem worked6 (a b : Vl) (g o cap : Nat) (w : World) (hV : VAt w g o [a, b]) : Calls Try.prog 12 #[.int .u8 6, .slice (some ⟨g, o, none⟩) 2 cap] w fun e w' => e = .returned (vV (wkV 6 [a, b])) ∧ Below w.heap.size w w' := by
  have B0 := hid ((Below.refl w.heap.size w).alloc (Nat.le_refl _) (.cells c24 28))
  have X0 := hid (heap_alloc_new w (.cells c24 28))
  have HV := hid hV
  have HW : Hid (numV ((fun a b => wr (a + b)) a.n b.n) = wkV 6 [a, b]) := hid rfl
  clear hV
  generalize wkV 6 [a, b] = r at *
  go_enter Try.func12, Try.ntmps12
  go_wp2_with (fail)
  refine (sums_at _).mono ?_
  rintro e w1 ⟨mb, rfl, -, dd, -, -, -, -, hb1⟩
  obtain ⟨b1, b2, hl0, c1, c2⟩ := dd
  have hl : (Instr.lookup 47 (.map (some mb)) (.int .u8 6) false).run Try.prog w1 = .ok (fcV 42 b1 b2) w1 := hl0
  clear hl0
  have B1 := hid (bstep B0.out hb1 B0.out.size)
  have X1 := hid (keep_row X0.out hb1)
  clear hb1
  go_wp2_with (fail)
  refine (deed2n 26 plain37 (fun a b => wr (a + b)) add_at b1 b2 g o cap a b w1 c1 c2 (HV.out.keep B1.out)).mono ?_
  rintro e w2 ⟨rfl, hb2⟩
  have B2 := hid (bstep B1.out hb2 B1.out.size)
  have X2 := keep_row X1.out hb2
  rw [HW.out]
  clear hb2 hl c1 c2
  go_wp2_with (refine wpList_store_row rfl 28 _ _ rfl w.heap.size (vC r) rfl rfl 28 _ X2 info24 rfl (by simp [Value.oneCell']) ?_)
  exact bodyPost_ret (results_cell_row rfl _ _ w.heap.size 28 (vC r) (0, 0) _ rfl (setRow_heap _ _ _ _ _ _ X2) Try.underlying28 rfl info24) rfl ⟨rfl, below_row B2.out B2.out.size (Nat.le_refl _) _⟩
theorem worked7 (a b : Vl) (g o cap : Nat) (w : World) (hV : VAt w g o [a, b]) : Calls Try.prog 12 #[.int .u8 7, .slice (some ⟨g, o, none⟩) 2 cap] w fun e w' => e = .returned (vV (wkV 7 [a, b])) ∧ Below w.heap.size w w' := by
  have B0 := hid ((Below.refl w.heap.size w).alloc (Nat.le_refl _) (.cells c24 28))
  have X0 := hid (heap_alloc_new w (.cells c24 28))
  have HV := hid hV
  have HW : Hid (numV ((fun a b => wr (a - b)) a.n b.n) = wkV 7 [a, b]) := hid rfl
  clear hV
  generalize wkV 7 [a, b] = r at *
  go_enter Try.func12, Try.ntmps12
  go_wp2_with (fail)
  refine (sums_at _).mono ?_
  rintro e w1 ⟨mb, rfl, -, -, dd, -, -, -, hb1⟩
  obtain ⟨b1, b2, hl0, c1, c2⟩ := dd
  have hl : (Instr.lookup 47 (.map (some mb)) (.int .u8 7) false).run Try.prog w1 = .ok (fcV 42 b1 b2) w1 := hl0
  clear hl0
  have B1 := hid (bstep B0.out hb1 B0.out.size)
  have X1 := hid (keep_row X0.out hb1)
  clear hb1
  go_wp2_with (fail)
  refine (deed2n 27 plain38 (fun a b => wr (a - b)) sub_at b1 b2 g o cap a b w1 c1 c2 (HV.out.keep B1.out)).mono ?_
  rintro e w2 ⟨rfl, hb2⟩
  have B2 := hid (bstep B1.out hb2 B1.out.size)
  have X2 := keep_row X1.out hb2
  rw [HW.out]
  clear hb2 hl c1 c2
  go_wp2_with (refine wpList_store_row rfl 28 _ _ rfl w.heap.size (vC r) rfl rfl 28 _ X2 info24 rfl (by simp [Value.oneCell']) ?_)
  exact bodyPost_ret (results_cell_row rfl _ _ w.heap.size 28 (vC r) (0, 0) _ rfl (setRow_heap _ _ _ _ _ _ X2) Try.underlying28 rfl info24) rfl ⟨rfl, below_row B2.out B2.out.size (Nat.le_refl _) _⟩
theorem worked8 (a b : Vl) (g o cap : Nat) (w : World) (hV : VAt w g o [a, b]) : Calls Try.prog 12 #[.int .u8 8, .slice (some ⟨g, o, none⟩) 2 cap] w fun e w' => e = .returned (vV (wkV 8 [a, b])) ∧ Below w.heap.size w w' := by
  have B0 := hid ((Below.refl w.heap.size w).alloc (Nat.le_refl _) (.cells c24 28))
  have X0 := hid (heap_alloc_new w (.cells c24 28))
  have HV := hid hV
  have HW : Hid (numV ((fun a b => wr (a * b)) a.n b.n) = wkV 8 [a, b]) := hid rfl
  clear hV
  generalize wkV 8 [a, b] = r at *
  go_enter Try.func12, Try.ntmps12
  go_wp2_with (fail)
  refine (sums_at _).mono ?_
  rintro e w1 ⟨mb, rfl, -, -, -, dd, -, -, hb1⟩
  obtain ⟨b1, b2, hl0, c1, c2⟩ := dd
  have hl : (Instr.lookup 47 (.map (some mb)) (.int .u8 8) false).run Try.prog w1 = .ok (fcV 42 b1 b2) w1 := hl0
  clear hl0
  have B1 := hid (bstep B0.out hb1 B0.out.size)
  have X1 := hid (keep_row X0.out hb1)
  clear hb1
  go_wp2_with (fail)
  refine (deed2n 28 plain39 (fun a b => wr (a * b)) mul_at b1 b2 g o cap a b w1 c1 c2 (HV.out.keep B1.out)).mono ?_
  rintro e w2 ⟨rfl, hb2⟩
  have B2 := hid (bstep B1.out hb2 B1.out.size)
  have X2 := keep_row X1.out hb2
  rw [HW.out]
  clear hb2 hl c1 c2
  go_wp2_with (refine wpList_store_row rfl 28 _ _ rfl w.heap.size (vC r) rfl rfl 28 _ X2 info24 rfl (by simp [Value.oneCell']) ?_)
  exact bodyPost_ret (results_cell_row rfl _ _ w.heap.size 28 (vC r) (0, 0) _ rfl (setRow_heap _ _ _ _ _ _ X2) Try.underlying28 rfl info24) rfl ⟨rfl, below_row B2.out B2.out.size (Nat.le_refl _) _⟩
theorem worked9 (a b : Vl) (g o cap : Nat) (w : World) (hV : VAt w g o [a, b]) : Calls Try.prog 12 #[.int .u8 9, .slice (some ⟨g, o, none⟩) 2 cap] w fun e w' => e = .returned (vV (wkV 9 [a, b])) ∧ Below w.heap.size w w' := by
  have B0 := hid ((Below.refl w.heap.size w).alloc (Nat.le_refl _) (.cells c24 28))
  have X0 := hid (heap_alloc_new w (.cells c24 28))
  have HV := hid hV
  have HW : Hid (numV ((quoV) a.n b.n) = wkV 9 [a, b]) := hid rfl
  clear hV
  generalize wkV 9 [a, b] = r at *
  go_enter Try.func12, Try.ntmps12
  go_wp2_with (fail)
  refine (sums_at _).mono ?_
  rintro e w1 ⟨mb, rfl, -, -, -, -, dd, -, hb1⟩
  obtain ⟨b1, b2, hl0, c1, c2⟩ := dd
  have hl : (Instr.lookup 47 (.map (some mb)) (.int .u8 9) false).run Try.prog w1 = .ok (fcV 42 b1 b2) w1 := hl0
  clear hl0
  have B1 := hid (bstep B0.out hb1 B0.out.size)
  have X1 := hid (keep_row X0.out hb1)
  clear hb1
  go_wp2_with (fail)
  refine (deed2n 29 plain40 (quoV) quo_at b1 b2 g o cap a b w1 c1 c2 (HV.out.keep B1.out)).mono ?_
  rintro e w2 ⟨rfl, hb2⟩
  have B2 := hid (bstep B1.out hb2 B1.out.size)
  have X2 := keep_row X1.out hb2
  rw [HW.out]
  clear hb2 hl c1 c2
  go_wp2_with (refine wpList_store_row rfl 28 _ _ rfl w.heap.size (vC r) rfl rfl 28 _ X2 info24 rfl (by simp [Value.oneCell']) ?_)
  exact bodyPost_ret (results_cell_row rfl _ _ w.heap.size 28 (vC r) (0, 0) _ rfl (setRow_heap _ _ _ _ _ _ X2) Try.underlying28 rfl info24) rfl ⟨rfl, below_row B2.out B2.out.size (Nat.le_refl _) _⟩
theorem worked10 (a b : Vl) (g o cap : Nat) (w : World) (hV : VAt w g o [a, b]) : Calls Try.prog 12 #[.int .u8 10, .slice (some ⟨g, o, none⟩) 2 cap] w fun e w' => e = .returned (vV (wkV 10 [a, b])) ∧ Below w.heap.size w w' := by
  have B0 := hid ((Below.refl w.heap.size w).alloc (Nat.le_refl _) (.cells c24 28))
  have X0 := hid (heap_alloc_new w (.cells c24 28))
  have HV := hid hV
  have HW : Hid (numV ((remV) a.n b.n) = wkV 10 [a, b]) := hid rfl
  clear hV
  generalize wkV 10 [a, b] = r at *
  go_enter Try.func12, Try.ntmps12
  go_wp2_with (fail)
  refine (sums_at _).mono ?_
  rintro e w1 ⟨mb, rfl, -, -, -, -, -, dd, hb1⟩
  obtain ⟨b1, b2, hl0, c1, c2⟩ := dd
  have hl : (Instr.lookup 47 (.map (some mb)) (.int .u8 10) false).run Try.prog w1 = .ok (fcV 42 b1 b2) w1 := hl0
  clear hl0
  have B1 := hid (bstep B0.out hb1 B0.out.size)
  have X1 := hid (keep_row X0.out hb1)
  clear hb1
  go_wp2_with (fail)
  refine (deed2n 30 plain41 (remV) rem_at b1 b2 g o cap a b w1 c1 c2 (HV.out.keep B1.out)).mono ?_
  rintro e w2 ⟨rfl, hb2⟩
  have B2 := hid (bstep B1.out hb2 B1.out.size)
  have X2 := keep_row X1.out hb2
  rw [HW.out]
  clear hb2 hl c1 c2
  go_wp2_with (refine wpList_store_row rfl 28 _ _ rfl w.heap.size (vC r) rfl rfl 28 _ X2 info24 rfl (by simp [Value.oneCell']) ?_)
  exact bodyPost_ret (results_cell_row rfl _ _ w.heap.size 28 (vC r) (0, 0) _ rfl (setRow_heap _ _ _ _ _ _ X2) Try.underlying28 rfl info24) rfl ⟨rfl, below_row B2.out B2.out.size (Nat.le_refl _) _⟩
theorem worked11 (a b : Vl) (g o cap : Nat) (w : World) (hV : VAt w g o [a, b]) : Calls Try.prog 12 #[.int .u8 11, .slice (some ⟨g, o, none⟩) 2 cap] w fun e w' => e = .returned (vV (wkV 11 [a, b])) ∧ Below w.heap.size w w' := by
  have B0 := hid ((Below.refl w.heap.size w).alloc (Nat.le_refl _) (.cells c24 28))
  have X0 := hid (heap_alloc_new w (.cells c24 28))
  have HV := hid hV
  have HW : Hid (yesV ((fun a b => decide (a = b)) a.n b.n) = wkV 11 [a, b]) := hid rfl
  clear hV
  generalize wkV 11 [a, b] = r at *
  go_enter Try.func12, Try.ntmps12
  go_wp2_with (fail)
  refine (questions_at _).mono ?_
  rintro e w1 ⟨mb, rfl, -, -, dd, -, -, -, -, hb1⟩
  obtain ⟨b1, b2, hl0, c1, c2⟩ := dd
  have hl : (Instr.lookup 47 (.map (some mb)) (.int .u8 11) false).run Try.prog w1 = .ok (fcV 43 b1 b2) w1 := hl0
  clear hl0
  have B1 := hid (bstep B0.out hb1 B0.out.size)
  have X1 := hid (keep_row X0.out hb1)
  clear hb1
  go_wp2_with (fail)
  refine (deed2b 35 plain46 (fun a b => decide (a = b)) eq_at b1 b2 g o cap a b w1 c1 c2 (HV.out.keep B1.out)).mono ?_
  rintro e w2 ⟨rfl, hb2⟩
  have B2 := hid (bstep B1.out hb2 B1.out.size)
  have X2 := keep_row X1.out hb2
  rw [HW.out]
  clear hb2 hl c1 c2
  go_wp2_with (refine wpList_store_row rfl 28 _ _ rfl w.heap.size (vC r) rfl rfl 28 _ X2 info24 rfl (by simp [Value.oneCell']) ?_)
  exact bodyPost_ret (results_cell_row rfl _ _ w.heap.size 28 (vC r) (0, 0) _ rfl (setRow_heap _ _ _ _ _ _ X2) Try.underlying28 rfl info24) rfl ⟨rfl, below_row B2.out B2.out.size (Nat.le_refl _) _⟩
theorem worked12 (a b : Vl) (g o cap : Nat) (w : World) (hV : VAt w g o [a, b]) : Calls Try.prog 12 #[.int .u8 12, .slice (some ⟨g, o, none⟩) 2 cap] w fun e w' => e = .returned (vV (wkV 12 [a, b])) ∧ Below w.heap.size w w' := by
  have B0 := hid ((Below.refl w.heap.size w).alloc (Nat.le_refl _) (.cells c24 28))
  have X0 := hid (heap_alloc_new w (.cells c24 28))
  have HV := hid hV
  have HW : Hid (yesV ((fun a b => !decide (a = b)) a.n b.n) = wkV 12 [a, b]) := hid rfl
  clear hV
  generalize wkV 12 [a, b] = r at *
  go_enter Try.func12, Try.ntmps12
  go_wp2_with (fail)
  refine (questions_at _).mono ?_
  rintro e w1 ⟨mb, rfl, -, -, -, dd, -, -, -, hb1⟩
  obtain ⟨b1, b2, hl0, c1, c2⟩ := dd
  have hl : (Instr.lookup 47 (.map (some mb)) (.int .u8 12) false).run Try.prog w1 = .ok (fcV 43 b1 b2) w1 := hl0
  clear hl0
  have B1 := hid (bstep B0.out hb1 B0.out.size)
  have X1 := hid (keep_row X0.out hb1)
  clear hb1
  go_wp2_with (fail)
  refine (deed2b 36 plain47 (fun a b => !decide (a = b)) ne_at b1 b2 g o cap a b w1 c1 c2 (HV.out.keep B1.out)).mono ?_
  rintro e w2 ⟨rfl, hb2⟩
  have B2 := hid (bstep B1.out hb2 B1.out.size)
  have X2 := keep_row X1.out hb2
  rw [HW.out]
  clear hb2 hl c1 c2
  go_wp2_with (refine wpList_store_row rfl 28 _ _ rfl w.heap.size (vC r) rfl rfl 28 _ X2 info24 rfl (by simp [Value.oneCell']) ?_)
  exact bodyPost_ret (results_cell_row rfl _ _ w.heap.size 28 (vC r) (0, 0) _ rfl (setRow_heap _ _ _ _ _ _ X2) Try.underlying28 rfl info24) rfl ⟨rfl, below_row B2.out B2.out.size (Nat.le_refl _) _⟩
theorem worked13 (a b : Vl) (g o cap : Nat) (w : World) (hV : VAt w g o [a, b]) : Calls Try.prog 12 #[.int .u8 13, .slice (some ⟨g, o, none⟩) 2 cap] w fun e w' => e = .returned (vV (wkV 13 [a, b])) ∧ Below w.heap.size w w' := by
  have B0 := hid ((Below.refl w.heap.size w).alloc (Nat.le_refl _) (.cells c24 28))
  have X0 := hid (heap_alloc_new w (.cells c24 28))
  have HV := hid hV
  have HW : Hid (yesV ((fun a b => decide (a < b)) a.n b.n) = wkV 13 [a, b]) := hid rfl
  clear hV
  generalize wkV 13 [a, b] = r at *
  go_enter Try.func12, Try.ntmps12
  go_wp2_with (fail)
  refine (questions_at _).mono ?_
  rintro e w1 ⟨mb, rfl, dd, -, -, -, -, -, -, hb1⟩
  obtain ⟨b1, b2, hl0, c1, c2⟩ := dd
  have hl : (Instr.lookup 47 (.map (some mb)) (.int .u8 13) false).run Try.prog w1 = .ok (fcV 43 b1 b2) w1 := hl0
  clear hl0
  have B1 := hid (bstep B0.out hb1 B0.out.size)
  have X1 := hid (keep_row X0.out hb1)
  clear hb1
  go_wp2_with (fail)
  refine (deed2b 33 plain44 (fun a b => decide (a < b)) lt_at b1 b2 g o cap a b w1 c1 c2 (HV.out.keep B1.out)).mono ?_
  rintro e w2 ⟨rfl, hb2⟩
  have B2 := hid (bstep B1.out hb2 B1.out.size)
  have X2 := keep_row X1.out hb2
  rw [HW.out]
  clear hb2 hl c1 c2
  go_wp2_with (refine wpList_store_row rfl 28 _ _ rfl w.heap.size (vC r) rfl rfl 28 _ X2 info24 rfl (by simp [Value.oneCell']) ?_)
  exact bodyPost_ret (results_cell_row rfl _ _ w.heap.size 28 (vC r) (0, 0) _ rfl (setRow_heap _ _ _ _ _ _ X2) Try.underlying28 rfl info24) rfl ⟨rfl, below_row B2.out B2.out.size (Nat.le_refl _) _⟩
theorem worked14 (a b : Vl) (g o cap : Nat) (w : World) (hV : VAt w g o [a, b]) : Calls Try.prog 12 #[.int .u8 14, .slice (some ⟨g, o, none⟩) 2 cap] w fun e w' => e = .returned (vV (wkV 14 [a, b])) ∧ Below w.heap.size w w' := by
  have B0 := hid ((Below.refl w.heap.size w).alloc (Nat.le_refl _) (.cells c24 28))
  have X0 := hid (heap_alloc_new w (.cells c24 28))
  have HV := hid hV
  have HW : Hid (yesV ((fun a b => decide (a ≤ b)) a.n b.n) = wkV 14 [a, b]) := hid rfl
  clear hV
  generalize wkV 14 [a, b] = r at *
  go_enter Try.func12, Try.ntmps12
  go_wp2_with (fail)
  refine (questions_at _).mono ?_
  rintro e w1 ⟨mb, rfl, -, dd, -, -, -, -, -, hb1⟩
  obtain ⟨b1, b2, hl0, c1, c2⟩ := dd
  have hl : (Instr.lookup 47 (.map (some mb)) (.int .u8 14) false).run Try.prog w1 = .ok (fcV 43 b1 b2) w1 := hl0
  clear hl0
  have B1 := hid (bstep B0.out hb1 B0.out.size)
  have X1 := hid (keep_row X0.out hb1)
  clear hb1
  go_wp2_with (fail)
  refine (deed2b 34 plain45 (fun a b => decide (a ≤ b)) le_at b1 b2 g o cap a b w1 c1 c2 (HV.out.keep B1.out)).mono ?_
  rintro e w2 ⟨rfl, hb2⟩
  have B2 := hid (bstep B1.out hb2 B1.out.size)
  have X2 := keep_row X1.out hb2
  rw [HW.out]
  clear hb2 hl c1 c2
  go_wp2_with (refine wpList_store_row rfl 28 _ _ rfl w.heap.size (vC r) rfl rfl 28 _ X2 info24 rfl (by simp [Value.oneCell']) ?_)
  exact bodyPost_ret (results_cell_row rfl _ _ w.heap.size 28 (vC r) (0, 0) _ rfl (setRow_heap _ _ _ _ _ _ X2) Try.underlying28 rfl info24) rfl ⟨rfl, below_row B2.out B2.out.size (Nat.le_refl _) _⟩
theorem worked15 (a b : Vl) (g o cap : Nat) (w : World) (hV : VAt w g o [a, b]) : Calls Try.prog 12 #[.int .u8 15, .slice (some ⟨g, o, none⟩) 2 cap] w fun e w' => e = .returned (vV (wkV 15 [a, b])) ∧ Below w.heap.size w w' := by
  have B0 := hid ((Below.refl w.heap.size w).alloc (Nat.le_refl _) (.cells c24 28))
  have X0 := hid (heap_alloc_new w (.cells c24 28))
  have HV := hid hV
  have HW : Hid (yesV ((fun a b => decide (a = 1) && decide (b = 1)) a.n b.n) = wkV 15 [a, b]) := hid rfl
  clear hV
  generalize wkV 15 [a, b] = r at *
  go_enter Try.func12, Try.ntmps12
  go_wp2_with (fail)
  refine (questions_at _).mono ?_
  rintro e w1 ⟨mb, rfl, -, -, -, -, -, dd, -, hb1⟩
  obtain ⟨b1, b2, hl0, c1, c2⟩ := dd
  have hl : (Instr.lookup 47 (.map (some mb)) (.int .u8 15) false).run Try.prog w1 = .ok (fcV 43 b1 b2) w1 := hl0
  clear hl0
  have B1 := hid (bstep B0.out hb1 B0.out.size)
  have X1 := hid (keep_row X0.out hb1)
  clear hb1
  go_wp2_with (fail)
  refine (deed2b 39 plain50 (fun a b => decide (a = 1) && decide (b = 1)) and_at b1 b2 g o cap a b w1 c1 c2 (HV.out.keep B1.out)).mono ?_
  rintro e w2 ⟨rfl, hb2⟩
  have B2 := hid (bstep B1.out hb2 B1.out.size)
  have X2 := keep_row X1.out hb2
  rw [HW.out]
  clear hb2 hl c1 c2
  go_wp2_with (refine wpList_store_row rfl 28 _ _ rfl w.heap.size (vC r) rfl rfl 28 _ X2 info24 rfl (by simp [Value.oneCell']) ?_)
  exact bodyPost_ret (results_cell_row rfl _ _ w.heap.size 28 (vC r) (0, 0) _ rfl (setRow_heap _ _ _ _ _ _ X2) Try.underlying28 rfl info24) rfl ⟨rfl, below_row B2.out B2.out.size (Nat.le_refl _) _⟩
theorem worked16 (a b : Vl) (g o cap : Nat) (w : World) (hV : VAt w g o [a, b]) : Calls Try.prog 12 #[.int .u8 16, .slice (some ⟨g, o, none⟩) 2 cap] w fun e w' => e = .returned (vV (wkV 16 [a, b])) ∧ Below w.heap.size w w' := by
  have B0 := hid ((Below.refl w.heap.size w).alloc (Nat.le_refl _) (.cells c24 28))
  have X0 := hid (heap_alloc_new w (.cells c24 28))
  have HV := hid hV
  have HW : Hid (yesV ((fun a b => decide (a = 1) || decide (b = 1)) a.n b.n) = wkV 16 [a, b]) := hid rfl
  clear hV
  generalize wkV 16 [a, b] = r at *
  go_enter Try.func12, Try.ntmps12
  go_wp2_with (fail)
  refine (questions_at _).mono ?_
  rintro e w1 ⟨mb, rfl, -, -, -, -, -, -, dd, hb1⟩
  obtain ⟨b1, b2, hl0, c1, c2⟩ := dd
  have hl : (Instr.lookup 47 (.map (some mb)) (.int .u8 16) false).run Try.prog w1 = .ok (fcV 43 b1 b2) w1 := hl0
  clear hl0
  have B1 := hid (bstep B0.out hb1 B0.out.size)
  have X1 := hid (keep_row X0.out hb1)
  clear hb1
  go_wp2_with (fail)
  refine (deed2b 40 plain51 (fun a b => decide (a = 1) || decide (b = 1)) or_at b1 b2 g o cap a b w1 c1 c2 (HV.out.keep B1.out)).mono ?_
  rintro e w2 ⟨rfl, hb2⟩
  have B2 := hid (bstep B1.out hb2 B1.out.size)
  have X2 := keep_row X1.out hb2
  rw [HW.out]
  clear hb2 hl c1 c2
  go_wp2_with (refine wpList_store_row rfl 28 _ _ rfl w.heap.size (vC r) rfl rfl 28 _ X2 info24 rfl (by simp [Value.oneCell']) ?_)
  exact bodyPost_ret (results_cell_row rfl _ _ w.heap.size 28 (vC r) (0, 0) _ rfl (setRow_heap _ _ _ _ _ _ X2) Try.underlying28 rfl info24) rfl ⟨rfl, below_row B2.out B2.out.size (Nat.le_refl _) _⟩
set_option maxRecDepth 100000 in
theorem worked17 (a b c : Vl) (g o cap : Nat) (w : World) (hV : VAt w g o [a, b, c]) : Calls Try.prog 12 #[.int .u8 17, .slice (some ⟨g, o, none⟩) 3 cap] w fun e w' => e = .returned (vV (wkV 17 [a, b, c])) ∧ Below w.heap.size w w' := by
  have b0 := (Below.refl w.heap.size w).alloc (Nat.le_refl _) (.cells c24 28)
  have X0 := hid (heap_alloc_new w (.cells c24 28))
  have y0 := hV 0 (by simp)
  rw [Nat.zero_mul, Nat.add_zero] at y0
  have y1 := hV 1 (by simp)
  rw [Nat.one_mul] at y1
  have y2 := hV 2 (by simp)
  simp only [List.getElem_cons_zero, List.getElem_cons_succ] at y0 y1 y2
  have lg := World.block_lt_of_cell? w _ y0.1
  simp only at lg
  have LL := hid lg
  have S0 : Hid ((w.alloc (.cells c24 28)).cell? ⟨g, o, none⟩ = some (.int .u8 (a.ty : Int)) ∧ (w.alloc (.cells c24 28)).cell? ⟨g, o + 1, none⟩ = some (.int .i64 a.n) ∧ (w.alloc (.cells c24 28)).cell? ⟨g, o + 2, none⟩ = some (.int .u8 (b.ty : Int)) ∧ (w.alloc (.cells c24 28)).cell? ⟨g, o + 2 + 1, none⟩ = some (.int .i64 b.n) ∧ (w.alloc (.cells c24 28)).cell? ⟨g, o + 2 * 2, none⟩ = some (.int .u8 (c.ty : Int)) ∧ (w.alloc (.cells c24 28)).cell? ⟨g, o + 2 * 2 + 1, none⟩ = some (.int .i64 c.n)) := hid ⟨cell_kept y0.1 b0, cell_kept y0.2 b0, cell_kept y1.1 b0, cell_kept y1.2 b0, cell_kept y2.1 b0, cell_kept y2.2 b0⟩
  have B0 := hid b0
  have HW : Hid ((if a.n = 1 then b else c) = wkV 17 [a, b, c]) := hid rfl
  generalize wkV 17 [a, b, c] = r at *
  clear hV y0 y1 y2 b0 lg
  go_enter Try.func12, Try.ntmps12
  go_wp2_with (fail)
  refine wp_region_held_drew (S := fun W => W.cell? ⟨g, o, none⟩ = some (.int .u8 (a.ty : Int)) ∧ W.cell? ⟨g, o + 1, none⟩ = some (.int .i64 a.n) ∧ W.cell? ⟨g, o + 2, none⟩ = some (.int .u8 (b.ty : Int)) ∧ W.cell? ⟨g, o + 2 + 1, none⟩ = some (.int .i64 b.n) ∧ W.cell? ⟨g, o + 2 * 2, none⟩ = some (.int .u8 (c.ty : Int)) ∧ W.cell? ⟨g, o + 2 * 2 + 1, none⟩ = some (.int .i64 c.n)) (by kernel_rfl) ?_ (fun hHeld => ?_)
  · exact S0.out
  refine wpAnyH_take (i := 0) (oi := { dst := some 8, op := Go.Op.move (Go.Operand.tmp 1), type := 23, pos := _, after := #[], guard := none }) (v := ?_) rfl (by kernel_rfl) (by kernel_rfl) (by kernel_rfl) (fun _ _ _ h => h) (Or.inl ⟨by rfl, ?_⟩) (by assumption) ?_
  rotate_left
  · intro w hSw; (try dsimp only at hSw); go_simp <;> first | with_reducible rfl | (rw [if_neg (by first | omega | (simp only [ByteArray.size_append] at *; omega))])
  simp only [Act.put, List.setIfInBounds_toArray, List.set_cons_zero, List.set_cons_succ]
  refine wpAnyH_take (i := 1) (oi := { dst := some 9, op := Go.Op.indexAddr 23 (Go.Operand.tmp 8) (Go.Operand.const (Go.Value.int Go.IntKind.i64 0)), type := 0, pos := _, after := #[{ on := 0, ground := Go.Ground.data }], guard := none }) (v := ?_) rfl (by kernel_rfl) (by kernel_rfl) (by kernel_rfl) (fun _ _ _ h => h) (Or.inl ⟨by rfl, ?_⟩) (by assumption) ?_
  rotate_left
  · intro w hSw; (try dsimp only at hSw); go_simp <;> first | with_reducible rfl | (rw [if_neg (by first | omega | (simp only [ByteArray.size_append] at *; omega))])
  simp only [Act.put, List.setIfInBounds_toArray, List.set_cons_zero, List.set_cons_succ]
  refine wpAnyH_take (i := 2) (oi := { dst := some 10, op := Go.Op.load 28 (Go.Operand.tmp 9), type := 28, pos := _, after := #[{ on := 1, ground := Go.Ground.data }], guard := none }) (v := ?_) rfl (by kernel_rfl) (by kernel_rfl) (by kernel_rfl) (fun _ _ _ h => h) (Or.inl ⟨by rfl, ?_⟩) (by assumption) ?_
  rotate_left
  · intro w hSw; (try dsimp only at hSw); go_simp <;> first | with_reducible rfl | (rw [if_neg (by first | omega | (simp only [ByteArray.size_append] at *; omega))])
  simp only [Act.put, List.setIfInBounds_toArray, List.set_cons_zero, List.set_cons_succ]
  refine wpAnyH_take (i := 3) (oi := { dst := some 11, op := Go.Op.move (Go.Operand.tmp 1), type := 23, pos := _, after := #[], guard := none }) (v := ?_) rfl (by kernel_rfl) (by kernel_rfl) (by kernel_rfl) (fun _ _ _ h => h) (Or.inl ⟨by rfl, ?_⟩) (by assumption) ?_
  rotate_left
  · intro w hSw; (try dsimp only at hSw); go_simp <;> first | with_reducible rfl | (rw [if_neg (by first | omega | (simp only [ByteArray.size_append] at *; omega))])
  simp only [Act.put, List.setIfInBounds_toArray, List.set_cons_zero, List.set_cons_succ]
  refine wpAnyH_take (i := 4) (oi := { dst := some 12, op := Go.Op.indexAddr 23 (Go.Operand.tmp 11) (Go.Operand.const (Go.Value.int Go.IntKind.i64 1)), type := 0, pos := _, after := #[{ on := 3, ground := Go.Ground.data }], guard := none }) (v := ?_) rfl (by kernel_rfl) (by kernel_rfl) (by kernel_rfl) (fun _ _ _ h => h) (Or.inl ⟨by rfl, ?_⟩) (by assumption) ?_
  rotate_left
  · intro w hSw; (try dsimp only at hSw); go_simp <;> first | with_reducible rfl | (rw [if_neg (by first | omega | (simp only [ByteArray.size_append] at *; omega))])
  simp only [Act.put, List.setIfInBounds_toArray, List.set_cons_zero, List.set_cons_succ]
  refine wpAnyH_take (i := 5) (oi := { dst := some 13, op := Go.Op.load 28 (Go.Operand.tmp 12), type := 28, pos := _, after := #[{ on := 4, ground := Go.Ground.data }], guard := none }) (v := ?_) rfl (by kernel_rfl) (by kernel_rfl) (by kernel_rfl) (fun _ _ _ h => h) (Or.inl ⟨by rfl, ?_⟩) (by assumption) ?_
  rotate_left
  · intro w hSw; (try dsimp only at hSw); go_simp <;> first | with_reducible rfl | (rw [if_neg (by first | omega | (simp only [ByteArray.size_append] at *; omega))])
  simp only [Act.put, List.setIfInBounds_toArray, List.set_cons_zero, List.set_cons_succ]
  refine wpAnyH_take (i := 6) (oi := { dst := some 14, op := Go.Op.move (Go.Operand.tmp 1), type := 23, pos := _, after := #[], guard := none }) (v := ?_) rfl (by kernel_rfl) (by kernel_rfl) (by kernel_rfl) (fun _ _ _ h => h) (Or.inl ⟨by rfl, ?_⟩) (by assumption) ?_
  rotate_left
  · intro w hSw; (try dsimp only at hSw); go_simp <;> first | with_reducible rfl | (rw [if_neg (by first | omega | (simp only [ByteArray.size_append] at *; omega))])
  simp only [Act.put, List.setIfInBounds_toArray, List.set_cons_zero, List.set_cons_succ]
  refine wpAnyH_take (i := 7) (oi := { dst := some 15, op := Go.Op.indexAddr 23 (Go.Operand.tmp 14) (Go.Operand.const (Go.Value.int Go.IntKind.i64 2)), type := 0, pos := _, after := #[{ on := 6, ground := Go.Ground.data }], guard := none }) (v := ?_) rfl (by kernel_rfl) (by kernel_rfl) (by kernel_rfl) (fun _ _ _ h => h) (Or.inl ⟨by rfl, ?_⟩) (by assumption) ?_
  rotate_left
  · intro w hSw; (try dsimp only at hSw); go_simp <;> first | with_reducible rfl | (rw [if_neg (by first | omega | (simp only [ByteArray.size_append] at *; omega))])
  simp only [Act.put, List.setIfInBounds_toArray, List.set_cons_zero, List.set_cons_succ]
  refine wpAnyH_take (i := 8) (oi := { dst := some 16, op := Go.Op.load 28 (Go.Operand.tmp 15), type := 28, pos := _, after := #[{ on := 7, ground := Go.Ground.data }], guard := none }) (v := ?_) rfl (by kernel_rfl) (by kernel_rfl) (by kernel_rfl) (fun _ _ _ h => h) (Or.inl ⟨by rfl, ?_⟩) (by assumption) ?_
  rotate_left
  · intro w hSw; (try dsimp only at hSw); go_simp <;> first | with_reducible rfl | (rw [if_neg (by first | omega | (simp only [ByteArray.size_append] at *; omega))])
  simp only [Act.put, List.setIfInBounds_toArray, List.set_cons_zero, List.set_cons_succ]
  refine wpAnyH_ready (rs := [9]) (by kernel_rfl) (by simp) ?_
  refine AllReadyH.cons (o := { dst := some 17, op := Go.Op.call { callee := Go.Callee.value (Go.Operand.func 19), args := #[Go.Operand.tmp 10, Go.Operand.tmp 13, Go.Operand.tmp 16], argTypes := #[28, 28, 28] }, type := 28, pos := _, after := #[{ on := 2, ground := Go.Ground.data }, { on := 5, ground := Go.Ground.data }, { on := 8, ground := Go.Ground.data }], guard := none }) rfl (fun K hK => ?_) AllReadyH.nil
  go_simp
  refine (chosen_at a b c _).mono ?_
  rintro e w1 ⟨rfl, hb1'⟩
  rw [HW.out]
  have hb1 : Below (w.alloc (.cells c24 28)).heap.size (w.alloc (.cells c24 28)) w1 := (Below.refl _ _).drew.trans (hb1'.mono (by simp))
  have B1 := hid (bstep B0.out hb1 B0.out.size)
  have X1 := hid (keep_row X0.out hb1)
  have S1 : Hid (w1.cell? ⟨g, o, none⟩ = some (.int .u8 (a.ty : Int)) ∧ w1.cell? ⟨g, o + 1, none⟩ = some (.int .i64 a.n) ∧ w1.cell? ⟨g, o + 2, none⟩ = some (.int .u8 (b.ty : Int)) ∧ w1.cell? ⟨g, o + 2 + 1, none⟩ = some (.int .i64 b.n) ∧ w1.cell? ⟨g, o + 2 * 2, none⟩ = some (.int .u8 (c.ty : Int)) ∧ w1.cell? ⟨g, o + 2 * 2 + 1, none⟩ = some (.int .i64 c.n)) := hid (by obtain ⟨s1, s2, s3, s4, s5, s6⟩ := S0.out; exact ⟨cell_kept s1 hb1, cell_kept s2 hb1, cell_kept s3 hb1, cell_kept s4 hb1, cell_kept s5 hb1, cell_kept s6 hb1⟩)
  clear hb1 hb1'
  go_wp2_with fail
  refine hK.out _ _ ?_ (fun hHeld1 => ?_)
  · exact S1.out
  clear hK K
  refine wpAnyH_ready (rs := [10]) (by kernel_rfl) (by simp) ?_
  refine AllReadyH.cons (o := { dst := none, op := Go.Op.store 28 (Go.Operand.tmp 4) (Go.Operand.tmp 17), type := 0, pos := _, after := #[{ on := 9, ground := Go.Ground.data }, { on := 9, ground := Go.Ground.chain }, { on := 0, ground := Go.Ground.phase }, { on := 1, ground := Go.Ground.phase }, { on := 2, ground := Go.Ground.phase }, { on := 3, ground := Go.Ground.phase }, { on := 4, ground := Go.Ground.phase }, { on := 5, ground := Go.Ground.phase }, { on := 6, ground := Go.Ground.phase }, { on := 7, ground := Go.Ground.phase }, { on := 8, ground := Go.Ground.phase }, { on := 9, ground := Go.Ground.phase }], guard := none }) rfl (fun K hK => ?_) AllReadyH.nil
  refine if_take (by rfl) ?_
  refine wp_store_row 28 _ _ rfl w.heap.size (vC r) rfl rfl 28 _ X1.out info24 rfl (by simp [Value.oneCell']) ?_
  refine hK.out _ _ ?_ (fun _ => ?_)
  · obtain ⟨s1, s2, s3, s4, s5, s6⟩ := S1.out
    have ne : g ≠ w.heap.size := by have := LL.out; omega
    exact ⟨setRow_cell ne s1, setRow_cell ne s2, setRow_cell ne s3, setRow_cell ne s4, setRow_cell ne s5, setRow_cell ne s6⟩
  clear hK K
  refine wpAnyH_done (by kernel_rfl) ?_ _
  go_wp2
  exact bodyPost_ret (results_cell_row rfl _ _ w.heap.size 28 (vC r) (0, 0) _ rfl (setRow_heap _ _ _ _ _ _ X1.out) Try.underlying28 rfl info24) rfl ⟨rfl, below_row B1.out B1.out.size (Nat.le_refl _) _⟩
end Go.Proofs.Ytkniacdfhajogaa.Val
