/-
  An operator of values that are handed in one by one: the contract of the laws' do.
-/
import Derived.Test.YtkniacdfhajogabDoorDo
namespace Go.Proofs.YtkniacdfhajogabDoor.Val
open Go.ChangeShapes Go.WideShapes Go.ChangeAt Go.RowKit Go.Joins
set_option maxHeartbeats 1000000
/-- What is wrong is told as no value. -/
def doE (o : Nat) (l : List Vl) : Vl := (doV o l).1
theorem doV_wrong (o : Nat) (l : List Vl) (h : (doV o l).2 ≠ 0) : (doV o l).1 = ⟨0, 0⟩ := by
  unfold doV at h ⊢
  split
  · rfl
  · rename_i h1
    rw [if_neg h1] at h
    split
    · rfl
    · rename_i h2
      rw [if_neg h2] at h
      exact absurd rfl h
set_option maxRecDepth 100000 in
theorem ldo_at (o : Nat) (l : List Vl) (s : Value) (w : World) (hS : VSl w l s) : Calls Tryd.prog 9 #[.int .u8 (o : Int), s] w fun e w' => e = .returned (vV (doE o l)) ∧ Below w.heap.size w w' := by
  have b0 := (Below.refl w.heap.size w).alloc (Nat.le_refl _) (.cells c24 25)
  have c := do_at o l s _ (hS.keep b0)
  have B0 := hid b0
  have X0 := hid (heap_alloc_new w (.cells c24 25))
  obtain ⟨ao, cap, rfl, -, -⟩ := hS
  have HE : Hid (doE o l = (doV o l).1) := hid rfl
  have HW := hid (doV_wrong o l)
  clear b0
  generalize doE o l = E at *
  generalize doV o l = D at *
  go_enter Tryd.func9, Tryd.ntmps9
  go_wp2_with (fail)
  refine c.mono ?_
  rintro e w1 ⟨rfl, hb1⟩
  have B1 := hid (bstep B0.out hb1 B0.out.size)
  have X1 := hid (keep_row X0.out hb1)
  have B2 := hid (B1.out.alloc B1.out.size (.cells (vC D.1) 25))
  have X2 : Hid ((w1.alloc (.cells (vC D.1) 25)).heap[w.heap.size]? = some (.cells c24 25 (0, 0))) := hid (push_old X1.out)
  have Y2 := hid (heap_alloc_new w1 (.cells (vC D.1) 25))
  have L1 : Hid (w.heap.size < w1.heap.size) := hid (by have := hb1.size; simp at this; omega)
  clear hb1 c
  obtain ⟨v, n⟩ := D
  simp only at HE HW B2 X2 Y2
  by_cases hn : n = 0
  · have e0 : ((n : Int) == 0) = true := by rw [beq_iff_eq]; omega
    have e0' : ((n : Int) != 0) = false := by rw [bne, e0]; rfl
    clear hn
    have x2 := X2.out
    have y2 := Y2.out
    go_wp2_with (first | (refine wpList_load_row rfl 25 _ rfl w1.heap.size rfl 25 (vC v) _ _ y2 Tryd.underlying25 rfl info24 ?_) | (refine wpList_store_row rfl 25 _ _ rfl w.heap.size (vC v) rfl rfl 25 _ x2 info24 rfl (by simp [Value.oneCell']) ?_))
    exact bodyPost_ret (results_cell_row rfl _ _ w.heap.size 25 (vC v) (0, 0) _ rfl (setRow_heap _ _ _ _ _ _ x2) Tryd.underlying25 rfl info24) rfl ⟨by rw [HE.out], below_row B2.out B2.out.size (Nat.le_refl _) _⟩
  · have e0 : ((n : Int) == 0) = false := by rw [beq_eq_false_iff_ne]; omega
    have e0' : ((n : Int) != 0) = true := by rw [bne, e0]; rfl
    have HV : Hid (v = ⟨0, 0⟩) := hid (HW.out hn)
    clear hn
    have x2 := X2.out
    go_wp2_with (refine wpList_store_row rfl 25 _ _ rfl w.heap.size #[.int .u8 0, .int .i64 0] rfl rfl 25 _ x2 info24 rfl (by simp [Value.oneCell']) ?_)
    exact bodyPost_ret (results_cell_row rfl _ _ w.heap.size 25 #[.int .u8 0, .int .i64 0] (0, 0) _ rfl (setRow_heap _ _ _ _ _ _ x2) Tryd.underlying25 rfl info24) rfl ⟨by rw [HE.out, HV.out]; rfl, below_row B2.out B2.out.size (Nat.le_refl _) _⟩
theorem vsl1 (a : Vl) (w : World) : VSl (w.alloc (.cells #[.int .u8 (a.ty : Int), .int .i64 a.n] 25)) [a] (.slice (some ⟨w.heap.size, 0, none⟩) 1 1) := by
  refine ⟨some ⟨w.heap.size, 0, none⟩, 1, rfl, by show (1 : Nat) ≤ _; omega, .inr ⟨w.heap.size, 0, rfl, fun i hi => ?_⟩⟩
  have hi2 : i < 1 := hi
  have hc : i = 0 := by omega
  have X := heap_alloc_new w (.cells #[.int .u8 (a.ty : Int), .int .i64 a.n] 25)
  subst hc
  exact ⟨(cell_of_row _ _ _ _ 25 (0, 0) X).trans rfl, (cell_of_row _ _ _ _ 25 (0, 0) X).trans rfl⟩
theorem ldo1 (o : Nat) (a : Vl) (w : World) : Calls Tryd.prog 9 #[.int .u8 (o : Int), .slice (some ⟨w.heap.size, 0, none⟩) 1 1] (w.alloc (.cells #[.int .u8 (a.ty : Int), .int .i64 a.n] 25)) fun e w' => e = .returned (vV (doE o [a])) ∧ Below w.heap.size w w' :=
  (ldo_at o [a] _ _ (vsl1 a w)).mono fun _ _ ⟨h1, h2⟩ => ⟨h1, ((Below.refl _ _).alloc (Nat.le_refl _) _).trans (h2.mono (by simp))⟩
theorem do1 (o : Nat) (a : Vl) (w : World) : Calls Tryd.prog 13 #[.int .u8 (o : Int), .slice (some ⟨w.heap.size, 0, none⟩) 1 1] (w.alloc (.cells #[.int .u8 (a.ty : Int), .int .i64 a.n] 25)) fun e w' => e = .returned (.tuple #[vV (doV o [a]).1, .int .i64 ((doV o [a]).2 : Int)]) ∧ Below w.heap.size w w' :=
  (do_at o [a] _ _ (vsl1 a w)).mono fun _ _ ⟨h1, h2⟩ => ⟨h1, ((Below.refl _ _).alloc (Nat.le_refl _) _).trans (h2.mono (by simp))⟩
theorem vsl2 (a b : Vl) (w : World) : VSl (w.alloc (.cells #[.int .u8 (a.ty : Int), .int .i64 a.n, .int .u8 (b.ty : Int), .int .i64 b.n] 25)) [a, b] (.slice (some ⟨w.heap.size, 0, none⟩) 2 2) := by
  refine ⟨some ⟨w.heap.size, 0, none⟩, 2, rfl, by show (2 : Nat) ≤ _; omega, .inr ⟨w.heap.size, 0, rfl, fun i hi => ?_⟩⟩
  have hi2 : i < 2 := hi
  have hc : i = 0 ∨ i = 1 := by omega
  have X := heap_alloc_new w (.cells #[.int .u8 (a.ty : Int), .int .i64 a.n, .int .u8 (b.ty : Int), .int .i64 b.n] 25)
  rcases hc with rfl | rfl
  all_goals exact ⟨(cell_of_row _ _ _ _ 25 (0, 0) X).trans rfl, (cell_of_row _ _ _ _ 25 (0, 0) X).trans rfl⟩
theorem ldo2 (o : Nat) (a b : Vl) (w : World) : Calls Tryd.prog 9 #[.int .u8 (o : Int), .slice (some ⟨w.heap.size, 0, none⟩) 2 2] (w.alloc (.cells #[.int .u8 (a.ty : Int), .int .i64 a.n, .int .u8 (b.ty : Int), .int .i64 b.n] 25)) fun e w' => e = .returned (vV (doE o [a, b])) ∧ Below w.heap.size w w' :=
  (ldo_at o [a, b] _ _ (vsl2 a b w)).mono fun _ _ ⟨h1, h2⟩ => ⟨h1, ((Below.refl _ _).alloc (Nat.le_refl _) _).trans (h2.mono (by simp))⟩
theorem do2 (o : Nat) (a b : Vl) (w : World) : Calls Tryd.prog 13 #[.int .u8 (o : Int), .slice (some ⟨w.heap.size, 0, none⟩) 2 2] (w.alloc (.cells #[.int .u8 (a.ty : Int), .int .i64 a.n, .int .u8 (b.ty : Int), .int .i64 b.n] 25)) fun e w' => e = .returned (.tuple #[vV (doV o [a, b]).1, .int .i64 ((doV o [a, b]).2 : Int)]) ∧ Below w.heap.size w w' :=
  (do_at o [a, b] _ _ (vsl2 a b w)).mono fun _ _ ⟨h1, h2⟩ => ⟨h1, ((Below.refl _ _).alloc (Nat.le_refl _) _).trans (h2.mono (by simp))⟩
theorem vsl3 (a b c : Vl) (w : World) : VSl (w.alloc (.cells #[.int .u8 (a.ty : Int), .int .i64 a.n, .int .u8 (b.ty : Int), .int .i64 b.n, .int .u8 (c.ty : Int), .int .i64 c.n] 25)) [a, b, c] (.slice (some ⟨w.heap.size, 0, none⟩) 3 3) := by
  refine ⟨some ⟨w.heap.size, 0, none⟩, 3, rfl, by show (3 : Nat) ≤ _; omega, .inr ⟨w.heap.size, 0, rfl, fun i hi => ?_⟩⟩
  have hi2 : i < 3 := hi
  have hc : i = 0 ∨ i = 1 ∨ i = 2 := by omega
  have X := heap_alloc_new w (.cells #[.int .u8 (a.ty : Int), .int .i64 a.n, .int .u8 (b.ty : Int), .int .i64 b.n, .int .u8 (c.ty : Int), .int .i64 c.n] 25)
  rcases hc with rfl | rfl | rfl
  all_goals exact ⟨(cell_of_row _ _ _ _ 25 (0, 0) X).trans rfl, (cell_of_row _ _ _ _ 25 (0, 0) X).trans rfl⟩
theorem ldo3 (o : Nat) (a b c : Vl) (w : World) : Calls Tryd.prog 9 #[.int .u8 (o : Int), .slice (some ⟨w.heap.size, 0, none⟩) 3 3] (w.alloc (.cells #[.int .u8 (a.ty : Int), .int .i64 a.n, .int .u8 (b.ty : Int), .int .i64 b.n, .int .u8 (c.ty : Int), .int .i64 c.n] 25)) fun e w' => e = .returned (vV (doE o [a, b, c])) ∧ Below w.heap.size w w' :=
  (ldo_at o [a, b, c] _ _ (vsl3 a b c w)).mono fun _ _ ⟨h1, h2⟩ => ⟨h1, ((Below.refl _ _).alloc (Nat.le_refl _) _).trans (h2.mono (by simp))⟩
theorem do3 (o : Nat) (a b c : Vl) (w : World) : Calls Tryd.prog 13 #[.int .u8 (o : Int), .slice (some ⟨w.heap.size, 0, none⟩) 3 3] (w.alloc (.cells #[.int .u8 (a.ty : Int), .int .i64 a.n, .int .u8 (b.ty : Int), .int .i64 b.n, .int .u8 (c.ty : Int), .int .i64 c.n] 25)) fun e w' => e = .returned (.tuple #[vV (doV o [a, b, c]).1, .int .i64 ((doV o [a, b, c]).2 : Int)]) ∧ Below w.heap.size w w' :=
  (do_at o [a, b, c] _ _ (vsl3 a b c w)).mono fun _ _ ⟨h1, h2⟩ => ⟨h1, ((Below.refl _ _).alloc (Nat.le_refl _) _).trans (h2.mono (by simp))⟩
end Go.Proofs.YtkniacdfhajogabDoor.Val
