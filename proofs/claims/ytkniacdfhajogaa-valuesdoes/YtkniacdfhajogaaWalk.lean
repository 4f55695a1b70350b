/-
  The walk of the law ValuesDoes.
-/
import Derived.Test.YtkniacdfhajogaaRDo
namespace Go.Proofs.Ytkniacdfhajogaa.Val
open Go.ChangeShapes Go.WideShapes Go.ChangeAt Go.RowKit Go.Joins
set_option maxHeartbeats 2000000
theorem VAt.left {W : World} {b o : Nat} {l m : List Vl} (h : VAt W b o (l ++ m)) : VAt W b o l := fun i hi => by
  have := h i (by simp; omega)
  rw [List.getElem_append_left hi] at this
  exact this
set_option maxRecDepth 100000 in
theorem walk3 (o : Nat) (l : List Vl) (s : Value) (w : World) (hS : VSl w l s) : Calls Try.prog 3 #[.int .u8 (o : Int), s] w fun e w' => e = .returned (.bool true) ∧ Below w.heap.size w w' := by
  have HS := hid hS
  obtain ⟨ao, cap, rfl, hm, -⟩ := hS
  have b1 := (Below.refl w.heap.size w).alloc (Nat.le_refl _) (.cells #[.int .i64 (l.length : Int)] 3)
  have x1 := heap_alloc_new w (.cells #[.int .i64 (l.length : Int)] 3)
  have hc1 : ∀ i, i < 1 → (w.alloc (.cells #[.int .i64 (l.length : Int)] 3)).cell? ⟨w.heap.size, 0 + i, none⟩ = some (.int .i64 ([(l.length : Int)].getD i 0)) := by
    intro i hi
    obtain rfl : i = 0 := by omega
    exact (cell_of_row _ _ _ _ 3 (0, 0) x1).trans rfl
  have cb := w9 w.heap.size 0 1 1 [(l.length : Int)] (w.alloc (.cells #[.int .i64 (l.length : Int)] 3)) rfl (by omega) (by intro x hx; rw [List.mem_singleton] at hx; subst hx; omega) hc1
  clear hc1
  rw [show [(l.length : Int)].sum = (l.length : Int) by simp] at cb
  have B1 := hid b1
  clear b1 x1
  go_enter Try.func3, Try.ntmps3
  go_wp2_with (fail)
  refine cb.mono ?_
  rintro e w1 ⟨rfl, rfl⟩
  clear cb
  by_cases hl : 1048576 < l.length
  · have e1 : decide ((1048576 : Int) < (l.length : Int)) = true := by rw [decide_eq_true_eq]; omega
    go_wp2_with (fail)
    go_ret
    exact ⟨rfl, B1.out⟩
  · have e1 : decide ((1048576 : Int) < (l.length : Int)) = false := by rw [decide_eq_false_iff_not]; omega
    have HL : Hid (l.length ≤ 1048576) := hid (by omega)
    clear hl
    generalize w.alloc (.cells #[.int .i64 (l.length : Int)] 3) = W1 at *
    go_wp2_with (fail)
    refine (twin_values l _ _ HL.out (HS.out.keep B1.out)).mono ?_
    rintro e w2 ⟨rfl, hV2, hb2⟩
    have B2 := hid (bstep B1.out hb2 B1.out.size)
    have V2 := hid hV2
    clear hV2 hb2
    generalize W1.heap.size = bt at *
    have S2 := hid (show VSl w2 l (.slice (some ⟨bt, 0, none⟩) l.length (l.length + 1)) from ⟨_, _, rfl, hm, .inr ⟨bt, 0, rfl, V2.out.left⟩⟩)
    go_wp2_with (fail)
    refine (do_at o l _ _ S2.out).mono ?_
    rintro e w3 ⟨rfl, hb3⟩
    have RD := hid (fun W h => rdo_at o l (.slice ao l.length cap) W h)
    generalize doV o l = D at *
    obtain ⟨v, n⟩ := D
    have B3 := hid ((bstep B2.out hb3 B2.out.size).alloc (bstep B2.out hb3 B2.out.size).size (.cells (vC v) 28))
    have V3 := hid ((V2.out.keep hb3).keep ((Below.refl _ _).alloc (Nat.le_refl _) (.cells (vC v) 28)))
    have X3 := hid (heap_alloc_new w3 (.cells (vC v) 28))
    clear hb3 S2 V2
    go_wp2_with (fail)
    generalize hW3 : w3.alloc (.cells (vC v) 28) = W3 at *
    clear hW3
    generalize w3.heap.size = b3 at *
    refine (RD.out _ (HS.out.keep B3.out)).mono ?_
    rintro e w4 ⟨rfl, hb4⟩
    have B4 := hid ((bstep B3.out hb4 B3.out.size).alloc (bstep B3.out hb4 B3.out.size).size (.cells (vC v) 28))
    have b5 := (Below.refl w4.heap.size w4).alloc (Nat.le_refl _) (.cells (vC v) 28)
    have V4 := hid ((V3.out.keep hb4).keep b5)
    have X4 := hid (keep_row (keep_row X3.out hb4) b5)
    obtain ⟨y0, y1⟩ := row2 X4.out
    have ev : ((n : Int) == (n : Int)) = true := by simp
    clear hb4 b5 V3 X3
    go_wp2_with (fail)
    refine (left_values bt l _ _ HL.out (HS.out.keep B4.out) V4.out).mono ?_
    rintro e w5 ⟨rfl, hb5⟩
    have B5 := hid (bstep B4.out hb5 B4.out.size)
    clear hb5
    go_wp2_with (fail)
    go_ret
    exact ⟨rfl, B5.out⟩
end Go.Proofs.Ytkniacdfhajogaa.Val
