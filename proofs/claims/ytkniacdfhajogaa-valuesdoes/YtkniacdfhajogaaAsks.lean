/-
  What an operator asks for, and whether values are such: the contracts of asked, allMayBe and fits.
-/
import Derived.Test.YtkniacdfhajogaaWorked
namespace Go.Proofs.Ytkniacdfhajogaa.Val
open Go.ChangeShapes Go.WideShapes Go.ChangeAt Go.RowKit Go.Joins
set_option maxHeartbeats 1000000
/-- Types in a row. -/
def AskAt (W : World) (r : List Nat) (s : Value) : Prop := ∃ (ao : Option Addr) (cap : Nat), s = .slice ao r.length cap ∧ (r = [] ∨ ∃ b, ao = some ⟨b, 0, none⟩ ∧ ∀ i (h : i < r.length), W.cell? ⟨b, i, none⟩ = some (.int .u8 (r[i] : Int)))
theorem AskAt.keep {W W' : World} {r : List Nat} {s : Value} (h : AskAt W r s) (hb : Below W.heap.size W W') : AskAt W' r s := by
  obtain ⟨ao, cap, e, h2⟩ := h
  refine ⟨ao, cap, e, h2.imp id ?_⟩
  rintro ⟨b, e, hv⟩
  exact ⟨b, e, fun i hi => cell_kept (hv i hi) hb⟩
theorem asked4 (w : World) : Calls Try.prog 9 #[.int .u8 4] w fun e w' => ∃ s, e = .returned s ∧ AskAt w' [1] s ∧ Below w.heap.size w w' := by
  have B0 := hid ((Below.refl w.heap.size w).alloc (Nat.le_refl _) (.cells #[.int .u8 1] 26))
  have X0 := hid (heap_alloc_new w (.cells #[.int .u8 1] 26))
  go_enter Try.func9, Try.ntmps9
  go_wp2_with (fail)
  go_ret
  refine ⟨_, rfl, ⟨some ⟨w.heap.size, 0, none⟩, 1, rfl, .inr ⟨w.heap.size, rfl, fun i hi => ?_⟩⟩, B0.out⟩
  rw [cell_of_row _ _ _ _ 26 (0, 0) X0.out]
  have hi2 : i < 1 := hi
  have hc : i = 0 := by omega
  subst hc; rfl
theorem asked5 (w : World) : Calls Try.prog 9 #[.int .u8 5] w fun e w' => ∃ s, e = .returned s ∧ AskAt w' [2] s ∧ Below w.heap.size w w' := by
  have B0 := hid ((Below.refl w.heap.size w).alloc (Nat.le_refl _) (.cells #[.int .u8 2] 26))
  have X0 := hid (heap_alloc_new w (.cells #[.int .u8 2] 26))
  go_enter Try.func9, Try.ntmps9
  go_wp2_with (fail)
  go_ret
  refine ⟨_, rfl, ⟨some ⟨w.heap.size, 0, none⟩, 1, rfl, .inr ⟨w.heap.size, rfl, fun i hi => ?_⟩⟩, B0.out⟩
  rw [cell_of_row _ _ _ _ 26 (0, 0) X0.out]
  have hi2 : i < 1 := hi
  have hc : i = 0 := by omega
  subst hc; rfl
theorem asked6 (w : World) : Calls Try.prog 9 #[.int .u8 6] w fun e w' => ∃ s, e = .returned s ∧ AskAt w' [1, 1] s ∧ Below w.heap.size w w' := by
  have B0 := hid ((Below.refl w.heap.size w).alloc (Nat.le_refl _) (.cells #[.int .u8 1, .int .u8 1] 26))
  have X0 := hid (heap_alloc_new w (.cells #[.int .u8 1, .int .u8 1] 26))
  go_enter Try.func9, Try.ntmps9
  go_wp2_with (fail)
  go_ret
  refine ⟨_, rfl, ⟨some ⟨w.heap.size, 0, none⟩, 2, rfl, .inr ⟨w.heap.size, rfl, fun i hi => ?_⟩⟩, B0.out⟩
  rw [cell_of_row _ _ _ _ 26 (0, 0) X0.out]
  have hi2 : i < 2 := hi
  have hc : i = 0 ∨ i = 1 := by omega
  rcases hc with rfl | rfl <;> rfl
theorem asked7 (w : World) : Calls Try.prog 9 #[.int .u8 7] w fun e w' => ∃ s, e = .returned s ∧ AskAt w' [1, 1] s ∧ Below w.heap.size w w' := by
  have B0 := hid ((Below.refl w.heap.size w).alloc (Nat.le_refl _) (.cells #[.int .u8 1, .int .u8 1] 26))
  have X0 := hid (heap_alloc_new w (.cells #[.int .u8 1, .int .u8 1] 26))
  go_enter Try.func9, Try.ntmps9
  go_wp2_with (fail)
  go_ret
  refine ⟨_, rfl, ⟨some ⟨w.heap.size, 0, none⟩, 2, rfl, .inr ⟨w.heap.size, rfl, fun i hi => ?_⟩⟩, B0.out⟩
  rw [cell_of_row _ _ _ _ 26 (0, 0) X0.out]
  have hi2 : i < 2 := hi
  have hc : i = 0 ∨ i = 1 := by omega
  rcases hc with rfl | rfl <;> rfl
theorem asked8 (w : World) : Calls Try.prog 9 #[.int .u8 8] w fun e w' => ∃ s, e = .returned s ∧ AskAt w' [1, 1] s ∧ Below w.heap.size w w' := by
  have B0 := hid ((Below.refl w.heap.size w).alloc (Nat.le_refl _) (.cells #[.int .u8 1, .int .u8 1] 26))
  have X0 := hid (heap_alloc_new w (.cells #[.int .u8 1, .int .u8 1] 26))
  go_enter Try.func9, Try.ntmps9
  go_wp2_with (fail)
  go_ret
  refine ⟨_, rfl, ⟨some ⟨w.heap.size, 0, none⟩, 2, rfl, .inr ⟨w.heap.size, rfl, fun i hi => ?_⟩⟩, B0.out⟩
  rw [cell_of_row _ _ _ _ 26 (0, 0) X0.out]
  have hi2 : i < 2 := hi
  have hc : i = 0 ∨ i = 1 := by omega
  rcases hc with rfl | rfl <;> rfl
theorem asked9 (w : World) : Calls Try.prog 9 #[.int .u8 9] w fun e w' => ∃ s, e = .returned s ∧ AskAt w' [1, 1] s ∧ Below w.heap.size w w' := by
  have B0 := hid ((Below.refl w.heap.size w).alloc (Nat.le_refl _) (.cells #[.int .u8 1, .int .u8 1] 26))
  have X0 := hid (heap_alloc_new w (.cells #[.int .u8 1, .int .u8 1] 26))
  go_enter Try.func9, Try.ntmps9
  go_wp2_with (fail)
  go_ret
  refine ⟨_, rfl, ⟨some ⟨w.heap.size, 0, none⟩, 2, rfl, .inr ⟨w.heap.size, rfl, fun i hi => ?_⟩⟩, B0.out⟩
  rw [cell_of_row _ _ _ _ 26 (0, 0) X0.out]
  have hi2 : i < 2 := hi
  have hc : i = 0 ∨ i = 1 := by omega
  rcases hc with rfl | rfl <;> rfl
theorem asked10 (w : World) : Calls Try.prog 9 #[.int .u8 10] w fun e w' => ∃ s, e = .returned s ∧ AskAt w' [1, 1] s ∧ Below w.heap.size w w' := by
  have B0 := hid ((Below.refl w.heap.size w).alloc (Nat.le_refl _) (.cells #[.int .u8 1, .int .u8 1] 26))
  have X0 := hid (heap_alloc_new w (.cells #[.int .u8 1, .int .u8 1] 26))
  go_enter Try.func9, Try.ntmps9
  go_wp2_with (fail)
  go_ret
  refine ⟨_, rfl, ⟨some ⟨w.heap.size, 0, none⟩, 2, rfl, .inr ⟨w.heap.size, rfl, fun i hi => ?_⟩⟩, B0.out⟩
  rw [cell_of_row _ _ _ _ 26 (0, 0) X0.out]
  have hi2 : i < 2 := hi
  have hc : i = 0 ∨ i = 1 := by omega
  rcases hc with rfl | rfl <;> rfl
theorem asked11 (w : World) : Calls Try.prog 9 #[.int .u8 11] w fun e w' => ∃ s, e = .returned s ∧ AskAt w' [0, 0] s ∧ Below w.heap.size w w' := by
  have B0 := hid ((Below.refl w.heap.size w).alloc (Nat.le_refl _) (.cells #[.int .u8 0, .int .u8 0] 26))
  have X0 := hid (heap_alloc_new w (.cells #[.int .u8 0, .int .u8 0] 26))
  go_enter Try.func9, Try.ntmps9
  go_wp2_with (fail)
  go_ret
  refine ⟨_, rfl, ⟨some ⟨w.heap.size, 0, none⟩, 2, rfl, .inr ⟨w.heap.size, rfl, fun i hi => ?_⟩⟩, B0.out⟩
  rw [cell_of_row _ _ _ _ 26 (0, 0) X0.out]
  have hi2 : i < 2 := hi
  have hc : i = 0 ∨ i = 1 := by omega
  rcases hc with rfl | rfl <;> rfl
theorem asked12 (w : World) : Calls Try.prog 9 #[.int .u8 12] w fun e w' => ∃ s, e = .returned s ∧ AskAt w' [0, 0] s ∧ Below w.heap.size w w' := by
  have B0 := hid ((Below.refl w.heap.size w).alloc (Nat.le_refl _) (.cells #[.int .u8 0, .int .u8 0] 26))
  have X0 := hid (heap_alloc_new w (.cells #[.int .u8 0, .int .u8 0] 26))
  go_enter Try.func9, Try.ntmps9
  go_wp2_with (fail)
  go_ret
  refine ⟨_, rfl, ⟨some ⟨w.heap.size, 0, none⟩, 2, rfl, .inr ⟨w.heap.size, rfl, fun i hi => ?_⟩⟩, B0.out⟩
  rw [cell_of_row _ _ _ _ 26 (0, 0) X0.out]
  have hi2 : i < 2 := hi
  have hc : i = 0 ∨ i = 1 := by omega
  rcases hc with rfl | rfl <;> rfl
theorem asked13 (w : World) : Calls Try.prog 9 #[.int .u8 13] w fun e w' => ∃ s, e = .returned s ∧ AskAt w' [1, 1] s ∧ Below w.heap.size w w' := by
  have B0 := hid ((Below.refl w.heap.size w).alloc (Nat.le_refl _) (.cells #[.int .u8 1, .int .u8 1] 26))
  have X0 := hid (heap_alloc_new w (.cells #[.int .u8 1, .int .u8 1] 26))
  go_enter Try.func9, Try.ntmps9
  go_wp2_with (fail)
  go_ret
  refine ⟨_, rfl, ⟨some ⟨w.heap.size, 0, none⟩, 2, rfl, .inr ⟨w.heap.size, rfl, fun i hi => ?_⟩⟩, B0.out⟩
  rw [cell_of_row _ _ _ _ 26 (0, 0) X0.out]
  have hi2 : i < 2 := hi
  have hc : i = 0 ∨ i = 1 := by omega
  rcases hc with rfl | rfl <;> rfl
theorem asked14 (w : World) : Calls Try.prog 9 #[.int .u8 14] w fun e w' => ∃ s, e = .returned s ∧ AskAt w' [1, 1] s ∧ Below w.heap.size w w' := by
  have B0 := hid ((Below.refl w.heap.size w).alloc (Nat.le_refl _) (.cells #[.int .u8 1, .int .u8 1] 26))
  have X0 := hid (heap_alloc_new w (.cells #[.int .u8 1, .int .u8 1] 26))
  go_enter Try.func9, Try.ntmps9
  go_wp2_with (fail)
  go_ret
  refine ⟨_, rfl, ⟨some ⟨w.heap.size, 0, none⟩, 2, rfl, .inr ⟨w.heap.size, rfl, fun i hi => ?_⟩⟩, B0.out⟩
  rw [cell_of_row _ _ _ _ 26 (0, 0) X0.out]
  have hi2 : i < 2 := hi
  have hc : i = 0 ∨ i = 1 := by omega
  rcases hc with rfl | rfl <;> rfl
theorem asked15 (w : World) : Calls Try.prog 9 #[.int .u8 15] w fun e w' => ∃ s, e = .returned s ∧ AskAt w' [2, 2] s ∧ Below w.heap.size w w' := by
  have B0 := hid ((Below.refl w.heap.size w).alloc (Nat.le_refl _) (.cells #[.int .u8 2, .int .u8 2] 26))
  have X0 := hid (heap_alloc_new w (.cells #[.int .u8 2, .int .u8 2] 26))
  go_enter Try.func9, Try.ntmps9
  go_wp2_with (fail)
  go_ret
  refine ⟨_, rfl, ⟨some ⟨w.heap.size, 0, none⟩, 2, rfl, .inr ⟨w.heap.size, rfl, fun i hi => ?_⟩⟩, B0.out⟩
  rw [cell_of_row _ _ _ _ 26 (0, 0) X0.out]
  have hi2 : i < 2 := hi
  have hc : i = 0 ∨ i = 1 := by omega
  rcases hc with rfl | rfl <;> rfl
theorem asked16 (w : World) : Calls Try.prog 9 #[.int .u8 16] w fun e w' => ∃ s, e = .returned s ∧ AskAt w' [2, 2] s ∧ Below w.heap.size w w' := by
  have B0 := hid ((Below.refl w.heap.size w).alloc (Nat.le_refl _) (.cells #[.int .u8 2, .int .u8 2] 26))
  have X0 := hid (heap_alloc_new w (.cells #[.int .u8 2, .int .u8 2] 26))
  go_enter Try.func9, Try.ntmps9
  go_wp2_with (fail)
  go_ret
  refine ⟨_, rfl, ⟨some ⟨w.heap.size, 0, none⟩, 2, rfl, .inr ⟨w.heap.size, rfl, fun i hi => ?_⟩⟩, B0.out⟩
  rw [cell_of_row _ _ _ _ 26 (0, 0) X0.out]
  have hi2 : i < 2 := hi
  have hc : i = 0 ∨ i = 1 := by omega
  rcases hc with rfl | rfl <;> rfl
theorem asked17 (w : World) : Calls Try.prog 9 #[.int .u8 17] w fun e w' => ∃ s, e = .returned s ∧ AskAt w' [2, 0, 0] s ∧ Below w.heap.size w w' := by
  have B0 := hid ((Below.refl w.heap.size w).alloc (Nat.le_refl _) (.cells #[.int .u8 2, .int .u8 0, .int .u8 0] 26))
  have X0 := hid (heap_alloc_new w (.cells #[.int .u8 2, .int .u8 0, .int .u8 0] 26))
  go_enter Try.func9, Try.ntmps9
  go_wp2_with (fail)
  go_ret
  refine ⟨_, rfl, ⟨some ⟨w.heap.size, 0, none⟩, 3, rfl, .inr ⟨w.heap.size, rfl, fun i hi => ?_⟩⟩, B0.out⟩
  rw [cell_of_row _ _ _ _ 26 (0, 0) X0.out]
  have hi2 : i < 3 := hi
  have hc : i = 0 ∨ i = 1 ∨ i = 2 := by omega
  rcases hc with rfl | rfl | rfl <;> rfl
theorem asked_none (o : Nat) (w : World) (h : ¬ (4 ≤ o ∧ o ≤ 17)) : Calls Try.prog 9 #[.int .u8 (o : Int)] w fun e w' => ∃ s, e = .returned s ∧ AskAt w' [] s ∧ Below w.heap.size w w' := by
  have e4 : ((o : Int) == 4) = false := by rw [beq_eq_false_iff_ne]; omega
  have e5 : ((o : Int) == 5) = false := by rw [beq_eq_false_iff_ne]; omega
  have e6 : ((o : Int) == 6) = false := by rw [beq_eq_false_iff_ne]; omega
  have e7 : ((o : Int) == 7) = false := by rw [beq_eq_false_iff_ne]; omega
  have e8 : ((o : Int) == 8) = false := by rw [beq_eq_false_iff_ne]; omega
  have e9 : ((o : Int) == 9) = false := by rw [beq_eq_false_iff_ne]; omega
  have e10 : ((o : Int) == 10) = false := by rw [beq_eq_false_iff_ne]; omega
  have e11 : ((o : Int) == 11) = false := by rw [beq_eq_false_iff_ne]; omega
  have e12 : ((o : Int) == 12) = false := by rw [beq_eq_false_iff_ne]; omega
  have e13 : ((o : Int) == 13) = false := by rw [beq_eq_false_iff_ne]; omega
  have e14 : ((o : Int) == 14) = false := by rw [beq_eq_false_iff_ne]; omega
  have e15 : ((o : Int) == 15) = false := by rw [beq_eq_false_iff_ne]; omega
  have e16 : ((o : Int) == 16) = false := by rw [beq_eq_false_iff_ne]; omega
  have e17 : ((o : Int) == 17) = false := by rw [beq_eq_false_iff_ne]; omega
  clear h
  go_enter Try.func9, Try.ntmps9
  go_wp2_with (fail)
  go_ret
  exact ⟨_, rfl, ⟨none, 0, rfl, .inl rfl⟩, Below.refl _ _⟩
theorem ops_are (o : Nat) : ¬ (4 ≤ o ∧ o ≤ 17) ∨ o = 4 ∨ o = 5 ∨ o = 6 ∨ o = 7 ∨ o = 8 ∨ o = 9 ∨ o = 10 ∨ o = 11 ∨ o = 12 ∨ o = 13 ∨ o = 14 ∨ o = 15 ∨ o = 16 ∨ o = 17 := by omega
theorem askL_none {o : Nat} (h : ¬ (4 ≤ o ∧ o ≤ 17)) : askL o = [] := by
  unfold askL
  rw [if_neg (by omega), if_neg (by omega), if_neg (by omega), if_neg (by omega), if_neg (by omega), if_neg (by omega)]
theorem asked_at (o : Nat) (w : World) : Calls Try.prog 9 #[.int .u8 (o : Int)] w fun e w' => ∃ s, e = .returned s ∧ AskAt w' (askL o) s ∧ Below w.heap.size w w' := by
  rcases ops_are o with h | rfl | rfl | rfl | rfl | rfl | rfl | rfl | rfl | rfl | rfl | rfl | rfl | rfl | rfl
  · rw [askL_none h]; exact asked_none o w h
  · exact asked4 w
  · exact asked5 w
  · exact asked6 w
  · exact asked7 w
  · exact asked8 w
  · exact asked9 w
  · exact asked10 w
  · exact asked11 w
  · exact asked12 w
  · exact asked13 w
  · exact asked14 w
  · exact asked15 w
  · exact asked16 w
  · exact asked17 w
theorem all_at (l : List Vl) (s : Value) (w : World) (hl : l.length < 1000000) (hS : VSl w l s) : Calls Try.prog 10 #[s] w fun e w' => e = .returned (.bool (l.all chkV)) ∧ Below w.heap.size w w' := by
  obtain ⟨ao, cap, rfl, _, hv⟩ := hS
  have HV := hid hv
  clear hv
  go_enter Try.func10, Try.ntmps10
  go_wp2_with (fail)
  go_loopw [7] (fun i wr => ∃ k : Nat, k ≤ l.length ∧ i = .int .i64 (k : Int) ∧ (l.take k).all chkV = true ∧ Below w.heap.size w wr) (fun i _ => l.length - (intOf i).toNat)
  case atStart => exact ⟨0, Nat.zero_le _, rfl, rfl, Below.refl _ _⟩
  case round =>
    obtain ⟨k, hk, rfl, hall, hbel⟩ := hrel
    have BE := hid hbel
    have HA := hid hall
    clear hbel hall
    by_cases hlt : k < l.length
    · obtain ⟨g, o, rfl, hva⟩ := HV.out.resolve_left (by omega)
      have hlt' : (k : Int) < (l.length : Int) := by omega
      have hk0 : (0 : Int) ≤ (k : Int) := by omega
      obtain ⟨y0, y1⟩ := (hva.keep BE.out) k hlt
      have c := check_at l[k]
      have HT : Hid ((l.take (k + 1)).all chkV = chkV l[k]) := hid (by rw [List.take_succ_eq_append_getElem hlt, List.all_append, HA.out]; simp)
      have HM : Hid (chkV l[k] = false → l.all chkV = false) := hid (fun h => by rw [List.all_eq_false]; exact ⟨l[k], List.getElem_mem hlt, by rw [h]; simp⟩)
      have BA := hid ((Below.refl wr.heap.size wr).alloc (Nat.le_refl _) (.cells (vC l[k]) 28))
      generalize l[k] = v at *
      clear hva
      go_wp2_with (fail)
      refine (c _).mono ?_
      rintro e w1 ⟨rfl, hb1⟩
      have B1 := hid (bstep BE.out (bstep BA.out hb1 BA.out.size) BE.out.size)
      clear hb1 c
      cases hck : chkV v with
      | true =>
        have HC := hid hck
        clear hck
        go_wp2_with (fail)
        go_roundw
        case rel => exact ⟨k + 1, by omega, by go_num, by rw [HT.out, HC.out], B1.out⟩
        case measure => simp [intOf]; omega
      | false =>
        have HC := hid hck
        clear hck
        go_wp2_with (fail)
        go_ret
        exact ⟨by rw [HM.out HC.out]; rfl, B1.out⟩
    · have hlt' : ¬ (k : Int) < (l.length : Int) := by omega
      have HE : Hid (l.all chkV = true) := hid (by have h := HA.out; rw [List.take_of_length_le (by omega)] at h; exact h)
      go_wp2_with (fail)
      go_ret
      exact ⟨by rw [HE.out]; rfl, BE.out⟩
end Go.Proofs.Ytkniacdfhajogaa.Val
