/-
  Contracts of what is small: values that are made, Check, what is done with numbers.
-/
import Derived.Test.YtkniacdfhajogaaVal
namespace Go.Proofs.Ytkniacdfhajogaa.Val
open Go.ChangeShapes Go.WideShapes Go.ChangeAt Go.RowKit Go.Joins
/-- What answers a value out of its result's row. -/
theorem made {fn : Func} {p : Tmp} (h : fn.results = #[.cell p 28]) (v : Vl) (tmps : Array Value) (W : World) (b : Nat) (hp : tmps.getD p undef = .pointer (some ⟨b, 0, none⟩)) (hb : W.heap[b]? = some (.cells (vC v) 28 (0, 0))) : (results fn tmps).run Try.prog W = .ok (vV v) W :=
  results_cell_row h tmps W b 28 (vC v) (0, 0) _ hp hb Try.underlying28 rfl info24
theorem number_at (n : Int) (w : World) : Calls Try.prog 23 #[.int .i64 n] w fun e w' => e = .returned (vV (numV n)) ∧ Below w.heap.size w w' := by
  have B0 := hid ((Below.refl w.heap.size w).alloc (Nat.le_refl _) (.cells c24 28))
  have X0 := heap_alloc_new w (.cells c24 28)
  go_enter Try.func23, Try.ntmps23
  go_wp2_with (refine wpList_store_row rfl 28 _ _ rfl w.heap.size #[.int .u8 1, .int .i64 n] rfl rfl 28 _ X0 info24 rfl (by simp [Value.oneCell']) ?_)
  exact bodyPost_ret (results_cell_row rfl _ _ w.heap.size 28 #[.int .u8 1, .int .i64 n] (0, 0) _ rfl (setRow_heap _ _ _ _ _ _ X0) Try.underlying28 rfl info24) rfl ⟨rfl, below_row B0.out B0.out.size (Nat.le_refl _) _⟩
theorem truth_at (b : Bool) (w : World) : Calls Try.prog 32 #[.bool b] w fun e w' => e = .returned (vV (yesV b)) ∧ Below w.heap.size w w' := by
  have B0 := hid ((Below.refl w.heap.size w).alloc (Nat.le_refl _) (.cells c24 28))
  have X0 := heap_alloc_new w (.cells c24 28)
  cases b with
  | true =>
    go_enter Try.func32, Try.ntmps32
    go_wp2_with (refine wpList_store_row rfl 28 _ _ rfl w.heap.size #[.int .u8 2, .int .i64 1] rfl rfl 28 _ X0 info24 rfl (by simp [Value.oneCell']) ?_)
    exact bodyPost_ret (results_cell_row rfl _ _ w.heap.size 28 #[.int .u8 2, .int .i64 1] (0, 0) _ rfl (setRow_heap _ _ _ _ _ _ X0) Try.underlying28 rfl info24) rfl ⟨rfl, below_row B0.out B0.out.size (Nat.le_refl _) _⟩
  | false =>
    go_enter Try.func32, Try.ntmps32
    go_wp2_with (refine wpList_store_row rfl 28 _ _ rfl w.heap.size #[.int .u8 2, .int .i64 0] rfl rfl 28 _ X0 info24 rfl (by simp [Value.oneCell']) ?_)
    exact bodyPost_ret (results_cell_row rfl _ _ w.heap.size 28 #[.int .u8 2, .int .i64 0] (0, 0) _ rfl (setRow_heap _ _ _ _ _ _ X0) Try.underlying28 rfl info24) rfl ⟨rfl, below_row B0.out B0.out.size (Nat.le_refl _) _⟩
set_option maxHeartbeats 1000000 in
theorem check_at (v : Vl) (w : World) : Calls Try.prog 18 #[vV v] w fun e w' => e = .returned (.bool (chkV v)) ∧ Below w.heap.size w w' := by
  obtain ⟨t, n⟩ := v
  have HV : Hid (chkV ⟨t, n⟩ = (decide (t = 1) || (decide (t = 2) && (decide (n = 0) || decide (n = 1))))) := hid rfl
  have B0 := hid ((Below.refl w.heap.size w).alloc (Nat.le_refl _) (.cells #[.int .u8 (t : Int), .int .i64 n] 28))
  by_cases h1 : t = 1
  · have e1 : ((t : Int) == 1) = true := by rw [beq_iff_eq]; omega
    have HR : Hid (chkV ⟨t, n⟩ = true) := hid (by rw [HV.out]; simp [h1])
    clear h1 HV
    go_enter Try.func18, Try.ntmps18
    go_wp2_with (fail)
    go_ret
    exact ⟨by rw [HR.out]; rfl, B0.out⟩
  · have e1 : ((t : Int) == 1) = false := by rw [beq_eq_false_iff_ne]; omega
    by_cases h2 : t = 2
    · have e2 : ((t : Int) == 2) = true := by rw [beq_iff_eq]; omega
      by_cases h3 : n = 0
      · have e3 : (n == 0) = true := by rw [beq_iff_eq]; omega
        have HR : Hid (chkV ⟨t, n⟩ = true) := hid (by rw [HV.out]; simp [h2, h3])
        clear h1 h2 h3 HV
        go_enter Try.func18, Try.ntmps18
        go_wp2_with (fail)
        go_ret
        exact ⟨by rw [HR.out]; rfl, B0.out⟩
      · have e3 : (n == 0) = false := by rw [beq_eq_false_iff_ne]; omega
        have HR : Hid (chkV ⟨t, n⟩ = (n == 1)) := hid (by rw [HV.out, Bool.eq_iff_iff]; simp [h2, h3])
        clear h1 h2 h3 HV
        go_enter Try.func18, Try.ntmps18
        go_wp2_with (fail)
        go_ret
        exact ⟨by rw [HR.out]; rfl, B0.out⟩
    · have e2 : ((t : Int) == 2) = false := by rw [beq_eq_false_iff_ne]; omega
      have HR : Hid (chkV ⟨t, n⟩ = false) := hid (by rw [HV.out]; simp [h1, h2])
      clear h1 h2 HV
      go_enter Try.func18, Try.ntmps18
      go_wp2_with (fail)
      go_ret
      exact ⟨by rw [HR.out]; rfl, B0.out⟩
end Go.Proofs.Ytkniacdfhajogaa.Val
