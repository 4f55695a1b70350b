/-
  The document's own: number, yes, Check, many; Beyond.
-/
import Derived.Test.YtkniacdfhajogaaLeft
namespace Go.Proofs.Ytkniacdfhajogaa.Val
open Go.ChangeShapes Go.WideShapes Go.ChangeAt Go.RowKit Go.Joins
theorem rnumber_at (n : Int) (w : World) : Calls Try.prog 16 #[.int .i64 n] w fun e w' => e = .returned (vV (numV n)) ∧ Below w.heap.size w w' := by
  have B0 := hid ((Below.refl w.heap.size w).alloc (Nat.le_refl _) (.cells c24 28))
  have X0 := heap_alloc_new w (.cells c24 28)
  go_enter Try.func16, Try.ntmps16
  go_wp2_with (refine wpList_store_row rfl 28 _ _ rfl w.heap.size #[.int .u8 1, .int .i64 n] rfl rfl 28 _ X0 info24 rfl (by simp [Value.oneCell']) ?_)
  exact bodyPost_ret (results_cell_row rfl _ _ w.heap.size 28 #[.int .u8 1, .int .i64 n] (0, 0) _ rfl (setRow_heap _ _ _ _ _ _ X0) Try.underlying28 rfl info24) rfl ⟨rfl, below_row B0.out B0.out.size (Nat.le_refl _) _⟩
theorem ryes_at (b : Bool) (w : World) : Calls Try.prog 17 #[.bool b] w fun e w' => e = .returned (vV (yesV b)) ∧ Below w.heap.size w w' := by
  have B0 := hid ((Below.refl w.heap.size w).alloc (Nat.le_refl _) (.cells c24 28))
  have X0 := heap_alloc_new w (.cells c24 28)
  cases b with
  | true =>
    go_enter Try.func17, Try.ntmps17
    go_wp2_with (refine wpList_store_row rfl 28 _ _ rfl w.heap.size #[.int .u8 2, .int .i64 1] rfl rfl 28 _ X0 info24 rfl (by simp [Value.oneCell']) ?_)
    exact bodyPost_ret (results_cell_row rfl _ _ w.heap.size 28 #[.int .u8 2, .int .i64 1] (0, 0) _ rfl (setRow_heap _ _ _ _ _ _ X0) Try.underlying28 rfl info24) rfl ⟨rfl, below_row B0.out B0.out.size (Nat.le_refl _) _⟩
  | false =>
    go_enter Try.func17, Try.ntmps17
    go_wp2_with (refine wpList_store_row rfl 28 _ _ rfl w.heap.size #[.int .u8 2, .int .i64 0] rfl rfl 28 _ X0 info24 rfl (by simp [Value.oneCell']) ?_)
    exact bodyPost_ret (results_cell_row rfl _ _ w.heap.size 28 #[.int .u8 2, .int .i64 0] (0, 0) _ rfl (setRow_heap _ _ _ _ _ _ X0) Try.underlying28 rfl info24) rfl ⟨rfl, below_row B0.out B0.out.size (Nat.le_refl _) _⟩
set_option maxHeartbeats 1000000 in
theorem rcheck_at (v : Vl) (w : World) : Calls Try.prog 14 #[vV v] w fun e w' => e = .returned (.bool (chkV v)) ∧ Below w.heap.size w w' := by
  obtain ⟨t, n⟩ := v
  have HV : Hid (chkV ⟨t, n⟩ = (decide (t = 1) || (decide (t = 2) && (decide (n = 0) || decide (n = 1))))) := hid rfl
  have B0 := hid ((Below.refl w.heap.size w).alloc (Nat.le_refl _) (.cells #[.int .u8 (t : Int), .int .i64 n] 28))
  by_cases h1 : t = 1
  · have e1 : ((t : Int) == 1) = true := by rw [beq_iff_eq]; omega
    have HR : Hid (chkV ⟨t, n⟩ = true) := hid (by rw [HV.out]; simp [h1])
    clear h1 HV
    go_enter Try.func14, Try.ntmps14
    go_wp2_with (fail)
    go_ret
    exact ⟨by rw [HR.out]; rfl, B0.out⟩
  · have e1 : ((t : Int) == 1) = false := by rw [beq_eq_false_iff_ne]; omega
    by_cases h2 : t = 2
    · have e2 : ((t : Int) == 2) = true := by rw [beq_iff_eq]; omega
      by_cases h3 : n = 0
      · have e3 : (n == 0) = true := by rw [beq_iff_eq]; omega
        have HR : Hid (chkV ⟨t, n⟩ = true) := hid (by rw [HV.out]; simp [h2, h3])
        clear h1 h2 h3 HV
        go_enter Try.func14, Try.ntmps14
        go_wp2_with (fail)
        go_ret
        exact ⟨by rw [HR.out]; rfl, B0.out⟩
      · have e3 : (n == 0) = false := by rw [beq_eq_false_iff_ne]; omega
        have HR : Hid (chkV ⟨t, n⟩ = (n == 1)) := hid (by rw [HV.out, Bool.eq_iff_iff]; simp [h2, h3])
        clear h1 h2 h3 HV
        go_enter Try.func14, Try.ntmps14
        go_wp2_with (fail)
        go_ret
        exact ⟨by rw [HR.out]; rfl, B0.out⟩
    · have e2 : ((t : Int) == 2) = false := by rw [beq_eq_false_iff_ne]; omega
      have HR : Hid (chkV ⟨t, n⟩ = false) := hid (by rw [HV.out]; simp [h1, h2])
      clear h1 h2 HV
      go_enter Try.func14, Try.ntmps14
      go_wp2_with (fail)
      go_ret
      exact ⟨by rw [HR.out]; rfl, B0.out⟩
theorem take_snoc (l : List Int) (k : Nat) (h : k < l.length) : l.take (k + 1) = l.take k ++ [l.getD k 0] := by
  rw [List.take_succ_eq_append_getElem h]; simp [h]
/-- The sum of the first ones. -/
def sumTo (l : List Int) (k : Nat) : Int := (l.take k).sum
theorem sum_nonneg (l : List Int) (h : ∀ x ∈ l, 0 ≤ x) : 0 ≤ l.sum := by
  induction l with
  | nil => simp
  | cons a l ih =>
    have h1 := h a (by simp)
    have h2 := ih fun x hx => h x (by simp [hx])
    simp only [List.sum_cons]; omega
theorem sumTo_le (l : List Int) (k : Nat) (h : ∀ x ∈ l, 0 ≤ x) : sumTo l k ≤ l.sum := by
  have e : l.sum = (l.take k).sum + (l.drop k).sum := by rw [← List.sum_append, List.take_append_drop]
  have := sum_nonneg (l.drop k) fun x hx => h x (List.mem_of_mem_drop hx)
  unfold sumTo; omega
theorem sumTo_succ (l : List Int) (k : Nat) (h : k < l.length) : sumTo l (k + 1) = sumTo l k + l.getD k 0 := by
  unfold sumTo; rw [take_snoc l k h, List.sum_append]; simp
theorem getD_mem (l : List Int) (k : Nat) (h : k < l.length) : l.getD k 0 ∈ l := by
  simp [h]

theorem val_int {k : IntKind} {a b : Int} (h : a = b) : Value.int k a = .int k b := by rw [h]
theorem ret_true {p : Prop} [Decidable p] (h : p) : Ending.returned (.bool true) = .returned (.bool (decide p)) := by rw [decide_eq_true h]
theorem ret_false {p : Prop} [Decidable p] (h : ¬ p) : Ending.returned (.bool false) = .returned (.bool (decide p)) := by rw [decide_eq_false h]
/-- Beyond: are these sizes together above the bound? -/
theorem w9 (b o len cap : Nat) (l : List Int) (w : World) (hl : l.length = len) (hlen : len ≤ 3) (h0 : ∀ x ∈ l, 0 ≤ x ∧ x ≤ 140737488355328)
    (hc : ∀ i, i < len → w.cell? ⟨b, o + i, none⟩ = some (.int .i64 (l.getD i 0))) :
    Calls Try.prog 4 #[.slice (some ⟨b, o, none⟩) len cap] w fun e w' => (e = .returned (.bool (decide (1048576 < l.sum)))) ∧ w' = w := by
  go_enter Try.func4, Try.ntmps4
  go_wp2
  go_loop [3, 4] (fun n i => ∃ k : Nat, k ≤ len ∧ i = .int .i64 k ∧ n = .int .i64 (sumTo l k) ∧ 0 ≤ sumTo l k ∧ sumTo l k ≤ 1048576) (fun _ i => len - (intOf i).toNat)
  case atStart => exact ⟨0, Nat.zero_le _, rfl, rfl, by simp [sumTo], by simp [sumTo]⟩
  case round =>
    obtain ⟨k, hk, rfl, rfl, hp, hq⟩ := hrel
    by_cases hlt : k < len
    · have hck := hc k hlt
      have hs := sumTo_succ l k (by omega)
      have hle := sumTo_le l (k + 1) (fun x hx => (h0 x hx).1)
      obtain ⟨hz0, hz1⟩ := h0 _ (getD_mem l k (by omega))
      have HS : Hid (sumTo l (k + 1) = sumTo l k + l.getD k 0) := hs
      have HLE : Hid (sumTo l (k + 1) ≤ l.sum) := hle
      clear hs hle h0 hc
      generalize l.getD k 0 = z at hck hz0 hz1 HS
      generalize sumTo l k = t at hp hq HS
      have hlt' : (k : Int) < (len : Int) := by omega
      by_cases hbig : 1048576 < t + z
      · go_wp2
        go_ret
        have h1 := HS.out
        have h2 := HLE.out
        exact ⟨ret_true (by omega), rfl⟩
      · go_wp2
        go_round
        case rel =>
          have h1 := HS.out
          exact ⟨k + 1, by omega, by go_num, val_int h1.symm, by omega, by omega⟩
        case measure => simp [intOf]; omega
    · have e : sumTo l k = l.sum := by unfold sumTo; rw [List.take_of_length_le (by omega)]
      have HE : Hid (sumTo l k = l.sum) := e
      clear e h0 hc
      generalize sumTo l k = t at hp hq HE
      go_wp2
      go_ret
      have h1 := HE.out
      exact ⟨ret_false (by omega), rfl⟩
set_option maxHeartbeats 1000000
theorem many4 (w : World) : Calls Try.prog 13 #[.int .u8 4] w fun e w' => e = .returned (.int .i64 1) ∧ w' = w := by
  go_enter Try.func13, Try.ntmps13
  go_wp2_with (fail)
  go_ret
  exact ⟨rfl, rfl⟩
theorem many5 (w : World) : Calls Try.prog 13 #[.int .u8 5] w fun e w' => e = .returned (.int .i64 1) ∧ w' = w := by
  go_enter Try.func13, Try.ntmps13
  go_wp2_with (fail)
  go_ret
  exact ⟨rfl, rfl⟩
theorem many6 (w : World) : Calls Try.prog 13 #[.int .u8 6] w fun e w' => e = .returned (.int .i64 2) ∧ w' = w := by
  go_enter Try.func13, Try.ntmps13
  go_wp2_with (fail)
  go_ret
  exact ⟨rfl, rfl⟩
theorem many7 (w : World) : Calls Try.prog 13 #[.int .u8 7] w fun e w' => e = .returned (.int .i64 2) ∧ w' = w := by
  go_enter Try.func13, Try.ntmps13
  go_wp2_with (fail)
  go_ret
  exact ⟨rfl, rfl⟩
theorem many8 (w : World) : Calls Try.prog 13 #[.int .u8 8] w fun e w' => e = .returned (.int .i64 2) ∧ w' = w := by
  go_enter Try.func13, Try.ntmps13
  go_wp2_with (fail)
  go_ret
  exact ⟨rfl, rfl⟩
theorem many9 (w : World) : Calls Try.prog 13 #[.int .u8 9] w fun e w' => e = .returned (.int .i64 2) ∧ w' = w := by
  go_enter Try.func13, Try.ntmps13
  go_wp2_with (fail)
  go_ret
  exact ⟨rfl, rfl⟩
theorem many10 (w : World) : Calls Try.prog 13 #[.int .u8 10] w fun e w' => e = .returned (.int .i64 2) ∧ w' = w := by
  go_enter Try.func13, Try.ntmps13
  go_wp2_with (fail)
  go_ret
  exact ⟨rfl, rfl⟩
theorem many11 (w : World) : Calls Try.prog 13 #[.int .u8 11] w fun e w' => e = .returned (.int .i64 2) ∧ w' = w := by
  go_enter Try.func13, Try.ntmps13
  go_wp2_with (fail)
  go_ret
  exact ⟨rfl, rfl⟩
theorem many12 (w : World) : Calls Try.prog 13 #[.int .u8 12] w fun e w' => e = .returned (.int .i64 2) ∧ w' = w := by
  go_enter Try.func13, Try.ntmps13
  go_wp2_with (fail)
  go_ret
  exact ⟨rfl, rfl⟩
theorem many13 (w : World) : Calls Try.prog 13 #[.int .u8 13] w fun e w' => e = .returned (.int .i64 2) ∧ w' = w := by
  go_enter Try.func13, Try.ntmps13
  go_wp2_with (fail)
  go_ret
  exact ⟨rfl, rfl⟩
theorem many14 (w : World) : Calls Try.prog 13 #[.int .u8 14] w fun e w' => e = .returned (.int .i64 2) ∧ w' = w := by
  go_enter Try.func13, Try.ntmps13
  go_wp2_with (fail)
  go_ret
  exact ⟨rfl, rfl⟩
theorem many15 (w : World) : Calls Try.prog 13 #[.int .u8 15] w fun e w' => e = .returned (.int .i64 2) ∧ w' = w := by
  go_enter Try.func13, Try.ntmps13
  go_wp2_with (fail)
  go_ret
  exact ⟨rfl, rfl⟩
theorem many16 (w : World) : Calls Try.prog 13 #[.int .u8 16] w fun e w' => e = .returned (.int .i64 2) ∧ w' = w := by
  go_enter Try.func13, Try.ntmps13
  go_wp2_with (fail)
  go_ret
  exact ⟨rfl, rfl⟩
theorem many17 (w : World) : Calls Try.prog 13 #[.int .u8 17] w fun e w' => e = .returned (.int .i64 3) ∧ w' = w := by
  go_enter Try.func13, Try.ntmps13
  go_wp2_with (fail)
  go_ret
  exact ⟨rfl, rfl⟩
theorem many_none (o : Nat) (w : World) (h : ¬ (4 ≤ o ∧ o ≤ 17)) : Calls Try.prog 13 #[.int .u8 (o : Int)] w fun e w' => e = .returned (.int .i64 0) ∧ w' = w := by
  have e4 : ((o : Int) == 4) = false := by rw [beq_eq_false_iff_ne]; omega
  have e5 : ((o : Int) == 5) = false := by rw [beq_eq_false_iff_ne]; omega
  have e6 : ((o : Int) == 6) = false := by rw [beq_eq_false_iff_ne]; omega
  have e7 : ((o : Int) == 7) = false := by rw [beq_eq_false_iff_ne]; omega
  have e8 : ((o : Int) == 8) = false := by rw [beq_eq_false_iff_ne]; omega
  have e9 : ((o : Int) == 9) = false := by rw [beq_eq_false_iff_ne]; omega
  have e10 : ((o : Int) == 10) = false := by rw [beq_eq_false_iff_ne]; omega
  have e11 : ((o : Int) == 11) = false := by rw [beq_eq_false_iff_ne]; omega
  have e12 : ((o : Int) == 12) = false := by rw [beq_eq_false_iff_ne]; omega
  have e13 : ((o : Int) == 13) = false := by rw [beq_eq_false_iff_ne]; omega
  have e14 : ((o : Int) == 14) = false := by rw [beq_eq_false_iff_ne]; omega
  have e15 : ((o : Int) == 15) = false := by rw [beq_eq_false_iff_ne]; omega
  have e16 : ((o : Int) == 16) = false := by rw [beq_eq_false_iff_ne]; omega
  have e17 : ((o : Int) == 17) = false := by rw [beq_eq_false_iff_ne]; omega
  clear h
  go_enter Try.func13, Try.ntmps13
  go_wp2_with (fail)
  go_ret
  exact ⟨rfl, rfl⟩
theorem many_at (o : Nat) (w : World) : Calls Try.prog 13 #[.int .u8 (o : Int)] w fun e w' => e = .returned (.int .i64 ((askL o).length : Int)) ∧ w' = w := by
  rcases ops_are o with h | rfl | rfl | rfl | rfl | rfl | rfl | rfl | rfl | rfl | rfl | rfl | rfl | rfl | rfl
  · rw [askL_none h]; exact many_none o w h
  · exact many4 w
  · exact many5 w
  · exact many6 w
  · exact many7 w
  · exact many8 w
  · exact many9 w
  · exact many10 w
  · exact many11 w
  · exact many12 w
  · exact many13 w
  · exact many14 w
  · exact many15 w
  · exact many16 w
  · exact many17 w
end Go.Proofs.Ytkniacdfhajogaa.Val
