/-
  Whether a part has the fields of its operator: the contracts of partsOf, hasItsFields, and of the document's own.
-/
import Derived.Test.YtkieljleopbhoaaDoorJoins
namespace Go.Proofs.YtkieljleopbhoaaDoor.Lex
open Go.ChangeShapes Go.WideShapes Go.ChangeAt Go.RowKit Go.Joins
/-- Of how many parts an operator is. -/
def parts (op : Nat) : Nat := if op = 4 ∨ op = 5 ∨ op = 19 then 1 else if op = 17 then 3 else if (jOf op).isSome then 2 else 0
/-- Has it the fields of its operator? -/
def fieldsOk (op : Nat) (n : Int) (nm : ByteArray) (len : Nat) : Bool :=
  if op = 1 then decide (0 ≤ n) && (decide (nm.size = 0) && decide (len = 0))
  else if op = 2 then (decide (n = 0) || decide (n = 1)) && (decide (nm.size = 0) && decide (len = 0))
  else if op = 3 then decide (n = 0) && (isName nm && decide (len = 0))
  else decide (0 < parts op) && (decide (n = 0) && (decide (nm.size = 0) && decide (len = parts op)))
theorem eqN {a : Nat} {b : Nat} (h : a = b) : ((a : Int) == (b : Int)) = true := by simp [h]
theorem neN {a : Nat} {b : Nat} (h : ¬ a = b) : ((a : Int) == (b : Int)) = false := by simp; omega
theorem ieq {a b : Int} (h : a = b) : (a == b) = true := by simp [h]
theorem ine {a b : Int} (h : ¬ a = b) : (a == b) = false := by simp [h]
set_option maxRecDepth 100000 in
theorem partsOf (op : Nat) (w : World) (hT : TabJ w) : Calls Tryd.prog 72 #[.int .u8 (op : Int)] w fun e w' => e = .returned (.int .i64 (parts op : Int)) ∧ Below w.heap.size w w' := by
  have c := joinOf op w hT
  by_cases h4 : op = 4
  · have e4 := eqN (b := 4) h4
    have hp : parts op = 1 := by unfold parts; rw [if_pos (.inl h4)]
    rw [hp]
    clear hp h4 c
    go_enter Tryd.func72, Tryd.ntmps72
    go_wp2
    go_ret
    exact ⟨rfl, Below.refl _ _⟩
  · have e4 := neN (b := 4) h4
    by_cases h5 : op = 5
    · have e5 := eqN (b := 5) h5
      have hp : parts op = 1 := by unfold parts; rw [if_pos (.inr (.inl h5))]
      rw [hp]
      clear hp h4 h5 c
      go_enter Tryd.func72, Tryd.ntmps72
      go_wp2
      go_ret
      exact ⟨rfl, Below.refl _ _⟩
    · have e5 := neN (b := 5) h5
      by_cases h19 : op = 19
      · have e19 := eqN (b := 19) h19
        have hp : parts op = 1 := by unfold parts; rw [if_pos (.inr (.inr h19))]
        rw [hp]
        clear hp h4 h5 h19 c
        go_enter Tryd.func72, Tryd.ntmps72
        go_wp2
        go_ret
        exact ⟨rfl, Below.refl _ _⟩
      · have e19 := neN (b := 19) h19
        by_cases h17 : op = 17
        · have e17 := eqN (b := 17) h17
          have hp : parts op = 3 := by unfold parts; rw [if_neg (by omega), if_pos h17]
          rw [hp]
          clear hp h4 h5 h19 h17 c
          go_enter Tryd.func72, Tryd.ntmps72
          go_wp2
          go_ret
          exact ⟨rfl, Below.refl _ _⟩
        · have e17 := neN (b := 17) h17
          have hp : parts op = if (jOf op).isSome then 2 else 0 := by unfold parts; rw [if_neg (by omega), if_neg h17]
          rw [hp]
          unfold jOut jrow at c
          generalize (jOf op).getD j0 = r at c
          clear hp h4 h5 h19 h17
          cases hj : (jOf op).isSome
          · rw [hj] at c
            go_enter Tryd.func72, Tryd.ntmps72
            go_wp2_with (go_at_call 43; refine c.mono ?_; rintro e w2 ⟨rfl, hb2⟩)
            go_ret
            exact ⟨rfl, bstep hb2 ((Below.refl _ _).alloc (Nat.le_refl _) _)⟩
          · rw [hj] at c
            go_enter Tryd.func72, Tryd.ntmps72
            go_wp2_with (go_at_call 43; refine c.mono ?_; rintro e w2 ⟨rfl, hb2⟩)
            go_ret
            exact ⟨rfl, bstep hb2 ((Below.refl _ _).alloc (Nat.le_refl _) _)⟩
set_option linter.unusedVariables false
set_option maxRecDepth 100000 in
set_option maxHeartbeats 1000000 in
theorem has_1a (op : Nat) (n : Int) (nm : ByteArray) (ao : Option Addr) (len cap : Nat) (w : World) (e1 : ((op : Int) == 1) = true) (h0 : ¬ 0 ≤ n) : Calls Tryd.prog 48 #[.agg #[.int .u8 (op : Int), .int .i64 n, .string nm, .slice ao len cap]] w fun e w' => e = .returned (.bool false) ∧ Below w.heap.size w w' := by
  go_enter Tryd.func48, Tryd.ntmps48
  go_wp2
  go_ret
  exact ⟨rfl, (Below.refl _ _).alloc (Nat.le_refl _) _⟩
set_option maxRecDepth 100000 in
set_option maxHeartbeats 1000000 in
theorem has_1b (op : Nat) (n : Int) (nm : ByteArray) (ao : Option Addr) (len cap : Nat) (w : World) (e1 : ((op : Int) == 1) = true) (h0 : 0 ≤ n) (he : nm.toList.isEmpty = false) : Calls Tryd.prog 48 #[.agg #[.int .u8 (op : Int), .int .i64 n, .string nm, .slice ao len cap]] w fun e w' => e = .returned (.bool false) ∧ Below w.heap.size w w' := by
  go_enter Tryd.func48, Tryd.ntmps48
  go_wp2
  go_ret
  exact ⟨rfl, (Below.refl _ _).alloc (Nat.le_refl _) _⟩
set_option maxRecDepth 100000 in
set_option maxHeartbeats 1000000 in
theorem has_1c (op : Nat) (n : Int) (nm : ByteArray) (ao : Option Addr) (len cap : Nat) (w : World) (e1 : ((op : Int) == 1) = true) (h0 : 0 ≤ n) (he : nm.toList.isEmpty = true) : Calls Tryd.prog 48 #[.agg #[.int .u8 (op : Int), .int .i64 n, .string nm, .slice ao len cap]] w fun e w' => e = .returned (.bool ((len : Int) == 0)) ∧ Below w.heap.size w w' := by
  go_enter Tryd.func48, Tryd.ntmps48
  go_wp2
  go_ret
  exact ⟨rfl, (Below.refl _ _).alloc (Nat.le_refl _) _⟩
set_option maxRecDepth 100000 in
set_option maxHeartbeats 1000000 in
theorem has_2a (op : Nat) (n : Int) (nm : ByteArray) (ao : Option Addr) (len cap : Nat) (w : World) (e1 : ((op : Int) == 1) = false) (e2 : ((op : Int) == 2) = true) (h0 : (n == 0) = false) (h1 : (n == 1) = false) : Calls Tryd.prog 48 #[.agg #[.int .u8 (op : Int), .int .i64 n, .string nm, .slice ao len cap]] w fun e w' => e = .returned (.bool false) ∧ Below w.heap.size w w' := by
  go_enter Tryd.func48, Tryd.ntmps48
  go_wp2
  go_ret
  exact ⟨rfl, (Below.refl _ _).alloc (Nat.le_refl _) _⟩
set_option maxRecDepth 100000 in
set_option maxHeartbeats 1000000 in
theorem has_2bn (op : Nat) (n : Int) (nm : ByteArray) (ao : Option Addr) (len cap : Nat) (w : World) (e1 : ((op : Int) == 1) = false) (e2 : ((op : Int) == 2) = true) (h0 : (n == 0) = true) (he : nm.toList.isEmpty = false) : Calls Tryd.prog 48 #[.agg #[.int .u8 (op : Int), .int .i64 n, .string nm, .slice ao len cap]] w fun e w' => e = .returned (.bool false) ∧ Below w.heap.size w w' := by
  go_enter Tryd.func48, Tryd.ntmps48
  go_wp2
  go_ret
  exact ⟨rfl, (Below.refl _ _).alloc (Nat.le_refl _) _⟩
set_option maxRecDepth 100000 in
set_option maxHeartbeats 1000000 in
theorem has_2be (op : Nat) (n : Int) (nm : ByteArray) (ao : Option Addr) (len cap : Nat) (w : World) (e1 : ((op : Int) == 1) = false) (e2 : ((op : Int) == 2) = true) (h0 : (n == 0) = true) (he : nm.toList.isEmpty = true) : Calls Tryd.prog 48 #[.agg #[.int .u8 (op : Int), .int .i64 n, .string nm, .slice ao len cap]] w fun e w' => e = .returned (.bool ((len : Int) == 0)) ∧ Below w.heap.size w w' := by
  go_enter Tryd.func48, Tryd.ntmps48
  go_wp2
  go_ret
  exact ⟨rfl, (Below.refl _ _).alloc (Nat.le_refl _) _⟩
set_option maxRecDepth 100000 in
set_option maxHeartbeats 1000000 in
theorem has_2cn (op : Nat) (n : Int) (nm : ByteArray) (ao : Option Addr) (len cap : Nat) (w : World) (e1 : ((op : Int) == 1) = false) (e2 : ((op : Int) == 2) = true) (h0 : (n == 0) = false) (h1 : (n == 1) = true) (he : nm.toList.isEmpty = false) : Calls Tryd.prog 48 #[.agg #[.int .u8 (op : Int), .int .i64 n, .string nm, .slice ao len cap]] w fun e w' => e = .returned (.bool false) ∧ Below w.heap.size w w' := by
  go_enter Tryd.func48, Tryd.ntmps48
  go_wp2
  go_ret
  exact ⟨rfl, (Below.refl _ _).alloc (Nat.le_refl _) _⟩
set_option maxRecDepth 100000 in
set_option maxHeartbeats 1000000 in
theorem has_2ce (op : Nat) (n : Int) (nm : ByteArray) (ao : Option Addr) (len cap : Nat) (w : World) (e1 : ((op : Int) == 1) = false) (e2 : ((op : Int) == 2) = true) (h0 : (n == 0) = false) (h1 : (n == 1) = true) (he : nm.toList.isEmpty = true) : Calls Tryd.prog 48 #[.agg #[.int .u8 (op : Int), .int .i64 n, .string nm, .slice ao len cap]] w fun e w' => e = .returned (.bool ((len : Int) == 0)) ∧ Below w.heap.size w w' := by
  go_enter Tryd.func48, Tryd.ntmps48
  go_wp2
  go_ret
  exact ⟨rfl, (Below.refl _ _).alloc (Nat.le_refl _) _⟩
set_option maxRecDepth 100000 in
set_option maxHeartbeats 1000000 in
theorem has_3a (op : Nat) (n : Int) (nm : ByteArray) (ao : Option Addr) (len cap : Nat) (w : World) (e1 : ((op : Int) == 1) = false) (e2 : ((op : Int) == 2) = false) (e3 : ((op : Int) == 3) = true) (h0 : (n == 0) = false) : Calls Tryd.prog 48 #[.agg #[.int .u8 (op : Int), .int .i64 n, .string nm, .slice ao len cap]] w fun e w' => e = .returned (.bool false) ∧ Below w.heap.size w w' := by
  go_enter Tryd.func48, Tryd.ntmps48
  go_wp2
  go_ret
  exact ⟨rfl, (Below.refl _ _).alloc (Nat.le_refl _) _⟩
set_option maxRecDepth 100000 in
set_option maxHeartbeats 1000000 in
theorem has_3b (op : Nat) (n : Int) (nm : ByteArray) (ao : Option Addr) (len cap : Nat) (w : World) (e1 : ((op : Int) == 1) = false) (e2 : ((op : Int) == 2) = false) (e3 : ((op : Int) == 3) = true) (h0 : (n == 0) = true) (c : ∀ W, TabR W → Calls Tryd.prog 71 #[.string nm] W fun e w' => e = .returned (.bool false) ∧ Below W.heap.size W w') (hR : Hid (TabR w)) : Calls Tryd.prog 48 #[.agg #[.int .u8 (op : Int), .int .i64 n, .string nm, .slice ao len cap]] w fun e w' => e = .returned (.bool false) ∧ Below w.heap.size w w' := by
  go_enter Tryd.func48, Tryd.ntmps48
  go_wp2_with (go_at_call 71; refine (c _ (hR.out.below ((Below.refl _ _).alloc (Nat.le_refl _) _))).mono ?_; rintro e w2 ⟨rfl, hb2⟩)
  go_ret
  exact ⟨rfl, bstep ((Below.refl _ _).alloc (Nat.le_refl _) _) hb2⟩
set_option maxRecDepth 100000 in
set_option maxHeartbeats 1000000 in
theorem has_3c (op : Nat) (n : Int) (nm : ByteArray) (ao : Option Addr) (len cap : Nat) (w : World) (e1 : ((op : Int) == 1) = false) (e2 : ((op : Int) == 2) = false) (e3 : ((op : Int) == 3) = true) (h0 : (n == 0) = true) (c : ∀ W, TabR W → Calls Tryd.prog 71 #[.string nm] W fun e w' => e = .returned (.bool true) ∧ Below W.heap.size W w') (hR : Hid (TabR w)) : Calls Tryd.prog 48 #[.agg #[.int .u8 (op : Int), .int .i64 n, .string nm, .slice ao len cap]] w fun e w' => e = .returned (.bool ((len : Int) == 0)) ∧ Below w.heap.size w w' := by
  go_enter Tryd.func48, Tryd.ntmps48
  go_wp2_with (go_at_call 71; refine (c _ (hR.out.below ((Below.refl _ _).alloc (Nat.le_refl _) _))).mono ?_; rintro e w2 ⟨rfl, hb2⟩; have bx := fun j v (h : (w.alloc (.cells #[.int .u8 (op : Int), .int .i64 n, .string nm, .slice ao len cap] 25)).cell? ⟨w.heap.size, j, none⟩ = some v) => cell_kept h hb2; have x3 := bx 3 (.slice ao len cap) (by rw [World.cell?_alloc_at _ _ _ _ rfl]; rfl); clear bx)
  go_ret
  exact ⟨rfl, bstep ((Below.refl _ _).alloc (Nat.le_refl _) _) hb2⟩
set_option maxRecDepth 100000 in
set_option maxHeartbeats 1000000 in
theorem has_4a (op : Nat) (n : Int) (nm : ByteArray) (ao : Option Addr) (len cap : Nat) (w : World) (e1 : ((op : Int) == 1) = false) (e2 : ((op : Int) == 2) = false) (e3 : ((op : Int) == 3) = false) (p : Nat) (c : ∀ W, TabJ W → Calls Tryd.prog 72 #[.int .u8 (op : Int)] W fun e w' => e = .returned (.int .i64 (p : Int)) ∧ Below W.heap.size W w') (hJ : Hid (TabJ w)) (hp : ¬ (0 : Int) < (p : Int)) : Calls Tryd.prog 48 #[.agg #[.int .u8 (op : Int), .int .i64 n, .string nm, .slice ao len cap]] w fun e w' => e = .returned (.bool false) ∧ Below w.heap.size w w' := by
  go_enter Tryd.func48, Tryd.ntmps48
  go_wp2_with (go_at_call 72; refine (c _ (hJ.out.below ((Below.refl _ _).alloc (Nat.le_refl _) _))).mono ?_; rintro e w2 ⟨rfl, hb2⟩)
  go_ret
  exact ⟨rfl, bstep ((Below.refl _ _).alloc (Nat.le_refl _) _) hb2⟩
set_option maxRecDepth 100000 in
set_option maxHeartbeats 1000000 in
theorem has_4b (op : Nat) (n : Int) (nm : ByteArray) (ao : Option Addr) (len cap : Nat) (w : World) (e1 : ((op : Int) == 1) = false) (e2 : ((op : Int) == 2) = false) (e3 : ((op : Int) == 3) = false) (p : Nat) (c : ∀ W, TabJ W → Calls Tryd.prog 72 #[.int .u8 (op : Int)] W fun e w' => e = .returned (.int .i64 (p : Int)) ∧ Below W.heap.size W w') (hJ : Hid (TabJ w)) (hp : (0 : Int) < (p : Int)) (h0 : (n == 0) = false) : Calls Tryd.prog 48 #[.agg #[.int .u8 (op : Int), .int .i64 n, .string nm, .slice ao len cap]] w fun e w' => e = .returned (.bool false) ∧ Below w.heap.size w w' := by
  go_enter Tryd.func48, Tryd.ntmps48
  go_wp2_with (go_at_call 72; refine (c _ (hJ.out.below ((Below.refl _ _).alloc (Nat.le_refl _) _))).mono ?_; rintro e w2 ⟨rfl, hb2⟩; have bx := fun j v (h : (w.alloc (.cells #[.int .u8 (op : Int), .int .i64 n, .string nm, .slice ao len cap] 25)).cell? ⟨w.heap.size, j, none⟩ = some v) => cell_kept h hb2; have x1 := bx 1 (.int .i64 n) (by rw [World.cell?_alloc_at _ _ _ _ rfl]; rfl); have x2 := bx 2 (.string nm) (by rw [World.cell?_alloc_at _ _ _ _ rfl]; rfl); have x3 := bx 3 (.slice ao len cap) (by rw [World.cell?_alloc_at _ _ _ _ rfl]; rfl); clear bx)
  go_ret
  exact ⟨rfl, bstep ((Below.refl _ _).alloc (Nat.le_refl _) _) hb2⟩
set_option maxRecDepth 100000 in
set_option maxHeartbeats 1000000 in
theorem has_4c (op : Nat) (n : Int) (nm : ByteArray) (ao : Option Addr) (len cap : Nat) (w : World) (e1 : ((op : Int) == 1) = false) (e2 : ((op : Int) == 2) = false) (e3 : ((op : Int) == 3) = false) (p : Nat) (c : ∀ W, TabJ W → Calls Tryd.prog 72 #[.int .u8 (op : Int)] W fun e w' => e = .returned (.int .i64 (p : Int)) ∧ Below W.heap.size W w') (hJ : Hid (TabJ w)) (hp : (0 : Int) < (p : Int)) (h0 : (n == 0) = true) (he : nm.toList.isEmpty = false) : Calls Tryd.prog 48 #[.agg #[.int .u8 (op : Int), .int .i64 n, .string nm, .slice ao len cap]] w fun e w' => e = .returned (.bool false) ∧ Below w.heap.size w w' := by
  go_enter Tryd.func48, Tryd.ntmps48
  go_wp2_with (go_at_call 72; refine (c _ (hJ.out.below ((Below.refl _ _).alloc (Nat.le_refl _) _))).mono ?_; rintro e w2 ⟨rfl, hb2⟩; have bx := fun j v (h : (w.alloc (.cells #[.int .u8 (op : Int), .int .i64 n, .string nm, .slice ao len cap] 25)).cell? ⟨w.heap.size, j, none⟩ = some v) => cell_kept h hb2; have x1 := bx 1 (.int .i64 n) (by rw [World.cell?_alloc_at _ _ _ _ rfl]; rfl); have x2 := bx 2 (.string nm) (by rw [World.cell?_alloc_at _ _ _ _ rfl]; rfl); have x3 := bx 3 (.slice ao len cap) (by rw [World.cell?_alloc_at _ _ _ _ rfl]; rfl); clear bx)
  go_ret
  exact ⟨rfl, bstep ((Below.refl _ _).alloc (Nat.le_refl _) _) hb2⟩
set_option maxRecDepth 100000 in
set_option maxHeartbeats 1000000 in
theorem has_4d (op : Nat) (n : Int) (nm : ByteArray) (ao : Option Addr) (len cap : Nat) (w : World) (e1 : ((op : Int) == 1) = false) (e2 : ((op : Int) == 2) = false) (e3 : ((op : Int) == 3) = false) (p : Nat) (c : ∀ W, TabJ W → Calls Tryd.prog 72 #[.int .u8 (op : Int)] W fun e w' => e = .returned (.int .i64 (p : Int)) ∧ Below W.heap.size W w') (hJ : Hid (TabJ w)) (hp : (0 : Int) < (p : Int)) (h0 : (n == 0) = true) (he : nm.toList.isEmpty = true) : Calls Tryd.prog 48 #[.agg #[.int .u8 (op : Int), .int .i64 n, .string nm, .slice ao len cap]] w fun e w' => e = .returned (.bool ((len : Int) == (p : Int))) ∧ Below w.heap.size w w' := by
  go_enter Tryd.func48, Tryd.ntmps48
  go_wp2_with (go_at_call 72; refine (c _ (hJ.out.below ((Below.refl _ _).alloc (Nat.le_refl _) _))).mono ?_; rintro e w2 ⟨rfl, hb2⟩; have bx := fun j v (h : (w.alloc (.cells #[.int .u8 (op : Int), .int .i64 n, .string nm, .slice ao len cap] 25)).cell? ⟨w.heap.size, j, none⟩ = some v) => cell_kept h hb2; have x1 := bx 1 (.int .i64 n) (by rw [World.cell?_alloc_at _ _ _ _ rfl]; rfl); have x2 := bx 2 (.string nm) (by rw [World.cell?_alloc_at _ _ _ _ rfl]; rfl); have x3 := bx 3 (.slice ao len cap) (by rw [World.cell?_alloc_at _ _ _ _ rfl]; rfl); clear bx)
  go_ret
  exact ⟨rfl, bstep ((Below.refl _ _).alloc (Nat.le_refl _) _) hb2⟩
theorem len_eq (a b : Nat) : ((a : Int) == (b : Int)) = decide (a = b) := by
  by_cases h : a = b
  · rw [eqN h, decide_eq_true h]
  · rw [neN h, decide_eq_false h]
theorem len_zero' (a : Nat) : ((a : Int) == 0) = decide (a = 0) := len_eq a 0
/-- hasItsFields. -/
theorem hasIts (op : Nat) (n : Int) (nm : ByteArray) (ao : Option Addr) (len cap : Nat) (w : World) (hR : TabR w) (hJ : TabJ w) :
    Calls Tryd.prog 48 #[.agg #[.int .u8 (op : Int), .int .i64 n, .string nm, .slice ao len cap]] w fun e w' => e = .returned (.bool (fieldsOk op n nm len)) ∧ Below w.heap.size w w' := by
  unfold fieldsOk
  by_cases h1 : op = 1
  · rw [if_pos h1]
    have e1 := eqN (b := 1) h1
    by_cases h0 : 0 ≤ n
    · rw [decide_eq_true h0, Bool.true_and]
      by_cases hm : nm.size = 0
      · rw [decide_eq_true hm, Bool.true_and, ← len_zero']; exact has_1c op n nm ao len cap w e1 h0 (empty_yes hm)
      · rw [decide_eq_false hm, Bool.false_and]; exact has_1b op n nm ao len cap w e1 h0 (empty_no hm)
    · rw [decide_eq_false h0, Bool.false_and]; exact has_1a op n nm ao len cap w e1 h0
  · rw [if_neg h1]
    have e1 := neN (b := 1) h1
    by_cases h2 : op = 2
    · rw [if_pos h2]
      have e2 := eqN (b := 2) h2
      by_cases h0 : n = 0
      · rw [decide_eq_true h0, Bool.true_or, Bool.true_and]
        by_cases hm : nm.size = 0
        · rw [decide_eq_true hm, Bool.true_and, ← len_zero']; exact has_2be op n nm ao len cap w e1 e2 (ieq h0) (empty_yes hm)
        · rw [decide_eq_false hm, Bool.false_and]; exact has_2bn op n nm ao len cap w e1 e2 (ieq h0) (empty_no hm)
      · rw [decide_eq_false h0, Bool.false_or]
        by_cases h01 : n = 1
        · rw [decide_eq_true h01, Bool.true_and]
          by_cases hm : nm.size = 0
          · rw [decide_eq_true hm, Bool.true_and, ← len_zero']; exact has_2ce op n nm ao len cap w e1 e2 (ine h0) (ieq h01) (empty_yes hm)
          · rw [decide_eq_false hm, Bool.false_and]; exact has_2cn op n nm ao len cap w e1 e2 (ine h0) (ieq h01) (empty_no hm)
        · rw [decide_eq_false h01, Bool.false_and]; exact has_2a op n nm ao len cap w e1 e2 (ine h0) (ine h01)
    · rw [if_neg h2]
      have e2 := neN (b := 2) h2
      by_cases h3 : op = 3
      · rw [if_pos h3]
        have e3 := eqN (b := 3) h3
        by_cases h0 : n = 0
        · rw [decide_eq_true h0, Bool.true_and]
          have c := fun W hT => name nm W hT
          cases hb : isName nm
          · rw [hb] at c; rw [Bool.false_and]; exact has_3b op n nm ao len cap w e1 e2 e3 (ieq h0) c hR
          · rw [hb] at c; rw [Bool.true_and, ← len_zero']; exact has_3c op n nm ao len cap w e1 e2 e3 (ieq h0) c hR
        · rw [decide_eq_false h0, Bool.false_and]; exact has_3a op n nm ao len cap w e1 e2 e3 (ine h0)
      · rw [if_neg h3]
        have e3 := neN (b := 3) h3
        have c := fun W hT => partsOf op W hT
        generalize parts op = p at c
        by_cases hp : 0 < p
        · have hp' : (0 : Int) < (p : Int) := by omega
          rw [decide_eq_true hp, Bool.true_and]
          by_cases h0 : n = 0
          · rw [decide_eq_true h0, Bool.true_and]
            by_cases hm : nm.size = 0
            · rw [decide_eq_true hm, Bool.true_and, ← len_eq]; exact has_4d op n nm ao len cap w e1 e2 e3 p c hJ hp' (ieq h0) (empty_yes hm)
            · rw [decide_eq_false hm, Bool.false_and]; exact has_4c op n nm ao len cap w e1 e2 e3 p c hJ hp' (ieq h0) (empty_no hm)
          · rw [decide_eq_false h0, Bool.false_and]; exact has_4b op n nm ao len cap w e1 e2 e3 p c hJ hp' (ine h0)
        · rw [decide_eq_false hp, Bool.false_and]; exact has_4a op n nm ao len cap w e1 e2 e3 p c hJ (by omega)
end Go.Proofs.YtkieljleopbhoaaDoor.Lex
