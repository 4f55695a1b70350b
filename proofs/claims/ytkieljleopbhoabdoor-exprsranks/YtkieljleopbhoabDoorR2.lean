/-
  Whether a part has the fields of its operator: the contracts of partsOf, hasItsFields, and of the document's own.
  Whether it may be: how great it is, part by part; the contracts of fits and Check.
  As it is written: plain mathematics.
  The document's own: of how many parts an operator is, how great it is, whether it may be.
  Ranks, signs, digits: the contracts on both sides.
  How great it is: whatever number is told, the call returns.
  The twin of what is worked out: new memory, with a mark behind each row of parts.
  The contracts of TwinExprs and TwinExpr.
  The contract of TwinExpr, whatever it is.
-/
import Derived.Test.YtkieljleopbhoabDoorR1
import Derived.Lib.ItoaNum
import Derived.Lib.Small
import Derived.BigQuiet
import Derived.OwnWalk
import Derived.Deep.RegionHeld3
import Derived.Laws.Tables
namespace Go.Proofs.YtkieljleopbhoabDoor.Lex
open Go.ChangeShapes Go.WideShapes Go.ChangeAt Go.RowKit Go.Joins
/-- Of how many parts an operator is. -/
def parts (op : Nat) : Nat := if op = 4 ∨ op = 5 ∨ op = 19 then 1 else if op = 17 then 3 else if (jOf op).isSome then 2 else 0
/-- Has it the fields of its operator? -/
def fieldsOk (op : Nat) (n : Int) (nm : ByteArray) (len : Nat) : Bool :=
  if op = 1 then decide (0 ≤ n) && (decide (nm.size = 0) && decide (len = 0))
  else if op = 2 then (decide (n = 0) || decide (n = 1)) && (decide (nm.size = 0) && decide (len = 0))
  else if op = 3 then decide (n = 0) && (isName nm && decide (len = 0))
  else decide (0 < parts op) && (decide (n = 0) && (decide (nm.size = 0) && decide (len = parts op)))
theorem eqN {a : Nat} {b : Nat} (h : a = b) : ((a : Int) == (b : Int)) = true := by simp [h]
theorem neN {a : Nat} {b : Nat} (h : ¬ a = b) : ((a : Int) == (b : Int)) = false := by simp; omega
theorem ieq {a b : Int} (h : a = b) : (a == b) = true := by simp [h]
theorem ine {a b : Int} (h : ¬ a = b) : (a == b) = false := by simp [h]
set_option maxRecDepth 100000 in
theorem partsOf (op : Nat) (w : World) (hT : TabJ w) : Calls Tryd.prog 66 #[.int .u8 (op : Int)] w fun e w' => e = .returned (.int .i64 (parts op : Int)) ∧ Below w.heap.size w w' := by
  have c := joinOf op w hT
  by_cases h4 : op = 4
  · have e4 := eqN (b := 4) h4
    have hp : parts op = 1 := by unfold parts; rw [if_pos (.inl h4)]
    rw [hp]
    clear hp h4 c
    go_enter Tryd.func66, Tryd.ntmps66
    go_wp2
    go_ret
    exact ⟨rfl, Below.refl _ _⟩
  · have e4 := neN (b := 4) h4
    by_cases h5 : op = 5
    · have e5 := eqN (b := 5) h5
      have hp : parts op = 1 := by unfold parts; rw [if_pos (.inr (.inl h5))]
      rw [hp]
      clear hp h4 h5 c
      go_enter Tryd.func66, Tryd.ntmps66
      go_wp2
      go_ret
      exact ⟨rfl, Below.refl _ _⟩
    · have e5 := neN (b := 5) h5
      by_cases h19 : op = 19
      · have e19 := eqN (b := 19) h19
        have hp : parts op = 1 := by unfold parts; rw [if_pos (.inr (.inr h19))]
        rw [hp]
        clear hp h4 h5 h19 c
        go_enter Tryd.func66, Tryd.ntmps66
        go_wp2
        go_ret
        exact ⟨rfl, Below.refl _ _⟩
      · have e19 := neN (b := 19) h19
        by_cases h17 : op = 17
        · have e17 := eqN (b := 17) h17
          have hp : parts op = 3 := by unfold parts; rw [if_neg (by omega), if_pos h17]
          rw [hp]
          clear hp h4 h5 h19 h17 c
          go_enter Tryd.func66, Tryd.ntmps66
          go_wp2
          go_ret
          exact ⟨rfl, Below.refl _ _⟩
        · have e17 := neN (b := 17) h17
          have hp : parts op = if (jOf op).isSome then 2 else 0 := by unfold parts; rw [if_neg (by omega), if_neg h17]
          rw [hp]
          unfold jOut jrow at c
          generalize (jOf op).getD j0 = r at c
          clear hp h4 h5 h19 h17
          cases hj : (jOf op).isSome
          · rw [hj] at c
            go_enter Tryd.func66, Tryd.ntmps66
            go_wp2_with (go_at_call 49; refine c.mono ?_; rintro e w2 ⟨rfl, hb2⟩)
            go_ret
            exact ⟨rfl, bstep hb2 ((Below.refl _ _).alloc (Nat.le_refl _) _)⟩
          · rw [hj] at c
            go_enter Tryd.func66, Tryd.ntmps66
            go_wp2_with (go_at_call 49; refine c.mono ?_; rintro e w2 ⟨rfl, hb2⟩)
            go_ret
            exact ⟨rfl, bstep hb2 ((Below.refl _ _).alloc (Nat.le_refl _) _)⟩
set_option linter.unusedVariables false
set_option maxRecDepth 100000 in
set_option maxHeartbeats 1000000 in
theorem has_1a (op : Nat) (n : Int) (nm : ByteArray) (ao : Option Addr) (len cap : Nat) (w : World) (e1 : ((op : Int) == 1) = true) (h0 : ¬ 0 ≤ n) : Calls Tryd.prog 43 #[.agg #[.int .u8 (op : Int), .int .i64 n, .string nm, .slice ao len cap]] w fun e w' => e = .returned (.bool false) ∧ Below w.heap.size w w' := by
  go_enter Tryd.func43, Tryd.ntmps43
  go_wp2
  go_ret
  exact ⟨rfl, (Below.refl _ _).alloc (Nat.le_refl _) _⟩
set_option maxRecDepth 100000 in
set_option maxHeartbeats 1000000 in
theorem has_1b (op : Nat) (n : Int) (nm : ByteArray) (ao : Option Addr) (len cap : Nat) (w : World) (e1 : ((op : Int) == 1) = true) (h0 : 0 ≤ n) (he : nm.toList.isEmpty = false) : Calls Tryd.prog 43 #[.agg #[.int .u8 (op : Int), .int .i64 n, .string nm, .slice ao len cap]] w fun e w' => e = .returned (.bool false) ∧ Below w.heap.size w w' := by
  go_enter Tryd.func43, Tryd.ntmps43
  go_wp2
  go_ret
  exact ⟨rfl, (Below.refl _ _).alloc (Nat.le_refl _) _⟩
set_option maxRecDepth 100000 in
set_option maxHeartbeats 1000000 in
theorem has_1c (op : Nat) (n : Int) (nm : ByteArray) (ao : Option Addr) (len cap : Nat) (w : World) (e1 : ((op : Int) == 1) = true) (h0 : 0 ≤ n) (he : nm.toList.isEmpty = true) : Calls Tryd.prog 43 #[.agg #[.int .u8 (op : Int), .int .i64 n, .string nm, .slice ao len cap]] w fun e w' => e = .returned (.bool ((len : Int) == 0)) ∧ Below w.heap.size w w' := by
  go_enter Tryd.func43, Tryd.ntmps43
  go_wp2
  go_ret
  exact ⟨rfl, (Below.refl _ _).alloc (Nat.le_refl _) _⟩
set_option maxRecDepth 100000 in
set_option maxHeartbeats 1000000 in
theorem has_2a (op : Nat) (n : Int) (nm : ByteArray) (ao : Option Addr) (len cap : Nat) (w : World) (e1 : ((op : Int) == 1) = false) (e2 : ((op : Int) == 2) = true) (h0 : (n == 0) = false) (h1 : (n == 1) = false) : Calls Tryd.prog 43 #[.agg #[.int .u8 (op : Int), .int .i64 n, .string nm, .slice ao len cap]] w fun e w' => e = .returned (.bool false) ∧ Below w.heap.size w w' := by
  go_enter Tryd.func43, Tryd.ntmps43
  go_wp2
  go_ret
  exact ⟨rfl, (Below.refl _ _).alloc (Nat.le_refl _) _⟩
set_option maxRecDepth 100000 in
set_option maxHeartbeats 1000000 in
theorem has_2bn (op : Nat) (n : Int) (nm : ByteArray) (ao : Option Addr) (len cap : Nat) (w : World) (e1 : ((op : Int) == 1) = false) (e2 : ((op : Int) == 2) = true) (h0 : (n == 0) = true) (he : nm.toList.isEmpty = false) : Calls Tryd.prog 43 #[.agg #[.int .u8 (op : Int), .int .i64 n, .string nm, .slice ao len cap]] w fun e w' => e = .returned (.bool false) ∧ Below w.heap.size w w' := by
  go_enter Tryd.func43, Tryd.ntmps43
  go_wp2
  go_ret
  exact ⟨rfl, (Below.refl _ _).alloc (Nat.le_refl _) _⟩
set_option maxRecDepth 100000 in
set_option maxHeartbeats 1000000 in
theorem has_2be (op : Nat) (n : Int) (nm : ByteArray) (ao : Option Addr) (len cap : Nat) (w : World) (e1 : ((op : Int) == 1) = false) (e2 : ((op : Int) == 2) = true) (h0 : (n == 0) = true) (he : nm.toList.isEmpty = true) : Calls Tryd.prog 43 #[.agg #[.int .u8 (op : Int), .int .i64 n, .string nm, .slice ao len cap]] w fun e w' => e = .returned (.bool ((len : Int) == 0)) ∧ Below w.heap.size w w' := by
  go_enter Tryd.func43, Tryd.ntmps43
  go_wp2
  go_ret
  exact ⟨rfl, (Below.refl _ _).alloc (Nat.le_refl _) _⟩
set_option maxRecDepth 100000 in
set_option maxHeartbeats 1000000 in
theorem has_2cn (op : Nat) (n : Int) (nm : ByteArray) (ao : Option Addr) (len cap : Nat) (w : World) (e1 : ((op : Int) == 1) = false) (e2 : ((op : Int) == 2) = true) (h0 : (n == 0) = false) (h1 : (n == 1) = true) (he : nm.toList.isEmpty = false) : Calls Tryd.prog 43 #[.agg #[.int .u8 (op : Int), .int .i64 n, .string nm, .slice ao len cap]] w fun e w' => e = .returned (.bool false) ∧ Below w.heap.size w w' := by
  go_enter Tryd.func43, Tryd.ntmps43
  go_wp2
  go_ret
  exact ⟨rfl, (Below.refl _ _).alloc (Nat.le_refl _) _⟩
set_option maxRecDepth 100000 in
set_option maxHeartbeats 1000000 in
theorem has_2ce (op : Nat) (n : Int) (nm : ByteArray) (ao : Option Addr) (len cap : Nat) (w : World) (e1 : ((op : Int) == 1) = false) (e2 : ((op : Int) == 2) = true) (h0 : (n == 0) = false) (h1 : (n == 1) = true) (he : nm.toList.isEmpty = true) : Calls Tryd.prog 43 #[.agg #[.int .u8 (op : Int), .int .i64 n, .string nm, .slice ao len cap]] w fun e w' => e = .returned (.bool ((len : Int) == 0)) ∧ Below w.heap.size w w' := by
  go_enter Tryd.func43, Tryd.ntmps43
  go_wp2
  go_ret
  exact ⟨rfl, (Below.refl _ _).alloc (Nat.le_refl _) _⟩
set_option maxRecDepth 100000 in
set_option maxHeartbeats 1000000 in
theorem has_3a (op : Nat) (n : Int) (nm : ByteArray) (ao : Option Addr) (len cap : Nat) (w : World) (e1 : ((op : Int) == 1) = false) (e2 : ((op : Int) == 2) = false) (e3 : ((op : Int) == 3) = true) (h0 : (n == 0) = false) : Calls Tryd.prog 43 #[.agg #[.int .u8 (op : Int), .int .i64 n, .string nm, .slice ao len cap]] w fun e w' => e = .returned (.bool false) ∧ Below w.heap.size w w' := by
  go_enter Tryd.func43, Tryd.ntmps43
  go_wp2
  go_ret
  exact ⟨rfl, (Below.refl _ _).alloc (Nat.le_refl _) _⟩
set_option maxRecDepth 100000 in
set_option maxHeartbeats 1000000 in
theorem has_3b (op : Nat) (n : Int) (nm : ByteArray) (ao : Option Addr) (len cap : Nat) (w : World) (e1 : ((op : Int) == 1) = false) (e2 : ((op : Int) == 2) = false) (e3 : ((op : Int) == 3) = true) (h0 : (n == 0) = true) (c : ∀ W, TabR W → Calls Tryd.prog 60 #[.string nm] W fun e w' => e = .returned (.bool false) ∧ Below W.heap.size W w') (hR : Hid (TabR w)) : Calls Tryd.prog 43 #[.agg #[.int .u8 (op : Int), .int .i64 n, .string nm, .slice ao len cap]] w fun e w' => e = .returned (.bool false) ∧ Below w.heap.size w w' := by
  go_enter Tryd.func43, Tryd.ntmps43
  go_wp2_with (go_at_call 60; refine (c _ (hR.out.below ((Below.refl _ _).alloc (Nat.le_refl _) _))).mono ?_; rintro e w2 ⟨rfl, hb2⟩)
  go_ret
  exact ⟨rfl, bstep ((Below.refl _ _).alloc (Nat.le_refl _) _) hb2⟩
set_option maxRecDepth 100000 in
set_option maxHeartbeats 1000000 in
theorem has_3c (op : Nat) (n : Int) (nm : ByteArray) (ao : Option Addr) (len cap : Nat) (w : World) (e1 : ((op : Int) == 1) = false) (e2 : ((op : Int) == 2) = false) (e3 : ((op : Int) == 3) = true) (h0 : (n == 0) = true) (c : ∀ W, TabR W → Calls Tryd.prog 60 #[.string nm] W fun e w' => e = .returned (.bool true) ∧ Below W.heap.size W w') (hR : Hid (TabR w)) : Calls Tryd.prog 43 #[.agg #[.int .u8 (op : Int), .int .i64 n, .string nm, .slice ao len cap]] w fun e w' => e = .returned (.bool ((len : Int) == 0)) ∧ Below w.heap.size w w' := by
  go_enter Tryd.func43, Tryd.ntmps43
  go_wp2_with (go_at_call 60; refine (c _ (hR.out.below ((Below.refl _ _).alloc (Nat.le_refl _) _))).mono ?_; rintro e w2 ⟨rfl, hb2⟩; have bx := fun j v (h : (w.alloc (.cells #[.int .u8 (op : Int), .int .i64 n, .string nm, .slice ao len cap] 26)).cell? ⟨w.heap.size, j, none⟩ = some v) => cell_kept h hb2; have x3 := bx 3 (.slice ao len cap) (by rw [World.cell?_alloc_at _ _ _ _ rfl]; rfl); clear bx)
  go_ret
  exact ⟨rfl, bstep ((Below.refl _ _).alloc (Nat.le_refl _) _) hb2⟩
set_option maxRecDepth 100000 in
set_option maxHeartbeats 1000000 in
theorem has_4a (op : Nat) (n : Int) (nm : ByteArray) (ao : Option Addr) (len cap : Nat) (w : World) (e1 : ((op : Int) == 1) = false) (e2 : ((op : Int) == 2) = false) (e3 : ((op : Int) == 3) = false) (p : Nat) (c : ∀ W, TabJ W → Calls Tryd.prog 66 #[.int .u8 (op : Int)] W fun e w' => e = .returned (.int .i64 (p : Int)) ∧ Below W.heap.size W w') (hJ : Hid (TabJ w)) (hp : ¬ (0 : Int) < (p : Int)) : Calls Tryd.prog 43 #[.agg #[.int .u8 (op : Int), .int .i64 n, .string nm, .slice ao len cap]] w fun e w' => e = .returned (.bool false) ∧ Below w.heap.size w w' := by
  go_enter Tryd.func43, Tryd.ntmps43
  go_wp2_with (go_at_call 66; refine (c _ (hJ.out.below ((Below.refl _ _).alloc (Nat.le_refl _) _))).mono ?_; rintro e w2 ⟨rfl, hb2⟩)
  go_ret
  exact ⟨rfl, bstep ((Below.refl _ _).alloc (Nat.le_refl _) _) hb2⟩
set_option maxRecDepth 100000 in
set_option maxHeartbeats 1000000 in
theorem has_4b (op : Nat) (n : Int) (nm : ByteArray) (ao : Option Addr) (len cap : Nat) (w : World) (e1 : ((op : Int) == 1) = false) (e2 : ((op : Int) == 2) = false) (e3 : ((op : Int) == 3) = false) (p : Nat) (c : ∀ W, TabJ W → Calls Tryd.prog 66 #[.int .u8 (op : Int)] W fun e w' => e = .returned (.int .i64 (p : Int)) ∧ Below W.heap.size W w') (hJ : Hid (TabJ w)) (hp : (0 : Int) < (p : Int)) (h0 : (n == 0) = false) : Calls Tryd.prog 43 #[.agg #[.int .u8 (op : Int), .int .i64 n, .string nm, .slice ao len cap]] w fun e w' => e = .returned (.bool false) ∧ Below w.heap.size w w' := by
  go_enter Tryd.func43, Tryd.ntmps43
  go_wp2_with (go_at_call 66; refine (c _ (hJ.out.below ((Below.refl _ _).alloc (Nat.le_refl _) _))).mono ?_; rintro e w2 ⟨rfl, hb2⟩; have bx := fun j v (h : (w.alloc (.cells #[.int .u8 (op : Int), .int .i64 n, .string nm, .slice ao len cap] 26)).cell? ⟨w.heap.size, j, none⟩ = some v) => cell_kept h hb2; have x1 := bx 1 (.int .i64 n) (by rw [World.cell?_alloc_at _ _ _ _ rfl]; rfl); have x2 := bx 2 (.string nm) (by rw [World.cell?_alloc_at _ _ _ _ rfl]; rfl); have x3 := bx 3 (.slice ao len cap) (by rw [World.cell?_alloc_at _ _ _ _ rfl]; rfl); clear bx)
  go_ret
  exact ⟨rfl, bstep ((Below.refl _ _).alloc (Nat.le_refl _) _) hb2⟩
set_option maxRecDepth 100000 in
set_option maxHeartbeats 1000000 in
theorem has_4c (op : Nat) (n : Int) (nm : ByteArray) (ao : Option Addr) (len cap : Nat) (w : World) (e1 : ((op : Int) == 1) = false) (e2 : ((op : Int) == 2) = false) (e3 : ((op : Int) == 3) = false) (p : Nat) (c : ∀ W, TabJ W → Calls Tryd.prog 66 #[.int .u8 (op : Int)] W fun e w' => e = .returned (.int .i64 (p : Int)) ∧ Below W.heap.size W w') (hJ : Hid (TabJ w)) (hp : (0 : Int) < (p : Int)) (h0 : (n == 0) = true) (he : nm.toList.isEmpty = false) : Calls Tryd.prog 43 #[.agg #[.int .u8 (op : Int), .int .i64 n, .string nm, .slice ao len cap]] w fun e w' => e = .returned (.bool false) ∧ Below w.heap.size w w' := by
  go_enter Tryd.func43, Tryd.ntmps43
  go_wp2_with (go_at_call 66; refine (c _ (hJ.out.below ((Below.refl _ _).alloc (Nat.le_refl _) _))).mono ?_; rintro e w2 ⟨rfl, hb2⟩; have bx := fun j v (h : (w.alloc (.cells #[.int .u8 (op : Int), .int .i64 n, .string nm, .slice ao len cap] 26)).cell? ⟨w.heap.size, j, none⟩ = some v) => cell_kept h hb2; have x1 := bx 1 (.int .i64 n) (by rw [World.cell?_alloc_at _ _ _ _ rfl]; rfl); have x2 := bx 2 (.string nm) (by rw [World.cell?_alloc_at _ _ _ _ rfl]; rfl); have x3 := bx 3 (.slice ao len cap) (by rw [World.cell?_alloc_at _ _ _ _ rfl]; rfl); clear bx)
  go_ret
  exact ⟨rfl, bstep ((Below.refl _ _).alloc (Nat.le_refl _) _) hb2⟩
set_option maxRecDepth 100000 in
set_option maxHeartbeats 1000000 in
theorem has_4d (op : Nat) (n : Int) (nm : ByteArray) (ao : Option Addr) (len cap : Nat) (w : World) (e1 : ((op : Int) == 1) = false) (e2 : ((op : Int) == 2) = false) (e3 : ((op : Int) == 3) = false) (p : Nat) (c : ∀ W, TabJ W → Calls Tryd.prog 66 #[.int .u8 (op : Int)] W fun e w' => e = .returned (.int .i64 (p : Int)) ∧ Below W.heap.size W w') (hJ : Hid (TabJ w)) (hp : (0 : Int) < (p : Int)) (h0 : (n == 0) = true) (he : nm.toList.isEmpty = true) : Calls Tryd.prog 43 #[.agg #[.int .u8 (op : Int), .int .i64 n, .string nm, .slice ao len cap]] w fun e w' => e = .returned (.bool ((len : Int) == (p : Int))) ∧ Below w.heap.size w w' := by
  go_enter Tryd.func43, Tryd.ntmps43
  go_wp2_with (go_at_call 66; refine (c _ (hJ.out.below ((Below.refl _ _).alloc (Nat.le_refl _) _))).mono ?_; rintro e w2 ⟨rfl, hb2⟩; have bx := fun j v (h : (w.alloc (.cells #[.int .u8 (op : Int), .int .i64 n, .string nm, .slice ao len cap] 26)).cell? ⟨w.heap.size, j, none⟩ = some v) => cell_kept h hb2; have x1 := bx 1 (.int .i64 n) (by rw [World.cell?_alloc_at _ _ _ _ rfl]; rfl); have x2 := bx 2 (.string nm) (by rw [World.cell?_alloc_at _ _ _ _ rfl]; rfl); have x3 := bx 3 (.slice ao len cap) (by rw [World.cell?_alloc_at _ _ _ _ rfl]; rfl); clear bx)
  go_ret
  exact ⟨rfl, bstep ((Below.refl _ _).alloc (Nat.le_refl _) _) hb2⟩
theorem len_eq (a b : Nat) : ((a : Int) == (b : Int)) = decide (a = b) := by
  by_cases h : a = b
  · rw [eqN h, decide_eq_true h]
  · rw [neN h, decide_eq_false h]
theorem len_zero' (a : Nat) : ((a : Int) == 0) = decide (a = 0) := len_eq a 0
/-- hasItsFields. -/
theorem hasIts (op : Nat) (n : Int) (nm : ByteArray) (ao : Option Addr) (len cap : Nat) (w : World) (hR : TabR w) (hJ : TabJ w) :
    Calls Tryd.prog 43 #[.agg #[.int .u8 (op : Int), .int .i64 n, .string nm, .slice ao len cap]] w fun e w' => e = .returned (.bool (fieldsOk op n nm len)) ∧ Below w.heap.size w w' := by
  unfold fieldsOk
  by_cases h1 : op = 1
  · rw [if_pos h1]
    have e1 := eqN (b := 1) h1
    by_cases h0 : 0 ≤ n
    · rw [decide_eq_true h0, Bool.true_and]
      by_cases hm : nm.size = 0
      · rw [decide_eq_true hm, Bool.true_and, ← len_zero']; exact has_1c op n nm ao len cap w e1 h0 (empty_yes hm)
      · rw [decide_eq_false hm, Bool.false_and]; exact has_1b op n nm ao len cap w e1 h0 (empty_no hm)
    · rw [decide_eq_false h0, Bool.false_and]; exact has_1a op n nm ao len cap w e1 h0
  · rw [if_neg h1]
    have e1 := neN (b := 1) h1
    by_cases h2 : op = 2
    · rw [if_pos h2]
      have e2 := eqN (b := 2) h2
      by_cases h0 : n = 0
      · rw [decide_eq_true h0, Bool.true_or, Bool.true_and]
        by_cases hm : nm.size = 0
        · rw [decide_eq_true hm, Bool.true_and, ← len_zero']; exact has_2be op n nm ao len cap w e1 e2 (ieq h0) (empty_yes hm)
        · rw [decide_eq_false hm, Bool.false_and]; exact has_2bn op n nm ao len cap w e1 e2 (ieq h0) (empty_no hm)
      · rw [decide_eq_false h0, Bool.false_or]
        by_cases h01 : n = 1
        · rw [decide_eq_true h01, Bool.true_and]
          by_cases hm : nm.size = 0
          · rw [decide_eq_true hm, Bool.true_and, ← len_zero']; exact has_2ce op n nm ao len cap w e1 e2 (ine h0) (ieq h01) (empty_yes hm)
          · rw [decide_eq_false hm, Bool.false_and]; exact has_2cn op n nm ao len cap w e1 e2 (ine h0) (ieq h01) (empty_no hm)
        · rw [decide_eq_false h01, Bool.false_and]; exact has_2a op n nm ao len cap w e1 e2 (ine h0) (ine h01)
    · rw [if_neg h2]
      have e2 := neN (b := 2) h2
      by_cases h3 : op = 3
      · rw [if_pos h3]
        have e3 := eqN (b := 3) h3
        by_cases h0 : n = 0
        · rw [decide_eq_true h0, Bool.true_and]
          have c := fun W hT => name nm W hT
          cases hb : isName nm
          · rw [hb] at c; rw [Bool.false_and]; exact has_3b op n nm ao len cap w e1 e2 e3 (ieq h0) c hR
          · rw [hb] at c; rw [Bool.true_and, ← len_zero']; exact has_3c op n nm ao len cap w e1 e2 e3 (ieq h0) c hR
        · rw [decide_eq_false h0, Bool.false_and]; exact has_3a op n nm ao len cap w e1 e2 e3 (ine h0)
      · rw [if_neg h3]
        have e3 := neN (b := 3) h3
        have c := fun W hT => partsOf op W hT
        generalize parts op = p at c
        by_cases hp : 0 < p
        · have hp' : (0 : Int) < (p : Int) := by omega
          rw [decide_eq_true hp, Bool.true_and]
          by_cases h0 : n = 0
          · rw [decide_eq_true h0, Bool.true_and]
            by_cases hm : nm.size = 0
            · rw [decide_eq_true hm, Bool.true_and, ← len_eq]; exact has_4d op n nm ao len cap w e1 e2 e3 p c hJ hp' (ieq h0) (empty_yes hm)
            · rw [decide_eq_false hm, Bool.false_and]; exact has_4c op n nm ao len cap w e1 e2 e3 p c hJ hp' (ieq h0) (empty_no hm)
          · rw [decide_eq_false h0, Bool.false_and]; exact has_4b op n nm ao len cap w e1 e2 e3 p c hJ hp' (ine h0)
        · rw [decide_eq_false hp, Bool.false_and]; exact has_4a op n nm ao len cap w e1 e2 e3 p c hJ (by omega)
end Go.Proofs.YtkieljleopbhoabDoor.Lex
namespace Go.Proofs.YtkieljleopbhoabDoor.Lex
open Go.ChangeShapes Go.WideShapes Go.ChangeAt Go.RowKit Go.Joins
/-- How great parts are behind so many, where at most so many may be. -/
def szL (f : Nat → Ex → Option Nat) (most : Nat) : Nat → List Ex → Option Nat
  | n, [] => some n
  | n, a :: l => match f (most - n) a with
    | none => none
    | some k => szL f most (n + k) l
/-- How great it is, if it may be, so deep and so great at most. -/
def sz : Nat → Nat → Ex → Option Nat
  | 0, _, _ => none
  | d + 1, most, x => if most = 0 ∨ fieldsOk x.op x.n x.name x.args.length = false then none else szL (sz d) most 1 x.args
theorem szL_le {f : Nat → Ex → Option Nat} (hf : ∀ m a k, f m a = some k → 1 ≤ k ∧ k ≤ m) (most : Nat) : ∀ (l : List Ex) (n r : Nat), n ≤ most → szL f most n l = some r → n ≤ r ∧ r ≤ most
  | [], n, r, hn, h => by simp only [szL, Option.some.injEq] at h; omega
  | a :: l, n, r, hn, h => by
    simp only [szL] at h
    cases e : f (most - n) a with
    | none => rw [e] at h; cases h
    | some k =>
      rw [e] at h
      have := hf _ _ _ e
      have := szL_le hf most l (n + k) r (by omega) h
      omega
theorem sz_le : ∀ (d most : Nat) (x : Ex) (k : Nat), sz d most x = some k → 1 ≤ k ∧ k ≤ most
  | 0, most, x, k, h => by simp [sz] at h
  | d + 1, most, x, k, h => by
    rw [sz] at h
    split at h
    · cases h
    · next hn => exact szL_le (fun m a k => sz_le d m a k) most x.args 1 k (by omega) h
/-- May it be? -/
def chk (x : Ex) : Bool := (sz 32 200 x).isSome
theorem set_same {w : World} {b : Nat} {c : Array Value} {t : TypeId} {f : Nat × Nat} (h : w.heap[b]? = some (.cells c t f)) (i : Nat) (u : Value) :
    (w.setCell ⟨b, i, none⟩ u).heap[b]? = some (.cells (c.setIfInBounds i u) t f) := by
  obtain ⟨hlt, hk⟩ := Array.getElem?_eq_some_iff.1 h
  show (w.heap.modify b _)[b]? = _
  rw [Array.getElem?_eq_getElem (by rw [Array.size_modify]; exact hlt), Array.getElem_modify_self, hk]
  rfl
/-- A count in a cell of its own, beyond all that came in. -/
structure Lf (w0 w : World) (b : Nat) (M : Int) (W : World) : Prop where
  base : Below w0.heap.size w0 W
  below : Below b w W
  cell : W.heap[b]? = some (.cells #[.int .i64 M] 3 (0, 0))
theorem Lf.step {w0 w W W' : World} {b : Nat} {M : Int} (h : Lf w0 w b M W) (hb : Below W.heap.size W W') : Lf w0 w b M W' :=
  have hlt := (Array.getElem?_eq_some_iff.1 h.cell).1
  ⟨bstep h.base hb, h.below.trans (hb.mono (by omega)), (hb.block b hlt).trans h.cell⟩
theorem Lf.set {w0 w W : World} {b : Nat} {M : Int} (h : Lf w0 w b M W) (hb : w0.heap.size ≤ b) (M' : Int) : Lf w0 w b M' (W.setCell ⟨b, 0, none⟩ (.int .i64 M')) :=
  ⟨h.base.setCell (p := ⟨b, 0, none⟩) hb _, h.below.setCell (p := ⟨b, 0, none⟩) (Nat.le_refl _) _, set_same h.cell 0 _⟩
theorem Lf.at {w0 w W : World} {b : Nat} {M : Int} (h : Lf w0 w b M W) : W.cell? ⟨b, 0, none⟩ = some (.int .i64 M) ∧ W.frozen? ⟨b, 0, none⟩ = false :=
  ⟨by rw [cell_of_row _ _ _ _ 3 (0, 0) h.cell]; rfl, frozen_of_row _ _ _ _ _ h.cell⟩
/-- What fits answers. -/
def FitC (d : Nat) : Prop := ∀ (x : Ex) (w0 w : World) (s : Value) (b L : Nat), L ≤ 200 → St w0 x s → Below w0.heap.size w0 w → w0.heap.size ≤ b → w.heap[b]? = some (.cells #[.int .i64 (L : Int)] 3 (0, 0)) → TabR w0 → TabJ w0 →
  Calls Tryd.prog 21 #[exV x s, .int .i64 (d : Int), .pointer (some ⟨b, 0, none⟩)] w fun e w' => e = .returned (.bool (sz d L x).isSome) ∧ Below b w w' ∧ ∀ k, sz d L x = some k → Lf w0 w b ((L : Int) - (k : Int)) w'
/-- The cells of a value in a box. -/
theorem box_at (w : World) (c : Array Value) (t : TypeId) (j : Nat) (v : Value) (h : c[j]? = some v) : (w.alloc (.cells c t)).cell? ⟨w.heap.size, j, none⟩ = some v := by
  rw [World.cell?_alloc_at _ _ _ _ rfl]; exact h
set_option maxRecDepth 100000 in
set_option maxHeartbeats 1000000 in
theorem fits_zero : FitC 0 := by
  intro x w0 w s b L hL hS hB hb hc hR hJ
  obtain ⟨ao, cap, sl, rfl, _⟩ := hS.out
  have hsz : sz 0 L x = none := by simp [sz]
  have l0 : Lf w0 w b (L : Int) (w.alloc (.cells #[.int .u8 (x.op : Int), .int .i64 x.n, .string x.name, .slice ao x.args.length cap] 26)) := Lf.step ⟨hB, Below.refl _ _, hc⟩ ((Below.refl _ _).alloc (Nat.le_refl _) _)
  have l1 := l0.set hb ((L : Int) - 1)
  obtain ⟨y0, y1⟩ := l0.at
  rw [hsz]
  have H1 := hid l1.below
  clear l0 l1 hc hsz hS hR hJ hB
  go_enter Tryd.func21, Tryd.ntmps21
  go_wp2
  go_ret
  exact ⟨rfl, H1.out, fun k h => by cases h⟩
set_option maxRecDepth 100000 in
set_option maxHeartbeats 1000000 in
theorem fits_none (d : Nat) (hd : d + 1 ≤ 32) : ∀ (x : Ex) (w0 w : World) (s : Value) (b : Nat), St w0 x s → Below w0.heap.size w0 w → w0.heap.size ≤ b → w.heap[b]? = some (.cells #[.int .i64 ((0 : Nat) : Int)] 3 (0, 0)) →
    Calls Tryd.prog 21 #[exV x s, .int .i64 ((d + 1 : Nat) : Int), .pointer (some ⟨b, 0, none⟩)] w fun e w' => e = .returned (.bool false) ∧ Below b w w' := by
  intro x w0 w s b hS hB hb hc
  obtain ⟨ao, cap, sl, rfl, _⟩ := hS.out
  have l0 : Lf w0 w b ((0 : Nat) : Int) (w.alloc (.cells #[.int .u8 (x.op : Int), .int .i64 x.n, .string x.name, .slice ao x.args.length cap] 26)) := Lf.step ⟨hB, Below.refl _ _, hc⟩ ((Below.refl _ _).alloc (Nat.le_refl _) _)
  have l1 := l0.set hb (-1)
  obtain ⟨y0, y1⟩ := l0.at
  obtain ⟨y2, _⟩ := l1.at
  have H1 := hid l1.below
  have hd0 : (((d + 1 : Nat) : Int) == 0) = false := by simp; omega
  generalize hD : ((d + 1 : Nat) : Int) = D at *
  clear l0 l1 hc hS hB hD
  go_enter Tryd.func21, Tryd.ntmps21
  go_wp2
  go_ret
  exact ⟨rfl, H1.out⟩
set_option maxRecDepth 100000 in
set_option maxHeartbeats 1000000 in
theorem fits_bad (d : Nat) (hd : d + 1 ≤ 32) : ∀ (x : Ex) (w0 w : World) (s : Value) (b L : Nat), 1 ≤ L → L ≤ 200 → St w0 x s → Below w0.heap.size w0 w → w0.heap.size ≤ b → w.heap[b]? = some (.cells #[.int .i64 (L : Int)] 3 (0, 0)) → TabR w0 → TabJ w0 → fieldsOk x.op x.n x.name x.args.length = false →
    Calls Tryd.prog 21 #[exV x s, .int .i64 ((d + 1 : Nat) : Int), .pointer (some ⟨b, 0, none⟩)] w fun e w' => e = .returned (.bool false) ∧ Below b w w' := by
  intro x w0 w s b L h1 hL hS hB hb hc hR hJ hf
  obtain ⟨ao, cap, sl, rfl, _⟩ := hS.out
  have l0 : Lf w0 w b (L : Int) (w.alloc (.cells #[.int .u8 (x.op : Int), .int .i64 x.n, .string x.name, .slice ao x.args.length cap] 26)) := Lf.step ⟨hB, Below.refl _ _, hc⟩ ((Below.refl _ _).alloc (Nat.le_refl _) _)
  have l1 := l0.set hb ((L : Int) - 1)
  obtain ⟨y0, y1⟩ := l0.at
  obtain ⟨y2, _⟩ := l1.at
  have c := hasIts x.op x.n x.name ao x.args.length cap _ (hR.below l1.base) (hJ.below l1.base)
  rw [hf] at c
  have H1 := hid l1
  have hd0 : (((d + 1 : Nat) : Int) == 0) = false := by simp; omega
  have hL1 : ¬ (L : Int) - 1 < 0 := by omega
  have hne : w.heap.size ≠ b := by have := (Array.getElem?_eq_some_iff.1 hc).1; omega
  have xb : ∀ j v, (#[.int .u8 (x.op : Int), .int .i64 x.n, .string x.name, .slice ao x.args.length cap] : Array Value)[j]? = some v → ((w.alloc (.cells #[.int .u8 (x.op : Int), .int .i64 x.n, .string x.name, .slice ao x.args.length cap] 26)).setCell ⟨b, 0, none⟩ (.int .i64 ((L : Int) - 1))).cell? ⟨w.heap.size, j, none⟩ = some v := fun j v h => by
    rw [World.cell?_of_block (w := w.alloc (.cells #[.int .u8 (x.op : Int), .int .i64 x.n, .string x.name, .slice ao x.args.length cap] 26)) (Below.heap_setCell _ _ _ _ hne)]
    exact box_at w _ 26 j v h
  have x0 := xb 0 _ rfl
  have x1 := xb 1 _ rfl
  have x2 := xb 2 _ rfl
  have x3 := xb 3 _ rfl
  generalize hW : (w.alloc (.cells #[.int .u8 (x.op : Int), .int .i64 x.n, .string x.name, .slice ao x.args.length cap] 26)).setCell ⟨b, 0, none⟩ (.int .i64 ((L : Int) - 1)) = W1 at *
  generalize hD : ((d + 1 : Nat) : Int) = D at *
  clear l0 l1 hc hS hB hR hJ hD hf xb hne
  go_enter Tryd.func21, Tryd.ntmps21
  go_wp2_with (go_at_call 43; refine c.mono ?_; rintro e w3 ⟨rfl, hb3⟩)
  go_ret
  exact ⟨rfl, (H1.out.step hb3).below⟩
set_option maxRecDepth 100000 in
set_option maxHeartbeats 2000000 in
theorem fits_ok (d : Nat) (hd : d + 1 ≤ 32) (ih : FitC d) : ∀ (x : Ex) (w0 w : World) (s : Value) (b L : Nat), 1 ≤ L → L ≤ 200 → St w0 x s → Below w0.heap.size w0 w → w0.heap.size ≤ b → w.heap[b]? = some (.cells #[.int .i64 (L : Int)] 3 (0, 0)) → TabR w0 → TabJ w0 → fieldsOk x.op x.n x.name x.args.length = true →
    Calls Tryd.prog 21 #[exV x s, .int .i64 ((d + 1 : Nat) : Int), .pointer (some ⟨b, 0, none⟩)] w fun e w' => e = .returned (.bool (szL (sz d) L 1 x.args).isSome) ∧ Below b w w' ∧ ∀ k, szL (sz d) L 1 x.args = some k → Lf w0 w b ((L : Int) - (k : Int)) w' := by
  intro x w0 w s b L h1 hL hS hB hb hc hR hJ hf
  obtain ⟨ao, cap, sl, rfl, _, _, _, hlen, _, hcs, hss⟩ := hS.out
  have l0 : Lf w0 w b (L : Int) (w.alloc (.cells #[.int .u8 (x.op : Int), .int .i64 x.n, .string x.name, .slice ao x.args.length cap] 26)) := Lf.step ⟨hB, Below.refl _ _, hc⟩ ((Below.refl _ _).alloc (Nat.le_refl _) _)
  have l1 := l0.set hb ((L : Int) - 1)
  obtain ⟨y0, y1⟩ := l0.at
  obtain ⟨y2, _⟩ := l1.at
  have c := hasIts x.op x.n x.name ao x.args.length cap _ (hR.below l1.base) (hJ.below l1.base)
  rw [hf] at c
  have H1 := hid l1
  have hd0 : (((d + 1 : Nat) : Int) == 0) = false := by simp; omega
  have hD1 : ((d + 1 : Nat) : Int) - 1 = (d : Int) := by omega
  have hD2 : ((d + 1 : Nat) : Int) ≤ 32 ∧ 0 ≤ ((d + 1 : Nat) : Int) := by omega
  have hL1 : ¬ (L : Int) - 1 < 0 := by omega
  have hne : w.heap.size ≠ b := by have := (Array.getElem?_eq_some_iff.1 hc).1; omega
  have xb : ∀ j v, (#[.int .u8 (x.op : Int), .int .i64 x.n, .string x.name, .slice ao x.args.length cap] : Array Value)[j]? = some v → ((w.alloc (.cells #[.int .u8 (x.op : Int), .int .i64 x.n, .string x.name, .slice ao x.args.length cap] 26)).setCell ⟨b, 0, none⟩ (.int .i64 ((L : Int) - 1))).cell? ⟨w.heap.size, j, none⟩ = some v := fun j v h => by
    rw [World.cell?_of_block (w := w.alloc (.cells #[.int .u8 (x.op : Int), .int .i64 x.n, .string x.name, .slice ao x.args.length cap] 26)) (Below.heap_setCell _ _ _ _ hne)]
    exact box_at w _ 26 j v h
  have x0 := xb 0 _ rfl
  have x1 := xb 1 _ rfl
  have x2 := xb 2 _ rfl
  have x3 := xb 3 _ rfl
  generalize hW : (w.alloc (.cells #[.int .u8 (x.op : Int), .int .i64 x.n, .string x.name, .slice ao x.args.length cap] 26)).setCell ⟨b, 0, none⟩ (.int .i64 ((L : Int) - 1)) = W1 at *
  generalize hD : ((d + 1 : Nat) : Int) = D at *
  have HS := hid hss
  have HC := hid hcs
  have HI := hid ih
  have HR := hid hR
  have HJ := hid hJ
  obtain ⟨hD3, hD4⟩ := hD2
  clear l0 l1 hc hS hB hR hJ hD hf xb hne hss hcs ih
  go_enter Tryd.func21, Tryd.ntmps21
  go_wp2_with (go_at_call 43; refine c.mono ?_; rintro e w3 ⟨rfl, hb3⟩; have z3 := cell_kept x3 hb3; have L3 := hid (H1.out.step hb3); clear hb3 c x0 x1 x2 x3 y0 y1 y2)
  go_loopw [30] (fun i wr => ∃ k n : Nat, k ≤ x.args.length ∧ 1 ≤ n ∧ n ≤ L ∧ i = .int .i64 (k : Int) ∧ Hid (szL (sz d) L 1 x.args = szL (sz d) L n (x.args.drop k)) ∧ Hid (Lf w0 w b ((L : Int) - (n : Int)) wr)) (fun i _ => x.args.length - (intOf i).toNat)
  case atStart => exact ⟨0, 1, Nat.zero_le _, Nat.le_refl _, h1, rfl, by simp [Hid], L3⟩
  case round =>
    obtain ⟨k, n, hk, hn1, hnL, rfl, hE, hB⟩ := hrel
    by_cases hlt : k < x.args.length
    · have hlt' : (k : Int) < (x.args.length : Int) := by omega
      have hk0 : (0 : Int) ≤ (k : Int) := by omega
      obtain ⟨bb, o, rfl, hcc⟩ := HC.out.resolve_left (by omega)
      obtain ⟨a0, a1, a2, a3⟩ := hcc k hlt
      have v0 := cell_kept a0 hB.out.base
      have v1 := cell_kept a1 hB.out.base
      have v2 := cell_kept a2 hB.out.base
      have v3 := cell_kept a3 hB.out.base
      have hdr : x.args.drop k = x.args[k] :: x.args.drop (k + 1) := List.drop_eq_getElem_cons hlt
      have hE' := hE.out
      rw [hdr, szL] at hE'
      have HE := hid hE'
      have hst := HS.out k hlt
      clear a0 a1 a2 a3 hcc hdr hE' hE
      generalize x.args[k] = y at *
      obtain ⟨sv, hsv⟩ : ∃ sv, sl k = sv := ⟨_, rfl⟩
      rw [hsv] at v3 hst
      obtain ⟨ak, ck, _, rfl, _⟩ := hst.out
      clear hsv
      have lA : Lf w0 w b ((L : Int) - (n : Int)) (wr.alloc (.cells #[.int .u8 (y.op : Int), .int .i64 y.n, .string y.name, .slice ak y.args.length ck] 26)) := hB.out.step ((Below.refl _ _).alloc (Nat.le_refl _) _)
      have hlL : ((L - n : Nat) : Int) = (L : Int) - (n : Int) := by omega
      have cc := HI.out y w0 _ _ b (L - n) (by omega) hst lA.base hb (by rw [hlL]; exact lA.cell) HR.out HJ.out
      have LA := hid lA
      clear lA hst
      cases hz : sz d (L - n) y with
      | none =>
        rw [hz] at cc HE
        have hnone : Hid (szL (sz d) L 1 x.args = none) := HE.out
        go_wp2_with (go_at_call 21; refine cc.mono ?_; rintro e w4 ⟨rfl, hb4, _⟩)
        go_ret
        exact ⟨by rw [hnone.out]; rfl, LA.out.below.trans hb4, fun k h => by rw [hnone.out] at h; cases h⟩
      | some m =>
        rw [hz] at cc HE
        have hm := sz_le _ _ _ _ hz
        have HM : Hid ((((L - n : Nat) : Int) - (m : Int)) = (L : Int) - ((n + m : Nat) : Int)) := by unfold Hid; omega
        go_wp2_with (go_at_call 21; refine cc.mono ?_; rintro e w4 ⟨rfl, hb4, hl4⟩; have L4 := hid (hl4 m rfl); clear hl4)
        go_roundw
        case rel =>
          have l4 := L4.out
          rw [HM.out] at l4
          exact ⟨k + 1, n + m, by omega, by omega, by omega, by go_num, HE.out, ⟨l4.base, LA.out.below.trans l4.below, l4.cell⟩⟩
        case measure => simp [intOf]; omega
    · have hlt' : ¬ (k : Int) < (x.args.length : Int) := by omega
      have hdr : x.args.drop k = [] := List.drop_eq_nil_of_le (by omega)
      have hE' := hE.out
      rw [hdr, szL] at hE'
      have HE := hid hE'
      clear hE' hdr hE
      go_wp2
      go_ret
      exact ⟨by rw [HE.out]; rfl, hB.out.below, fun j h => by rw [HE.out] at h; injection h with h; subst h; exact hB.out⟩
/-- fits. -/
theorem fits_any : ∀ (d : Nat), d ≤ 32 → FitC d
  | 0, _ => fits_zero
  | d + 1, hd => by
    intro x w0 w s b L hL hS hB hb hc hR hJ
    have ih := fits_any d (by omega)
    by_cases h0 : L = 0
    · subst h0
      have e : sz (d + 1) 0 x = none := by rw [sz, if_pos (.inl rfl)]
      rw [e]
      exact (fits_none d hd x w0 w s b hS hB hb hc).mono fun e w' ⟨h1, h2⟩ => ⟨h1, h2, fun k h => by cases h⟩
    · cases hf : fieldsOk x.op x.n x.name x.args.length with
      | false =>
        have e : sz (d + 1) L x = none := by rw [sz, if_pos (.inr hf)]
        rw [e]
        exact (fits_bad d hd x w0 w s b L (by omega) hL hS hB hb hc hR hJ hf).mono fun e w' ⟨h1, h2⟩ => ⟨h1, h2, fun k h => by cases h⟩
      | true =>
        have e : sz (d + 1) L x = szL (sz d) L 1 x.args := by rw [sz, if_neg (by rw [hf]; simp [h0])]
        rw [e]
        exact fits_ok d hd ih x w0 w s b L (by omega) hL hS hB hb hc hR hJ hf
set_option maxRecDepth 100000 in
/-- Check. -/
theorem check (x : Ex) (w : World) (s : Value) (hS : St w x s) (hR : TabR w) (hJ : TabJ w) : Calls Tryd.prog 10 #[exV x s] w fun e w' => e = .returned (.bool (chk x)) ∧ Below w.heap.size w w' := by
  obtain ⟨ao, cap, sl, rfl, _⟩ := hS.out
  have b1 := (Below.refl w.heap.size w).alloc (Nat.le_refl _) (.cells #[.int .u8 (x.op : Int), .int .i64 x.n, .string x.name, .slice ao x.args.length cap] 26)
  have b2 := bstep b1 ((Below.refl _ _).alloc (Nat.le_refl _) (.cells #[.int .i64 200] 3))
  have c := fits_any 32 (Nat.le_refl _) x w _ _ (w.heap.size + 1) 200 (Nat.le_refl _) hS b2 (by omega) (by
    have h := heap_alloc_new (w.alloc (.cells #[.int .u8 (x.op : Int), .int .i64 x.n, .string x.name, .slice ao x.args.length cap] 26)) (.cells #[.int .i64 200] 3)
    have e : (w.alloc (.cells #[.int .u8 (x.op : Int), .int .i64 x.n, .string x.name, .slice ao x.args.length cap] 26)).heap.size = w.heap.size + 1 := by simp
    rw [e] at h
    exact h) hR hJ
  have H2 := hid b2
  clear hS hR hJ b1 b2
  go_enter Tryd.func10, Tryd.ntmps10
  go_wp2_with (go_at_call 21; refine c.mono ?_; rintro e w3 ⟨rfl, hb3, _⟩)
  go_ret
  exact ⟨rfl, H2.out.trans (hb3.mono (by omega))⟩
end Go.Proofs.YtkieljleopbhoabDoor.Lex
namespace Go.Proofs.YtkieljleopbhoabDoor.Lex
open Go.RowKit
/-- The rank of an operator. -/
def rkOf (op : Nat) : Nat := match jOf op with
  | some r => r.rank
  | none => if op = 17 then 0 else if op = 4 ∨ op = 5 ∨ op = 19 then 6 else 7
/-- In a place that asks for a rank. -/
def put (least rank : Nat) (s : List UInt8) : List UInt8 := if rank < least then 40 :: (s ++ [41]) else s
/-- Behind a minus. -/
def negW (s : List UInt8) : List UInt8 := if Lib.hasPrefix s [45] then 45 :: 32 :: s else 45 :: s
def yesNo (b : Bool) : List UInt8 := if b then [116, 114, 117, 101] else [102, 97, 108, 115, 101]
/-- As it is written. -/
def wr : Ex → List UInt8
  | .mk op n nm [] => if op = 1 then Lib.itoa n else if op = 2 then yesNo (n == 1) else nm.data.toList
  | .mk op _ _ [a] => if op = 4 then negW (put 6 (rkOf a.op) (wr a)) else if op = 5 then [110, 111, 116, 32] ++ put 6 (rkOf a.op) (wr a) else [112, 114, 101, 32] ++ put 6 (rkOf a.op) (wr a)
  | .mk op _ _ [a, b] => put ((jOf op).getD j0).first (rkOf a.op) (wr a) ++ [32] ++ ((jOf op).getD j0).text.data.toList ++ [32] ++ put ((jOf op).getD j0).second (rkOf b.op) (wr b)
  | .mk _ _ _ [a, b, c] => [105, 102, 32] ++ put 0 (rkOf a.op) (wr a) ++ [32, 116, 104, 101, 110, 32] ++ put 0 (rkOf b.op) (wr b) ++ [32, 101, 108, 115, 101, 32] ++ put 0 (rkOf c.op) (wr c)
  | .mk _ _ _ _ => []
theorem wr_leaf {x : Ex} (h : x.args = []) : wr x = if x.op = 1 then Lib.itoa x.n else if x.op = 2 then yesNo (x.n == 1) else x.name.data.toList := by
  obtain ⟨o, n, s, l⟩ := x; cases h; rw [wr]
theorem wr_one {x a : Ex} (h : x.args = [a]) : wr x = if x.op = 4 then negW (put 6 (rkOf a.op) (wr a)) else if x.op = 5 then [110, 111, 116, 32] ++ put 6 (rkOf a.op) (wr a) else [112, 114, 101, 32] ++ put 6 (rkOf a.op) (wr a) := by
  obtain ⟨o, n, s, l⟩ := x; cases h; rw [wr]
theorem wr_two {x a b : Ex} (h : x.args = [a, b]) : wr x = put ((jOf x.op).getD j0).first (rkOf a.op) (wr a) ++ [32] ++ ((jOf x.op).getD j0).text.data.toList ++ [32] ++ put ((jOf x.op).getD j0).second (rkOf b.op) (wr b) := by
  obtain ⟨o, n, s, l⟩ := x; cases h; rw [wr]
theorem wr_three {x a b c : Ex} (h : x.args = [a, b, c]) : wr x = [105, 102, 32] ++ put 0 (rkOf a.op) (wr a) ++ [32, 116, 104, 101, 110, 32] ++ put 0 (rkOf b.op) (wr b) ++ [32, 101, 108, 115, 101, 32] ++ put 0 (rkOf c.op) (wr c) := by
  obtain ⟨o, n, s, l⟩ := x; cases h; rw [wr]
theorem sz_parts {d M k : Nat} {x : Ex} (h : sz (d + 1) M x = some k) : 1 ≤ M ∧ fieldsOk x.op x.n x.name x.args.length = true ∧ szL (sz d) M 1 x.args = some k := by
  rw [sz] at h
  split at h
  · cases h
  · next hn => exact ⟨by omega, by cases e : fieldsOk x.op x.n x.name x.args.length with | true => rfl | false => exact (hn (.inr e)).elim, h⟩
theorem szL_nil {f : Nat → Ex → Option Nat} {M n k : Nat} (h : szL f M n [] = some k) : k = n := by simp only [szL, Option.some.injEq] at h; exact h.symm
theorem szL_cons {f : Nat → Ex → Option Nat} {M n k : Nat} {a : Ex} {l : List Ex} (h : szL f M n (a :: l) = some k) : ∃ ka, f (M - n) a = some ka ∧ szL f M (n + ka) l = some k := by
  simp only [szL] at h
  cases e : f (M - n) a with
  | none => rw [e] at h; cases h
  | some ka => rw [e] at h; exact ⟨ka, rfl, h⟩
/-- What it is, if its fields are fine. -/
theorem fields_cases {op : Nat} {n : Int} {nm : ByteArray} {len : Nat} (h : fieldsOk op n nm len = true) :
    (op = 1 ∧ 0 ≤ n ∧ len = 0) ∨ (op = 2 ∧ (n = 0 ∨ n = 1) ∧ len = 0) ∨ (op = 3 ∧ isName nm = true ∧ len = 0) ∨ ((op = 4 ∨ op = 5 ∨ op = 19) ∧ len = 1) ∨ (op = 17 ∧ len = 3) ∨ ((∃ r, jOf op = some r) ∧ len = 2) := by
  unfold fieldsOk at h
  by_cases h1 : op = 1
  · rw [if_pos h1] at h; simp only [Bool.and_eq_true, decide_eq_true_eq] at h; exact .inl ⟨h1, h.1, h.2.2⟩
  · rw [if_neg h1] at h
    by_cases h2 : op = 2
    · rw [if_pos h2] at h; simp only [Bool.and_eq_true, Bool.or_eq_true, decide_eq_true_eq] at h; exact .inr (.inl ⟨h2, h.1, h.2.2⟩)
    · rw [if_neg h2] at h
      by_cases h3 : op = 3
      · rw [if_pos h3] at h; simp only [Bool.and_eq_true, decide_eq_true_eq] at h; exact .inr (.inr (.inl ⟨h3, h.2.1, h.2.2⟩))
      · rw [if_neg h3] at h
        simp only [Bool.and_eq_true, decide_eq_true_eq] at h
        obtain ⟨hp, _, _, hl⟩ := h
        unfold parts at hp hl
        by_cases h4 : op = 4 ∨ op = 5 ∨ op = 19
        · rw [if_pos h4] at hl; exact .inr (.inr (.inr (.inl ⟨h4, hl⟩)))
        · rw [if_neg h4] at hl hp
          by_cases h5 : op = 17
          · rw [if_pos h5] at hl; exact .inr (.inr (.inr (.inr (.inl ⟨h5, hl⟩))))
          · rw [if_neg h5] at hl hp
            cases hj : jOf op with
            | none => rw [hj] at hp; simp at hp
            | some r => rw [hj] at hl; exact .inr (.inr (.inr (.inr (.inr ⟨⟨r, rfl⟩, hl⟩))))
theorem len0 {l : List Ex} (h : l.length = 0) : l = [] := List.eq_nil_of_length_eq_zero h
theorem len1 {l : List Ex} (h : l.length = 1) : ∃ a, l = [a] := by match l, h with | [a], _ => exact ⟨a, rfl⟩
theorem len2 {l : List Ex} (h : l.length = 2) : ∃ a b, l = [a, b] := by match l, h with | [a, b], _ => exact ⟨a, b, rfl⟩
theorem len3 {l : List Ex} (h : l.length = 3) : ∃ a b c, l = [a, b, c] := by match l, h with | [a, b, c], _ => exact ⟨a, b, c, rfl⟩
theorem put_len (a b : Nat) (s : List UInt8) : (put a b s).length ≤ s.length + 2 := by unfold put; split <;> simp
theorem neg_len (s : List UInt8) : (negW s).length ≤ s.length + 2 := by unfold negW; split <;> simp
theorem yes_len (b : Bool) : (yesNo b).length ≤ 5 := by cases b <;> decide
theorem dec_len : ∀ (k u : Nat), u < 10 ^ (k + 1) → (Lib.decDigits u).length ≤ k + 1
  | 0, u, h => by rw [Lib.decDigits, dif_pos (by omega)]; simp
  | k + 1, u, h => by
    rw [Lib.decDigits]
    split
    · simp
    · have := dec_len k (u / 10) (by rw [Nat.div_lt_iff_lt_mul (by omega)]; rw [Nat.pow_succ] at h; exact h)
      simp; omega
theorem itoa_len {n : Int} (h0 : 0 ≤ n) (h1 : n ≤ 9223372036854775807) : (Lib.itoa n).length ≤ 19 := by
  unfold Lib.itoa
  rw [if_neg (by omega)]
  exact dec_len 18 n.toNat (by have : (10 : Nat) ^ (18 + 1) = 10000000000000000000 := by decide
                               omega)
theorem j_len {op : Nat} {r : J} (h : jOf op = some r) : r.text.data.toList.length ≤ 3 ∧ r.first ≤ 7 ∧ r.second ≤ 7 ∧ r.text.size ≤ 3 := by
  have : ∀ r ∈ JT, r.text.data.toList.length ≤ 3 ∧ r.first ≤ 7 ∧ r.second ≤ 7 ∧ r.text.size ≤ 3 := by decide
  exact this r (List.mem_of_find?_eq_some h)
theorem name_len {s : ByteArray} (h : isName s = true) : s.size ≤ 40 := by
  unfold isName at h
  simp only [Bool.and_eq_true, decide_eq_true_eq] at h
  exact h.2.1
theorem St.part {w : World} {x : Ex} {s : Value} (h : St w x s) (i : Nat) (hi : i < x.args.length) : ∃ t, St w x.args[i] t := by
  obtain ⟨_, _, sl, _, _, _, _, _, _, _, hs⟩ := h.out
  exact ⟨_, hs i hi⟩
theorem St.arg0 {w : World} {x a : Ex} {s : Value} {l : List Ex} (h : St w x s) (he : x.args = a :: l) : ∃ t, St w a t := by
  obtain ⟨t, ht⟩ := h.part 0 (by rw [he]; simp)
  exact ⟨t, by simpa [he] using ht⟩
theorem St.arg1 {w : World} {x a b : Ex} {s : Value} {l : List Ex} (h : St w x s) (he : x.args = a :: b :: l) : ∃ t, St w b t := by
  obtain ⟨t, ht⟩ := h.part 1 (by rw [he]; simp)
  exact ⟨t, by simpa [he] using ht⟩
theorem St.arg2 {w : World} {x a b c : Ex} {s : Value} {l : List Ex} (h : St w x s) (he : x.args = a :: b :: c :: l) : ∃ t, St w c t := by
  obtain ⟨t, ht⟩ := h.part 2 (by rw [he]; simp)
  exact ⟨t, by simpa [he] using ht⟩
/-- How long it is. -/
theorem wr_len : ∀ (d M : Nat) (x : Ex) (k : Nat) (w : World) (s : Value), sz d M x = some k → St w x s → (wr x).length + 2 ≤ 64 * k
  | 0, M, x, k, w, s, h, _ => by simp [sz] at h
  | d + 1, M, x, k, w, s, h, hS => by
    obtain ⟨hM, hf, hl⟩ := sz_parts h
    obtain ⟨_, _, _, _, _, hn, _⟩ := hS.out
    rcases fields_cases hf with ⟨h1, h2, h3⟩ | ⟨h1, h2, h3⟩ | ⟨h1, h2, h3⟩ | ⟨h1, h3⟩ | ⟨h1, h3⟩ | ⟨⟨r, hr⟩, h3⟩
    · have e := len0 h3
      rw [e] at hl
      have := szL_nil hl
      have := itoa_len h2 hn.2
      rw [wr_leaf e, if_pos h1]; omega
    · have e := len0 h3
      rw [e] at hl
      have := szL_nil hl
      have := yes_len (x.n == 1)
      rw [wr_leaf e, if_neg (by omega), if_pos h1]; omega
    · have e := len0 h3
      rw [e] at hl
      have := szL_nil hl
      have := name_len h2
      rw [wr_leaf e, if_neg (by omega), if_neg (by omega), ← Lib.size_eq]; omega
    · obtain ⟨a, e⟩ := len1 h3
      rw [e] at hl
      obtain ⟨ka, ha, hl⟩ := szL_cons hl
      have := szL_nil hl
      obtain ⟨t, ht⟩ := hS.arg0 e
      have := wr_len d _ a ka w t ha ht
      have := put_len 6 (rkOf a.op) (wr a)
      have := neg_len (put 6 (rkOf a.op) (wr a))
      rw [wr_one e]
      split
      · omega
      · split <;> simp only [List.length_append, List.length_cons, List.length_nil] <;> omega
    · obtain ⟨a, b, c, e⟩ := len3 h3
      rw [e] at hl
      obtain ⟨ka, ha, hl⟩ := szL_cons hl
      obtain ⟨kb, hb, hl⟩ := szL_cons hl
      obtain ⟨kc, hc, hl⟩ := szL_cons hl
      have := szL_nil hl
      obtain ⟨ta, hta⟩ := hS.arg0 e
      obtain ⟨tb, htb⟩ := hS.arg1 e
      obtain ⟨tc, htc⟩ := hS.arg2 e
      have := wr_len d _ a ka w ta ha hta
      have := wr_len d _ b kb w tb hb htb
      have := wr_len d _ c kc w tc hc htc
      have := put_len 0 (rkOf a.op) (wr a)
      have := put_len 0 (rkOf b.op) (wr b)
      have := put_len 0 (rkOf c.op) (wr c)
      rw [wr_three e]
      simp only [List.length_append, List.length_cons, List.length_nil]
      omega
    · obtain ⟨a, b, e⟩ := len2 h3
      rw [e] at hl
      obtain ⟨ka, ha, hl⟩ := szL_cons hl
      obtain ⟨kb, hb, hl⟩ := szL_cons hl
      have := szL_nil hl
      obtain ⟨ta, hta⟩ := hS.arg0 e
      obtain ⟨tb, htb⟩ := hS.arg1 e
      have := wr_len d _ a ka w ta ha hta
      have := wr_len d _ b kb w tb hb htb
      obtain ⟨hj, _⟩ := j_len hr
      rw [wr_two e, hr]
      have := put_len ((some r).getD j0).first (rkOf a.op) (wr a)
      have := put_len ((some r).getD j0).second (rkOf b.op) (wr b)
      simp only [List.length_append, List.length_cons, List.length_nil, Option.getD_some] at *
      omega
end Go.Proofs.YtkieljleopbhoabDoor.Lex
namespace Go.Proofs.YtkieljleopbhoabDoor.Lex
open Go.ChangeShapes Go.WideShapes Go.ChangeAt Go.RowKit Go.Joins
/-- Of how many parts; below 0: none. -/
def manyI (op : Nat) : Int := if op = 1 ∨ op = 2 ∨ op = 3 then 0 else if 0 < parts op then (parts op : Int) else -1
theorem jOf_far {op : Nat} (h : 20 ≤ op) : jOf op = none := by
  unfold jOf JT
  rw [List.find?_eq_none]
  intro r hr
  simp only [List.mem_cons, List.not_mem_nil, or_false] at hr
  rcases hr with rfl | rfl | rfl | rfl | rfl | rfl | rfl | rfl | rfl | rfl | rfl | rfl <;> simp <;> omega
theorem many_far {op : Nat} (h : op = 0 ∨ 20 ≤ op) : manyI op = -1 := by
  rcases h with rfl | h
  · decide
  · have hp : parts op = 0 := by unfold parts; rw [if_neg (by omega), if_neg (by omega), jOf_far h]; rfl
    unfold manyI
    rw [if_neg (by omega), hp]
    rfl
/-- The fields but for the parts. -/
def fldOk (op : Nat) (n : Int) (nm : ByteArray) : Bool :=
  if op = 1 then decide (0 ≤ n) && decide (nm.size = 0)
  else if op = 2 then (decide (n = 0) || decide (n = 1)) && decide (nm.size = 0)
  else if op = 3 then decide (n = 0) && isName nm
  else decide (n = 0) && decide (nm.size = 0)
theorem fields_split (op : Nat) (n : Int) (nm : ByteArray) (len : Nat) : fieldsOk op n nm len = (decide (manyI op = (len : Int)) && fldOk op n nm) := by
  have hz : decide ((0 : Int) = (len : Int)) = decide (len = 0) := by
    by_cases h : len = 0
    · rw [decide_eq_true h, decide_eq_true (by omega)]
    · rw [decide_eq_false h, decide_eq_false (by omega)]
  unfold fieldsOk fldOk
  by_cases h1 : op = 1
  · rw [if_pos h1, if_pos h1, manyI, if_pos (.inl h1), hz]
    cases decide (0 ≤ n) <;> cases decide (nm.size = 0) <;> cases decide (len = 0) <;> rfl
  · rw [if_neg h1, if_neg h1]
    by_cases h2 : op = 2
    · rw [if_pos h2, if_pos h2, manyI, if_pos (.inr (.inl h2)), hz]
      cases (decide (n = 0) || decide (n = 1)) <;> cases decide (nm.size = 0) <;> cases decide (len = 0) <;> rfl
    · rw [if_neg h2, if_neg h2]
      by_cases h3 : op = 3
      · rw [if_pos h3, if_pos h3, manyI, if_pos (.inr (.inr h3)), hz]
        cases decide (n = 0) <;> cases isName nm <;> cases decide (len = 0) <;> rfl
      · rw [if_neg h3, if_neg h3, manyI, if_neg (by omega)]
        by_cases hp : 0 < parts op
        · rw [if_pos hp, decide_eq_true hp]
          have : decide ((parts op : Int) = (len : Int)) = decide (len = parts op) := by
            by_cases h : len = parts op
            · rw [decide_eq_true h, decide_eq_true (by omega)]
            · rw [decide_eq_false h, decide_eq_false (by omega)]
          rw [this]
          cases decide (n = 0) <;> cases decide (nm.size = 0) <;> cases decide (len = parts op) <;> rfl
        · have hl : decide ((-1 : Int) = (len : Int)) = false := decide_eq_false (by omega)
          rw [if_neg hp, decide_eq_false hp, hl]
          rfl
end Go.Proofs.YtkieljleopbhoabDoor.Lex
namespace Go.Proofs.YtkieljleopbhoabDoor.Lex
open Go.ChangeShapes Go.WideShapes Go.ChangeAt Go.RowKit Go.Joins
set_option maxRecDepth 100000 in
theorem rankOf (op : Nat) (w : World) (hT : TabJ w) : Calls Tryd.prog 69 #[.int .u8 (op : Int)] w fun e w' => e = .returned (.int .i64 (rkOf op : Int)) ∧ Below w.heap.size w w' := by
  have c := joinOf op w hT
  unfold jOut jrow at c
  cases hj : jOf op with
  | some r =>
    have hp : rkOf op = r.rank := by unfold rkOf; rw [hj]
    rw [hp]
    rw [hj] at c
    simp only [Option.getD_some, Option.isSome_some] at c
    clear hp hj
    go_enter Tryd.func69, Tryd.ntmps69
    go_wp2_with (go_at_call 49; refine c.mono ?_; rintro e w2 ⟨rfl, hb2⟩)
    go_ret
    exact ⟨rfl, bstep hb2 ((Below.refl _ _).alloc (Nat.le_refl _) _)⟩
  | none =>
    have hp : rkOf op = if op = 17 then 0 else if op = 4 ∨ op = 5 ∨ op = 19 then 6 else 7 := by unfold rkOf; rw [hj]
    rw [hp]
    rw [hj] at c
    simp only [Option.getD_none, Option.isSome_none] at c
    clear hp hj
    by_cases h17 : op = 17
    · have e17 := eqN (b := 17) h17
      rw [if_pos h17]
      clear h17
      go_enter Tryd.func69, Tryd.ntmps69
      go_wp2_with (go_at_call 49; refine c.mono ?_; rintro e w2 ⟨rfl, hb2⟩)
      go_ret
      exact ⟨rfl, bstep hb2 ((Below.refl _ _).alloc (Nat.le_refl _) _)⟩
    · have e17 := neN (b := 17) h17
      rw [if_neg h17]
      by_cases h4 : op = 4
      · have e4 := eqN (b := 4) h4
        rw [if_pos (.inl h4)]
        clear h17 h4
        go_enter Tryd.func69, Tryd.ntmps69
        go_wp2_with (go_at_call 49; refine c.mono ?_; rintro e w2 ⟨rfl, hb2⟩)
        go_ret
        exact ⟨rfl, bstep hb2 ((Below.refl _ _).alloc (Nat.le_refl _) _)⟩
      · have e4 := neN (b := 4) h4
        by_cases h5 : op = 5
        · have e5 := eqN (b := 5) h5
          rw [if_pos (.inr (.inl h5))]
          clear h17 h4 h5
          go_enter Tryd.func69, Tryd.ntmps69
          go_wp2_with (go_at_call 49; refine c.mono ?_; rintro e w2 ⟨rfl, hb2⟩)
          go_ret
          exact ⟨rfl, bstep hb2 ((Below.refl _ _).alloc (Nat.le_refl _) _)⟩
        · have e5 := neN (b := 5) h5
          by_cases h19 : op = 19
          · have e19 := eqN (b := 19) h19
            rw [if_pos (.inr (.inr h19))]
            clear h17 h4 h5 h19
            go_enter Tryd.func69, Tryd.ntmps69
            go_wp2_with (go_at_call 49; refine c.mono ?_; rintro e w2 ⟨rfl, hb2⟩)
            go_ret
            exact ⟨rfl, bstep hb2 ((Below.refl _ _).alloc (Nat.le_refl _) _)⟩
          · have e19 := neN (b := 19) h19
            rw [if_neg (by omega)]
            clear h17 h4 h5 h19
            go_enter Tryd.func69, Tryd.ntmps69
            go_wp2_with (go_at_call 49; refine c.mono ?_; rintro e w2 ⟨rfl, hb2⟩)
            go_ret
            exact ⟨rfl, bstep hb2 ((Below.refl _ _).alloc (Nat.le_refl _) _)⟩
theorem rk_far {op : Nat} (h : op = 0 ∨ 20 ≤ op) : rkOf op = 7 := by
  rcases h with rfl | h
  · decide
  · unfold rkOf
    rw [jOf_far h]
    simp only
    rw [if_neg (by omega), if_neg (by omega)]
/-- negated. -/
theorem negated (s : ByteArray) (w : World) (hs : s.size ≤ 65536) : Calls Tryd.prog 47 #[.string s] w fun e w' => e = .returned (.string ⟨(negW s.data.toList).toArray⟩) ∧ w' = w := by
  have c := Tryd.strings_HasPrefix s ⟨#[45]⟩ w
  unfold negW
  cases hp : Lib.hasPrefix s.data.toList [45]
  · rw [hp] at c
    go_enter Tryd.func47, Tryd.ntmps47
    go_wp2_with (go_at_call 51; refine c.mono ?_; rintro e w2 ⟨rfl, rfl⟩)
    go_ret
    refine ⟨?_, rfl⟩
    congr 2
  · rw [hp] at c
    go_enter Tryd.func47, Tryd.ntmps47
    go_wp2_with (go_at_call 51; refine c.mono ?_; rintro e w2 ⟨rfl, rfl⟩)
    go_ret
    refine ⟨?_, rfl⟩
    congr 2
theorem wrap_id {x : Int} (h1 : -9223372036854775808 ≤ x) (h2 : x ≤ 9223372036854775807) : IntKind.i64.wrap x = x := by
  simp only [IntKind.wrap, IntKind.signed, IntKind.bits]
  simp
  omega
def tenS : ByteArray := ⟨#[48, 49, 50, 51, 52, 53, 54, 55, 56, 57]⟩
theorem ten_ext (r : Nat) (h : r < 10) : (⟨#[48, 49, 50, 51, 52, 53, 54, 55, 56, 57]⟩ : ByteArray).extract r (r + 1) = ⟨#[UInt8.ofNat (48 + r)]⟩ := by
  have h : r = 0 ∨ r = 1 ∨ r = 2 ∨ r = 3 ∨ r = 4 ∨ r = 5 ∨ r = 6 ∨ r = 7 ∨ r = 8 ∨ r = 9 := by omega
  rcases h with rfl | rfl | rfl | rfl | rfl | rfl | rfl | rfl | rfl | rfl <;> decide
def opsV : Array Value := #[.int .u8 18, .int .u8 16, .int .u8 15, .int .u8 11, .int .u8 12, .int .u8 13, .int .u8 14, .int .u8 6, .int .u8 7, .int .u8 8, .int .u8 9, .int .u8 10]
def sgnV : Array Value := #[.string ⟨#[45, 62]⟩, .string ⟨#[111, 114]⟩, .string ⟨#[97, 110, 100]⟩, .string ⟨#[61, 61]⟩, .string ⟨#[33, 61]⟩, .string ⟨#[60]⟩, .string ⟨#[60, 61]⟩, .string ⟨#[43]⟩, .string ⟨#[45]⟩, .string ⟨#[42]⟩, .string ⟨#[47]⟩, .string ⟨#[37]⟩]
theorem ops_at (k : Nat) (hk : k < 12) : opsV[k]? = some (.int .u8 ((jR k).op : Int)) ∧ sgnV[k]? = some (.string (jR k).text) := by
  have h : k = 0 ∨ k = 1 ∨ k = 2 ∨ k = 3 ∨ k = 4 ∨ k = 5 ∨ k = 6 ∨ k = 7 ∨ k = 8 ∨ k = 9 ∨ k = 10 ∨ k = 11 := by omega
  rcases h with rfl | rfl | rfl | rfl | rfl | rfl | rfl | rfl | rfl | rfl | rfl | rfl <;> exact ⟨rfl, rfl⟩
end Go.Proofs.YtkieljleopbhoabDoor.Lex
namespace Go.Proofs.YtkieljleopbhoabDoor.Lex
open Go.ChangeShapes Go.WideShapes Go.ChangeAt Go.RowKit Go.Joins
/-- ExprSize returns some number. -/
def SizeC (x : Ex) : Prop := ∀ (w : World) (s : Value), St w x s → Calls Tryd.prog 12 #[exV x s] w fun e w' => (∃ m : Int, e = .returned (.int .i64 m)) ∧ Below w.heap.size w w'
set_option maxRecDepth 100000 in
set_option maxHeartbeats 1000000 in
theorem sizes (x : Ex) (ih : ∀ i (h : i < x.args.length), SizeC x.args[i]) (w : World) (s : Value) (hS : St w x s) :
    Calls Tryd.prog 24 #[s] w fun e w' => (∃ m : Int, e = .returned (.int .i64 m)) ∧ Below w.heap.size w w' := by
  obtain ⟨ao, cap, sl, rfl, _, _, _, hlen, _, hc, hs⟩ := hS.out
  have HS := hid hs
  have HC := hid hc
  have HI := hid ih
  clear hs hc ih hS
  go_enter Tryd.func24, Tryd.ntmps24
  go_wp2
  go_loopw [3, 4] (fun n i wr => ∃ (z : Int) (k : Nat), k ≤ x.args.length ∧ n = .int .i64 z ∧ i = .int .i64 (k : Int) ∧ Hid (Below w.heap.size w wr)) (fun _ i _ => x.args.length - (intOf i).toNat)
  case atStart => exact ⟨_, 0, Nat.zero_le _, rfl, rfl, Below.refl _ _⟩
  case round =>
    obtain ⟨z, k, hk, rfl, rfl, hB⟩ := hrel
    by_cases hlt : k < x.args.length
    · have hlt' : (k : Int) < (x.args.length : Int) := by omega
      have hk0 : (0 : Int) ≤ (k : Int) := by omega
      by_cases hz : z ≤ 1048576
      · obtain ⟨b, o, rfl, hc⟩ := HC.out.resolve_left (by omega)
        obtain ⟨h0, h1, h2, h3⟩ := hc k hlt
        have y0 := cell_kept h0 hB.out
        have y1 := cell_kept h1 hB.out
        have y2 := cell_kept h2 hB.out
        have y3 := cell_kept h3 hB.out
        have c := HI.out k hlt wr (sl k) ((HS.out k hlt).keep hB.out)
        clear h0 h1 h2 h3 hc
        generalize x.args[k] = y at *
        go_wp2_with (go_at_call 12; refine c.mono ?_; rintro e w2 ⟨⟨m, rfl⟩, hb2⟩)
        go_roundw
        case rel => exact ⟨_, k + 1, by omega, rfl, by go_num, bstep hB.out hb2⟩
        case measure => simp [intOf]; omega
      · go_wp2
        go_ret
        exact ⟨⟨_, rfl⟩, hB.out⟩
    · have hlt' : ¬ (k : Int) < (x.args.length : Int) := by omega
      go_wp2
      go_ret
      exact ⟨⟨_, rfl⟩, hB.out⟩
set_option maxRecDepth 100000 in
theorem size_of (x : Ex) (ih : ∀ i (h : i < x.args.length), SizeC x.args[i]) : SizeC x := by
  intro w s hS
  have hs := fun W h => sizes x ih W s h
  obtain ⟨ao, cap, sl, rfl, hop, hn, hnm, hlen, hcap, hc, _⟩ := hS.out
  have HS := hid hS
  clear ih hc hS
  by_cases hle : (1 : Int) + (x.name.size : Int) ≤ 1048576
  · go_enter Tryd.func12, Tryd.ntmps12
    go_wp2_with (go_at_call 24; refine (hs _ (HS.out.keep ((Below.refl _ _).alloc (Nat.le_refl _) _))).mono ?_; rintro e w2 ⟨⟨m, rfl⟩, hb2⟩)
    go_ret
    exact ⟨⟨_, rfl⟩, bstep ((Below.refl _ _).alloc (Nat.le_refl _) _) hb2⟩
  · go_enter Tryd.func12, Tryd.ntmps12
    go_wp2
    go_ret
    exact ⟨⟨_, rfl⟩, (Below.refl _ _).alloc (Nat.le_refl _) _⟩
/-- ExprSize returns some number. -/
theorem size_any : ∀ (m : Nat) (x : Ex), SizeOf.sizeOf x ≤ m → SizeC x := by
  intro m
  induction m with
  | zero => intro x h; obtain ⟨o, n, s, l⟩ := x; simp at h
  | succ m ih => intro x h; exact size_of x fun i hi => ih _ (by have := x.part_lt i hi; omega)
end Go.Proofs.YtkieljleopbhoabDoor.Lex
namespace Go.Proofs.YtkieljleopbhoabDoor.Lex
open Go.ChangeShapes Go.WideShapes Go.ChangeAt Go.RowKit Go.Joins
def spare : ByteArray := ⟨#[115, 112, 97, 114, 101]⟩
/-- A twin in memory, in blocks from some one on, looked at so deep. -/
def TwN (w : World) (lo : Nat) : Nat → Ex → Value → Prop
  | 0, _, _ => False
  | k + 1, x, s => ∃ (b cap : Nat) (sl : Nat → Value), s = .slice (some ⟨b, 0, none⟩) x.args.length cap ∧ lo ≤ b ∧ x.op < 256 ∧ (-9223372036854775808 ≤ x.n ∧ x.n ≤ 9223372036854775807) ∧ x.name.size ≤ 140737488355328 ∧ x.args.length ≤ 2513169434843 ∧ x.args.length < cap ∧
    (∀ i (h : i < x.args.length), w.cell? ⟨b, i * 4, none⟩ = some (.int .u8 (x.args[i].op : Int)) ∧ w.cell? ⟨b, i * 4 + 1, none⟩ = some (.int .i64 x.args[i].n) ∧ w.cell? ⟨b, i * 4 + 2, none⟩ = some (.string x.args[i].name) ∧ w.cell? ⟨b, i * 4 + 3, none⟩ = some (sl i)) ∧
    (w.cell? ⟨b, x.args.length * 4, none⟩ = some (.int .u8 0) ∧ w.cell? ⟨b, x.args.length * 4 + 1, none⟩ = some (.int .i64 0) ∧ w.cell? ⟨b, x.args.length * 4 + 2, none⟩ = some (.string spare) ∧ w.cell? ⟨b, x.args.length * 4 + 3, none⟩ = some (.slice none 0 0)) ∧ ∀ i (h : i < x.args.length), TwN w lo k x.args[i] (sl i)
theorem TwN.up {w : World} {lo : Nat} : ∀ (k' k : Nat) (x : Ex) (s : Value), TwN w lo k x s → SizeOf.sizeOf x ≤ k' → TwN w lo k' x s
  | 0, k, x, s, _, hs => by have := x.pos; omega
  | k' + 1, 0, x, s, h, _ => h.elim
  | k' + 1, k + 1, x, s, h, hs => by
    obtain ⟨b, cap, sl, h1, h2, h3, h4, h5, h6, h7, h8, h9, h10⟩ := h
    exact ⟨b, cap, sl, h1, h2, h3, h4, h5, h6, h7, h8, h9, fun i hi => TwN.up k' k _ _ (h10 i hi) (by have := x.part_lt i hi; omega)⟩
/-- A twin in memory, in blocks from some one on. -/
def Tw (w : World) (lo : Nat) (x : Ex) (s : Value) : Prop := TwN w lo (SizeOf.sizeOf x) x s
theorem Tw.intro {w : World} {lo : Nat} (x : Ex) (b cap : Nat) (sl : Nat → Value) (hlo : lo ≤ b) (hop : x.op < 256) (hn : -9223372036854775808 ≤ x.n ∧ x.n ≤ 9223372036854775807) (hnm : x.name.size ≤ 140737488355328) (hlen : x.args.length ≤ 2513169434843) (hcap : x.args.length < cap)
      (hc : ∀ i (h : i < x.args.length), w.cell? ⟨b, i * 4, none⟩ = some (.int .u8 (x.args[i].op : Int)) ∧ w.cell? ⟨b, i * 4 + 1, none⟩ = some (.int .i64 x.args[i].n) ∧ w.cell? ⟨b, i * 4 + 2, none⟩ = some (.string x.args[i].name) ∧ w.cell? ⟨b, i * 4 + 3, none⟩ = some (sl i))
      (hsp : w.cell? ⟨b, x.args.length * 4, none⟩ = some (.int .u8 0) ∧ w.cell? ⟨b, x.args.length * 4 + 1, none⟩ = some (.int .i64 0) ∧ w.cell? ⟨b, x.args.length * 4 + 2, none⟩ = some (.string spare) ∧ w.cell? ⟨b, x.args.length * 4 + 3, none⟩ = some (.slice none 0 0))
      (hs : ∀ i (h : i < x.args.length), Tw w lo x.args[i] (sl i)) : Tw w lo x (.slice (some ⟨b, 0, none⟩) x.args.length cap) := by
  unfold Tw
  obtain ⟨m, hm⟩ : ∃ m, SizeOf.sizeOf x = m + 1 := ⟨SizeOf.sizeOf x - 1, by have := x.pos; omega⟩
  rw [hm]
  exact ⟨b, cap, sl, rfl, hlo, hop, hn, hnm, hlen, hcap, hc, hsp, fun i hi => TwN.up m _ _ _ (hs i hi) (by have := x.part_lt i hi; omega)⟩
theorem Tw.full {w : World} {lo : Nat} {x : Ex} {s : Value} (h : Tw w lo x s) : ∃ (b cap : Nat) (sl : Nat → Value), s = .slice (some ⟨b, 0, none⟩) x.args.length cap ∧ lo ≤ b ∧ x.op < 256 ∧ (-9223372036854775808 ≤ x.n ∧ x.n ≤ 9223372036854775807) ∧ x.name.size ≤ 140737488355328 ∧ x.args.length ≤ 2513169434843 ∧ x.args.length < cap ∧
    (∀ i (h : i < x.args.length), w.cell? ⟨b, i * 4, none⟩ = some (.int .u8 (x.args[i].op : Int)) ∧ w.cell? ⟨b, i * 4 + 1, none⟩ = some (.int .i64 x.args[i].n) ∧ w.cell? ⟨b, i * 4 + 2, none⟩ = some (.string x.args[i].name) ∧ w.cell? ⟨b, i * 4 + 3, none⟩ = some (sl i)) ∧
    (w.cell? ⟨b, x.args.length * 4, none⟩ = some (.int .u8 0) ∧ w.cell? ⟨b, x.args.length * 4 + 1, none⟩ = some (.int .i64 0) ∧ w.cell? ⟨b, x.args.length * 4 + 2, none⟩ = some (.string spare) ∧ w.cell? ⟨b, x.args.length * 4 + 3, none⟩ = some (.slice none 0 0)) ∧ ∀ i (h : i < x.args.length), Tw w lo x.args[i] (sl i) := by
  unfold Tw at h
  obtain ⟨m, hm⟩ : ∃ m, SizeOf.sizeOf x = m + 1 := ⟨SizeOf.sizeOf x - 1, by have := x.pos; omega⟩
  rw [hm] at h
  obtain ⟨b, cap, sl, h1, h2, h3, h4, h5, h6, h7, h8, h9, h10⟩ := h
  exact ⟨b, cap, sl, h1, h2, h3, h4, h5, h6, h7, h8, h9, fun i hi => TwN.up _ m _ _ (h10 i hi) (Nat.le_refl _)⟩
theorem Tw.carryN {w w' : World} {lo lo' : Nat} (hb : ∀ b, lo ≤ b → b < w.heap.size → w'.heap[b]? = w.heap[b]?) (hl : lo' ≤ lo) : ∀ (m : Nat) (x : Ex) (s : Value), SizeOf.sizeOf x ≤ m → Tw w lo x s → Tw w' lo' x s
  | 0, x, s, hm, _ => by have := x.pos; omega
  | m + 1, x, s, hm, h => by
    obtain ⟨b, cap, sl, rfl, hlo, hop, hn, hnm, hlen, hcap, hc, hsp, hs⟩ := h.full
    have hk : ∀ {o v}, w.cell? ⟨b, o, none⟩ = some v → w'.cell? ⟨b, o, none⟩ = some v := fun {o v} h => by
      have hlt := World.block_lt_of_cell? w _ h
      rw [World.cell?_of_block (w := w) (a := ⟨b, o, none⟩) (hb b hlo hlt)]
      exact h
    refine Tw.intro x b cap sl (by omega) hop hn hnm hlen hcap (fun i hi => ?_) ⟨hk hsp.1, hk hsp.2.1, hk hsp.2.2.1, hk hsp.2.2.2⟩ (fun i hi => Tw.carryN hb hl m _ _ (by have := x.part_lt i hi; omega) (hs i hi))
    obtain ⟨h0, h1, h2, h3⟩ := hc i hi
    exact ⟨hk h0, hk h1, hk h2, hk h3⟩
theorem Tw.carry {w w' : World} {lo : Nat} {x : Ex} {s : Value} (h : Tw w lo x s) (hb : ∀ b, lo ≤ b → b < w.heap.size → w'.heap[b]? = w.heap[b]?) : Tw w' lo x s := Tw.carryN hb (Nat.le_refl _) _ x s (Nat.le_refl _) h
theorem Tw.keep {w w' : World} {lo : Nat} {x : Ex} {s : Value} (h : Tw w lo x s) (hb : Below w.heap.size w w') : Tw w' lo x s := h.carry fun b _ hlt => hb.block b hlt
theorem Tw.grown {w w' : World} {lo g : Nat} {x : Ex} {s : Value} (h : Tw w lo x s) (hg : w.grownBy w' (some g)) (hlt : g < lo) : Tw w' lo x s := h.carry fun b hb hl => hg.block b hl (fun e => by cases e; omega)
theorem Tw.low {w : World} {lo lo' : Nat} {x : Ex} {s : Value} (h : Tw w lo x s) (hl : lo' ≤ lo) : Tw w lo' x s := Tw.carryN (fun _ _ _ => rfl) hl _ x s (Nat.le_refl _) h
theorem Tw.stN {w : World} {lo : Nat} : ∀ (m : Nat) (x : Ex) (s : Value), SizeOf.sizeOf x ≤ m → Tw w lo x s → St w x s
  | 0, x, s, hm, _ => by have := x.pos; omega
  | m + 1, x, s, hm, h => by
    obtain ⟨b, cap, sl, rfl, hlo, hop, hn, hnm, hlen, hcap, hc, hsp, hs⟩ := h.full
    exact St.intro x _ cap sl hop hn hnm hlen (by omega) (.inr ⟨b, 0, rfl, fun i hi => by simpa using hc i hi⟩) (fun i hi => Tw.stN m _ _ (by have := x.part_lt i hi; omega) (hs i hi))
theorem Tw.st {w : World} {lo : Nat} {x : Ex} {s : Value} (h : Tw w lo x s) : St w x s := Tw.stN _ x s (Nat.le_refl _) h
/-- The cells of parts, each with where its own lie. -/
def pairV (p : Ex × Value) : List Value := [.int .u8 (p.1.op : Int), .int .i64 p.1.n, .string p.1.name, p.2]
def pairsV (ps : List (Ex × Value)) : List Value := ps.flatMap pairV
theorem pairsV_len (ps : List (Ex × Value)) : (pairsV ps).length = ps.length * 4 := by
  induction ps with
  | nil => rfl
  | cons p ps ih => simp only [pairsV, List.flatMap_cons, List.length_append, List.length_cons] at ih ⊢; rw [ih]; simp [pairV]; omega
theorem pairsV_app (ps qs : List (Ex × Value)) : pairsV (ps ++ qs) = pairsV ps ++ pairsV qs := by simp [pairsV]
theorem pairsV_at (ps : List (Ex × Value)) (rest : List Value) : ∀ (i : Nat) (h : i < ps.length), (pairsV ps ++ rest)[i * 4]? = some (.int .u8 (ps[i].1.op : Int)) ∧ (pairsV ps ++ rest)[i * 4 + 1]? = some (.int .i64 ps[i].1.n) ∧ (pairsV ps ++ rest)[i * 4 + 2]? = some (.string ps[i].1.name) ∧ (pairsV ps ++ rest)[i * 4 + 3]? = some ps[i].2 := by
  induction ps with
  | nil => intro i h; cases h
  | cons p ps ih =>
    intro i h
    have e : pairsV (p :: ps) ++ rest = pairV p ++ (pairsV ps ++ rest) := by simp [pairsV]
    rw [e]
    cases i with
    | zero => exact ⟨rfl, rfl, rfl, rfl⟩
    | succ i =>
      have h' : i < ps.length := by simpa using h
      have hs : ∀ j, (pairV p ++ (pairsV ps ++ rest))[(i + 1) * 4 + j]? = (pairsV ps ++ rest)[i * 4 + j]? := fun j => by
        rw [List.getElem?_append_right (by simp [pairV]; omega)]
        congr 1
        simp [pairV]; omega
      have := ih i h'
      refine ⟨?_, ?_, ?_, ?_⟩
      · rw [← Nat.add_zero ((i + 1) * 4), hs 0]; exact this.1
      · rw [hs 1]; exact this.2.1
      · rw [hs 2]; exact this.2.2.1
      · rw [hs 3]; exact this.2.2.2
theorem info25' : (Tryd.prog.info? 26).map (fun i => (i.zero, i.size, i.bytes)) = some (some (.agg #[.int .u8 0, .int .i64 0, .string ByteArray.empty, .slice none 0 0]), 4, 56) := by kernel_rfl
/-- While the twin's row is made. -/
structure Mk (w : World) (x : Ex) (k : Nat) (ps : List (Ex × Value)) (W : World) : Prop where
  below : Below w.heap.size w W
  row : W.ownsRow w.heap.size 26 4 (.slice (some ⟨w.heap.size, 0, none⟩) k (x.args.length + 1)) k (pairsV ps)
  len : ps.length = k
  fst : ps.map (·.1) = x.args.take k
  parts : ∀ p ∈ ps, Tw W (w.heap.size + 1) p.1 p.2
  size : w.heap.size < W.heap.size
theorem Mk.step {w W W' : World} {x : Ex} {k : Nat} {ps : List (Ex × Value)} (h : Mk w x k ps W) (hb : Below W.heap.size W W') : Mk w x k ps W' :=
  ⟨bstep h.below hb, by
    have hr := h.row
    refine ⟨hr.1, ?_⟩
    rcases hr.2 with hn | ⟨g, cap, cur, e, hg0, hg, rest⟩
    · exact .inl hn
    · exact .inr ⟨g, cap, cur, e, hg0, (hb.block g (Array.getElem?_eq_some_iff.1 hg).1).trans hg, rest⟩, h.len, h.fst, fun p hp => (h.parts p hp).keep hb, Nat.lt_of_lt_of_le h.size hb.size⟩
theorem Mk.grow {w W W' : World} {x y : Ex} {k : Nat} {ps : List (Ex × Value)} {s : Value} (h : Mk w x k ps W) (hk : k < x.args.length) (hy : x.args[k] = y) (hT : Tw W (w.heap.size + 1) y s)
    (hr : W'.ownsRow w.heap.size 26 4 (.slice (some ⟨w.heap.size, 0, none⟩) (k + 1) (x.args.length + 1)) (k + 1) (pairsV ps ++ pairV (y, s))) (hg : W.grownBy W' (some w.heap.size)) : Mk w x (k + 1) (ps ++ [(y, s)]) W' where
  below := h.below.grown hg h.below.size (fun j hj => by cases hj; exact Nat.le_refl _)
  row := by rw [pairsV_app]; simpa [pairsV] using hr
  len := by simp [h.len]
  fst := by rw [List.map_append, h.fst, List.take_succ_eq_append_getElem hk, hy]; rfl
  parts := fun p hp => by
    rcases List.mem_append.1 hp with hp | hp
    · exact (h.parts p hp).grown hg (by omega)
    · rw [List.mem_singleton.1 hp]; exact hT.grown hg (by omega)
  size := Nat.lt_of_lt_of_le h.size hg.size
theorem four_next (w : World) (a b c d : Value) : ∀ j u, [a, b, c, d][j]? = some u → (w.alloc (.cells #[a, b, c, d] 26)).cell? ((⟨w.heap.size, 0, none⟩ : Addr).add j) = some u := by
  intro j u hj
  have hadd : (⟨w.heap.size, 0, none⟩ : Addr).add j = ⟨w.heap.size, j, none⟩ := by unfold Addr.add; split <;> simp_all
  rw [hadd, World.cell?_alloc_at _ _ _ _ rfl]
  simpa using hj
end Go.Proofs.YtkieljleopbhoabDoor.Lex
namespace Go.Proofs.YtkieljleopbhoabDoor.Lex
open Go.ChangeShapes Go.WideShapes Go.ChangeAt Go.RowKit Go.Joins
theorem Mk.done {w W W' : World} {x : Ex} {ps : List (Ex × Value)} (h : Mk w x x.args.length ps W) (hop : x.op < 256) (hn : -9223372036854775808 ≤ x.n ∧ x.n ≤ 9223372036854775807) (hnm : x.name.size ≤ 140737488355328) (hlen : x.args.length ≤ 2513169434843)
    (hr : W'.ownsRow w.heap.size 26 4 (.slice (some ⟨w.heap.size, 0, none⟩) (x.args.length + 1) (x.args.length + 1)) (x.args.length + 1) (pairsV ps ++ [.int .u8 0, .int .i64 0, .string spare, .slice none 0 0])) (hg : W.grownBy W' (some w.heap.size)) :
    Tw W' w.heap.size x (.slice (some ⟨w.heap.size, 0, none⟩) x.args.length (x.args.length + 1)) := by
  have hl := h.len
  have hf : ps.map (·.1) = x.args := by rw [h.fst, List.take_length]
  have hfst : ∀ i (hi : i < ps.length), ps[i].1 = x.args[i]'(by omega) := fun i hi => by
    have : (ps.map (·.1))[i]'(by simpa using hi) = x.args[i]'(by omega) := by simp only [hf]
    simpa using this
  refine Tw.intro x w.heap.size (x.args.length + 1) (fun i => (ps[i]?.map (·.2)).getD (.slice none 0 0)) (Nat.le_refl _) hop hn hnm hlen (by omega) (fun i hi => ?_) ?_ (fun i hi => ?_)
  · obtain ⟨q0, q1, q2, q3⟩ := pairsV_at ps [.int .u8 0, .int .i64 0, .string spare, .slice none 0 0] i (by omega)
    rw [hfst i (by omega)] at q0 q1 q2
    refine ⟨?_, ?_, ?_, ?_⟩
    · rw [hr.cellAt _ (by omega)]; exact q0
    · rw [hr.cellAt _ (by omega)]; exact q1
    · rw [hr.cellAt _ (by omega)]; exact q2
    · rw [hr.cellAt _ (by omega), q3, List.getElem?_eq_getElem (by omega)]; rfl
  · have hs : ∀ j, j < 4 → (pairsV ps ++ [.int .u8 0, .int .i64 0, .string spare, .slice none 0 0])[x.args.length * 4 + j]? = ([.int .u8 0, .int .i64 0, .string spare, .slice none 0 0] : List Value)[j]? := fun j hj => by
      rw [List.getElem?_append_right (by rw [pairsV_len]; omega), pairsV_len, hl]
      congr 1
      omega
    refine ⟨?_, ?_, ?_, ?_⟩
    · rw [hr.cellAt _ (by omega), ← Nat.add_zero (x.args.length * 4), hs 0 (by omega)]; rfl
    · rw [hr.cellAt _ (by omega), hs 1 (by omega)]; rfl
    · rw [hr.cellAt _ (by omega), hs 2 (by omega)]; rfl
    · rw [hr.cellAt _ (by omega), hs 3 (by omega)]; rfl
  · have hip : i < ps.length := by omega
    have := (h.parts ps[i] (List.getElem_mem hip)).grown hg (by omega)
    rw [hfst i hip] at this
    rw [List.getElem?_eq_getElem hip]
    exact this.low (by omega)
theorem Mk.start {w w1 : World} (x : Ex) (hown : w1.ownsRow w.heap.size 26 4 (.slice (some ⟨w.heap.size, 0, none⟩) 0 (x.args.length + 1)) 0 []) (hg : w.grownBy w1 none) : Mk w x 0 [] w1 where
  below := (Below.refl _ _).grown hg (Nat.le_refl _) (fun k hk => by cases hk)
  row := hown
  len := rfl
  fst := rfl
  parts := fun p hp => by cases hp
  size := by
    rcases hown.2 with ⟨h, _⟩ | ⟨g, c, cur, e, _, hh, _⟩
    · cases h
    · injection e with e1 _ _
      injection e1 with e1
      injection e1 with e1 _ _
      subst e1
      exact (Array.getElem?_eq_some_iff.1 hh).1
end Go.Proofs.YtkieljleopbhoabDoor.Lex
namespace Go.Proofs.YtkieljleopbhoabDoor.Lex
open Go.ChangeShapes Go.WideShapes Go.ChangeAt Go.RowKit Go.Joins
theorem two_boxes (w w3 : World) (c d : Array Value) (t : TypeId) (hb : Below (((w.alloc (.cells c t)).alloc (.cells d t)).drew).heap.size ((w.alloc (.cells c t)).alloc (.cells d t)).drew w3) :
    (∀ j v, c[j]? = some v → w3.cell? ⟨w.heap.size, j, none⟩ = some v) ∧ (∀ j v, d[j]? = some v → w3.cell? ⟨w.heap.size + 1, j, none⟩ = some v) ∧ w3.heap[w.heap.size + 1]? = some (.cells d t (0, 0)) := by
  have e : (w.alloc (.cells c t)).heap.size = w.heap.size + 1 := by simp
  have h1 : ((w.alloc (.cells c t)).alloc (.cells d t)).heap[w.heap.size]? = some (.cells c t (0, 0)) := by
    rw [Below.heap_alloc _ _ _ (by rw [e]; omega)]; exact heap_alloc_new w _
  have h2 : ((w.alloc (.cells c t)).alloc (.cells d t)).heap[w.heap.size + 1]? = some (.cells d t (0, 0)) := by
    have := heap_alloc_new (w.alloc (.cells c t)) (.cells d t)
    rwa [e] at this
  have hl1 := (Array.getElem?_eq_some_iff.1 h1).1
  have hl2 := (Array.getElem?_eq_some_iff.1 h2).1
  have k1 : w3.heap[w.heap.size]? = some (.cells c t (0, 0)) := (hb.block _ hl1).trans h1
  have k2 : w3.heap[w.heap.size + 1]? = some (.cells d t (0, 0)) := (hb.block _ hl2).trans h2
  exact ⟨fun j v h => by rw [cell_of_row _ _ _ _ t (0, 0) k1]; exact h, fun j v h => by rw [cell_of_row _ _ _ _ t (0, 0) k2]; exact h, k2⟩
theorem if_take {c : Prop} [Decidable c] {p q : Prop} (hc : c) (h : p) : if c then p else q := by rw [if_pos hc]; exact h
theorem info25 : (Tryd.prog.info? 26).map (·.size) = some 4 := by kernel_rfl
theorem box_first (w : World) (c d : Array Value) (t : TypeId) : ∀ j v, c[j]? = some v → ((w.alloc (.cells c t)).alloc (.cells d t)).drew.cell? ⟨w.heap.size, j, none⟩ = some v := fun j v h =>
  (two_boxes w _ c d t (Below.refl _ _)).1 j v h
end Go.Proofs.YtkieljleopbhoabDoor.Lex
