/-
  Whether a part has the fields of its operator: the contracts of partsOf, hasItsFields, and of the document's own.
  Whether it may be: how great it is, part by part; the contracts of fits and Check.
  Programs, as they stand in memory.
  The things of a program, one by one: the contracts of names.things and of the function that it hands back.
  Whether a program may be: its heads, its room.
-/
import Derived.Test.YtejacmgppnafcabDoorU1
import Derived.WalkSmall
import Derived.Maps.AppendAt
import Derived.Laws.OwnMore
import Derived.Deep.RegionHeld3
import Derived.ProofKit
import Derived.OpenShut
import Derived.ShutString
import Derived.ChangeOld
import Derived.RangeFuncNested
import Derived.RangeFuncBound
import Derived.RangeFuncCalls
import Derived.RangeFuncLeaves
import Derived.Shelf.Abstract
import Derived.Shelf.RegionOpen
import Derived.OwnWalkIn
import Derived.TacticsInMore
import Derived.LoopNIn
import Derived.LoopIn
namespace Go.Proofs.YtejacmgppnafcabDoor.Lex
open Go.ChangeShapes Go.WideShapes Go.ChangeAt Go.RowKit Go.Joins
/-- Of how many parts an operator is. -/
def parts (op : Nat) : Nat := if op = 4 ∨ op = 5 ∨ op = 19 then 1 else if op = 17 then 3 else if (jOf op).isSome then 2 else 0
/-- Has it the fields of its operator? -/
def fieldsOk (op : Nat) (n : Int) (nm : ByteArray) (len : Nat) : Bool :=
  if op = 1 then decide (0 ≤ n) && (decide (nm.size = 0) && decide (len = 0))
  else if op = 2 then (decide (n = 0) || decide (n = 1)) && (decide (nm.size = 0) && decide (len = 0))
  else if op = 3 then decide (n = 0) && (isName nm && decide (len = 0))
  else decide (0 < parts op) && (decide (n = 0) && (decide (nm.size = 0) && decide (len = parts op)))
theorem eqN {a : Nat} {b : Nat} (h : a = b) : ((a : Int) == (b : Int)) = true := by simp [h]
theorem neN {a : Nat} {b : Nat} (h : ¬ a = b) : ((a : Int) == (b : Int)) = false := by simp; omega
theorem ieq {a b : Int} (h : a = b) : (a == b) = true := by simp [h]
theorem ine {a b : Int} (h : ¬ a = b) : (a == b) = false := by simp [h]
set_option maxRecDepth 100000 in
theorem partsOf (op : Nat) (w : World) (hT : TabJ w) : Calls Tryd.prog 40 #[.int .u8 (op : Int)] w fun e w' => e = .returned (.int .i64 (parts op : Int)) ∧ Below w.heap.size w w' := by
  have c := joinOf op w hT
  by_cases h4 : op = 4
  · have e4 := eqN (b := 4) h4
    have hp : parts op = 1 := by unfold parts; rw [if_pos (.inl h4)]
    rw [hp]
    clear hp h4 c
    go_enter Tryd.func40, Tryd.ntmps40
    go_wp2
    go_ret
    exact ⟨rfl, Below.refl _ _⟩
  · have e4 := neN (b := 4) h4
    by_cases h5 : op = 5
    · have e5 := eqN (b := 5) h5
      have hp : parts op = 1 := by unfold parts; rw [if_pos (.inr (.inl h5))]
      rw [hp]
      clear hp h4 h5 c
      go_enter Tryd.func40, Tryd.ntmps40
      go_wp2
      go_ret
      exact ⟨rfl, Below.refl _ _⟩
    · have e5 := neN (b := 5) h5
      by_cases h19 : op = 19
      · have e19 := eqN (b := 19) h19
        have hp : parts op = 1 := by unfold parts; rw [if_pos (.inr (.inr h19))]
        rw [hp]
        clear hp h4 h5 h19 c
        go_enter Tryd.func40, Tryd.ntmps40
        go_wp2
        go_ret
        exact ⟨rfl, Below.refl _ _⟩
      · have e19 := neN (b := 19) h19
        by_cases h17 : op = 17
        · have e17 := eqN (b := 17) h17
          have hp : parts op = 3 := by unfold parts; rw [if_neg (by omega), if_pos h17]
          rw [hp]
          clear hp h4 h5 h19 h17 c
          go_enter Tryd.func40, Tryd.ntmps40
          go_wp2
          go_ret
          exact ⟨rfl, Below.refl _ _⟩
        · have e17 := neN (b := 17) h17
          have hp : parts op = if (jOf op).isSome then 2 else 0 := by unfold parts; rw [if_neg (by omega), if_neg h17]
          rw [hp]
          unfold jOut jrow at c
          generalize (jOf op).getD j0 = r at c
          clear hp h4 h5 h19 h17
          cases hj : (jOf op).isSome
          · rw [hj] at c
            go_enter Tryd.func40, Tryd.ntmps40
            go_wp2_with (go_at_call 48; refine c.mono ?_; rintro e w2 ⟨rfl, hb2⟩)
            go_ret
            exact ⟨rfl, bstep hb2 ((Below.refl _ _).alloc (Nat.le_refl _) _)⟩
          · rw [hj] at c
            go_enter Tryd.func40, Tryd.ntmps40
            go_wp2_with (go_at_call 48; refine c.mono ?_; rintro e w2 ⟨rfl, hb2⟩)
            go_ret
            exact ⟨rfl, bstep hb2 ((Below.refl _ _).alloc (Nat.le_refl _) _)⟩
set_option linter.unusedVariables false
set_option maxRecDepth 100000 in
set_option maxHeartbeats 1000000 in
theorem has_1a (op : Nat) (n : Int) (nm : ByteArray) (ao : Option Addr) (len cap : Nat) (w : World) (e1 : ((op : Int) == 1) = true) (h0 : ¬ 0 ≤ n) : Calls Tryd.prog 34 #[.agg #[.int .u8 (op : Int), .int .i64 n, .string nm, .slice ao len cap]] w fun e w' => e = .returned (.bool false) ∧ Below w.heap.size w w' := by
  go_enter Tryd.func34, Tryd.ntmps34
  go_wp2
  go_ret
  exact ⟨rfl, (Below.refl _ _).alloc (Nat.le_refl _) _⟩
set_option maxRecDepth 100000 in
set_option maxHeartbeats 1000000 in
theorem has_1b (op : Nat) (n : Int) (nm : ByteArray) (ao : Option Addr) (len cap : Nat) (w : World) (e1 : ((op : Int) == 1) = true) (h0 : 0 ≤ n) (he : nm.toList.isEmpty = false) : Calls Tryd.prog 34 #[.agg #[.int .u8 (op : Int), .int .i64 n, .string nm, .slice ao len cap]] w fun e w' => e = .returned (.bool false) ∧ Below w.heap.size w w' := by
  go_enter Tryd.func34, Tryd.ntmps34
  go_wp2
  go_ret
  exact ⟨rfl, (Below.refl _ _).alloc (Nat.le_refl _) _⟩
set_option maxRecDepth 100000 in
set_option maxHeartbeats 1000000 in
theorem has_1c (op : Nat) (n : Int) (nm : ByteArray) (ao : Option Addr) (len cap : Nat) (w : World) (e1 : ((op : Int) == 1) = true) (h0 : 0 ≤ n) (he : nm.toList.isEmpty = true) : Calls Tryd.prog 34 #[.agg #[.int .u8 (op : Int), .int .i64 n, .string nm, .slice ao len cap]] w fun e w' => e = .returned (.bool ((len : Int) == 0)) ∧ Below w.heap.size w w' := by
  go_enter Tryd.func34, Tryd.ntmps34
  go_wp2
  go_ret
  exact ⟨rfl, (Below.refl _ _).alloc (Nat.le_refl _) _⟩
set_option maxRecDepth 100000 in
set_option maxHeartbeats 1000000 in
theorem has_2a (op : Nat) (n : Int) (nm : ByteArray) (ao : Option Addr) (len cap : Nat) (w : World) (e1 : ((op : Int) == 1) = false) (e2 : ((op : Int) == 2) = true) (h0 : (n == 0) = false) (h1 : (n == 1) = false) : Calls Tryd.prog 34 #[.agg #[.int .u8 (op : Int), .int .i64 n, .string nm, .slice ao len cap]] w fun e w' => e = .returned (.bool false) ∧ Below w.heap.size w w' := by
  go_enter Tryd.func34, Tryd.ntmps34
  go_wp2
  go_ret
  exact ⟨rfl, (Below.refl _ _).alloc (Nat.le_refl _) _⟩
set_option maxRecDepth 100000 in
set_option maxHeartbeats 1000000 in
theorem has_2bn (op : Nat) (n : Int) (nm : ByteArray) (ao : Option Addr) (len cap : Nat) (w : World) (e1 : ((op : Int) == 1) = false) (e2 : ((op : Int) == 2) = true) (h0 : (n == 0) = true) (he : nm.toList.isEmpty = false) : Calls Tryd.prog 34 #[.agg #[.int .u8 (op : Int), .int .i64 n, .string nm, .slice ao len cap]] w fun e w' => e = .returned (.bool false) ∧ Below w.heap.size w w' := by
  go_enter Tryd.func34, Tryd.ntmps34
  go_wp2
  go_ret
  exact ⟨rfl, (Below.refl _ _).alloc (Nat.le_refl _) _⟩
set_option maxRecDepth 100000 in
set_option maxHeartbeats 1000000 in
theorem has_2be (op : Nat) (n : Int) (nm : ByteArray) (ao : Option Addr) (len cap : Nat) (w : World) (e1 : ((op : Int) == 1) = false) (e2 : ((op : Int) == 2) = true) (h0 : (n == 0) = true) (he : nm.toList.isEmpty = true) : Calls Tryd.prog 34 #[.agg #[.int .u8 (op : Int), .int .i64 n, .string nm, .slice ao len cap]] w fun e w' => e = .returned (.bool ((len : Int) == 0)) ∧ Below w.heap.size w w' := by
  go_enter Tryd.func34, Tryd.ntmps34
  go_wp2
  go_ret
  exact ⟨rfl, (Below.refl _ _).alloc (Nat.le_refl _) _⟩
set_option maxRecDepth 100000 in
set_option maxHeartbeats 1000000 in
theorem has_2cn (op : Nat) (n : Int) (nm : ByteArray) (ao : Option Addr) (len cap : Nat) (w : World) (e1 : ((op : Int) == 1) = false) (e2 : ((op : Int) == 2) = true) (h0 : (n == 0) = false) (h1 : (n == 1) = true) (he : nm.toList.isEmpty = false) : Calls Tryd.prog 34 #[.agg #[.int .u8 (op : Int), .int .i64 n, .string nm, .slice ao len cap]] w fun e w' => e = .returned (.bool false) ∧ Below w.heap.size w w' := by
  go_enter Tryd.func34, Tryd.ntmps34
  go_wp2
  go_ret
  exact ⟨rfl, (Below.refl _ _).alloc (Nat.le_refl _) _⟩
set_option maxRecDepth 100000 in
set_option maxHeartbeats 1000000 in
theorem has_2ce (op : Nat) (n : Int) (nm : ByteArray) (ao : Option Addr) (len cap : Nat) (w : World) (e1 : ((op : Int) == 1) = false) (e2 : ((op : Int) == 2) = true) (h0 : (n == 0) = false) (h1 : (n == 1) = true) (he : nm.toList.isEmpty = true) : Calls Tryd.prog 34 #[.agg #[.int .u8 (op : Int), .int .i64 n, .string nm, .slice ao len cap]] w fun e w' => e = .returned (.bool ((len : Int) == 0)) ∧ Below w.heap.size w w' := by
  go_enter Tryd.func34, Tryd.ntmps34
  go_wp2
  go_ret
  exact ⟨rfl, (Below.refl _ _).alloc (Nat.le_refl _) _⟩
set_option maxRecDepth 100000 in
set_option maxHeartbeats 1000000 in
theorem has_3a (op : Nat) (n : Int) (nm : ByteArray) (ao : Option Addr) (len cap : Nat) (w : World) (e1 : ((op : Int) == 1) = false) (e2 : ((op : Int) == 2) = false) (e3 : ((op : Int) == 3) = true) (h0 : (n == 0) = false) : Calls Tryd.prog 34 #[.agg #[.int .u8 (op : Int), .int .i64 n, .string nm, .slice ao len cap]] w fun e w' => e = .returned (.bool false) ∧ Below w.heap.size w w' := by
  go_enter Tryd.func34, Tryd.ntmps34
  go_wp2
  go_ret
  exact ⟨rfl, (Below.refl _ _).alloc (Nat.le_refl _) _⟩
set_option maxRecDepth 100000 in
set_option maxHeartbeats 1000000 in
theorem has_3b (op : Nat) (n : Int) (nm : ByteArray) (ao : Option Addr) (len cap : Nat) (w : World) (e1 : ((op : Int) == 1) = false) (e2 : ((op : Int) == 2) = false) (e3 : ((op : Int) == 3) = true) (h0 : (n == 0) = true) (c : ∀ W, TabR W → Calls Tryd.prog 39 #[.string nm] W fun e w' => e = .returned (.bool false) ∧ Below W.heap.size W w') (hR : Hid (TabR w)) : Calls Tryd.prog 34 #[.agg #[.int .u8 (op : Int), .int .i64 n, .string nm, .slice ao len cap]] w fun e w' => e = .returned (.bool false) ∧ Below w.heap.size w w' := by
  go_enter Tryd.func34, Tryd.ntmps34
  go_wp2_with (go_at_call 39; refine (c _ (hR.out.below ((Below.refl _ _).alloc (Nat.le_refl _) _))).mono ?_; rintro e w2 ⟨rfl, hb2⟩)
  go_ret
  exact ⟨rfl, bstep ((Below.refl _ _).alloc (Nat.le_refl _) _) hb2⟩
set_option maxRecDepth 100000 in
set_option maxHeartbeats 1000000 in
theorem has_3c (op : Nat) (n : Int) (nm : ByteArray) (ao : Option Addr) (len cap : Nat) (w : World) (e1 : ((op : Int) == 1) = false) (e2 : ((op : Int) == 2) = false) (e3 : ((op : Int) == 3) = true) (h0 : (n == 0) = true) (c : ∀ W, TabR W → Calls Tryd.prog 39 #[.string nm] W fun e w' => e = .returned (.bool true) ∧ Below W.heap.size W w') (hR : Hid (TabR w)) : Calls Tryd.prog 34 #[.agg #[.int .u8 (op : Int), .int .i64 n, .string nm, .slice ao len cap]] w fun e w' => e = .returned (.bool ((len : Int) == 0)) ∧ Below w.heap.size w w' := by
  go_enter Tryd.func34, Tryd.ntmps34
  go_wp2_with (go_at_call 39; refine (c _ (hR.out.below ((Below.refl _ _).alloc (Nat.le_refl _) _))).mono ?_; rintro e w2 ⟨rfl, hb2⟩; have bx := fun j v (h : (w.alloc (.cells #[.int .u8 (op : Int), .int .i64 n, .string nm, .slice ao len cap] 30)).cell? ⟨w.heap.size, j, none⟩ = some v) => cell_kept h hb2; have x3 := bx 3 (.slice ao len cap) (by rw [World.cell?_alloc_at _ _ _ _ rfl]; rfl); clear bx)
  go_ret
  exact ⟨rfl, bstep ((Below.refl _ _).alloc (Nat.le_refl _) _) hb2⟩
set_option maxRecDepth 100000 in
set_option maxHeartbeats 1000000 in
theorem has_4a (op : Nat) (n : Int) (nm : ByteArray) (ao : Option Addr) (len cap : Nat) (w : World) (e1 : ((op : Int) == 1) = false) (e2 : ((op : Int) == 2) = false) (e3 : ((op : Int) == 3) = false) (p : Nat) (c : ∀ W, TabJ W → Calls Tryd.prog 40 #[.int .u8 (op : Int)] W fun e w' => e = .returned (.int .i64 (p : Int)) ∧ Below W.heap.size W w') (hJ : Hid (TabJ w)) (hp : ¬ (0 : Int) < (p : Int)) : Calls Tryd.prog 34 #[.agg #[.int .u8 (op : Int), .int .i64 n, .string nm, .slice ao len cap]] w fun e w' => e = .returned (.bool false) ∧ Below w.heap.size w w' := by
  go_enter Tryd.func34, Tryd.ntmps34
  go_wp2_with (go_at_call 40; refine (c _ (hJ.out.below ((Below.refl _ _).alloc (Nat.le_refl _) _))).mono ?_; rintro e w2 ⟨rfl, hb2⟩)
  go_ret
  exact ⟨rfl, bstep ((Below.refl _ _).alloc (Nat.le_refl _) _) hb2⟩
set_option maxRecDepth 100000 in
set_option maxHeartbeats 1000000 in
theorem has_4b (op : Nat) (n : Int) (nm : ByteArray) (ao : Option Addr) (len cap : Nat) (w : World) (e1 : ((op : Int) == 1) = false) (e2 : ((op : Int) == 2) = false) (e3 : ((op : Int) == 3) = false) (p : Nat) (c : ∀ W, TabJ W → Calls Tryd.prog 40 #[.int .u8 (op : Int)] W fun e w' => e = .returned (.int .i64 (p : Int)) ∧ Below W.heap.size W w') (hJ : Hid (TabJ w)) (hp : (0 : Int) < (p : Int)) (h0 : (n == 0) = false) : Calls Tryd.prog 34 #[.agg #[.int .u8 (op : Int), .int .i64 n, .string nm, .slice ao len cap]] w fun e w' => e = .returned (.bool false) ∧ Below w.heap.size w w' := by
  go_enter Tryd.func34, Tryd.ntmps34
  go_wp2_with (go_at_call 40; refine (c _ (hJ.out.below ((Below.refl _ _).alloc (Nat.le_refl _) _))).mono ?_; rintro e w2 ⟨rfl, hb2⟩; have bx := fun j v (h : (w.alloc (.cells #[.int .u8 (op : Int), .int .i64 n, .string nm, .slice ao len cap] 30)).cell? ⟨w.heap.size, j, none⟩ = some v) => cell_kept h hb2; have x1 := bx 1 (.int .i64 n) (by rw [World.cell?_alloc_at _ _ _ _ rfl]; rfl); have x2 := bx 2 (.string nm) (by rw [World.cell?_alloc_at _ _ _ _ rfl]; rfl); have x3 := bx 3 (.slice ao len cap) (by rw [World.cell?_alloc_at _ _ _ _ rfl]; rfl); clear bx)
  go_ret
  exact ⟨rfl, bstep ((Below.refl _ _).alloc (Nat.le_refl _) _) hb2⟩
set_option maxRecDepth 100000 in
set_option maxHeartbeats 1000000 in
theorem has_4c (op : Nat) (n : Int) (nm : ByteArray) (ao : Option Addr) (len cap : Nat) (w : World) (e1 : ((op : Int) == 1) = false) (e2 : ((op : Int) == 2) = false) (e3 : ((op : Int) == 3) = false) (p : Nat) (c : ∀ W, TabJ W → Calls Tryd.prog 40 #[.int .u8 (op : Int)] W fun e w' => e = .returned (.int .i64 (p : Int)) ∧ Below W.heap.size W w') (hJ : Hid (TabJ w)) (hp : (0 : Int) < (p : Int)) (h0 : (n == 0) = true) (he : nm.toList.isEmpty = false) : Calls Tryd.prog 34 #[.agg #[.int .u8 (op : Int), .int .i64 n, .string nm, .slice ao len cap]] w fun e w' => e = .returned (.bool false) ∧ Below w.heap.size w w' := by
  go_enter Tryd.func34, Tryd.ntmps34
  go_wp2_with (go_at_call 40; refine (c _ (hJ.out.below ((Below.refl _ _).alloc (Nat.le_refl _) _))).mono ?_; rintro e w2 ⟨rfl, hb2⟩; have bx := fun j v (h : (w.alloc (.cells #[.int .u8 (op : Int), .int .i64 n, .string nm, .slice ao len cap] 30)).cell? ⟨w.heap.size, j, none⟩ = some v) => cell_kept h hb2; have x1 := bx 1 (.int .i64 n) (by rw [World.cell?_alloc_at _ _ _ _ rfl]; rfl); have x2 := bx 2 (.string nm) (by rw [World.cell?_alloc_at _ _ _ _ rfl]; rfl); have x3 := bx 3 (.slice ao len cap) (by rw [World.cell?_alloc_at _ _ _ _ rfl]; rfl); clear bx)
  go_ret
  exact ⟨rfl, bstep ((Below.refl _ _).alloc (Nat.le_refl _) _) hb2⟩
set_option maxRecDepth 100000 in
set_option maxHeartbeats 1000000 in
theorem has_4d (op : Nat) (n : Int) (nm : ByteArray) (ao : Option Addr) (len cap : Nat) (w : World) (e1 : ((op : Int) == 1) = false) (e2 : ((op : Int) == 2) = false) (e3 : ((op : Int) == 3) = false) (p : Nat) (c : ∀ W, TabJ W → Calls Tryd.prog 40 #[.int .u8 (op : Int)] W fun e w' => e = .returned (.int .i64 (p : Int)) ∧ Below W.heap.size W w') (hJ : Hid (TabJ w)) (hp : (0 : Int) < (p : Int)) (h0 : (n == 0) = true) (he : nm.toList.isEmpty = true) : Calls Tryd.prog 34 #[.agg #[.int .u8 (op : Int), .int .i64 n, .string nm, .slice ao len cap]] w fun e w' => e = .returned (.bool ((len : Int) == (p : Int))) ∧ Below w.heap.size w w' := by
  go_enter Tryd.func34, Tryd.ntmps34
  go_wp2_with (go_at_call 40; refine (c _ (hJ.out.below ((Below.refl _ _).alloc (Nat.le_refl _) _))).mono ?_; rintro e w2 ⟨rfl, hb2⟩; have bx := fun j v (h : (w.alloc (.cells #[.int .u8 (op : Int), .int .i64 n, .string nm, .slice ao len cap] 30)).cell? ⟨w.heap.size, j, none⟩ = some v) => cell_kept h hb2; have x1 := bx 1 (.int .i64 n) (by rw [World.cell?_alloc_at _ _ _ _ rfl]; rfl); have x2 := bx 2 (.string nm) (by rw [World.cell?_alloc_at _ _ _ _ rfl]; rfl); have x3 := bx 3 (.slice ao len cap) (by rw [World.cell?_alloc_at _ _ _ _ rfl]; rfl); clear bx)
  go_ret
  exact ⟨rfl, bstep ((Below.refl _ _).alloc (Nat.le_refl _) _) hb2⟩
theorem len_eq (a b : Nat) : ((a : Int) == (b : Int)) = decide (a = b) := by
  by_cases h : a = b
  · rw [eqN h, decide_eq_true h]
  · rw [neN h, decide_eq_false h]
theorem len_zero' (a : Nat) : ((a : Int) == 0) = decide (a = 0) := len_eq a 0
/-- hasItsFields. -/
theorem hasIts (op : Nat) (n : Int) (nm : ByteArray) (ao : Option Addr) (len cap : Nat) (w : World) (hR : TabR w) (hJ : TabJ w) :
    Calls Tryd.prog 34 #[.agg #[.int .u8 (op : Int), .int .i64 n, .string nm, .slice ao len cap]] w fun e w' => e = .returned (.bool (fieldsOk op n nm len)) ∧ Below w.heap.size w w' := by
  unfold fieldsOk
  by_cases h1 : op = 1
  · rw [if_pos h1]
    have e1 := eqN (b := 1) h1
    by_cases h0 : 0 ≤ n
    · rw [decide_eq_true h0, Bool.true_and]
      by_cases hm : nm.size = 0
      · rw [decide_eq_true hm, Bool.true_and, ← len_zero']; exact has_1c op n nm ao len cap w e1 h0 (empty_yes hm)
      · rw [decide_eq_false hm, Bool.false_and]; exact has_1b op n nm ao len cap w e1 h0 (empty_no hm)
    · rw [decide_eq_false h0, Bool.false_and]; exact has_1a op n nm ao len cap w e1 h0
  · rw [if_neg h1]
    have e1 := neN (b := 1) h1
    by_cases h2 : op = 2
    · rw [if_pos h2]
      have e2 := eqN (b := 2) h2
      by_cases h0 : n = 0
      · rw [decide_eq_true h0, Bool.true_or, Bool.true_and]
        by_cases hm : nm.size = 0
        · rw [decide_eq_true hm, Bool.true_and, ← len_zero']; exact has_2be op n nm ao len cap w e1 e2 (ieq h0) (empty_yes hm)
        · rw [decide_eq_false hm, Bool.false_and]; exact has_2bn op n nm ao len cap w e1 e2 (ieq h0) (empty_no hm)
      · rw [decide_eq_false h0, Bool.false_or]
        by_cases h01 : n = 1
        · rw [decide_eq_true h01, Bool.true_and]
          by_cases hm : nm.size = 0
          · rw [decide_eq_true hm, Bool.true_and, ← len_zero']; exact has_2ce op n nm ao len cap w e1 e2 (ine h0) (ieq h01) (empty_yes hm)
          · rw [decide_eq_false hm, Bool.false_and]; exact has_2cn op n nm ao len cap w e1 e2 (ine h0) (ieq h01) (empty_no hm)
        · rw [decide_eq_false h01, Bool.false_and]; exact has_2a op n nm ao len cap w e1 e2 (ine h0) (ine h01)
    · rw [if_neg h2]
      have e2 := neN (b := 2) h2
      by_cases h3 : op = 3
      · rw [if_pos h3]
        have e3 := eqN (b := 3) h3
        by_cases h0 : n = 0
        · rw [decide_eq_true h0, Bool.true_and]
          have c := fun W hT => name nm W hT
          cases hb : isName nm
          · rw [hb] at c; rw [Bool.false_and]; exact has_3b op n nm ao len cap w e1 e2 e3 (ieq h0) c hR
          · rw [hb] at c; rw [Bool.true_and, ← len_zero']; exact has_3c op n nm ao len cap w e1 e2 e3 (ieq h0) c hR
        · rw [decide_eq_false h0, Bool.false_and]; exact has_3a op n nm ao len cap w e1 e2 e3 (ine h0)
      · rw [if_neg h3]
        have e3 := neN (b := 3) h3
        have c := fun W hT => partsOf op W hT
        generalize parts op = p at c
        by_cases hp : 0 < p
        · have hp' : (0 : Int) < (p : Int) := by omega
          rw [decide_eq_true hp, Bool.true_and]
          by_cases h0 : n = 0
          · rw [decide_eq_true h0, Bool.true_and]
            by_cases hm : nm.size = 0
            · rw [decide_eq_true hm, Bool.true_and, ← len_eq]; exact has_4d op n nm ao len cap w e1 e2 e3 p c hJ hp' (ieq h0) (empty_yes hm)
            · rw [decide_eq_false hm, Bool.false_and]; exact has_4c op n nm ao len cap w e1 e2 e3 p c hJ hp' (ieq h0) (empty_no hm)
          · rw [decide_eq_false h0, Bool.false_and]; exact has_4b op n nm ao len cap w e1 e2 e3 p c hJ hp' (ine h0)
        · rw [decide_eq_false hp, Bool.false_and]; exact has_4a op n nm ao len cap w e1 e2 e3 p c hJ (by omega)
end Go.Proofs.YtejacmgppnafcabDoor.Lex
namespace Go.Proofs.YtejacmgppnafcabDoor.Lex
open Go.ChangeShapes Go.WideShapes Go.ChangeAt Go.RowKit Go.Joins
/-- How great parts are behind so many, where at most so many may be. -/
def szL (f : Nat → Ex → Option Nat) (most : Nat) : Nat → List Ex → Option Nat
  | n, [] => some n
  | n, a :: l => match f (most - n) a with
    | none => none
    | some k => szL f most (n + k) l
/-- How great it is, if it may be, so deep and so great at most. -/
def sz : Nat → Nat → Ex → Option Nat
  | 0, _, _ => none
  | d + 1, most, x => if most = 0 ∨ fieldsOk x.op x.n x.name x.args.length = false then none else szL (sz d) most 1 x.args
theorem szL_le {f : Nat → Ex → Option Nat} (hf : ∀ m a k, f m a = some k → 1 ≤ k ∧ k ≤ m) (most : Nat) : ∀ (l : List Ex) (n r : Nat), n ≤ most → szL f most n l = some r → n ≤ r ∧ r ≤ most
  | [], n, r, hn, h => by simp only [szL, Option.some.injEq] at h; omega
  | a :: l, n, r, hn, h => by
    simp only [szL] at h
    cases e : f (most - n) a with
    | none => rw [e] at h; cases h
    | some k =>
      rw [e] at h
      have := hf _ _ _ e
      have := szL_le hf most l (n + k) r (by omega) h
      omega
theorem sz_le : ∀ (d most : Nat) (x : Ex) (k : Nat), sz d most x = some k → 1 ≤ k ∧ k ≤ most
  | 0, most, x, k, h => by simp [sz] at h
  | d + 1, most, x, k, h => by
    rw [sz] at h
    split at h
    · cases h
    · next hn => exact szL_le (fun m a k => sz_le d m a k) most x.args 1 k (by omega) h
/-- May it be? -/
def chk (x : Ex) : Bool := (sz 32 200 x).isSome
theorem set_same {w : World} {b : Nat} {c : Array Value} {t : TypeId} {f : Nat × Nat} (h : w.heap[b]? = some (.cells c t f)) (i : Nat) (u : Value) :
    (w.setCell ⟨b, i, none⟩ u).heap[b]? = some (.cells (c.setIfInBounds i u) t f) := by
  obtain ⟨hlt, hk⟩ := Array.getElem?_eq_some_iff.1 h
  show (w.heap.modify b _)[b]? = _
  rw [Array.getElem?_eq_getElem (by rw [Array.size_modify]; exact hlt), Array.getElem_modify_self, hk]
  rfl
/-- A count in a cell of its own, beyond all that came in. -/
structure Lf (w0 w : World) (b : Nat) (M : Int) (W : World) : Prop where
  base : Below w0.heap.size w0 W
  below : Below b w W
  cell : W.heap[b]? = some (.cells #[.int .i64 M] 3 (0, 0))
theorem Lf.step {w0 w W W' : World} {b : Nat} {M : Int} (h : Lf w0 w b M W) (hb : Below W.heap.size W W') : Lf w0 w b M W' :=
  have hlt := (Array.getElem?_eq_some_iff.1 h.cell).1
  ⟨bstep h.base hb, h.below.trans (hb.mono (by omega)), (hb.block b hlt).trans h.cell⟩
theorem Lf.set {w0 w W : World} {b : Nat} {M : Int} (h : Lf w0 w b M W) (hb : w0.heap.size ≤ b) (M' : Int) : Lf w0 w b M' (W.setCell ⟨b, 0, none⟩ (.int .i64 M')) :=
  ⟨h.base.setCell (p := ⟨b, 0, none⟩) hb _, h.below.setCell (p := ⟨b, 0, none⟩) (Nat.le_refl _) _, set_same h.cell 0 _⟩
theorem Lf.at {w0 w W : World} {b : Nat} {M : Int} (h : Lf w0 w b M W) : W.cell? ⟨b, 0, none⟩ = some (.int .i64 M) ∧ W.frozen? ⟨b, 0, none⟩ = false :=
  ⟨by rw [cell_of_row _ _ _ _ 3 (0, 0) h.cell]; rfl, frozen_of_row _ _ _ _ _ h.cell⟩
/-- What fits answers. -/
def FitC (d : Nat) : Prop := ∀ (x : Ex) (w0 w : World) (s : Value) (b L : Nat), L ≤ 200 → St w0 x s → Below w0.heap.size w0 w → w0.heap.size ≤ b → w.heap[b]? = some (.cells #[.int .i64 (L : Int)] 3 (0, 0)) → TabR w0 → TabJ w0 →
  Calls Tryd.prog 24 #[exV x s, .int .i64 (d : Int), .pointer (some ⟨b, 0, none⟩)] w fun e w' => e = .returned (.bool (sz d L x).isSome) ∧ Below b w w' ∧ ∀ k, sz d L x = some k → Lf w0 w b ((L : Int) - (k : Int)) w'
/-- The cells of a value in a box. -/
theorem box_at (w : World) (c : Array Value) (t : TypeId) (j : Nat) (v : Value) (h : c[j]? = some v) : (w.alloc (.cells c t)).cell? ⟨w.heap.size, j, none⟩ = some v := by
  rw [World.cell?_alloc_at _ _ _ _ rfl]; exact h
set_option maxRecDepth 100000 in
set_option maxHeartbeats 1000000 in
theorem fits_zero : FitC 0 := by
  intro x w0 w s b L hL hS hB hb hc hR hJ
  obtain ⟨ao, cap, sl, rfl, _⟩ := hS.out
  have hsz : sz 0 L x = none := by simp [sz]
  have l0 : Lf w0 w b (L : Int) (w.alloc (.cells #[.int .u8 (x.op : Int), .int .i64 x.n, .string x.name, .slice ao x.args.length cap] 30)) := Lf.step ⟨hB, Below.refl _ _, hc⟩ ((Below.refl _ _).alloc (Nat.le_refl _) _)
  have l1 := l0.set hb ((L : Int) - 1)
  obtain ⟨y0, y1⟩ := l0.at
  rw [hsz]
  have H1 := hid l1.below
  clear l0 l1 hc hsz hS hR hJ hB
  go_enter Tryd.func24, Tryd.ntmps24
  go_wp2
  go_ret
  exact ⟨rfl, H1.out, fun k h => by cases h⟩
set_option maxRecDepth 100000 in
set_option maxHeartbeats 1000000 in
theorem fits_none (d : Nat) (hd : d + 1 ≤ 32) : ∀ (x : Ex) (w0 w : World) (s : Value) (b : Nat), St w0 x s → Below w0.heap.size w0 w → w0.heap.size ≤ b → w.heap[b]? = some (.cells #[.int .i64 ((0 : Nat) : Int)] 3 (0, 0)) →
    Calls Tryd.prog 24 #[exV x s, .int .i64 ((d + 1 : Nat) : Int), .pointer (some ⟨b, 0, none⟩)] w fun e w' => e = .returned (.bool false) ∧ Below b w w' := by
  intro x w0 w s b hS hB hb hc
  obtain ⟨ao, cap, sl, rfl, _⟩ := hS.out
  have l0 : Lf w0 w b ((0 : Nat) : Int) (w.alloc (.cells #[.int .u8 (x.op : Int), .int .i64 x.n, .string x.name, .slice ao x.args.length cap] 30)) := Lf.step ⟨hB, Below.refl _ _, hc⟩ ((Below.refl _ _).alloc (Nat.le_refl _) _)
  have l1 := l0.set hb (-1)
  obtain ⟨y0, y1⟩ := l0.at
  obtain ⟨y2, _⟩ := l1.at
  have H1 := hid l1.below
  have hd0 : (((d + 1 : Nat) : Int) == 0) = false := by simp; omega
  generalize hD : ((d + 1 : Nat) : Int) = D at *
  clear l0 l1 hc hS hB hD
  go_enter Tryd.func24, Tryd.ntmps24
  go_wp2
  go_ret
  exact ⟨rfl, H1.out⟩
set_option maxRecDepth 100000 in
set_option maxHeartbeats 1000000 in
theorem fits_bad (d : Nat) (hd : d + 1 ≤ 32) : ∀ (x : Ex) (w0 w : World) (s : Value) (b L : Nat), 1 ≤ L → L ≤ 200 → St w0 x s → Below w0.heap.size w0 w → w0.heap.size ≤ b → w.heap[b]? = some (.cells #[.int .i64 (L : Int)] 3 (0, 0)) → TabR w0 → TabJ w0 → fieldsOk x.op x.n x.name x.args.length = false →
    Calls Tryd.prog 24 #[exV x s, .int .i64 ((d + 1 : Nat) : Int), .pointer (some ⟨b, 0, none⟩)] w fun e w' => e = .returned (.bool false) ∧ Below b w w' := by
  intro x w0 w s b L h1 hL hS hB hb hc hR hJ hf
  obtain ⟨ao, cap, sl, rfl, _⟩ := hS.out
  have l0 : Lf w0 w b (L : Int) (w.alloc (.cells #[.int .u8 (x.op : Int), .int .i64 x.n, .string x.name, .slice ao x.args.length cap] 30)) := Lf.step ⟨hB, Below.refl _ _, hc⟩ ((Below.refl _ _).alloc (Nat.le_refl _) _)
  have l1 := l0.set hb ((L : Int) - 1)
  obtain ⟨y0, y1⟩ := l0.at
  obtain ⟨y2, _⟩ := l1.at
  have c := hasIts x.op x.n x.name ao x.args.length cap _ (hR.below l1.base) (hJ.below l1.base)
  rw [hf] at c
  have H1 := hid l1
  have hd0 : (((d + 1 : Nat) : Int) == 0) = false := by simp; omega
  have hL1 : ¬ (L : Int) - 1 < 0 := by omega
  have hne : w.heap.size ≠ b := by have := (Array.getElem?_eq_some_iff.1 hc).1; omega
  have xb : ∀ j v, (#[.int .u8 (x.op : Int), .int .i64 x.n, .string x.name, .slice ao x.args.length cap] : Array Value)[j]? = some v → ((w.alloc (.cells #[.int .u8 (x.op : Int), .int .i64 x.n, .string x.name, .slice ao x.args.length cap] 30)).setCell ⟨b, 0, none⟩ (.int .i64 ((L : Int) - 1))).cell? ⟨w.heap.size, j, none⟩ = some v := fun j v h => by
    rw [World.cell?_of_block (w := w.alloc (.cells #[.int .u8 (x.op : Int), .int .i64 x.n, .string x.name, .slice ao x.args.length cap] 30)) (Below.heap_setCell _ _ _ _ hne)]
    exact box_at w _ 30 j v h
  have x0 := xb 0 _ rfl
  have x1 := xb 1 _ rfl
  have x2 := xb 2 _ rfl
  have x3 := xb 3 _ rfl
  generalize hW : (w.alloc (.cells #[.int .u8 (x.op : Int), .int .i64 x.n, .string x.name, .slice ao x.args.length cap] 30)).setCell ⟨b, 0, none⟩ (.int .i64 ((L : Int) - 1)) = W1 at *
  generalize hD : ((d + 1 : Nat) : Int) = D at *
  clear l0 l1 hc hS hB hR hJ hD hf xb hne
  go_enter Tryd.func24, Tryd.ntmps24
  go_wp2_with (go_at_call 34; refine c.mono ?_; rintro e w3 ⟨rfl, hb3⟩)
  go_ret
  exact ⟨rfl, (H1.out.step hb3).below⟩
set_option maxRecDepth 100000 in
set_option maxHeartbeats 2000000 in
theorem fits_ok (d : Nat) (hd : d + 1 ≤ 32) (ih : FitC d) : ∀ (x : Ex) (w0 w : World) (s : Value) (b L : Nat), 1 ≤ L → L ≤ 200 → St w0 x s → Below w0.heap.size w0 w → w0.heap.size ≤ b → w.heap[b]? = some (.cells #[.int .i64 (L : Int)] 3 (0, 0)) → TabR w0 → TabJ w0 → fieldsOk x.op x.n x.name x.args.length = true →
    Calls Tryd.prog 24 #[exV x s, .int .i64 ((d + 1 : Nat) : Int), .pointer (some ⟨b, 0, none⟩)] w fun e w' => e = .returned (.bool (szL (sz d) L 1 x.args).isSome) ∧ Below b w w' ∧ ∀ k, szL (sz d) L 1 x.args = some k → Lf w0 w b ((L : Int) - (k : Int)) w' := by
  intro x w0 w s b L h1 hL hS hB hb hc hR hJ hf
  obtain ⟨ao, cap, sl, rfl, _, _, _, hlen, _, hcs, hss⟩ := hS.out
  have l0 : Lf w0 w b (L : Int) (w.alloc (.cells #[.int .u8 (x.op : Int), .int .i64 x.n, .string x.name, .slice ao x.args.length cap] 30)) := Lf.step ⟨hB, Below.refl _ _, hc⟩ ((Below.refl _ _).alloc (Nat.le_refl _) _)
  have l1 := l0.set hb ((L : Int) - 1)
  obtain ⟨y0, y1⟩ := l0.at
  obtain ⟨y2, _⟩ := l1.at
  have c := hasIts x.op x.n x.name ao x.args.length cap _ (hR.below l1.base) (hJ.below l1.base)
  rw [hf] at c
  have H1 := hid l1
  have hd0 : (((d + 1 : Nat) : Int) == 0) = false := by simp; omega
  have hD1 : ((d + 1 : Nat) : Int) - 1 = (d : Int) := by omega
  have hD2 : ((d + 1 : Nat) : Int) ≤ 32 ∧ 0 ≤ ((d + 1 : Nat) : Int) := by omega
  have hL1 : ¬ (L : Int) - 1 < 0 := by omega
  have hne : w.heap.size ≠ b := by have := (Array.getElem?_eq_some_iff.1 hc).1; omega
  have xb : ∀ j v, (#[.int .u8 (x.op : Int), .int .i64 x.n, .string x.name, .slice ao x.args.length cap] : Array Value)[j]? = some v → ((w.alloc (.cells #[.int .u8 (x.op : Int), .int .i64 x.n, .string x.name, .slice ao x.args.length cap] 30)).setCell ⟨b, 0, none⟩ (.int .i64 ((L : Int) - 1))).cell? ⟨w.heap.size, j, none⟩ = some v := fun j v h => by
    rw [World.cell?_of_block (w := w.alloc (.cells #[.int .u8 (x.op : Int), .int .i64 x.n, .string x.name, .slice ao x.args.length cap] 30)) (Below.heap_setCell _ _ _ _ hne)]
    exact box_at w _ 30 j v h
  have x0 := xb 0 _ rfl
  have x1 := xb 1 _ rfl
  have x2 := xb 2 _ rfl
  have x3 := xb 3 _ rfl
  generalize hW : (w.alloc (.cells #[.int .u8 (x.op : Int), .int .i64 x.n, .string x.name, .slice ao x.args.length cap] 30)).setCell ⟨b, 0, none⟩ (.int .i64 ((L : Int) - 1)) = W1 at *
  generalize hD : ((d + 1 : Nat) : Int) = D at *
  have HS := hid hss
  have HC := hid hcs
  have HI := hid ih
  have HR := hid hR
  have HJ := hid hJ
  obtain ⟨hD3, hD4⟩ := hD2
  clear l0 l1 hc hS hB hR hJ hD hf xb hne hss hcs ih
  go_enter Tryd.func24, Tryd.ntmps24
  go_wp2_with (go_at_call 34; refine c.mono ?_; rintro e w3 ⟨rfl, hb3⟩; have z3 := cell_kept x3 hb3; have L3 := hid (H1.out.step hb3); clear hb3 c x0 x1 x2 x3 y0 y1 y2)
  go_loopw [30] (fun i wr => ∃ k n : Nat, k ≤ x.args.length ∧ 1 ≤ n ∧ n ≤ L ∧ i = .int .i64 (k : Int) ∧ Hid (szL (sz d) L 1 x.args = szL (sz d) L n (x.args.drop k)) ∧ Hid (Lf w0 w b ((L : Int) - (n : Int)) wr)) (fun i _ => x.args.length - (intOf i).toNat)
  case atStart => exact ⟨0, 1, Nat.zero_le _, Nat.le_refl _, h1, rfl, by simp [Hid], L3⟩
  case round =>
    obtain ⟨k, n, hk, hn1, hnL, rfl, hE, hB⟩ := hrel
    by_cases hlt : k < x.args.length
    · have hlt' : (k : Int) < (x.args.length : Int) := by omega
      have hk0 : (0 : Int) ≤ (k : Int) := by omega
      obtain ⟨bb, o, rfl, hcc⟩ := HC.out.resolve_left (by omega)
      obtain ⟨a0, a1, a2, a3⟩ := hcc k hlt
      have v0 := cell_kept a0 hB.out.base
      have v1 := cell_kept a1 hB.out.base
      have v2 := cell_kept a2 hB.out.base
      have v3 := cell_kept a3 hB.out.base
      have hdr : x.args.drop k = x.args[k] :: x.args.drop (k + 1) := List.drop_eq_getElem_cons hlt
      have hE' := hE.out
      rw [hdr, szL] at hE'
      have HE := hid hE'
      have hst := HS.out k hlt
      clear a0 a1 a2 a3 hcc hdr hE' hE
      generalize x.args[k] = y at *
      obtain ⟨sv, hsv⟩ : ∃ sv, sl k = sv := ⟨_, rfl⟩
      rw [hsv] at v3 hst
      obtain ⟨ak, ck, _, rfl, _⟩ := hst.out
      clear hsv
      have lA : Lf w0 w b ((L : Int) - (n : Int)) (wr.alloc (.cells #[.int .u8 (y.op : Int), .int .i64 y.n, .string y.name, .slice ak y.args.length ck] 30)) := hB.out.step ((Below.refl _ _).alloc (Nat.le_refl _) _)
      have hlL : ((L - n : Nat) : Int) = (L : Int) - (n : Int) := by omega
      have cc := HI.out y w0 _ _ b (L - n) (by omega) hst lA.base hb (by rw [hlL]; exact lA.cell) HR.out HJ.out
      have LA := hid lA
      clear lA hst
      cases hz : sz d (L - n) y with
      | none =>
        rw [hz] at cc HE
        have hnone : Hid (szL (sz d) L 1 x.args = none) := HE.out
        go_wp2_with (go_at_call 24; refine cc.mono ?_; rintro e w4 ⟨rfl, hb4, _⟩)
        go_ret
        exact ⟨by rw [hnone.out]; rfl, LA.out.below.trans hb4, fun k h => by rw [hnone.out] at h; cases h⟩
      | some m =>
        rw [hz] at cc HE
        have hm := sz_le _ _ _ _ hz
        have HM : Hid ((((L - n : Nat) : Int) - (m : Int)) = (L : Int) - ((n + m : Nat) : Int)) := by unfold Hid; omega
        go_wp2_with (go_at_call 24; refine cc.mono ?_; rintro e w4 ⟨rfl, hb4, hl4⟩; have L4 := hid (hl4 m rfl); clear hl4)
        go_roundw
        case rel =>
          have l4 := L4.out
          rw [HM.out] at l4
          exact ⟨k + 1, n + m, by omega, by omega, by omega, by go_num, HE.out, ⟨l4.base, LA.out.below.trans l4.below, l4.cell⟩⟩
        case measure => simp [intOf]; omega
    · have hlt' : ¬ (k : Int) < (x.args.length : Int) := by omega
      have hdr : x.args.drop k = [] := List.drop_eq_nil_of_le (by omega)
      have hE' := hE.out
      rw [hdr, szL] at hE'
      have HE := hid hE'
      clear hE' hdr hE
      go_wp2
      go_ret
      exact ⟨by rw [HE.out]; rfl, hB.out.below, fun j h => by rw [HE.out] at h; injection h with h; subst h; exact hB.out⟩
/-- fits. -/
theorem fits_any : ∀ (d : Nat), d ≤ 32 → FitC d
  | 0, _ => fits_zero
  | d + 1, hd => by
    intro x w0 w s b L hL hS hB hb hc hR hJ
    have ih := fits_any d (by omega)
    by_cases h0 : L = 0
    · subst h0
      have e : sz (d + 1) 0 x = none := by rw [sz, if_pos (.inl rfl)]
      rw [e]
      exact (fits_none d hd x w0 w s b hS hB hb hc).mono fun e w' ⟨h1, h2⟩ => ⟨h1, h2, fun k h => by cases h⟩
    · cases hf : fieldsOk x.op x.n x.name x.args.length with
      | false =>
        have e : sz (d + 1) L x = none := by rw [sz, if_pos (.inr hf)]
        rw [e]
        exact (fits_bad d hd x w0 w s b L (by omega) hL hS hB hb hc hR hJ hf).mono fun e w' ⟨h1, h2⟩ => ⟨h1, h2, fun k h => by cases h⟩
      | true =>
        have e : sz (d + 1) L x = szL (sz d) L 1 x.args := by rw [sz, if_neg (by rw [hf]; simp [h0])]
        rw [e]
        exact fits_ok d hd ih x w0 w s b L (by omega) hL hS hB hb hc hR hJ hf
set_option maxRecDepth 100000 in
/-- Check. -/
theorem check (x : Ex) (w : World) (s : Value) (hS : St w x s) (hR : TabR w) (hJ : TabJ w) : Calls Tryd.prog 10 #[exV x s] w fun e w' => e = .returned (.bool (chk x)) ∧ Below w.heap.size w w' := by
  obtain ⟨ao, cap, sl, rfl, _⟩ := hS.out
  have b1 := (Below.refl w.heap.size w).alloc (Nat.le_refl _) (.cells #[.int .u8 (x.op : Int), .int .i64 x.n, .string x.name, .slice ao x.args.length cap] 30)
  have b2 := bstep b1 ((Below.refl _ _).alloc (Nat.le_refl _) (.cells #[.int .i64 200] 3))
  have c := fits_any 32 (Nat.le_refl _) x w _ _ (w.heap.size + 1) 200 (Nat.le_refl _) hS b2 (by omega) (by
    have h := heap_alloc_new (w.alloc (.cells #[.int .u8 (x.op : Int), .int .i64 x.n, .string x.name, .slice ao x.args.length cap] 30)) (.cells #[.int .i64 200] 3)
    have e : (w.alloc (.cells #[.int .u8 (x.op : Int), .int .i64 x.n, .string x.name, .slice ao x.args.length cap] 30)).heap.size = w.heap.size + 1 := by simp
    rw [e] at h
    exact h) hR hJ
  have H2 := hid b2
  clear hS hR hJ b1 b2
  go_enter Tryd.func10, Tryd.ntmps10
  go_wp2_with (go_at_call 24; refine c.mono ?_; rintro e w3 ⟨rfl, hb3, _⟩)
  go_ret
  exact ⟨rfl, H2.out.trans (hb3.mono (by omega))⟩
end Go.Proofs.YtejacmgppnafcabDoor.Lex
namespace Go.Proofs.YtejacmgppnafcabDoor.Lex
open Go.ChangeShapes Go.WideShapes Go.ChangeAt Go.RowKit Go.Joins
/-- The head of a flow: all that one from without has. -/
structure Hd where
  name : ByteArray
  ty : Nat
  st : Int
/-- A flow. -/
structure Fl where
  name : ByteArray
  ty : Nat
  st : Int
  df : Int
  body : Ex
/-- A program. -/
structure Pg where
  st : Int
  ins : List Hd
  flows : List Fl
  outs : List ByteArray
abbrev Hd.ok (x : Hd) : Prop := x.name.size ≤ 140737488355328 ∧ x.ty < 256 ∧ (-9223372036854775808 ≤ x.st ∧ x.st ≤ 9223372036854775807)
abbrev Fl.ok (x : Fl) : Prop := x.name.size ≤ 140737488355328 ∧ x.ty < 256 ∧ (-9223372036854775808 ≤ x.st ∧ x.st ≤ 9223372036854775807) ∧ (-9223372036854775808 ≤ x.df ∧ x.df ≤ 9223372036854775807)
/-- The cells of a head. -/
def HdCells (w : World) (b p : Nat) (x : Hd) : Prop :=
  w.cell? ⟨b, p, none⟩ = some (.string x.name) ∧ w.cell? ⟨b, p + 1, none⟩ = some (.int .u8 (x.ty : Int)) ∧ w.cell? ⟨b, p + 2, none⟩ = some (.int .i64 x.st)
/-- The cells of a flow. -/
def FlCells (w : World) (b p : Nat) (x : Fl) (s : Value) : Prop :=
  w.cell? ⟨b, p, none⟩ = some (.string x.name) ∧ w.cell? ⟨b, p + 1, none⟩ = some (.int .u8 (x.ty : Int)) ∧ w.cell? ⟨b, p + 2, none⟩ = some (.int .i64 x.st) ∧ w.cell? ⟨b, p + 3, none⟩ = some (.int .i64 x.df) ∧
  w.cell? ⟨b, p + 4, none⟩ = some (.int .u8 (x.body.op : Int)) ∧ w.cell? ⟨b, p + 5, none⟩ = some (.int .i64 x.body.n) ∧ w.cell? ⟨b, p + 6, none⟩ = some (.string x.body.name) ∧ w.cell? ⟨b, p + 7, none⟩ = some s
theorem HdCells.keep {w w' : World} {b p : Nat} {x : Hd} (h : HdCells w b p x) (hb : Below w.heap.size w w') : HdCells w' b p x :=
  ⟨cell_kept h.1 hb, cell_kept h.2.1 hb, cell_kept h.2.2 hb⟩
theorem FlCells.keep {w w' : World} {b p : Nat} {x : Fl} {s : Value} (h : FlCells w b p x s) (hb : Below w.heap.size w w') : FlCells w' b p x s :=
  ⟨cell_kept h.1 hb, cell_kept h.2.1 hb, cell_kept h.2.2.1 hb, cell_kept h.2.2.2.1 hb, cell_kept h.2.2.2.2.1 hb, cell_kept h.2.2.2.2.2.1 hb, cell_kept h.2.2.2.2.2.2.1 hb, cell_kept h.2.2.2.2.2.2.2 hb⟩
/-- A row of heads in memory. -/
def InsAt (w : World) (l : List Hd) (s : Value) : Prop :=
  ∃ (ao : Option Addr) (cap : Nat), s = .slice ao l.length cap ∧ l.length ≤ 4398046510976 ∧ l.length ≤ cap ∧ (∀ x ∈ l, x.ok) ∧
    (l.length = 0 ∨ ∃ b o, ao = some ⟨b, o, none⟩ ∧ ∀ i (h : i < l.length), HdCells w b (o + i * 3) l[i])
/-- A row of flows in memory. -/
def FlowsAt (w : World) (l : List Fl) (s : Value) : Prop :=
  ∃ (ao : Option Addr) (cap : Nat) (sl : Nat → Value), s = .slice ao l.length cap ∧ l.length ≤ 1466015503658 ∧ l.length ≤ cap ∧ (∀ x ∈ l, x.ok) ∧
    (l.length = 0 ∨ ∃ b o, ao = some ⟨b, o, none⟩ ∧ ∀ i (h : i < l.length), FlCells w b (o + i * 8) l[i] (sl i)) ∧ ∀ i (h : i < l.length), St w l[i].body (sl i)
/-- A row of texts in memory. -/
def TextsAt (w : World) (l : List ByteArray) (s : Value) : Prop :=
  ∃ (ao : Option Addr) (cap : Nat), s = .slice ao l.length cap ∧ l.length ≤ 8796093021952 ∧ l.length ≤ cap ∧ (∀ x ∈ l, x.size ≤ 140737488355328) ∧
    (l.length = 0 ∨ ∃ b o, ao = some ⟨b, o, none⟩ ∧ ∀ i (h : i < l.length), w.cell? ⟨b, o + i, none⟩ = some (.string l[i]))
theorem InsAt.keep {w w' : World} {l : List Hd} {s : Value} (h : InsAt w l s) (hb : Below w.heap.size w w') : InsAt w' l s := by
  obtain ⟨ao, cap, rfl, h1, h2, h3, h4⟩ := h
  refine ⟨ao, cap, rfl, h1, h2, h3, h4.imp_right ?_⟩
  rintro ⟨b, o, ha, hc⟩
  exact ⟨b, o, ha, fun i hi => (hc i hi).keep hb⟩
theorem FlowsAt.keep {w w' : World} {l : List Fl} {s : Value} (h : FlowsAt w l s) (hb : Below w.heap.size w w') : FlowsAt w' l s := by
  obtain ⟨ao, cap, sl, rfl, h1, h2, h3, h4, h5⟩ := h
  refine ⟨ao, cap, sl, rfl, h1, h2, h3, h4.imp_right ?_, fun i hi => (h5 i hi).keep hb⟩
  rintro ⟨b, o, ha, hc⟩
  exact ⟨b, o, ha, fun i hi => (hc i hi).keep hb⟩
theorem TextsAt.keep {w w' : World} {l : List ByteArray} {s : Value} (h : TextsAt w l s) (hb : Below w.heap.size w w') : TextsAt w' l s := by
  obtain ⟨ao, cap, rfl, h1, h2, h3, h4⟩ := h
  refine ⟨ao, cap, rfl, h1, h2, h3, h4.imp_right ?_⟩
  rintro ⟨b, o, ha, hc⟩
  exact ⟨b, o, ha, fun i hi => cell_kept (hc i hi) hb⟩
/-- A head, a flow, a program, as a value. -/
abbrev hdV (x : Hd) : Value := .agg #[.string x.name, .int .u8 (x.ty : Int), .int .i64 x.st]
abbrev flV (x : Fl) (s : Value) : Value := .agg #[.string x.name, .int .u8 (x.ty : Int), .int .i64 x.st, .int .i64 x.df, .int .u8 (x.body.op : Int), .int .i64 x.body.n, .string x.body.name, s]
abbrev pgC (p : Pg) (a b c : Value) : Array Value := #[.int .i64 p.st, a, b, c]
abbrev pgV (p : Pg) (a b c : Value) : Value := .agg (pgC p a b c)
/-- A program in memory: its three rows. -/
structure PgAt (w : World) (p : Pg) (a b c : Value) : Prop where
  st : -9223372036854775808 ≤ p.st ∧ p.st ≤ 9223372036854775807
  ins : InsAt w p.ins a
  flows : FlowsAt w p.flows b
  outs : TextsAt w p.outs c
theorem PgAt.keep {w w' : World} {p : Pg} {a b c : Value} (h : PgAt w p a b c) (hb : Below w.heap.size w w') : PgAt w' p a b c :=
  ⟨h.st, h.ins.keep hb, h.flows.keep hb, h.outs.keep hb⟩
end Go.Proofs.YtejacmgppnafcabDoor.Lex
namespace Go.Proofs.YtejacmgppnafcabDoor.Lex
open Go.ChangeShapes Go.WideShapes Go.ChangeAt Go.RowKit Go.Shelf
attribute [local go_sem] Oper.semAt_some
/-- The head of a flow. -/
abbrev Fl.hd (f : Fl) : Hd := ⟨f.name, f.ty, f.st⟩
def insL (p : Pg) : List (Int × Hd) := p.ins.map fun x => (-1, x)
def flowsL (p : Pg) : List (Int × Hd) := (List.range p.flows.length).map fun (i : Nat) => ((i : Int), (p.flows[i]?.map Fl.hd).getD ⟨ByteArray.empty, 0, 0⟩)
/-- The things of a program, each with its place. -/
def thingsL (p : Pg) : List (Int × Hd) := insL p ++ flowsL p
theorem insL_len (p : Pg) : (insL p).length = p.ins.length := by simp [insL]
theorem flowsL_len (p : Pg) : (flowsL p).length = p.flows.length := by simp [flowsL]
theorem insL_succ (p : Pg) (k : Nat) (h : k < p.ins.length) : (insL p).take (k + 1) = (insL p).take k ++ [(-1, p.ins[k])] := by
  rw [List.take_succ_eq_append_getElem (by rw [insL_len]; exact h)]
  simp [insL]
theorem flowsL_succ (p : Pg) (k : Nat) (h : k < p.flows.length) : (flowsL p).take (k + 1) = (flowsL p).take k ++ [((k : Int), p.flows[k].hd)] := by
  rw [List.take_succ_eq_append_getElem (by rw [flowsL_len]; exact h)]
  simp [flowsL, h]
set_option maxRecDepth 100000 in
set_option maxHeartbeats 2000000 in
theorem things1 (F : Fence) (n : Nat) (h22 : F.fn 30) (hro : F.round = none) (hn : 1 ≤ n) (l Bn n₀ : Nat) (p : Pg) (a b c : Value) (J Jx : List (Int × Hd) → World → Prop) (W0 W : World) (hW0 : n₀ = W0.heap.size) (hW : Below n₀ W0 W) (hP : PgAt W0 p a b c)
    (hA : AbidesFrom W.heap.size J)
    (hY : ∀ pre x W, J pre W → pre.length < (thingsL p).length → YieldAt F (n - 1) Tryd.prog l #[.int .i64 x.1, hdV x.2] W fun e W' =>
      (e = .returned (.bool true) ∧ J (pre ++ [x]) W' ∧ Below n₀ W W') ∨ (e = .returned (.bool false) ∧ Jx (pre ++ [x]) W'))
    (hB1 : W0.cell? ⟨Bn, 1, none⟩ = some a) (hB2 : W0.cell? ⟨Bn, 2, none⟩ = some b) (h0 : J [] W) :
    CallsIn F n Tryd.prog 30 #[.func (.yield l) #[] #[], .pointer (some ⟨Bn, 0, none⟩)] W fun e W' => (∃ v, e = .returned v) ∧
      ((∃ ys, ys = thingsL p ∧ J ys W') ∨ (∃ pre, pre <+: thingsL p ∧ Jx pre W')) := by
  subst hW0
  obtain ⟨ao, cap, rfl, hlen, _, _, hc⟩ := hP.ins
  obtain ⟨bo, cbp, sl, rfl, hlen2, _, _, hc2, hs2⟩ := hP.flows
  have HS2 := hid hs2
  have HC := hid hc
  have HC2 := hid hc2
  have HL : Hid ((thingsL p).length = p.ins.length + p.flows.length) := hid (by simp [thingsL, insL_len, flowsL_len])
  clear hc hc2 hs2 hP
  have x1 := cell_kept hB1 hW
  have HB2 := hid hB2
  have AL : ∀ (s : List (Int × Hd)) (V : World) (o : Obj), J s V → J s (V.alloc o) := fun s V o h => hA s V _ none h (World.grownBy_alloc V o none) (fun r e => by cases e)
  clear hB1 hB2 hA
  refine callsIn_of_wp Tryd.func30 rfl h22 ?_ hro
  simp only [Tryd.ntmps30, List.size_toArray, List.length_cons, List.length_nil, Nat.reduceAdd, Nat.reduceSub, Array.replicate_succ, Array.replicate_zero, List.push_toArray, List.append_toArray, List.nil_append, List.cons_append]
  gi_wp2
  gi_loopw [10] (fun i wr => ∃ k : Nat, k ≤ p.ins.length ∧ i = .int .i64 (k : Int) ∧ Hid (J ((insL p).take k) wr) ∧ Hid (Below W0.heap.size W0 wr)) (fun i wr => p.ins.length - (intOf i).toNat)
  case atStart => exact ⟨0, Nat.zero_le _, rfl, hid h0, hid hW⟩
  case round =>
    obtain ⟨k, hk, rfl, hJ, hB⟩ := hrel
    by_cases hlt : k < p.ins.length
    · have hlt' : (k : Int) < (p.ins.length : Int) := by omega
      have hk0 : (0 : Int) ≤ (k : Int) := by omega
      obtain ⟨bb, o, rfl, hcc⟩ := HC.out.resolve_left (by omega)
      obtain ⟨v0, v1, v2⟩ := (hcc k hlt).keep hB.out
      have HS := hid (insL_succ p k hlt)
      obtain ⟨fn, tmps, assign, body, hy, hR⟩ := hY ((insL p).take k) (-1, p.ins[k]) (wr.alloc (.cells #[.string p.ins[k].name, .int .u8 (p.ins[k].ty : Int), .int .i64 p.ins[k].st] 63)) (AL _ _ _ hJ.out) (by have := HL.out; have := insL_len p; simp; omega)
      dsimp only at hy
      clear hcc
      generalize p.ins[k] = y at *
      gi_wp2
      refine hR.mono ?_
      rintro e W3 (⟨rfl, hJ3, hk3⟩ | ⟨rfl, hJx3⟩)
      · gi_wp2
        go_roundw
        case rel => exact ⟨k + 1, by omega, by go_num, hid (by rw [HS.out]; exact hJ3), hid ((hB.out.alloc hB.out.size _).trans hk3)⟩
        case measure => simp [intOf]; omega
      · gi_wp2
        refine bodyPost_ret (results_none rfl _ _ _) rfl ?_
        exact ⟨⟨_, rfl⟩, .inr ⟨_, by rw [← HS.out]; exact (List.take_prefix _ _).trans (List.prefix_append _ _), hJx3⟩⟩
    · have hlt' : ¬ (k : Int) < (p.ins.length : Int) := by omega
      have hJ' : Hid (J (insL p) wr) := by rw [List.take_of_length_le (by rw [insL_len]; omega)] at hJ; exact hJ
      have x2 := cell_kept HB2.out hB.out
      clear hJ
      gi_wp2
      gi_loopw [22] (fun i wr => ∃ k : Nat, k ≤ p.flows.length ∧ i = .int .i64 (k : Int) ∧ Hid (J (insL p ++ (flowsL p).take k) wr) ∧ Hid (Below W0.heap.size W0 wr)) (fun i wr => p.flows.length - (intOf i).toNat)
      case atStart => exact ⟨0, Nat.zero_le _, rfl, hid (by simpa using hJ'.out), hB⟩
      case round =>
        obtain ⟨j, hj, rfl, hJ2, hB'⟩ := hrel
        by_cases hjl : j < p.flows.length
        · have hjl' : (j : Int) < (p.flows.length : Int) := by omega
          have hj0 : (0 : Int) ≤ (j : Int) := by omega
          obtain ⟨b2, o2, rfl, hcc⟩ := HC2.out.resolve_left (by omega)
          have X := (hcc j hjl).keep hB'.out
          obtain ⟨a3, c3, _, e3, _⟩ := (HS2.out j hjl).out
          rw [e3] at X
          have HS := hid (flowsL_succ p j hjl)
          obtain ⟨fn, tmps, assign, body, hy, hR⟩ := hY (insL p ++ (flowsL p).take j) ((j : Int), p.flows[j].hd) (wr.alloc (.cells #[.string p.flows[j].name, .int .u8 (p.flows[j].ty : Int), .int .i64 p.flows[j].st, .int .i64 p.flows[j].df, .int .u8 (p.flows[j].body.op : Int), .int .i64 p.flows[j].body.n, .string p.flows[j].body.name, .slice a3 p.flows[j].body.args.length c3] 40)) (AL _ _ _ hJ2.out) (by have := HL.out; have := insL_len p; have := flowsL_len p; simp; omega)
          dsimp only [Fl.hd] at hy
          clear hcc e3
          obtain ⟨v0, v1, v2, v3, v4, v5, v6, v7⟩ := X
          generalize p.flows[j] = y at *
          gi_wp2
          refine hR.mono ?_
          rintro e W3 (⟨rfl, hJ3, hk3⟩ | ⟨rfl, hJx3⟩)
          · gi_wp2
            go_roundw
            case rel => exact ⟨j + 1, by omega, by go_num, hid (by rw [HS.out, ← List.append_assoc]; exact hJ3), hid ((hB'.out.alloc hB'.out.size _).trans hk3)⟩
            case measure => simp [intOf]; omega
          · gi_wp2
            refine bodyPost_ret (results_none rfl _ _ _) rfl ?_
            exact ⟨⟨_, rfl⟩, .inr ⟨_, by rw [List.append_assoc, ← HS.out]; exact (List.prefix_append_right_inj _).2 (List.take_prefix _ _), hJx3⟩⟩
        · have hjl' : ¬ (j : Int) < (p.flows.length : Int) := by omega
          gi_wp2
          go_end0
          exact ⟨⟨_, rfl⟩, .inl (by have := hJ2.out; rw [List.take_of_length_le (by rw [flowsL_len]; omega)] at this; exact this)⟩
/-- names.things hands back that function, over a copy of the program. -/
theorem things (F : Fence) (n : Nat) (h14 : F.fn 21) (hro : F.round = none) (p : Pg) (a b c : Value) (w : World) :
    CallsIn F n Tryd.prog 21 #[pgV p a b c] w fun e w' => e = .returned (.func (.func 30) #[] #[.pointer (some ⟨w.heap.size, 0, none⟩)]) ∧ w' = w.alloc (.cells (pgC p a b c) 26) := by
  refine callsIn_of_wp Tryd.func21 rfl h14 ?_ hro
  simp only [Tryd.ntmps21, List.size_toArray, List.length_cons, List.length_nil, Nat.reduceAdd, Nat.reduceSub, Array.replicate_succ, Array.replicate_zero, List.push_toArray, List.append_toArray, List.nil_append, List.cons_append]
  gi_wp2
  go_ret
  exact ⟨rfl, rfl⟩
/-- What it hands back goes through the things. -/
theorem things_stops (F : Fence) (n : Nat) (h22 : F.fn 30) (hro : F.round = none) (hn : 1 ≤ n) (Bn : Nat) (p : Pg) (a b c : Value) (w : World) (hP : PgAt w p a b c) (hB1 : w.cell? ⟨Bn, 1, none⟩ = some a) (hB2 : w.cell? ⟨Bn, 2, none⟩ = some b) :
    SeqStopsK F n Tryd.prog 30 #[.pointer (some ⟨Bn, 0, none⟩)] (fun x : Int × Hd => #[.int .i64 x.1, hdV x.2]) (Below w.heap.size) (fun ys => ys = thingsL p) (fun pre => pre <+: thingsL p) (thingsL p).length w := fun l J Jx W hW hA _ hY h0 =>
  things1 F n h22 hro hn l Bn w.heap.size p a b c J Jx w W rfl hW hP hA hY hB1 hB2 h0
end Go.Proofs.YtejacmgppnafcabDoor.Lex
namespace Go.Proofs.YtejacmgppnafcabDoor.Lex
open Go.ChangeShapes Go.WideShapes Go.ChangeAt Go.RowKit Go.Joins
def inR (n m : Int) : Bool := decide (1 ≤ n) && decide (n ≤ m)
def hdOk (x : Hd) (st : Int) : Bool := isName x.name && ((x.ty == 1 || x.ty == 2) && inR x.st st)
def flOk (x : Fl) (st : Int) : Bool := hdOk x.hd st && (!(x.df == -9223372036854775808) && chk x.body)
def roomOk (p : Pg) : Bool := decide (p.ins.length ≤ 64) && (decide (p.flows.length ≤ 128) && decide (p.outs.length ≤ p.ins.length + p.flows.length))
/-- A program may be. -/
def pgOk (p : Pg) : Bool := (inR p.st 8 && roomOk p) && (p.ins.all (fun x => hdOk x p.st) && (p.flows.all (fun x => flOk x p.st) && p.outs.all isName))
theorem in_range (n m : Int) (w : World) : Calls Tryd.prog 41 #[.int .i64 n, .int .i64 m] w fun e w' => e = .returned (.bool (inR n m)) ∧ w' = w := by
  unfold inR
  by_cases h1 : 1 ≤ n
  · by_cases h2 : n ≤ m
    · rw [decide_eq_true h1, decide_eq_true h2]
      go_enter Tryd.func41, Tryd.ntmps41
      go_wp2
      go_ret
      exact ⟨rfl, rfl⟩
    · rw [decide_eq_true h1, decide_eq_false h2]
      go_enter Tryd.func41, Tryd.ntmps41
      go_wp2
      go_ret
      exact ⟨rfl, rfl⟩
  · rw [decide_eq_false h1]
    go_enter Tryd.func41, Tryd.ntmps41
    go_wp2
    go_ret
    exact ⟨rfl, rfl⟩
set_option maxRecDepth 100000 in
theorem has_room (p : Pg) (w : World) (a b c : Value) (hP : PgAt w p a b c) : Calls Tryd.prog 42 #[pgV p a b c] w fun e w' => e = .returned (.bool (roomOk p)) ∧ Below w.heap.size w w' := by
  obtain ⟨a0, a1, rfl, hl1, _⟩ := hP.ins
  obtain ⟨b0, b1, _, rfl, hl2, _⟩ := hP.flows
  obtain ⟨c0, c1, rfl, hl3, _⟩ := hP.outs
  have B0 := hid ((Below.refl w.heap.size w).alloc (Nat.le_refl _) (.cells (pgC p (.slice a0 p.ins.length a1) (.slice b0 p.flows.length b1) (.slice c0 p.outs.length c1)) 26))
  clear hP
  unfold roomOk
  by_cases h1 : p.ins.length ≤ 64
  · have h1' : (p.ins.length : Int) ≤ 64 := by omega
    by_cases h2 : p.flows.length ≤ 128
    · have h2' : (p.flows.length : Int) ≤ 128 := by omega
      by_cases h3 : p.outs.length ≤ p.ins.length + p.flows.length
      · have h3' : (p.outs.length : Int) ≤ (p.ins.length : Int) + (p.flows.length : Int) := by omega
        rw [decide_eq_true h1, decide_eq_true h2, decide_eq_true h3]
        go_enter Tryd.func42, Tryd.ntmps42
        go_wp2
        go_ret
        exact ⟨rfl, B0.out⟩
      · have h3' : ¬ (p.outs.length : Int) ≤ (p.ins.length : Int) + (p.flows.length : Int) := by omega
        rw [decide_eq_true h1, decide_eq_true h2, decide_eq_false h3]
        go_enter Tryd.func42, Tryd.ntmps42
        go_wp2
        go_ret
        exact ⟨rfl, B0.out⟩
    · have h2' : ¬ (p.flows.length : Int) ≤ 128 := by omega
      rw [decide_eq_true h1, decide_eq_false h2]
      go_enter Tryd.func42, Tryd.ntmps42
      go_wp2
      go_ret
      exact ⟨rfl, B0.out⟩
  · have h1' : ¬ (p.ins.length : Int) ≤ 64 := by omega
    rw [decide_eq_false h1]
    go_enter Tryd.func42, Tryd.ntmps42
    go_wp2
    go_ret
    exact ⟨rfl, B0.out⟩
set_option maxRecDepth 100000 in
theorem may_stand (x : Hd) (st : Int) (w : World) (hT : TabR w) : Calls Tryd.prog 43 #[hdV x, .int .i64 st] w fun e w' => e = .returned (.bool (hdOk x st)) ∧ Below w.heap.size w w' := by
  have b0 := (Below.refl w.heap.size w).alloc (Nat.le_refl _) (.cells #[.string x.name, .int .u8 (x.ty : Int), .int .i64 x.st] 63)
  have c := name x.name _ (hT.below b0)
  have bx := fun j v => box_at w #[.string x.name, .int .u8 (x.ty : Int), .int .i64 x.st] 63 j v
  have x1 := bx 1 (.int .u8 (x.ty : Int)) rfl
  have x2 := bx 2 (.int .i64 x.st) rfl
  have B0 := hid b0
  clear b0 bx hT
  unfold hdOk
  cases hn : isName x.name with
  | false =>
    rw [hn] at c
    go_enter Tryd.func43, Tryd.ntmps43
    go_wp2_with (go_at_call 39; refine c.mono ?_; rintro e w1 ⟨rfl, hb1⟩; have B1 := hid (bstep B0.out hb1); clear x1 x2 hb1)
    go_ret
    exact ⟨rfl, B1.out⟩
  | true =>
    rw [hn] at c
    by_cases h1 : x.ty = 1
    · have e1 : ((x.ty : Int) == 1) = true := by simp; omega
      have e1' : (x.ty == 1) = true := by simp [h1]
      rw [e1']
      clear h1 e1'
      go_enter Tryd.func43, Tryd.ntmps43
      go_wp2_with (first
        | (go_at_call 39; refine c.mono ?_; rintro e w1 ⟨rfl, hb1⟩; have y1 := cell_kept x1 hb1; have y2 := cell_kept x2 hb1; have B1 := hid (bstep B0.out hb1); clear x1 x2 hb1)
        | (go_at_call 41; refine (in_range x.st st _).mono ?_; rintro e w2 ⟨rfl, rfl⟩))
      go_ret
      exact ⟨rfl, B1.out⟩
    · by_cases h2 : x.ty = 2
      · have e1 : ((x.ty : Int) == 1) = false := by simp; omega
        have e2 : ((x.ty : Int) == 2) = true := by simp; omega
        have e1' : (x.ty == 1) = false := by simp [h1]
        have e2' : (x.ty == 2) = true := by simp [h2]
        rw [e1', e2']
        clear h1 h2 e1' e2'
        go_enter Tryd.func43, Tryd.ntmps43
        go_wp2_with (first
          | (go_at_call 39; refine c.mono ?_; rintro e w1 ⟨rfl, hb1⟩; have y1 := cell_kept x1 hb1; have y2 := cell_kept x2 hb1; have B1 := hid (bstep B0.out hb1); clear x1 x2 hb1)
          | (go_at_call 41; refine (in_range x.st st _).mono ?_; rintro e w2 ⟨rfl, rfl⟩))
        go_ret
        exact ⟨rfl, B1.out⟩
      · have e1 : ((x.ty : Int) == 1) = false := by simp; omega
        have e2 : ((x.ty : Int) == 2) = false := by simp; omega
        have e1' : (x.ty == 1) = false := by simp [h1]
        have e2' : (x.ty == 2) = false := by simp [h2]
        rw [e1', e2']
        clear h1 h2 e1' e2'
        go_enter Tryd.func43, Tryd.ntmps43
        go_wp2_with (go_at_call 39; refine c.mono ?_; rintro e w1 ⟨rfl, hb1⟩; have y1 := cell_kept x1 hb1; have y2 := cell_kept x2 hb1; have B1 := hid (bstep B0.out hb1); clear x1 x2 hb1)
        go_ret
        exact ⟨rfl, B1.out⟩
theorem two_box (w : World) (c d : Array Value) (t u : TypeId) : ((w.alloc (.cells c t)).alloc (.cells d u)).heap[w.heap.size + 1]? = some (.cells d u (0, 0)) := by
  have := heap_alloc_new (w.alloc (.cells c t)) (.cells d u)
  rwa [World.size_alloc] at this
theorem info37 : (Tryd.prog.info? 63).map (·.size) = some 3 := by kernel_rfl
set_option maxRecDepth 100000 in
theorem head_of (x : Fl) (w : World) (s : Value) (hs : ∃ ao n cap, s = .slice ao n cap) : Calls Tryd.prog 44 #[flV x s] w fun e w' => e = .returned (hdV x.hd) ∧ Below w.heap.size w w' := by
  obtain ⟨ao, n, cap, rfl⟩ := hs
  go_enter Tryd.func44, Tryd.ntmps44
  go_wp2
  exact bodyPost_ret (results_cell_row rfl _ _ (w.heap.size + 1) 63 #[.string x.name, .int .u8 (x.ty : Int), .int .i64 x.st] (0, 0) _ rfl (two_box _ _ _ _ _) Tryd.underlying63 rfl info37) rfl ⟨rfl, bstep ((Below.refl _ _).alloc (Nat.le_refl _) _) ((Below.refl _ _).alloc (Nat.le_refl _) _)⟩
end Go.Proofs.YtejacmgppnafcabDoor.Lex
