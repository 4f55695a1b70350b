/-
  Whether a part has the fields of its operator: the contracts of partsOf, hasItsFields, and of the document's own.
  Whether it may be: how great it is, part by part; the contracts of fits and Check.
  Programs, as they stand in memory.
  The things of a program, one by one: the contracts of names.things and of the function that it hands back.
  What a name is: the contract of names.Find.
  The reader of tokens in memory; the contract of peek.
  The operator of two that a token is: the contract of joinAt.
  The reader goes on by a token: the contracts of yes, no, name, number, pass.
  What is worked out, in blocks of which something is known: it stays where others are written.
  What a reader's step answers; the contracts of yes, no, name, number.
  What a reader's step answers: the contracts of no, pass, name, number.
  An operator of one, read: the contract of one, over that of part.
  The three signs of one, and brackets: the contracts over those of one, part, pass.
  A choice, read: the contract of choice, over those of part and pass.
  The law of the keys of atoms.
  A mark as a key.
  The map of the atoms, as its eight entries are laid in any order.
  The contract of atoms: eight entries, laid in any order.
  What has been asked for, counted in a map.
  One more is counted.
  What holds while Read goes through a text.
-/
import Derived.Test.YtjdlmhkfaodkgaaDoorG1
import Derived.WalkSmall
import Derived.Maps.AppendAt
import Derived.Laws.OwnMore
import Derived.Deep.RegionHeld3
import Derived.ProofKit
import Derived.OpenShut
import Derived.ShutString
import Derived.ChangeOld
import Derived.RangeFuncNested
import Derived.RangeFuncBound
import Derived.RangeFuncCalls
import Derived.RangeFuncLeaves
import Derived.Shelf.Abstract
import Derived.Shelf.RegionOpen
import Derived.OwnWalkIn
import Derived.TacticsInMore
import Derived.LoopNIn
import Derived.LoopIn
import Derived.BigRegionIn
import Derived.BigQuiet
import Derived.WalkMore
import Derived.Great.BuildSlice
import Derived.DeepKeys4
import Derived.Maps.Keyed
namespace Go.Proofs.YtjdlmhkfaodkgaaDoor.Lex
open Go.ChangeShapes Go.WideShapes Go.ChangeAt Go.RowKit Go.Joins
/-- Of how many parts an operator is. -/
def parts (op : Nat) : Nat := if op = 4 ∨ op = 5 ∨ op = 19 then 1 else if op = 17 then 3 else if (jOf op).isSome then 2 else 0
/-- Has it the fields of its operator? -/
def fieldsOk (op : Nat) (n : Int) (nm : ByteArray) (len : Nat) : Bool :=
  if op = 1 then decide (0 ≤ n) && (decide (nm.size = 0) && decide (len = 0))
  else if op = 2 then (decide (n = 0) || decide (n = 1)) && (decide (nm.size = 0) && decide (len = 0))
  else if op = 3 then decide (n = 0) && (isName nm && decide (len = 0))
  else decide (0 < parts op) && (decide (n = 0) && (decide (nm.size = 0) && decide (len = parts op)))
theorem eqN {a : Nat} {b : Nat} (h : a = b) : ((a : Int) == (b : Int)) = true := by simp [h]
theorem neN {a : Nat} {b : Nat} (h : ¬ a = b) : ((a : Int) == (b : Int)) = false := by simp; omega
theorem ieq {a b : Int} (h : a = b) : (a == b) = true := by simp [h]
theorem ine {a b : Int} (h : ¬ a = b) : (a == b) = false := by simp [h]
set_option maxRecDepth 100000 in
theorem partsOf (op : Nat) (w : World) (hT : TabJ w) : Calls Tryd.prog 69 #[.int .u8 (op : Int)] w fun e w' => e = .returned (.int .i64 (parts op : Int)) ∧ Below w.heap.size w w' := by
  have c := joinOf op w hT
  by_cases h4 : op = 4
  · have e4 := eqN (b := 4) h4
    have hp : parts op = 1 := by unfold parts; rw [if_pos (.inl h4)]
    rw [hp]
    clear hp h4 c
    go_enter Tryd.func69, Tryd.ntmps69
    go_wp2
    go_ret
    exact ⟨rfl, Below.refl _ _⟩
  · have e4 := neN (b := 4) h4
    by_cases h5 : op = 5
    · have e5 := eqN (b := 5) h5
      have hp : parts op = 1 := by unfold parts; rw [if_pos (.inr (.inl h5))]
      rw [hp]
      clear hp h4 h5 c
      go_enter Tryd.func69, Tryd.ntmps69
      go_wp2
      go_ret
      exact ⟨rfl, Below.refl _ _⟩
    · have e5 := neN (b := 5) h5
      by_cases h19 : op = 19
      · have e19 := eqN (b := 19) h19
        have hp : parts op = 1 := by unfold parts; rw [if_pos (.inr (.inr h19))]
        rw [hp]
        clear hp h4 h5 h19 c
        go_enter Tryd.func69, Tryd.ntmps69
        go_wp2
        go_ret
        exact ⟨rfl, Below.refl _ _⟩
      · have e19 := neN (b := 19) h19
        by_cases h17 : op = 17
        · have e17 := eqN (b := 17) h17
          have hp : parts op = 3 := by unfold parts; rw [if_neg (by omega), if_pos h17]
          rw [hp]
          clear hp h4 h5 h19 h17 c
          go_enter Tryd.func69, Tryd.ntmps69
          go_wp2
          go_ret
          exact ⟨rfl, Below.refl _ _⟩
        · have e17 := neN (b := 17) h17
          have hp : parts op = if (jOf op).isSome then 2 else 0 := by unfold parts; rw [if_neg (by omega), if_neg h17]
          rw [hp]
          unfold jOut jrow at c
          generalize (jOf op).getD j0 = r at c
          clear hp h4 h5 h19 h17
          cases hj : (jOf op).isSome
          · rw [hj] at c
            go_enter Tryd.func69, Tryd.ntmps69
            go_wp2_with (go_at_call 82; refine c.mono ?_; rintro e w2 ⟨rfl, hb2⟩)
            go_ret
            exact ⟨rfl, bstep hb2 ((Below.refl _ _).alloc (Nat.le_refl _) _)⟩
          · rw [hj] at c
            go_enter Tryd.func69, Tryd.ntmps69
            go_wp2_with (go_at_call 82; refine c.mono ?_; rintro e w2 ⟨rfl, hb2⟩)
            go_ret
            exact ⟨rfl, bstep hb2 ((Below.refl _ _).alloc (Nat.le_refl _) _)⟩
set_option linter.unusedVariables false
set_option maxRecDepth 100000 in
set_option maxHeartbeats 1000000 in
theorem has_1a (op : Nat) (n : Int) (nm : ByteArray) (ao : Option Addr) (len cap : Nat) (w : World) (e1 : ((op : Int) == 1) = true) (h0 : ¬ 0 ≤ n) : Calls Tryd.prog 61 #[.agg #[.int .u8 (op : Int), .int .i64 n, .string nm, .slice ao len cap]] w fun e w' => e = .returned (.bool false) ∧ Below w.heap.size w w' := by
  go_enter Tryd.func61, Tryd.ntmps61
  go_wp2
  go_ret
  exact ⟨rfl, (Below.refl _ _).alloc (Nat.le_refl _) _⟩
set_option maxRecDepth 100000 in
set_option maxHeartbeats 1000000 in
theorem has_1b (op : Nat) (n : Int) (nm : ByteArray) (ao : Option Addr) (len cap : Nat) (w : World) (e1 : ((op : Int) == 1) = true) (h0 : 0 ≤ n) (he : nm.toList.isEmpty = false) : Calls Tryd.prog 61 #[.agg #[.int .u8 (op : Int), .int .i64 n, .string nm, .slice ao len cap]] w fun e w' => e = .returned (.bool false) ∧ Below w.heap.size w w' := by
  go_enter Tryd.func61, Tryd.ntmps61
  go_wp2
  go_ret
  exact ⟨rfl, (Below.refl _ _).alloc (Nat.le_refl _) _⟩
set_option maxRecDepth 100000 in
set_option maxHeartbeats 1000000 in
theorem has_1c (op : Nat) (n : Int) (nm : ByteArray) (ao : Option Addr) (len cap : Nat) (w : World) (e1 : ((op : Int) == 1) = true) (h0 : 0 ≤ n) (he : nm.toList.isEmpty = true) : Calls Tryd.prog 61 #[.agg #[.int .u8 (op : Int), .int .i64 n, .string nm, .slice ao len cap]] w fun e w' => e = .returned (.bool ((len : Int) == 0)) ∧ Below w.heap.size w w' := by
  go_enter Tryd.func61, Tryd.ntmps61
  go_wp2
  go_ret
  exact ⟨rfl, (Below.refl _ _).alloc (Nat.le_refl _) _⟩
set_option maxRecDepth 100000 in
set_option maxHeartbeats 1000000 in
theorem has_2a (op : Nat) (n : Int) (nm : ByteArray) (ao : Option Addr) (len cap : Nat) (w : World) (e1 : ((op : Int) == 1) = false) (e2 : ((op : Int) == 2) = true) (h0 : (n == 0) = false) (h1 : (n == 1) = false) : Calls Tryd.prog 61 #[.agg #[.int .u8 (op : Int), .int .i64 n, .string nm, .slice ao len cap]] w fun e w' => e = .returned (.bool false) ∧ Below w.heap.size w w' := by
  go_enter Tryd.func61, Tryd.ntmps61
  go_wp2
  go_ret
  exact ⟨rfl, (Below.refl _ _).alloc (Nat.le_refl _) _⟩
set_option maxRecDepth 100000 in
set_option maxHeartbeats 1000000 in
theorem has_2bn (op : Nat) (n : Int) (nm : ByteArray) (ao : Option Addr) (len cap : Nat) (w : World) (e1 : ((op : Int) == 1) = false) (e2 : ((op : Int) == 2) = true) (h0 : (n == 0) = true) (he : nm.toList.isEmpty = false) : Calls Tryd.prog 61 #[.agg #[.int .u8 (op : Int), .int .i64 n, .string nm, .slice ao len cap]] w fun e w' => e = .returned (.bool false) ∧ Below w.heap.size w w' := by
  go_enter Tryd.func61, Tryd.ntmps61
  go_wp2
  go_ret
  exact ⟨rfl, (Below.refl _ _).alloc (Nat.le_refl _) _⟩
set_option maxRecDepth 100000 in
set_option maxHeartbeats 1000000 in
theorem has_2be (op : Nat) (n : Int) (nm : ByteArray) (ao : Option Addr) (len cap : Nat) (w : World) (e1 : ((op : Int) == 1) = false) (e2 : ((op : Int) == 2) = true) (h0 : (n == 0) = true) (he : nm.toList.isEmpty = true) : Calls Tryd.prog 61 #[.agg #[.int .u8 (op : Int), .int .i64 n, .string nm, .slice ao len cap]] w fun e w' => e = .returned (.bool ((len : Int) == 0)) ∧ Below w.heap.size w w' := by
  go_enter Tryd.func61, Tryd.ntmps61
  go_wp2
  go_ret
  exact ⟨rfl, (Below.refl _ _).alloc (Nat.le_refl _) _⟩
set_option maxRecDepth 100000 in
set_option maxHeartbeats 1000000 in
theorem has_2cn (op : Nat) (n : Int) (nm : ByteArray) (ao : Option Addr) (len cap : Nat) (w : World) (e1 : ((op : Int) == 1) = false) (e2 : ((op : Int) == 2) = true) (h0 : (n == 0) = false) (h1 : (n == 1) = true) (he : nm.toList.isEmpty = false) : Calls Tryd.prog 61 #[.agg #[.int .u8 (op : Int), .int .i64 n, .string nm, .slice ao len cap]] w fun e w' => e = .returned (.bool false) ∧ Below w.heap.size w w' := by
  go_enter Tryd.func61, Tryd.ntmps61
  go_wp2
  go_ret
  exact ⟨rfl, (Below.refl _ _).alloc (Nat.le_refl _) _⟩
set_option maxRecDepth 100000 in
set_option maxHeartbeats 1000000 in
theorem has_2ce (op : Nat) (n : Int) (nm : ByteArray) (ao : Option Addr) (len cap : Nat) (w : World) (e1 : ((op : Int) == 1) = false) (e2 : ((op : Int) == 2) = true) (h0 : (n == 0) = false) (h1 : (n == 1) = true) (he : nm.toList.isEmpty = true) : Calls Tryd.prog 61 #[.agg #[.int .u8 (op : Int), .int .i64 n, .string nm, .slice ao len cap]] w fun e w' => e = .returned (.bool ((len : Int) == 0)) ∧ Below w.heap.size w w' := by
  go_enter Tryd.func61, Tryd.ntmps61
  go_wp2
  go_ret
  exact ⟨rfl, (Below.refl _ _).alloc (Nat.le_refl _) _⟩
set_option maxRecDepth 100000 in
set_option maxHeartbeats 1000000 in
theorem has_3a (op : Nat) (n : Int) (nm : ByteArray) (ao : Option Addr) (len cap : Nat) (w : World) (e1 : ((op : Int) == 1) = false) (e2 : ((op : Int) == 2) = false) (e3 : ((op : Int) == 3) = true) (h0 : (n == 0) = false) : Calls Tryd.prog 61 #[.agg #[.int .u8 (op : Int), .int .i64 n, .string nm, .slice ao len cap]] w fun e w' => e = .returned (.bool false) ∧ Below w.heap.size w w' := by
  go_enter Tryd.func61, Tryd.ntmps61
  go_wp2
  go_ret
  exact ⟨rfl, (Below.refl _ _).alloc (Nat.le_refl _) _⟩
set_option maxRecDepth 100000 in
set_option maxHeartbeats 1000000 in
theorem has_3b (op : Nat) (n : Int) (nm : ByteArray) (ao : Option Addr) (len cap : Nat) (w : World) (e1 : ((op : Int) == 1) = false) (e2 : ((op : Int) == 2) = false) (e3 : ((op : Int) == 3) = true) (h0 : (n == 0) = true) (c : ∀ W, TabR W → Calls Tryd.prog 41 #[.string nm] W fun e w' => e = .returned (.bool false) ∧ Below W.heap.size W w') (hR : Hid (TabR w)) : Calls Tryd.prog 61 #[.agg #[.int .u8 (op : Int), .int .i64 n, .string nm, .slice ao len cap]] w fun e w' => e = .returned (.bool false) ∧ Below w.heap.size w w' := by
  go_enter Tryd.func61, Tryd.ntmps61
  go_wp2_with (go_at_call 41; refine (c _ (hR.out.below ((Below.refl _ _).alloc (Nat.le_refl _) _))).mono ?_; rintro e w2 ⟨rfl, hb2⟩)
  go_ret
  exact ⟨rfl, bstep ((Below.refl _ _).alloc (Nat.le_refl _) _) hb2⟩
set_option maxRecDepth 100000 in
set_option maxHeartbeats 1000000 in
theorem has_3c (op : Nat) (n : Int) (nm : ByteArray) (ao : Option Addr) (len cap : Nat) (w : World) (e1 : ((op : Int) == 1) = false) (e2 : ((op : Int) == 2) = false) (e3 : ((op : Int) == 3) = true) (h0 : (n == 0) = true) (c : ∀ W, TabR W → Calls Tryd.prog 41 #[.string nm] W fun e w' => e = .returned (.bool true) ∧ Below W.heap.size W w') (hR : Hid (TabR w)) : Calls Tryd.prog 61 #[.agg #[.int .u8 (op : Int), .int .i64 n, .string nm, .slice ao len cap]] w fun e w' => e = .returned (.bool ((len : Int) == 0)) ∧ Below w.heap.size w w' := by
  go_enter Tryd.func61, Tryd.ntmps61
  go_wp2_with (go_at_call 41; refine (c _ (hR.out.below ((Below.refl _ _).alloc (Nat.le_refl _) _))).mono ?_; rintro e w2 ⟨rfl, hb2⟩; have bx := fun j v (h : (w.alloc (.cells #[.int .u8 (op : Int), .int .i64 n, .string nm, .slice ao len cap] 49)).cell? ⟨w.heap.size, j, none⟩ = some v) => cell_kept h hb2; have x3 := bx 3 (.slice ao len cap) (by rw [World.cell?_alloc_at _ _ _ _ rfl]; rfl); clear bx)
  go_ret
  exact ⟨rfl, bstep ((Below.refl _ _).alloc (Nat.le_refl _) _) hb2⟩
set_option maxRecDepth 100000 in
set_option maxHeartbeats 1000000 in
theorem has_4a (op : Nat) (n : Int) (nm : ByteArray) (ao : Option Addr) (len cap : Nat) (w : World) (e1 : ((op : Int) == 1) = false) (e2 : ((op : Int) == 2) = false) (e3 : ((op : Int) == 3) = false) (p : Nat) (c : ∀ W, TabJ W → Calls Tryd.prog 69 #[.int .u8 (op : Int)] W fun e w' => e = .returned (.int .i64 (p : Int)) ∧ Below W.heap.size W w') (hJ : Hid (TabJ w)) (hp : ¬ (0 : Int) < (p : Int)) : Calls Tryd.prog 61 #[.agg #[.int .u8 (op : Int), .int .i64 n, .string nm, .slice ao len cap]] w fun e w' => e = .returned (.bool false) ∧ Below w.heap.size w w' := by
  go_enter Tryd.func61, Tryd.ntmps61
  go_wp2_with (go_at_call 69; refine (c _ (hJ.out.below ((Below.refl _ _).alloc (Nat.le_refl _) _))).mono ?_; rintro e w2 ⟨rfl, hb2⟩)
  go_ret
  exact ⟨rfl, bstep ((Below.refl _ _).alloc (Nat.le_refl _) _) hb2⟩
set_option maxRecDepth 100000 in
set_option maxHeartbeats 1000000 in
theorem has_4b (op : Nat) (n : Int) (nm : ByteArray) (ao : Option Addr) (len cap : Nat) (w : World) (e1 : ((op : Int) == 1) = false) (e2 : ((op : Int) == 2) = false) (e3 : ((op : Int) == 3) = false) (p : Nat) (c : ∀ W, TabJ W → Calls Tryd.prog 69 #[.int .u8 (op : Int)] W fun e w' => e = .returned (.int .i64 (p : Int)) ∧ Below W.heap.size W w') (hJ : Hid (TabJ w)) (hp : (0 : Int) < (p : Int)) (h0 : (n == 0) = false) : Calls Tryd.prog 61 #[.agg #[.int .u8 (op : Int), .int .i64 n, .string nm, .slice ao len cap]] w fun e w' => e = .returned (.bool false) ∧ Below w.heap.size w w' := by
  go_enter Tryd.func61, Tryd.ntmps61
  go_wp2_with (go_at_call 69; refine (c _ (hJ.out.below ((Below.refl _ _).alloc (Nat.le_refl _) _))).mono ?_; rintro e w2 ⟨rfl, hb2⟩; have bx := fun j v (h : (w.alloc (.cells #[.int .u8 (op : Int), .int .i64 n, .string nm, .slice ao len cap] 49)).cell? ⟨w.heap.size, j, none⟩ = some v) => cell_kept h hb2; have x1 := bx 1 (.int .i64 n) (by rw [World.cell?_alloc_at _ _ _ _ rfl]; rfl); have x2 := bx 2 (.string nm) (by rw [World.cell?_alloc_at _ _ _ _ rfl]; rfl); have x3 := bx 3 (.slice ao len cap) (by rw [World.cell?_alloc_at _ _ _ _ rfl]; rfl); clear bx)
  go_ret
  exact ⟨rfl, bstep ((Below.refl _ _).alloc (Nat.le_refl _) _) hb2⟩
set_option maxRecDepth 100000 in
set_option maxHeartbeats 1000000 in
theorem has_4c (op : Nat) (n : Int) (nm : ByteArray) (ao : Option Addr) (len cap : Nat) (w : World) (e1 : ((op : Int) == 1) = false) (e2 : ((op : Int) == 2) = false) (e3 : ((op : Int) == 3) = false) (p : Nat) (c : ∀ W, TabJ W → Calls Tryd.prog 69 #[.int .u8 (op : Int)] W fun e w' => e = .returned (.int .i64 (p : Int)) ∧ Below W.heap.size W w') (hJ : Hid (TabJ w)) (hp : (0 : Int) < (p : Int)) (h0 : (n == 0) = true) (he : nm.toList.isEmpty = false) : Calls Tryd.prog 61 #[.agg #[.int .u8 (op : Int), .int .i64 n, .string nm, .slice ao len cap]] w fun e w' => e = .returned (.bool false) ∧ Below w.heap.size w w' := by
  go_enter Tryd.func61, Tryd.ntmps61
  go_wp2_with (go_at_call 69; refine (c _ (hJ.out.below ((Below.refl _ _).alloc (Nat.le_refl _) _))).mono ?_; rintro e w2 ⟨rfl, hb2⟩; have bx := fun j v (h : (w.alloc (.cells #[.int .u8 (op : Int), .int .i64 n, .string nm, .slice ao len cap] 49)).cell? ⟨w.heap.size, j, none⟩ = some v) => cell_kept h hb2; have x1 := bx 1 (.int .i64 n) (by rw [World.cell?_alloc_at _ _ _ _ rfl]; rfl); have x2 := bx 2 (.string nm) (by rw [World.cell?_alloc_at _ _ _ _ rfl]; rfl); have x3 := bx 3 (.slice ao len cap) (by rw [World.cell?_alloc_at _ _ _ _ rfl]; rfl); clear bx)
  go_ret
  exact ⟨rfl, bstep ((Below.refl _ _).alloc (Nat.le_refl _) _) hb2⟩
set_option maxRecDepth 100000 in
set_option maxHeartbeats 1000000 in
theorem has_4d (op : Nat) (n : Int) (nm : ByteArray) (ao : Option Addr) (len cap : Nat) (w : World) (e1 : ((op : Int) == 1) = false) (e2 : ((op : Int) == 2) = false) (e3 : ((op : Int) == 3) = false) (p : Nat) (c : ∀ W, TabJ W → Calls Tryd.prog 69 #[.int .u8 (op : Int)] W fun e w' => e = .returned (.int .i64 (p : Int)) ∧ Below W.heap.size W w') (hJ : Hid (TabJ w)) (hp : (0 : Int) < (p : Int)) (h0 : (n == 0) = true) (he : nm.toList.isEmpty = true) : Calls Tryd.prog 61 #[.agg #[.int .u8 (op : Int), .int .i64 n, .string nm, .slice ao len cap]] w fun e w' => e = .returned (.bool ((len : Int) == (p : Int))) ∧ Below w.heap.size w w' := by
  go_enter Tryd.func61, Tryd.ntmps61
  go_wp2_with (go_at_call 69; refine (c _ (hJ.out.below ((Below.refl _ _).alloc (Nat.le_refl _) _))).mono ?_; rintro e w2 ⟨rfl, hb2⟩; have bx := fun j v (h : (w.alloc (.cells #[.int .u8 (op : Int), .int .i64 n, .string nm, .slice ao len cap] 49)).cell? ⟨w.heap.size, j, none⟩ = some v) => cell_kept h hb2; have x1 := bx 1 (.int .i64 n) (by rw [World.cell?_alloc_at _ _ _ _ rfl]; rfl); have x2 := bx 2 (.string nm) (by rw [World.cell?_alloc_at _ _ _ _ rfl]; rfl); have x3 := bx 3 (.slice ao len cap) (by rw [World.cell?_alloc_at _ _ _ _ rfl]; rfl); clear bx)
  go_ret
  exact ⟨rfl, bstep ((Below.refl _ _).alloc (Nat.le_refl _) _) hb2⟩
theorem len_eq (a b : Nat) : ((a : Int) == (b : Int)) = decide (a = b) := by
  by_cases h : a = b
  · rw [eqN h, decide_eq_true h]
  · rw [neN h, decide_eq_false h]
theorem len_zero' (a : Nat) : ((a : Int) == 0) = decide (a = 0) := len_eq a 0
/-- hasItsFields. -/
theorem hasIts (op : Nat) (n : Int) (nm : ByteArray) (ao : Option Addr) (len cap : Nat) (w : World) (hR : TabR w) (hJ : TabJ w) :
    Calls Tryd.prog 61 #[.agg #[.int .u8 (op : Int), .int .i64 n, .string nm, .slice ao len cap]] w fun e w' => e = .returned (.bool (fieldsOk op n nm len)) ∧ Below w.heap.size w w' := by
  unfold fieldsOk
  by_cases h1 : op = 1
  · rw [if_pos h1]
    have e1 := eqN (b := 1) h1
    by_cases h0 : 0 ≤ n
    · rw [decide_eq_true h0, Bool.true_and]
      by_cases hm : nm.size = 0
      · rw [decide_eq_true hm, Bool.true_and, ← len_zero']; exact has_1c op n nm ao len cap w e1 h0 (empty_yes hm)
      · rw [decide_eq_false hm, Bool.false_and]; exact has_1b op n nm ao len cap w e1 h0 (empty_no hm)
    · rw [decide_eq_false h0, Bool.false_and]; exact has_1a op n nm ao len cap w e1 h0
  · rw [if_neg h1]
    have e1 := neN (b := 1) h1
    by_cases h2 : op = 2
    · rw [if_pos h2]
      have e2 := eqN (b := 2) h2
      by_cases h0 : n = 0
      · rw [decide_eq_true h0, Bool.true_or, Bool.true_and]
        by_cases hm : nm.size = 0
        · rw [decide_eq_true hm, Bool.true_and, ← len_zero']; exact has_2be op n nm ao len cap w e1 e2 (ieq h0) (empty_yes hm)
        · rw [decide_eq_false hm, Bool.false_and]; exact has_2bn op n nm ao len cap w e1 e2 (ieq h0) (empty_no hm)
      · rw [decide_eq_false h0, Bool.false_or]
        by_cases h01 : n = 1
        · rw [decide_eq_true h01, Bool.true_and]
          by_cases hm : nm.size = 0
          · rw [decide_eq_true hm, Bool.true_and, ← len_zero']; exact has_2ce op n nm ao len cap w e1 e2 (ine h0) (ieq h01) (empty_yes hm)
          · rw [decide_eq_false hm, Bool.false_and]; exact has_2cn op n nm ao len cap w e1 e2 (ine h0) (ieq h01) (empty_no hm)
        · rw [decide_eq_false h01, Bool.false_and]; exact has_2a op n nm ao len cap w e1 e2 (ine h0) (ine h01)
    · rw [if_neg h2]
      have e2 := neN (b := 2) h2
      by_cases h3 : op = 3
      · rw [if_pos h3]
        have e3 := eqN (b := 3) h3
        by_cases h0 : n = 0
        · rw [decide_eq_true h0, Bool.true_and]
          have c := fun W hT => name nm W hT
          cases hb : isName nm
          · rw [hb] at c; rw [Bool.false_and]; exact has_3b op n nm ao len cap w e1 e2 e3 (ieq h0) c hR
          · rw [hb] at c; rw [Bool.true_and, ← len_zero']; exact has_3c op n nm ao len cap w e1 e2 e3 (ieq h0) c hR
        · rw [decide_eq_false h0, Bool.false_and]; exact has_3a op n nm ao len cap w e1 e2 e3 (ine h0)
      · rw [if_neg h3]
        have e3 := neN (b := 3) h3
        have c := fun W hT => partsOf op W hT
        generalize parts op = p at c
        by_cases hp : 0 < p
        · have hp' : (0 : Int) < (p : Int) := by omega
          rw [decide_eq_true hp, Bool.true_and]
          by_cases h0 : n = 0
          · rw [decide_eq_true h0, Bool.true_and]
            by_cases hm : nm.size = 0
            · rw [decide_eq_true hm, Bool.true_and, ← len_eq]; exact has_4d op n nm ao len cap w e1 e2 e3 p c hJ hp' (ieq h0) (empty_yes hm)
            · rw [decide_eq_false hm, Bool.false_and]; exact has_4c op n nm ao len cap w e1 e2 e3 p c hJ hp' (ieq h0) (empty_no hm)
          · rw [decide_eq_false h0, Bool.false_and]; exact has_4b op n nm ao len cap w e1 e2 e3 p c hJ hp' (ine h0)
        · rw [decide_eq_false hp, Bool.false_and]; exact has_4a op n nm ao len cap w e1 e2 e3 p c hJ (by omega)
end Go.Proofs.YtjdlmhkfaodkgaaDoor.Lex
namespace Go.Proofs.YtjdlmhkfaodkgaaDoor.Lex
open Go.ChangeShapes Go.WideShapes Go.ChangeAt Go.RowKit Go.Joins
/-- How great parts are behind so many, where at most so many may be. -/
def szL (f : Nat → Ex → Option Nat) (most : Nat) : Nat → List Ex → Option Nat
  | n, [] => some n
  | n, a :: l => match f (most - n) a with
    | none => none
    | some k => szL f most (n + k) l
/-- How great it is, if it may be, so deep and so great at most. -/
def sz : Nat → Nat → Ex → Option Nat
  | 0, _, _ => none
  | d + 1, most, x => if most = 0 ∨ fieldsOk x.op x.n x.name x.args.length = false then none else szL (sz d) most 1 x.args
theorem szL_le {f : Nat → Ex → Option Nat} (hf : ∀ m a k, f m a = some k → 1 ≤ k ∧ k ≤ m) (most : Nat) : ∀ (l : List Ex) (n r : Nat), n ≤ most → szL f most n l = some r → n ≤ r ∧ r ≤ most
  | [], n, r, hn, h => by simp only [szL, Option.some.injEq] at h; omega
  | a :: l, n, r, hn, h => by
    simp only [szL] at h
    cases e : f (most - n) a with
    | none => rw [e] at h; cases h
    | some k =>
      rw [e] at h
      have := hf _ _ _ e
      have := szL_le hf most l (n + k) r (by omega) h
      omega
theorem sz_le : ∀ (d most : Nat) (x : Ex) (k : Nat), sz d most x = some k → 1 ≤ k ∧ k ≤ most
  | 0, most, x, k, h => by simp [sz] at h
  | d + 1, most, x, k, h => by
    rw [sz] at h
    split at h
    · cases h
    · next hn => exact szL_le (fun m a k => sz_le d m a k) most x.args 1 k (by omega) h
/-- May it be? -/
def chk (x : Ex) : Bool := (sz 32 200 x).isSome
theorem set_same {w : World} {b : Nat} {c : Array Value} {t : TypeId} {f : Nat × Nat} (h : w.heap[b]? = some (.cells c t f)) (i : Nat) (u : Value) :
    (w.setCell ⟨b, i, none⟩ u).heap[b]? = some (.cells (c.setIfInBounds i u) t f) := by
  obtain ⟨hlt, hk⟩ := Array.getElem?_eq_some_iff.1 h
  show (w.heap.modify b _)[b]? = _
  rw [Array.getElem?_eq_getElem (by rw [Array.size_modify]; exact hlt), Array.getElem_modify_self, hk]
  rfl
/-- A count in a cell of its own, beyond all that came in. -/
structure Lf (w0 w : World) (b : Nat) (M : Int) (W : World) : Prop where
  base : Below w0.heap.size w0 W
  below : Below b w W
  cell : W.heap[b]? = some (.cells #[.int .i64 M] 3 (0, 0))
theorem Lf.step {w0 w W W' : World} {b : Nat} {M : Int} (h : Lf w0 w b M W) (hb : Below W.heap.size W W') : Lf w0 w b M W' :=
  have hlt := (Array.getElem?_eq_some_iff.1 h.cell).1
  ⟨bstep h.base hb, h.below.trans (hb.mono (by omega)), (hb.block b hlt).trans h.cell⟩
theorem Lf.set {w0 w W : World} {b : Nat} {M : Int} (h : Lf w0 w b M W) (hb : w0.heap.size ≤ b) (M' : Int) : Lf w0 w b M' (W.setCell ⟨b, 0, none⟩ (.int .i64 M')) :=
  ⟨h.base.setCell (p := ⟨b, 0, none⟩) hb _, h.below.setCell (p := ⟨b, 0, none⟩) (Nat.le_refl _) _, set_same h.cell 0 _⟩
theorem Lf.at {w0 w W : World} {b : Nat} {M : Int} (h : Lf w0 w b M W) : W.cell? ⟨b, 0, none⟩ = some (.int .i64 M) ∧ W.frozen? ⟨b, 0, none⟩ = false :=
  ⟨by rw [cell_of_row _ _ _ _ 3 (0, 0) h.cell]; rfl, frozen_of_row _ _ _ _ _ h.cell⟩
/-- What fits answers. -/
def FitC (d : Nat) : Prop := ∀ (x : Ex) (w0 w : World) (s : Value) (b L : Nat), L ≤ 200 → St w0 x s → Below w0.heap.size w0 w → w0.heap.size ≤ b → w.heap[b]? = some (.cells #[.int .i64 (L : Int)] 3 (0, 0)) → TabR w0 → TabJ w0 →
  Calls Tryd.prog 52 #[exV x s, .int .i64 (d : Int), .pointer (some ⟨b, 0, none⟩)] w fun e w' => e = .returned (.bool (sz d L x).isSome) ∧ Below b w w' ∧ ∀ k, sz d L x = some k → Lf w0 w b ((L : Int) - (k : Int)) w'
/-- The cells of a value in a box. -/
theorem box_at (w : World) (c : Array Value) (t : TypeId) (j : Nat) (v : Value) (h : c[j]? = some v) : (w.alloc (.cells c t)).cell? ⟨w.heap.size, j, none⟩ = some v := by
  rw [World.cell?_alloc_at _ _ _ _ rfl]; exact h
set_option maxRecDepth 100000 in
set_option maxHeartbeats 1000000 in
theorem fits_zero : FitC 0 := by
  intro x w0 w s b L hL hS hB hb hc hR hJ
  obtain ⟨ao, cap, sl, rfl, _⟩ := hS.out
  have hsz : sz 0 L x = none := by simp [sz]
  have l0 : Lf w0 w b (L : Int) (w.alloc (.cells #[.int .u8 (x.op : Int), .int .i64 x.n, .string x.name, .slice ao x.args.length cap] 49)) := Lf.step ⟨hB, Below.refl _ _, hc⟩ ((Below.refl _ _).alloc (Nat.le_refl _) _)
  have l1 := l0.set hb ((L : Int) - 1)
  obtain ⟨y0, y1⟩ := l0.at
  rw [hsz]
  have H1 := hid l1.below
  clear l0 l1 hc hsz hS hR hJ hB
  go_enter Tryd.func52, Tryd.ntmps52
  go_wp2
  go_ret
  exact ⟨rfl, H1.out, fun k h => by cases h⟩
set_option maxRecDepth 100000 in
set_option maxHeartbeats 1000000 in
theorem fits_none (d : Nat) (hd : d + 1 ≤ 32) : ∀ (x : Ex) (w0 w : World) (s : Value) (b : Nat), St w0 x s → Below w0.heap.size w0 w → w0.heap.size ≤ b → w.heap[b]? = some (.cells #[.int .i64 ((0 : Nat) : Int)] 3 (0, 0)) →
    Calls Tryd.prog 52 #[exV x s, .int .i64 ((d + 1 : Nat) : Int), .pointer (some ⟨b, 0, none⟩)] w fun e w' => e = .returned (.bool false) ∧ Below b w w' := by
  intro x w0 w s b hS hB hb hc
  obtain ⟨ao, cap, sl, rfl, _⟩ := hS.out
  have l0 : Lf w0 w b ((0 : Nat) : Int) (w.alloc (.cells #[.int .u8 (x.op : Int), .int .i64 x.n, .string x.name, .slice ao x.args.length cap] 49)) := Lf.step ⟨hB, Below.refl _ _, hc⟩ ((Below.refl _ _).alloc (Nat.le_refl _) _)
  have l1 := l0.set hb (-1)
  obtain ⟨y0, y1⟩ := l0.at
  obtain ⟨y2, _⟩ := l1.at
  have H1 := hid l1.below
  have hd0 : (((d + 1 : Nat) : Int) == 0) = false := by simp; omega
  generalize hD : ((d + 1 : Nat) : Int) = D at *
  clear l0 l1 hc hS hB hD
  go_enter Tryd.func52, Tryd.ntmps52
  go_wp2
  go_ret
  exact ⟨rfl, H1.out⟩
set_option maxRecDepth 100000 in
set_option maxHeartbeats 1000000 in
theorem fits_bad (d : Nat) (hd : d + 1 ≤ 32) : ∀ (x : Ex) (w0 w : World) (s : Value) (b L : Nat), 1 ≤ L → L ≤ 200 → St w0 x s → Below w0.heap.size w0 w → w0.heap.size ≤ b → w.heap[b]? = some (.cells #[.int .i64 (L : Int)] 3 (0, 0)) → TabR w0 → TabJ w0 → fieldsOk x.op x.n x.name x.args.length = false →
    Calls Tryd.prog 52 #[exV x s, .int .i64 ((d + 1 : Nat) : Int), .pointer (some ⟨b, 0, none⟩)] w fun e w' => e = .returned (.bool false) ∧ Below b w w' := by
  intro x w0 w s b L h1 hL hS hB hb hc hR hJ hf
  obtain ⟨ao, cap, sl, rfl, _⟩ := hS.out
  have l0 : Lf w0 w b (L : Int) (w.alloc (.cells #[.int .u8 (x.op : Int), .int .i64 x.n, .string x.name, .slice ao x.args.length cap] 49)) := Lf.step ⟨hB, Below.refl _ _, hc⟩ ((Below.refl _ _).alloc (Nat.le_refl _) _)
  have l1 := l0.set hb ((L : Int) - 1)
  obtain ⟨y0, y1⟩ := l0.at
  obtain ⟨y2, _⟩ := l1.at
  have c := hasIts x.op x.n x.name ao x.args.length cap _ (hR.below l1.base) (hJ.below l1.base)
  rw [hf] at c
  have H1 := hid l1
  have hd0 : (((d + 1 : Nat) : Int) == 0) = false := by simp; omega
  have hL1 : ¬ (L : Int) - 1 < 0 := by omega
  have hne : w.heap.size ≠ b := by have := (Array.getElem?_eq_some_iff.1 hc).1; omega
  have xb : ∀ j v, (#[.int .u8 (x.op : Int), .int .i64 x.n, .string x.name, .slice ao x.args.length cap] : Array Value)[j]? = some v → ((w.alloc (.cells #[.int .u8 (x.op : Int), .int .i64 x.n, .string x.name, .slice ao x.args.length cap] 49)).setCell ⟨b, 0, none⟩ (.int .i64 ((L : Int) - 1))).cell? ⟨w.heap.size, j, none⟩ = some v := fun j v h => by
    rw [World.cell?_of_block (w := w.alloc (.cells #[.int .u8 (x.op : Int), .int .i64 x.n, .string x.name, .slice ao x.args.length cap] 49)) (Below.heap_setCell _ _ _ _ hne)]
    exact box_at w _ 49 j v h
  have x0 := xb 0 _ rfl
  have x1 := xb 1 _ rfl
  have x2 := xb 2 _ rfl
  have x3 := xb 3 _ rfl
  generalize hW : (w.alloc (.cells #[.int .u8 (x.op : Int), .int .i64 x.n, .string x.name, .slice ao x.args.length cap] 49)).setCell ⟨b, 0, none⟩ (.int .i64 ((L : Int) - 1)) = W1 at *
  generalize hD : ((d + 1 : Nat) : Int) = D at *
  clear l0 l1 hc hS hB hR hJ hD hf xb hne
  go_enter Tryd.func52, Tryd.ntmps52
  go_wp2_with (go_at_call 61; refine c.mono ?_; rintro e w3 ⟨rfl, hb3⟩)
  go_ret
  exact ⟨rfl, (H1.out.step hb3).below⟩
set_option maxRecDepth 100000 in
set_option maxHeartbeats 2000000 in
theorem fits_ok (d : Nat) (hd : d + 1 ≤ 32) (ih : FitC d) : ∀ (x : Ex) (w0 w : World) (s : Value) (b L : Nat), 1 ≤ L → L ≤ 200 → St w0 x s → Below w0.heap.size w0 w → w0.heap.size ≤ b → w.heap[b]? = some (.cells #[.int .i64 (L : Int)] 3 (0, 0)) → TabR w0 → TabJ w0 → fieldsOk x.op x.n x.name x.args.length = true →
    Calls Tryd.prog 52 #[exV x s, .int .i64 ((d + 1 : Nat) : Int), .pointer (some ⟨b, 0, none⟩)] w fun e w' => e = .returned (.bool (szL (sz d) L 1 x.args).isSome) ∧ Below b w w' ∧ ∀ k, szL (sz d) L 1 x.args = some k → Lf w0 w b ((L : Int) - (k : Int)) w' := by
  intro x w0 w s b L h1 hL hS hB hb hc hR hJ hf
  obtain ⟨ao, cap, sl, rfl, _, _, _, hlen, _, hcs, hss⟩ := hS.out
  have l0 : Lf w0 w b (L : Int) (w.alloc (.cells #[.int .u8 (x.op : Int), .int .i64 x.n, .string x.name, .slice ao x.args.length cap] 49)) := Lf.step ⟨hB, Below.refl _ _, hc⟩ ((Below.refl _ _).alloc (Nat.le_refl _) _)
  have l1 := l0.set hb ((L : Int) - 1)
  obtain ⟨y0, y1⟩ := l0.at
  obtain ⟨y2, _⟩ := l1.at
  have c := hasIts x.op x.n x.name ao x.args.length cap _ (hR.below l1.base) (hJ.below l1.base)
  rw [hf] at c
  have H1 := hid l1
  have hd0 : (((d + 1 : Nat) : Int) == 0) = false := by simp; omega
  have hD1 : ((d + 1 : Nat) : Int) - 1 = (d : Int) := by omega
  have hD2 : ((d + 1 : Nat) : Int) ≤ 32 ∧ 0 ≤ ((d + 1 : Nat) : Int) := by omega
  have hL1 : ¬ (L : Int) - 1 < 0 := by omega
  have hne : w.heap.size ≠ b := by have := (Array.getElem?_eq_some_iff.1 hc).1; omega
  have xb : ∀ j v, (#[.int .u8 (x.op : Int), .int .i64 x.n, .string x.name, .slice ao x.args.length cap] : Array Value)[j]? = some v → ((w.alloc (.cells #[.int .u8 (x.op : Int), .int .i64 x.n, .string x.name, .slice ao x.args.length cap] 49)).setCell ⟨b, 0, none⟩ (.int .i64 ((L : Int) - 1))).cell? ⟨w.heap.size, j, none⟩ = some v := fun j v h => by
    rw [World.cell?_of_block (w := w.alloc (.cells #[.int .u8 (x.op : Int), .int .i64 x.n, .string x.name, .slice ao x.args.length cap] 49)) (Below.heap_setCell _ _ _ _ hne)]
    exact box_at w _ 49 j v h
  have x0 := xb 0 _ rfl
  have x1 := xb 1 _ rfl
  have x2 := xb 2 _ rfl
  have x3 := xb 3 _ rfl
  generalize hW : (w.alloc (.cells #[.int .u8 (x.op : Int), .int .i64 x.n, .string x.name, .slice ao x.args.length cap] 49)).setCell ⟨b, 0, none⟩ (.int .i64 ((L : Int) - 1)) = W1 at *
  generalize hD : ((d + 1 : Nat) : Int) = D at *
  have HS := hid hss
  have HC := hid hcs
  have HI := hid ih
  have HR := hid hR
  have HJ := hid hJ
  obtain ⟨hD3, hD4⟩ := hD2
  clear l0 l1 hc hS hB hR hJ hD hf xb hne hss hcs ih
  go_enter Tryd.func52, Tryd.ntmps52
  go_wp2_with (go_at_call 61; refine c.mono ?_; rintro e w3 ⟨rfl, hb3⟩; have z3 := cell_kept x3 hb3; have L3 := hid (H1.out.step hb3); clear hb3 c x0 x1 x2 x3 y0 y1 y2)
  go_loopw [30] (fun i wr => ∃ k n : Nat, k ≤ x.args.length ∧ 1 ≤ n ∧ n ≤ L ∧ i = .int .i64 (k : Int) ∧ Hid (szL (sz d) L 1 x.args = szL (sz d) L n (x.args.drop k)) ∧ Hid (Lf w0 w b ((L : Int) - (n : Int)) wr)) (fun i _ => x.args.length - (intOf i).toNat)
  case atStart => exact ⟨0, 1, Nat.zero_le _, Nat.le_refl _, h1, rfl, by simp [Hid], L3⟩
  case round =>
    obtain ⟨k, n, hk, hn1, hnL, rfl, hE, hB⟩ := hrel
    by_cases hlt : k < x.args.length
    · have hlt' : (k : Int) < (x.args.length : Int) := by omega
      have hk0 : (0 : Int) ≤ (k : Int) := by omega
      obtain ⟨bb, o, rfl, hcc⟩ := HC.out.resolve_left (by omega)
      obtain ⟨a0, a1, a2, a3⟩ := hcc k hlt
      have v0 := cell_kept a0 hB.out.base
      have v1 := cell_kept a1 hB.out.base
      have v2 := cell_kept a2 hB.out.base
      have v3 := cell_kept a3 hB.out.base
      have hdr : x.args.drop k = x.args[k] :: x.args.drop (k + 1) := List.drop_eq_getElem_cons hlt
      have hE' := hE.out
      rw [hdr, szL] at hE'
      have HE := hid hE'
      have hst := HS.out k hlt
      clear a0 a1 a2 a3 hcc hdr hE' hE
      generalize x.args[k] = y at *
      obtain ⟨sv, hsv⟩ : ∃ sv, sl k = sv := ⟨_, rfl⟩
      rw [hsv] at v3 hst
      obtain ⟨ak, ck, _, rfl, _⟩ := hst.out
      clear hsv
      have lA : Lf w0 w b ((L : Int) - (n : Int)) (wr.alloc (.cells #[.int .u8 (y.op : Int), .int .i64 y.n, .string y.name, .slice ak y.args.length ck] 49)) := hB.out.step ((Below.refl _ _).alloc (Nat.le_refl _) _)
      have hlL : ((L - n : Nat) : Int) = (L : Int) - (n : Int) := by omega
      have cc := HI.out y w0 _ _ b (L - n) (by omega) hst lA.base hb (by rw [hlL]; exact lA.cell) HR.out HJ.out
      have LA := hid lA
      clear lA hst
      cases hz : sz d (L - n) y with
      | none =>
        rw [hz] at cc HE
        have hnone : Hid (szL (sz d) L 1 x.args = none) := HE.out
        go_wp2_with (go_at_call 52; refine cc.mono ?_; rintro e w4 ⟨rfl, hb4, _⟩)
        go_ret
        exact ⟨by rw [hnone.out]; rfl, LA.out.below.trans hb4, fun k h => by rw [hnone.out] at h; cases h⟩
      | some m =>
        rw [hz] at cc HE
        have hm := sz_le _ _ _ _ hz
        have HM : Hid ((((L - n : Nat) : Int) - (m : Int)) = (L : Int) - ((n + m : Nat) : Int)) := by unfold Hid; omega
        go_wp2_with (go_at_call 52; refine cc.mono ?_; rintro e w4 ⟨rfl, hb4, hl4⟩; have L4 := hid (hl4 m rfl); clear hl4)
        go_roundw
        case rel =>
          have l4 := L4.out
          rw [HM.out] at l4
          exact ⟨k + 1, n + m, by omega, by omega, by omega, by go_num, HE.out, ⟨l4.base, LA.out.below.trans l4.below, l4.cell⟩⟩
        case measure => simp [intOf]; omega
    · have hlt' : ¬ (k : Int) < (x.args.length : Int) := by omega
      have hdr : x.args.drop k = [] := List.drop_eq_nil_of_le (by omega)
      have hE' := hE.out
      rw [hdr, szL] at hE'
      have HE := hid hE'
      clear hE' hdr hE
      go_wp2
      go_ret
      exact ⟨by rw [HE.out]; rfl, hB.out.below, fun j h => by rw [HE.out] at h; injection h with h; subst h; exact hB.out⟩
/-- fits. -/
theorem fits_any : ∀ (d : Nat), d ≤ 32 → FitC d
  | 0, _ => fits_zero
  | d + 1, hd => by
    intro x w0 w s b L hL hS hB hb hc hR hJ
    have ih := fits_any d (by omega)
    by_cases h0 : L = 0
    · subst h0
      have e : sz (d + 1) 0 x = none := by rw [sz, if_pos (.inl rfl)]
      rw [e]
      exact (fits_none d hd x w0 w s b hS hB hb hc).mono fun e w' ⟨h1, h2⟩ => ⟨h1, h2, fun k h => by cases h⟩
    · cases hf : fieldsOk x.op x.n x.name x.args.length with
      | false =>
        have e : sz (d + 1) L x = none := by rw [sz, if_pos (.inr hf)]
        rw [e]
        exact (fits_bad d hd x w0 w s b L (by omega) hL hS hB hb hc hR hJ hf).mono fun e w' ⟨h1, h2⟩ => ⟨h1, h2, fun k h => by cases h⟩
      | true =>
        have e : sz (d + 1) L x = szL (sz d) L 1 x.args := by rw [sz, if_neg (by rw [hf]; simp [h0])]
        rw [e]
        exact fits_ok d hd ih x w0 w s b L (by omega) hL hS hB hb hc hR hJ hf
set_option maxRecDepth 100000 in
/-- Check. -/
theorem check (x : Ex) (w : World) (s : Value) (hS : St w x s) (hR : TabR w) (hJ : TabJ w) : Calls Tryd.prog 40 #[exV x s] w fun e w' => e = .returned (.bool (chk x)) ∧ Below w.heap.size w w' := by
  obtain ⟨ao, cap, sl, rfl, _⟩ := hS.out
  have b1 := (Below.refl w.heap.size w).alloc (Nat.le_refl _) (.cells #[.int .u8 (x.op : Int), .int .i64 x.n, .string x.name, .slice ao x.args.length cap] 49)
  have b2 := bstep b1 ((Below.refl _ _).alloc (Nat.le_refl _) (.cells #[.int .i64 200] 3))
  have c := fits_any 32 (Nat.le_refl _) x w _ _ (w.heap.size + 1) 200 (Nat.le_refl _) hS b2 (by omega) (by
    have h := heap_alloc_new (w.alloc (.cells #[.int .u8 (x.op : Int), .int .i64 x.n, .string x.name, .slice ao x.args.length cap] 49)) (.cells #[.int .i64 200] 3)
    have e : (w.alloc (.cells #[.int .u8 (x.op : Int), .int .i64 x.n, .string x.name, .slice ao x.args.length cap] 49)).heap.size = w.heap.size + 1 := by simp
    rw [e] at h
    exact h) hR hJ
  have H2 := hid b2
  clear hS hR hJ b1 b2
  go_enter Tryd.func40, Tryd.ntmps40
  go_wp2_with (go_at_call 52; refine c.mono ?_; rintro e w3 ⟨rfl, hb3, _⟩)
  go_ret
  exact ⟨rfl, H2.out.trans (hb3.mono (by omega))⟩
end Go.Proofs.YtjdlmhkfaodkgaaDoor.Lex
namespace Go.Proofs.YtjdlmhkfaodkgaaDoor.Lex
open Go.ChangeShapes Go.WideShapes Go.ChangeAt Go.RowKit Go.Joins
/-- The head of a flow: all that one from without has. -/
structure Hd where
  name : ByteArray
  ty : Nat
  st : Int
/-- A flow. -/
structure Fl where
  name : ByteArray
  ty : Nat
  st : Int
  df : Int
  body : Ex
/-- A program. -/
structure Pg where
  st : Int
  ins : List Hd
  flows : List Fl
  outs : List ByteArray
abbrev Hd.ok (x : Hd) : Prop := x.name.size ≤ 140737488355328 ∧ x.ty < 256 ∧ (-9223372036854775808 ≤ x.st ∧ x.st ≤ 9223372036854775807)
abbrev Fl.ok (x : Fl) : Prop := x.name.size ≤ 140737488355328 ∧ x.ty < 256 ∧ (-9223372036854775808 ≤ x.st ∧ x.st ≤ 9223372036854775807) ∧ (-9223372036854775808 ≤ x.df ∧ x.df ≤ 9223372036854775807)
/-- The cells of a head. -/
def HdCells (w : World) (b p : Nat) (x : Hd) : Prop :=
  w.cell? ⟨b, p, none⟩ = some (.string x.name) ∧ w.cell? ⟨b, p + 1, none⟩ = some (.int .u8 (x.ty : Int)) ∧ w.cell? ⟨b, p + 2, none⟩ = some (.int .i64 x.st)
/-- The cells of a flow. -/
def FlCells (w : World) (b p : Nat) (x : Fl) (s : Value) : Prop :=
  w.cell? ⟨b, p, none⟩ = some (.string x.name) ∧ w.cell? ⟨b, p + 1, none⟩ = some (.int .u8 (x.ty : Int)) ∧ w.cell? ⟨b, p + 2, none⟩ = some (.int .i64 x.st) ∧ w.cell? ⟨b, p + 3, none⟩ = some (.int .i64 x.df) ∧
  w.cell? ⟨b, p + 4, none⟩ = some (.int .u8 (x.body.op : Int)) ∧ w.cell? ⟨b, p + 5, none⟩ = some (.int .i64 x.body.n) ∧ w.cell? ⟨b, p + 6, none⟩ = some (.string x.body.name) ∧ w.cell? ⟨b, p + 7, none⟩ = some s
theorem HdCells.keep {w w' : World} {b p : Nat} {x : Hd} (h : HdCells w b p x) (hb : Below w.heap.size w w') : HdCells w' b p x :=
  ⟨cell_kept h.1 hb, cell_kept h.2.1 hb, cell_kept h.2.2 hb⟩
theorem FlCells.keep {w w' : World} {b p : Nat} {x : Fl} {s : Value} (h : FlCells w b p x s) (hb : Below w.heap.size w w') : FlCells w' b p x s :=
  ⟨cell_kept h.1 hb, cell_kept h.2.1 hb, cell_kept h.2.2.1 hb, cell_kept h.2.2.2.1 hb, cell_kept h.2.2.2.2.1 hb, cell_kept h.2.2.2.2.2.1 hb, cell_kept h.2.2.2.2.2.2.1 hb, cell_kept h.2.2.2.2.2.2.2 hb⟩
/-- A row of heads in memory. -/
def InsAt (w : World) (l : List Hd) (s : Value) : Prop :=
  ∃ (ao : Option Addr) (cap : Nat), s = .slice ao l.length cap ∧ l.length ≤ 4398046510976 ∧ l.length ≤ cap ∧ (∀ x ∈ l, x.ok) ∧
    (l.length = 0 ∨ ∃ b o, ao = some ⟨b, o, none⟩ ∧ ∀ i (h : i < l.length), HdCells w b (o + i * 3) l[i])
/-- A row of flows in memory. -/
def FlowsAt (w : World) (l : List Fl) (s : Value) : Prop :=
  ∃ (ao : Option Addr) (cap : Nat) (sl : Nat → Value), s = .slice ao l.length cap ∧ l.length ≤ 1466015503658 ∧ l.length ≤ cap ∧ (∀ x ∈ l, x.ok) ∧
    (l.length = 0 ∨ ∃ b o, ao = some ⟨b, o, none⟩ ∧ ∀ i (h : i < l.length), FlCells w b (o + i * 8) l[i] (sl i)) ∧ ∀ i (h : i < l.length), St w l[i].body (sl i)
/-- A row of texts in memory. -/
def TextsAt (w : World) (l : List ByteArray) (s : Value) : Prop :=
  ∃ (ao : Option Addr) (cap : Nat), s = .slice ao l.length cap ∧ l.length ≤ 8796093021952 ∧ l.length ≤ cap ∧ (∀ x ∈ l, x.size ≤ 140737488355328) ∧
    (l.length = 0 ∨ ∃ b o, ao = some ⟨b, o, none⟩ ∧ ∀ i (h : i < l.length), w.cell? ⟨b, o + i, none⟩ = some (.string l[i]))
theorem InsAt.keep {w w' : World} {l : List Hd} {s : Value} (h : InsAt w l s) (hb : Below w.heap.size w w') : InsAt w' l s := by
  obtain ⟨ao, cap, rfl, h1, h2, h3, h4⟩ := h
  refine ⟨ao, cap, rfl, h1, h2, h3, h4.imp_right ?_⟩
  rintro ⟨b, o, ha, hc⟩
  exact ⟨b, o, ha, fun i hi => (hc i hi).keep hb⟩
theorem FlowsAt.keep {w w' : World} {l : List Fl} {s : Value} (h : FlowsAt w l s) (hb : Below w.heap.size w w') : FlowsAt w' l s := by
  obtain ⟨ao, cap, sl, rfl, h1, h2, h3, h4, h5⟩ := h
  refine ⟨ao, cap, sl, rfl, h1, h2, h3, h4.imp_right ?_, fun i hi => (h5 i hi).keep hb⟩
  rintro ⟨b, o, ha, hc⟩
  exact ⟨b, o, ha, fun i hi => (hc i hi).keep hb⟩
theorem TextsAt.keep {w w' : World} {l : List ByteArray} {s : Value} (h : TextsAt w l s) (hb : Below w.heap.size w w') : TextsAt w' l s := by
  obtain ⟨ao, cap, rfl, h1, h2, h3, h4⟩ := h
  refine ⟨ao, cap, rfl, h1, h2, h3, h4.imp_right ?_⟩
  rintro ⟨b, o, ha, hc⟩
  exact ⟨b, o, ha, fun i hi => cell_kept (hc i hi) hb⟩
/-- A head, a flow, a program, as a value. -/
abbrev hdV (x : Hd) : Value := .agg #[.string x.name, .int .u8 (x.ty : Int), .int .i64 x.st]
abbrev flV (x : Fl) (s : Value) : Value := .agg #[.string x.name, .int .u8 (x.ty : Int), .int .i64 x.st, .int .i64 x.df, .int .u8 (x.body.op : Int), .int .i64 x.body.n, .string x.body.name, s]
abbrev pgC (p : Pg) (a b c : Value) : Array Value := #[.int .i64 p.st, a, b, c]
abbrev pgV (p : Pg) (a b c : Value) : Value := .agg (pgC p a b c)
/-- A program in memory: its three rows. -/
structure PgAt (w : World) (p : Pg) (a b c : Value) : Prop where
  st : -9223372036854775808 ≤ p.st ∧ p.st ≤ 9223372036854775807
  ins : InsAt w p.ins a
  flows : FlowsAt w p.flows b
  outs : TextsAt w p.outs c
theorem PgAt.keep {w w' : World} {p : Pg} {a b c : Value} (h : PgAt w p a b c) (hb : Below w.heap.size w w') : PgAt w' p a b c :=
  ⟨h.st, h.ins.keep hb, h.flows.keep hb, h.outs.keep hb⟩
end Go.Proofs.YtjdlmhkfaodkgaaDoor.Lex
namespace Go.Proofs.YtjdlmhkfaodkgaaDoor.Lex
open Go.ChangeShapes Go.WideShapes Go.ChangeAt Go.RowKit Go.Shelf
attribute [local go_sem] Oper.semAt_some
/-- The head of a flow. -/
abbrev Fl.hd (f : Fl) : Hd := ⟨f.name, f.ty, f.st⟩
def insL (p : Pg) : List (Int × Hd) := p.ins.map fun x => (-1, x)
def flowsL (p : Pg) : List (Int × Hd) := (List.range p.flows.length).map fun (i : Nat) => ((i : Int), (p.flows[i]?.map Fl.hd).getD ⟨ByteArray.empty, 0, 0⟩)
/-- The things of a program, each with its place. -/
def thingsL (p : Pg) : List (Int × Hd) := insL p ++ flowsL p
theorem insL_len (p : Pg) : (insL p).length = p.ins.length := by simp [insL]
theorem flowsL_len (p : Pg) : (flowsL p).length = p.flows.length := by simp [flowsL]
theorem insL_succ (p : Pg) (k : Nat) (h : k < p.ins.length) : (insL p).take (k + 1) = (insL p).take k ++ [(-1, p.ins[k])] := by
  rw [List.take_succ_eq_append_getElem (by rw [insL_len]; exact h)]
  simp [insL]
theorem flowsL_succ (p : Pg) (k : Nat) (h : k < p.flows.length) : (flowsL p).take (k + 1) = (flowsL p).take k ++ [((k : Int), p.flows[k].hd)] := by
  rw [List.take_succ_eq_append_getElem (by rw [flowsL_len]; exact h)]
  simp [flowsL, h]
set_option maxRecDepth 100000 in
set_option maxHeartbeats 2000000 in
theorem things1 (F : Fence) (n : Nat) (h22 : F.fn 42) (hro : F.round = none) (hn : 1 ≤ n) (l Bn n₀ : Nat) (p : Pg) (a b c : Value) (J Jx : List (Int × Hd) → World → Prop) (W0 W : World) (hW0 : n₀ = W0.heap.size) (hW : Below n₀ W0 W) (hP : PgAt W0 p a b c)
    (hA : AbidesFrom W.heap.size J)
    (hY : ∀ pre x W, J pre W → pre.length < (thingsL p).length → YieldAt F (n - 1) Tryd.prog l #[.int .i64 x.1, hdV x.2] W fun e W' =>
      (e = .returned (.bool true) ∧ J (pre ++ [x]) W' ∧ Below n₀ W W') ∨ (e = .returned (.bool false) ∧ Jx (pre ++ [x]) W'))
    (hB1 : W0.cell? ⟨Bn, 1, none⟩ = some a) (hB2 : W0.cell? ⟨Bn, 2, none⟩ = some b) (h0 : J [] W) :
    CallsIn F n Tryd.prog 42 #[.func (.yield l) #[] #[], .pointer (some ⟨Bn, 0, none⟩)] W fun e W' => (∃ v, e = .returned v) ∧
      ((∃ ys, ys = thingsL p ∧ J ys W') ∨ (∃ pre, pre <+: thingsL p ∧ Jx pre W')) := by
  subst hW0
  obtain ⟨ao, cap, rfl, hlen, _, _, hc⟩ := hP.ins
  obtain ⟨bo, cbp, sl, rfl, hlen2, _, _, hc2, hs2⟩ := hP.flows
  have HS2 := hid hs2
  have HC := hid hc
  have HC2 := hid hc2
  have HL : Hid ((thingsL p).length = p.ins.length + p.flows.length) := hid (by simp [thingsL, insL_len, flowsL_len])
  clear hc hc2 hs2 hP
  have x1 := cell_kept hB1 hW
  have HB2 := hid hB2
  have AL : ∀ (s : List (Int × Hd)) (V : World) (o : Obj), J s V → J s (V.alloc o) := fun s V o h => hA s V _ none h (World.grownBy_alloc V o none) (fun r e => by cases e)
  clear hB1 hB2 hA
  refine callsIn_of_wp Tryd.func42 rfl h22 ?_ hro
  simp only [Tryd.ntmps42, List.size_toArray, List.length_cons, List.length_nil, Nat.reduceAdd, Nat.reduceSub, Array.replicate_succ, Array.replicate_zero, List.push_toArray, List.append_toArray, List.nil_append, List.cons_append]
  gi_wp2
  gi_loopw [10] (fun i wr => ∃ k : Nat, k ≤ p.ins.length ∧ i = .int .i64 (k : Int) ∧ Hid (J ((insL p).take k) wr) ∧ Hid (Below W0.heap.size W0 wr)) (fun i wr => p.ins.length - (intOf i).toNat)
  case atStart => exact ⟨0, Nat.zero_le _, rfl, hid h0, hid hW⟩
  case round =>
    obtain ⟨k, hk, rfl, hJ, hB⟩ := hrel
    by_cases hlt : k < p.ins.length
    · have hlt' : (k : Int) < (p.ins.length : Int) := by omega
      have hk0 : (0 : Int) ≤ (k : Int) := by omega
      obtain ⟨bb, o, rfl, hcc⟩ := HC.out.resolve_left (by omega)
      obtain ⟨v0, v1, v2⟩ := (hcc k hlt).keep hB.out
      have HS := hid (insL_succ p k hlt)
      obtain ⟨fn, tmps, assign, body, hy, hR⟩ := hY ((insL p).take k) (-1, p.ins[k]) (wr.alloc (.cells #[.string p.ins[k].name, .int .u8 (p.ins[k].ty : Int), .int .i64 p.ins[k].st] 61)) (AL _ _ _ hJ.out) (by have := HL.out; have := insL_len p; simp; omega)
      dsimp only at hy
      clear hcc
      generalize p.ins[k] = y at *
      gi_wp2
      refine hR.mono ?_
      rintro e W3 (⟨rfl, hJ3, hk3⟩ | ⟨rfl, hJx3⟩)
      · gi_wp2
        go_roundw
        case rel => exact ⟨k + 1, by omega, by go_num, hid (by rw [HS.out]; exact hJ3), hid ((hB.out.alloc hB.out.size _).trans hk3)⟩
        case measure => simp [intOf]; omega
      · gi_wp2
        refine bodyPost_ret (results_none rfl _ _ _) rfl ?_
        exact ⟨⟨_, rfl⟩, .inr ⟨_, by rw [← HS.out]; exact (List.take_prefix _ _).trans (List.prefix_append _ _), hJx3⟩⟩
    · have hlt' : ¬ (k : Int) < (p.ins.length : Int) := by omega
      have hJ' : Hid (J (insL p) wr) := by rw [List.take_of_length_le (by rw [insL_len]; omega)] at hJ; exact hJ
      have x2 := cell_kept HB2.out hB.out
      clear hJ
      gi_wp2
      gi_loopw [22] (fun i wr => ∃ k : Nat, k ≤ p.flows.length ∧ i = .int .i64 (k : Int) ∧ Hid (J (insL p ++ (flowsL p).take k) wr) ∧ Hid (Below W0.heap.size W0 wr)) (fun i wr => p.flows.length - (intOf i).toNat)
      case atStart => exact ⟨0, Nat.zero_le _, rfl, hid (by simpa using hJ'.out), hB⟩
      case round =>
        obtain ⟨j, hj, rfl, hJ2, hB'⟩ := hrel
        by_cases hjl : j < p.flows.length
        · have hjl' : (j : Int) < (p.flows.length : Int) := by omega
          have hj0 : (0 : Int) ≤ (j : Int) := by omega
          obtain ⟨b2, o2, rfl, hcc⟩ := HC2.out.resolve_left (by omega)
          have X := (hcc j hjl).keep hB'.out
          obtain ⟨a3, c3, _, e3, _⟩ := (HS2.out j hjl).out
          rw [e3] at X
          have HS := hid (flowsL_succ p j hjl)
          obtain ⟨fn, tmps, assign, body, hy, hR⟩ := hY (insL p ++ (flowsL p).take j) ((j : Int), p.flows[j].hd) (wr.alloc (.cells #[.string p.flows[j].name, .int .u8 (p.flows[j].ty : Int), .int .i64 p.flows[j].st, .int .i64 p.flows[j].df, .int .u8 (p.flows[j].body.op : Int), .int .i64 p.flows[j].body.n, .string p.flows[j].body.name, .slice a3 p.flows[j].body.args.length c3] 51)) (AL _ _ _ hJ2.out) (by have := HL.out; have := insL_len p; have := flowsL_len p; simp; omega)
          dsimp only [Fl.hd] at hy
          clear hcc e3
          obtain ⟨v0, v1, v2, v3, v4, v5, v6, v7⟩ := X
          generalize p.flows[j] = y at *
          gi_wp2
          refine hR.mono ?_
          rintro e W3 (⟨rfl, hJ3, hk3⟩ | ⟨rfl, hJx3⟩)
          · gi_wp2
            go_roundw
            case rel => exact ⟨j + 1, by omega, by go_num, hid (by rw [HS.out, ← List.append_assoc]; exact hJ3), hid ((hB'.out.alloc hB'.out.size _).trans hk3)⟩
            case measure => simp [intOf]; omega
          · gi_wp2
            refine bodyPost_ret (results_none rfl _ _ _) rfl ?_
            exact ⟨⟨_, rfl⟩, .inr ⟨_, by rw [List.append_assoc, ← HS.out]; exact (List.prefix_append_right_inj _).2 (List.take_prefix _ _), hJx3⟩⟩
        · have hjl' : ¬ (j : Int) < (p.flows.length : Int) := by omega
          gi_wp2
          go_end0
          exact ⟨⟨_, rfl⟩, .inl (by have := hJ2.out; rw [List.take_of_length_le (by rw [flowsL_len]; omega)] at this; exact this)⟩
/-- names.things hands back that function, over a copy of the program. -/
theorem things (F : Fence) (n : Nat) (h14 : F.fn 23) (hro : F.round = none) (p : Pg) (a b c : Value) (w : World) :
    CallsIn F n Tryd.prog 23 #[pgV p a b c] w fun e w' => e = .returned (.func (.func 42) #[] #[.pointer (some ⟨w.heap.size, 0, none⟩)]) ∧ w' = w.alloc (.cells (pgC p a b c) 26) := by
  refine callsIn_of_wp Tryd.func23 rfl h14 ?_ hro
  simp only [Tryd.ntmps23, List.size_toArray, List.length_cons, List.length_nil, Nat.reduceAdd, Nat.reduceSub, Array.replicate_succ, Array.replicate_zero, List.push_toArray, List.append_toArray, List.nil_append, List.cons_append]
  gi_wp2
  go_ret
  exact ⟨rfl, rfl⟩
/-- What it hands back goes through the things. -/
theorem things_stops (F : Fence) (n : Nat) (h22 : F.fn 42) (hro : F.round = none) (hn : 1 ≤ n) (Bn : Nat) (p : Pg) (a b c : Value) (w : World) (hP : PgAt w p a b c) (hB1 : w.cell? ⟨Bn, 1, none⟩ = some a) (hB2 : w.cell? ⟨Bn, 2, none⟩ = some b) :
    SeqStopsK F n Tryd.prog 42 #[.pointer (some ⟨Bn, 0, none⟩)] (fun x : Int × Hd => #[.int .i64 x.1, hdV x.2]) (Below w.heap.size) (fun ys => ys = thingsL p) (fun pre => pre <+: thingsL p) (thingsL p).length w := fun l J Jx W hW hA _ hY h0 =>
  things1 F n h22 hro hn l Bn w.heap.size p a b c J Jx w W rfl hW hP hA hY hB1 hB2 h0
end Go.Proofs.YtjdlmhkfaodkgaaDoor.Lex
namespace Go.Proofs.YtjdlmhkfaodkgaaDoor.Lex
open Go.ChangeShapes Go.WideShapes Go.ChangeAt Go.RowKit Go.Shelf
attribute [local go_sem] Oper.semAt_some
/-- The first of them that has the name. -/
def findT (l : List (Int × Hd)) (name : ByteArray) : Option (Int × Hd) := l.find? fun x => x.2.name.toList == name.toList
/-- What is answered. -/
def foV (o : Option (Int × Hd)) : Array Value := match o with
  | some x => #[.int .i64 x.2.st, .int .u8 (x.2.ty : Int), .int .i64 x.1, .bool true]
  | none => #[.int .i64 0, .int .u8 0, .int .i64 0, .bool false]
/-- None of them has it. -/
def Free (l : List (Int × Hd)) (name : ByteArray) : Prop := ∀ x ∈ l, (x.2.name.toList == name.toList) = false
theorem findT_none {l : List (Int × Hd)} {name : ByteArray} (h : Free l name) : findT l name = none := by
  unfold findT
  rw [List.find?_eq_none]
  intro x hx
  simp [h x hx]
theorem findT_some {l pre : List (Int × Hd)} {x : Int × Hd} {name : ByteArray} (hp : pre ++ [x] <+: l) (h : Free pre name) (hx : (x.2.name.toList == name.toList) = true) : findT l name = some x := by
  obtain ⟨t, rfl⟩ := hp
  have h' := findT_none h
  unfold findT at h' ⊢
  rw [List.append_assoc, List.find?_append, h']
  simp [hx]
theorem Free.snoc {l : List (Int × Hd)} {x : Int × Hd} {name : ByteArray} (h : Free l name) (hx : (x.2.name.toList == name.toList) = false) : Free (l ++ [x]) name := by
  intro y hy
  rcases List.mem_append.1 hy with hy | hy
  · exact h y hy
  · rw [List.mem_singleton.1 hy]; exact hx
theorem box_turn {B0 : Nat} {X Y : World} {row : Option Nat} {B : Nat} {t : TypeId} {v : Value} (h : Boxed X B t v) (hg : X.grownBy Y row) (hr : ∀ r, row = some r → B0 ≤ r ∧ ∃ o : Obj, X.heap[r]? = some o ∧ o.isCells = false) : Boxed Y B t v :=
  boxed_own B t (fun (_ : Unit) => v) () X Y row h hg (fun r e => (hr r e).2)
theorem grownBy_keeps_cells {X Y : World} {row : Option Nat} {B : Nat} {c : Array Value} {t : TypeId} {f : Nat × Nat} (hg : X.grownBy Y row) (hr : ∀ r, row = some r → ∃ o : Obj, X.heap[r]? = some o ∧ o.isCells = false) (h : X.heap[B]? = some (.cells c t f)) : Y.heap[B]? = some (.cells c t f) := by
  refine (hg.block B (Array.getElem?_eq_some_iff.1 h).1 ?_).trans h
  intro e
  obtain ⟨o, ho, hc⟩ := hr B e.symm
  rw [h] at ho
  cases ho
  cases hc
theorem boxed_drew {W : World} {B : Nat} {t : TypeId} {v : Value} (h : Boxed W B t v) : Boxed W.drew B t v := h
/-- Four boxes that are stored into. -/
def four (W : World) (b : Nat) (u2 u3 u4 u5 : Value) : World := (((W.setCell ⟨b + 1 + 1, 0, none⟩ u2).setCell ⟨b + 1 + 1 + 1, 0, none⟩ u3).setCell ⟨b + 1 + 1 + 1 + 1, 0, none⟩ u4).setCell ⟨b + 1 + 1 + 1 + 1 + 1, 0, none⟩ u5
theorem four_keeps (W : World) (b : Nat) (u2 u3 u4 u5 : Value) : KeepsOthers W (four W b u2 u3 u4 u5) :=
  (((KeepsOthers.setCell _ _ _).trans (KeepsOthers.setCell _ _ _)).trans (KeepsOthers.setCell _ _ _)).trans (KeepsOthers.setCell _ _ _)
theorem four_below {w W : World} {b : Nat} (u2 u3 u4 u5 : Value) (h : Below b w W) : Below b w (four W b u2 u3 u4 u5) :=
  (((h.setCell (p := ⟨b + 1 + 1, 0, none⟩) (by simp; omega) u2).setCell (p := ⟨b + 1 + 1 + 1, 0, none⟩) (by simp; omega) u3).setCell (p := ⟨b + 1 + 1 + 1 + 1, 0, none⟩) (by simp; omega) u4).setCell (p := ⟨b + 1 + 1 + 1 + 1 + 1, 0, none⟩) (by simp; omega) u5
theorem four_boxed {W : World} {b t2 t3 t4 t5 : Nat} {v2 v3 v4 v5 : Value} (u2 u3 u4 u5 : Value) (c2 : Boxed W (b + 1 + 1) t2 v2) (c3 : Boxed W (b + 1 + 1 + 1) t3 v3) (c4 : Boxed W (b + 1 + 1 + 1 + 1) t4 v4) (c5 : Boxed W (b + 1 + 1 + 1 + 1 + 1) t5 v5) :
    Boxed (four W b u2 u3 u4 u5) (b + 1 + 1) t2 u2 ∧ Boxed (four W b u2 u3 u4 u5) (b + 1 + 1 + 1) t3 u3 ∧ Boxed (four W b u2 u3 u4 u5) (b + 1 + 1 + 1 + 1) t4 u4 ∧ Boxed (four W b u2 u3 u4 u5) (b + 1 + 1 + 1 + 1 + 1) t5 u5 :=
  ⟨(((c2.set u2).other (by omega) u3).other (by omega) u4).other (by omega) u5, (((c3.other (by omega) u2).set u3).other (by omega) u4).other (by omega) u5, (((c4.other (by omega) u2).other (by omega) u3).set u4).other (by omega) u5, (((c5.other (by omega) u2).other (by omega) u3).other (by omega) u4).set u5⟩
set_option maxRecDepth 100000 in
set_option maxHeartbeats 4000000 in
theorem find_in (F : Fence) (n : Nat) (h7 : F.fn 18) (h14 : F.fn 23) (h22 : F.fn 42) (hro : F.round = none) (hn : 6 ≤ n) (p : Pg) (name : ByteArray) (w : World) (a b c : Value) (hP : PgAt w p a b c) :
    CallsIn F n Tryd.prog 18 #[pgV p a b c, .string name] w fun e W' => e = .returned (.tuple (foV (findT (thingsL p) name))) ∧ Below w.heap.size w W' := by
  have h1 : 1 ≤ n := by omega
  obtain ⟨a0, a1, rfl, _⟩ := hP.ins
  obtain ⟨b0, b1, _, rfl, _⟩ := hP.flows
  obtain ⟨c0, c1, rfl, _⟩ := hP.outs
  have HP := hid hP
  clear hP
  refine callsIn_of_wp_marks Tryd.func18 rfl h7 ?_ hro
  simp only [Tryd.ntmps18, List.size_toArray, List.length_cons, List.length_nil, Nat.reduceAdd, Nat.reduceSub, Array.replicate_succ, Array.replicate_zero, List.push_toArray, List.append_toArray, List.nil_append, List.cons_append]
  gi_wp2_with (gi_at_call 23; refine (things F (n - 1) h14 hro p _ _ _ _).mono ?_; rintro e w' ⟨rfl, rfl⟩)
  have hB0 : Below w.heap.size w (((((((w.alloc (.cells (pgC p (.slice a0 p.ins.length a1) (.slice b0 p.flows.length b1) (.slice c0 p.outs.length c1)) 26)).alloc (.cells #[.string name] 9)).alloc (.cells #[.int .i64 0] 3)).alloc (.cells #[.int .u8 0] 43)).alloc (.cells #[.int .i64 0] 3)).alloc (.cells #[.bool false] 4)).alloc (.cells (pgC p (.slice a0 p.ins.length a1) (.slice b0 p.flows.length b1) (.slice c0 p.outs.length c1)) 26)) := ((((((((Below.refl w.heap.size w).alloc (by simp; try omega) (.cells (pgC p (.slice a0 p.ins.length a1) (.slice b0 p.flows.length b1) (.slice c0 p.outs.length c1)) 26)).alloc (by simp; try omega) (.cells #[.string name] 9)).alloc (by simp; try omega) (.cells #[.int .i64 0] 3)).alloc (by simp; try omega) (.cells #[.int .u8 0] 43)).alloc (by simp; try omega) (.cells #[.int .i64 0] 3)).alloc (by simp; try omega) (.cells #[.bool false] 4)).alloc (by simp; try omega) (.cells (pgC p (.slice a0 p.ins.length a1) (.slice b0 p.flows.length b1) (.slice c0 p.outs.length c1)) 26))
  have hsz : (((((((w.alloc (.cells (pgC p (.slice a0 p.ins.length a1) (.slice b0 p.flows.length b1) (.slice c0 p.outs.length c1)) 26)).alloc (.cells #[.string name] 9)).alloc (.cells #[.int .i64 0] 3)).alloc (.cells #[.int .u8 0] 43)).alloc (.cells #[.int .i64 0] 3)).alloc (.cells #[.bool false] 4)).alloc (.cells (pgC p (.slice a0 p.ins.length a1) (.slice b0 p.flows.length b1) (.slice c0 p.outs.length c1)) 26)).heap.size = w.heap.size + 7 := by simp
  have bN : Boxed (((((((w.alloc (.cells (pgC p (.slice a0 p.ins.length a1) (.slice b0 p.flows.length b1) (.slice c0 p.outs.length c1)) 26)).alloc (.cells #[.string name] 9)).alloc (.cells #[.int .i64 0] 3)).alloc (.cells #[.int .u8 0] 43)).alloc (.cells #[.int .i64 0] 3)).alloc (.cells #[.bool false] 4)).alloc (.cells (pgC p (.slice a0 p.ins.length a1) (.slice b0 p.flows.length b1) (.slice c0 p.outs.length c1)) 26)) (w.heap.size + 1) 9 (.string name) := by have := ((((((Boxed.new (w.alloc (.cells (pgC p (.slice a0 p.ins.length a1) (.slice b0 p.flows.length b1) (.slice c0 p.outs.length c1)) 26)) 9 (.string name)).alloc (.cells #[.int .i64 0] 3)).alloc (.cells #[.int .u8 0] 43)).alloc (.cells #[.int .i64 0] 3)).alloc (.cells #[.bool false] 4)).alloc (.cells (pgC p (.slice a0 p.ins.length a1) (.slice b0 p.flows.length b1) (.slice c0 p.outs.length c1)) 26)); simpa using this
  have b2 : Boxed (((((((w.alloc (.cells (pgC p (.slice a0 p.ins.length a1) (.slice b0 p.flows.length b1) (.slice c0 p.outs.length c1)) 26)).alloc (.cells #[.string name] 9)).alloc (.cells #[.int .i64 0] 3)).alloc (.cells #[.int .u8 0] 43)).alloc (.cells #[.int .i64 0] 3)).alloc (.cells #[.bool false] 4)).alloc (.cells (pgC p (.slice a0 p.ins.length a1) (.slice b0 p.flows.length b1) (.slice c0 p.outs.length c1)) 26)) (w.heap.size + 1 + 1) 3 (.int .i64 0) := by have := (((((Boxed.new ((w.alloc (.cells (pgC p (.slice a0 p.ins.length a1) (.slice b0 p.flows.length b1) (.slice c0 p.outs.length c1)) 26)).alloc (.cells #[.string name] 9)) 3 (.int .i64 0)).alloc (.cells #[.int .u8 0] 43)).alloc (.cells #[.int .i64 0] 3)).alloc (.cells #[.bool false] 4)).alloc (.cells (pgC p (.slice a0 p.ins.length a1) (.slice b0 p.flows.length b1) (.slice c0 p.outs.length c1)) 26)); simpa using this
  have b3 : Boxed (((((((w.alloc (.cells (pgC p (.slice a0 p.ins.length a1) (.slice b0 p.flows.length b1) (.slice c0 p.outs.length c1)) 26)).alloc (.cells #[.string name] 9)).alloc (.cells #[.int .i64 0] 3)).alloc (.cells #[.int .u8 0] 43)).alloc (.cells #[.int .i64 0] 3)).alloc (.cells #[.bool false] 4)).alloc (.cells (pgC p (.slice a0 p.ins.length a1) (.slice b0 p.flows.length b1) (.slice c0 p.outs.length c1)) 26)) (w.heap.size + 1 + 1 + 1) 43 (.int .u8 0) := by have := ((((Boxed.new (((w.alloc (.cells (pgC p (.slice a0 p.ins.length a1) (.slice b0 p.flows.length b1) (.slice c0 p.outs.length c1)) 26)).alloc (.cells #[.string name] 9)).alloc (.cells #[.int .i64 0] 3)) 43 (.int .u8 0)).alloc (.cells #[.int .i64 0] 3)).alloc (.cells #[.bool false] 4)).alloc (.cells (pgC p (.slice a0 p.ins.length a1) (.slice b0 p.flows.length b1) (.slice c0 p.outs.length c1)) 26)); simpa using this
  have b4 : Boxed (((((((w.alloc (.cells (pgC p (.slice a0 p.ins.length a1) (.slice b0 p.flows.length b1) (.slice c0 p.outs.length c1)) 26)).alloc (.cells #[.string name] 9)).alloc (.cells #[.int .i64 0] 3)).alloc (.cells #[.int .u8 0] 43)).alloc (.cells #[.int .i64 0] 3)).alloc (.cells #[.bool false] 4)).alloc (.cells (pgC p (.slice a0 p.ins.length a1) (.slice b0 p.flows.length b1) (.slice c0 p.outs.length c1)) 26)) (w.heap.size + 1 + 1 + 1 + 1) 3 (.int .i64 0) := by have := (((Boxed.new ((((w.alloc (.cells (pgC p (.slice a0 p.ins.length a1) (.slice b0 p.flows.length b1) (.slice c0 p.outs.length c1)) 26)).alloc (.cells #[.string name] 9)).alloc (.cells #[.int .i64 0] 3)).alloc (.cells #[.int .u8 0] 43)) 3 (.int .i64 0)).alloc (.cells #[.bool false] 4)).alloc (.cells (pgC p (.slice a0 p.ins.length a1) (.slice b0 p.flows.length b1) (.slice c0 p.outs.length c1)) 26)); simpa using this
  have b5 : Boxed (((((((w.alloc (.cells (pgC p (.slice a0 p.ins.length a1) (.slice b0 p.flows.length b1) (.slice c0 p.outs.length c1)) 26)).alloc (.cells #[.string name] 9)).alloc (.cells #[.int .i64 0] 3)).alloc (.cells #[.int .u8 0] 43)).alloc (.cells #[.int .i64 0] 3)).alloc (.cells #[.bool false] 4)).alloc (.cells (pgC p (.slice a0 p.ins.length a1) (.slice b0 p.flows.length b1) (.slice c0 p.outs.length c1)) 26)) (w.heap.size + 1 + 1 + 1 + 1 + 1) 4 (.bool false) := by have := ((Boxed.new (((((w.alloc (.cells (pgC p (.slice a0 p.ins.length a1) (.slice b0 p.flows.length b1) (.slice c0 p.outs.length c1)) 26)).alloc (.cells #[.string name] 9)).alloc (.cells #[.int .i64 0] 3)).alloc (.cells #[.int .u8 0] 43)).alloc (.cells #[.int .i64 0] 3)) 4 (.bool false)).alloc (.cells (pgC p (.slice a0 p.ins.length a1) (.slice b0 p.flows.length b1) (.slice c0 p.outs.length c1)) 26)); simpa using this
  have x1 : (((((((w.alloc (.cells (pgC p (.slice a0 p.ins.length a1) (.slice b0 p.flows.length b1) (.slice c0 p.outs.length c1)) 26)).alloc (.cells #[.string name] 9)).alloc (.cells #[.int .i64 0] 3)).alloc (.cells #[.int .u8 0] 43)).alloc (.cells #[.int .i64 0] 3)).alloc (.cells #[.bool false] 4)).alloc (.cells (pgC p (.slice a0 p.ins.length a1) (.slice b0 p.flows.length b1) (.slice c0 p.outs.length c1)) 26)).cell? ⟨w.heap.size + 1 + 1 + 1 + 1 + 1 + 1, 1, none⟩ = some (.slice a0 p.ins.length a1) := by have := box_at ((((((w.alloc (.cells (pgC p (.slice a0 p.ins.length a1) (.slice b0 p.flows.length b1) (.slice c0 p.outs.length c1)) 26)).alloc (.cells #[.string name] 9)).alloc (.cells #[.int .i64 0] 3)).alloc (.cells #[.int .u8 0] 43)).alloc (.cells #[.int .i64 0] 3)).alloc (.cells #[.bool false] 4)) (pgC p (.slice a0 p.ins.length a1) (.slice b0 p.flows.length b1) (.slice c0 p.outs.length c1)) 26 1 (.slice a0 p.ins.length a1) rfl; simpa using this
  have x2 : (((((((w.alloc (.cells (pgC p (.slice a0 p.ins.length a1) (.slice b0 p.flows.length b1) (.slice c0 p.outs.length c1)) 26)).alloc (.cells #[.string name] 9)).alloc (.cells #[.int .i64 0] 3)).alloc (.cells #[.int .u8 0] 43)).alloc (.cells #[.int .i64 0] 3)).alloc (.cells #[.bool false] 4)).alloc (.cells (pgC p (.slice a0 p.ins.length a1) (.slice b0 p.flows.length b1) (.slice c0 p.outs.length c1)) 26)).cell? ⟨w.heap.size + 1 + 1 + 1 + 1 + 1 + 1, 2, none⟩ = some (.slice b0 p.flows.length b1) := by have := box_at ((((((w.alloc (.cells (pgC p (.slice a0 p.ins.length a1) (.slice b0 p.flows.length b1) (.slice c0 p.outs.length c1)) 26)).alloc (.cells #[.string name] 9)).alloc (.cells #[.int .i64 0] 3)).alloc (.cells #[.int .u8 0] 43)).alloc (.cells #[.int .i64 0] 3)).alloc (.cells #[.bool false] 4)) (pgC p (.slice a0 p.ins.length a1) (.slice b0 p.flows.length b1) (.slice c0 p.outs.length c1)) 26 2 (.slice b0 p.flows.length b1) rfl; simpa using this
  obtain ⟨W0, hW0⟩ : ∃ W0, (((((((w.alloc (.cells (pgC p (.slice a0 p.ins.length a1) (.slice b0 p.flows.length b1) (.slice c0 p.outs.length c1)) 26)).alloc (.cells #[.string name] 9)).alloc (.cells #[.int .i64 0] 3)).alloc (.cells #[.int .u8 0] 43)).alloc (.cells #[.int .i64 0] 3)).alloc (.cells #[.bool false] 4)).alloc (.cells (pgC p (.slice a0 p.ins.length a1) (.slice b0 p.flows.length b1) (.slice c0 p.outs.length c1)) 26)) = W0 := ⟨_, rfl⟩
  rw [hW0] at hB0 hsz bN b2 b3 b4 b5 x1 x2 ⊢
  clear hW0
  have HP0 := hid (HP.out.keep hB0)
  refine wpIn_rangeFunc_ownH hro h1 (gf := 42) (lb := #[.pointer (some ⟨w.heap.size + 1 + 1 + 1 + 1 + 1 + 1, 0, none⟩)]) rfl h22 (enters_of Tryd.func42 (by kernel_rfl) rfl)
    (things_stops F (n - 1) h22 hro (by omega) (w.heap.size + 1 + 1 + 1 + 1 + 1 + 1) p _ _ _ W0 HP0.out x1 x2) belowK_t (belowK_b (Nat.le_refl _)) (Below.refl _ _) (fun _ => rfl)
    (fun pre W => (((((Free pre name ∧ Boxed W (w.heap.size + 1) 9 (.string name)) ∧ Boxed W (w.heap.size + 1 + 1) 3 (.int .i64 0)) ∧ Boxed W (w.heap.size + 1 + 1 + 1) 43 (.int .u8 0)) ∧ Boxed W (w.heap.size + 1 + 1 + 1 + 1) 3 (.int .i64 0)) ∧ Boxed W (w.heap.size + 1 + 1 + 1 + 1 + 1) 4 (.bool false)) ∧ (Below w.heap.size w W ∧ W0.heap.size ≤ W.heap.size))
    (fun c pre W => ∃ (q : List (Int × Hd)) (x : Int × Hd), (c = .ret ∧ pre = q ++ [x] ∧ Free q name ∧ (x.2.name.toList == name.toList) = true) ∧ Boxed W (w.heap.size + 1 + 1) 3 (.int .i64 x.2.st) ∧ Boxed W (w.heap.size + 1 + 1 + 1) 43 (.int .u8 (x.2.ty : Int)) ∧ Boxed W (w.heap.size + 1 + 1 + 1 + 1) 3 (.int .i64 x.1) ∧ Boxed W (w.heap.size + 1 + 1 + 1 + 1 + 1) 4 (.bool true) ∧ Below w.heap.size w W)
    (OwnFrom.and (OwnFrom.and (OwnFrom.and (OwnFrom.and (OwnFrom.and (OwnFrom.and (ownFrom_pure _ _) (Own.from (boxed_own _ _ _) _)) (Own.from (boxed_own _ _ _) _)) (Own.from (boxed_own _ _ _) _)) (Own.from (boxed_own _ _ _) _)) (Own.from (boxed_own _ _ _) _)) (OwnFrom.and (ownFrom_below (Nat.le_refl _) (by omega)) (fun _ _ _ _ hs hg _ => Nat.le_trans hs hg.size)))
    (fun c pre X Y row hs hg hr => by
      obtain ⟨q, x, e, e2, e3, e4, e5, e6⟩ := hs
      exact ⟨q, x, e, box_turn e2 hg hr, box_turn e3 hg hr, box_turn e4 hg hr, box_turn e5 hg hr, (ownFrom_below (w₀ := w) (Nat.le_refl _) (by omega) : OwnFrom W0.heap.size (fun (_ : Unit) W => Below w.heap.size w W)) () X Y row e6 hg hr⟩)
    ⟨⟨⟨⟨⟨⟨(fun x hx => by cases hx), bN⟩, b2⟩, b3⟩, b4⟩, b5⟩, hB0, Nat.le_refl _⟩
    (fun x a' W => ∃ Bx, w.heap.size + 1 + 1 + 1 + 1 + 1 + 1 < Bx ∧ W.heap[Bx]? = some (.cells #[.string x.2.name, .int .u8 (x.2.ty : Int), .int .i64 x.2.st] 61 (0, 0)) ∧ a' = { tmps := #[pgV p (.slice a0 p.ins.length a1) (.slice b0 p.flows.length b1) (.slice c0 p.outs.length c1), .string name, .pointer (some ⟨w.heap.size, 0, none⟩), .pointer (some ⟨w.heap.size + 1, 0, none⟩), .pointer (some ⟨w.heap.size + 1 + 1, 0, none⟩), .pointer (some ⟨w.heap.size + 1 + 1 + 1, 0, none⟩), .pointer (some ⟨w.heap.size + 1 + 1 + 1 + 1, 0, none⟩), .pointer (some ⟨w.heap.size + 1 + 1 + 1 + 1 + 1, 0, none⟩), .int .i64 x.1, .pointer (some ⟨Bx, 0, none⟩), pgV p (.slice a0 p.ins.length a1) (.slice b0 p.flows.length b1) (.slice c0 p.outs.length c1), .func (.func 42) #[] #[.pointer (some ⟨w.heap.size + 1 + 1 + 1 + 1 + 1 + 1, 0, none⟩)], .int .i64 x.1, hdV x.2, undef, undef, undef, undef, undef, undef, undef, undef, undef], defers := [] })
    (fun x a' _ X Y row hs hg hr => by obtain ⟨Bx, e1, e2, e3⟩ := hs; exact ⟨Bx, e1, (grownBy_keeps_cells hg (fun r e => (hr r e).2) e2), e3⟩)
    ?assign ?body ?done ?stop
  case assign =>
    rintro l pre x W K ⟨⟨⟨⟨⟨⟨hf, cN⟩, c2⟩, c3⟩, c4⟩, c5⟩, hB1, hZ⟩ hK
    gi_wp2
    exact hK _ _ ((KeepsOthers.alloc _ _).from _) ((Below.refl _ W).alloc hZ _) ⟨⟨⟨⟨⟨⟨hf, cN.alloc _⟩, c2.alloc _⟩, c3.alloc _⟩, c4.alloc _⟩, c5.alloc _⟩, hB1.alloc hB1.size _, by simp; omega⟩ ⟨W.heap.size, by omega, World.alloc_heap_new W _, rfl⟩
  case body =>
    rintro l pre x a' W hl _ ⟨⟨⟨⟨⟨⟨hf, cN⟩, c2⟩, c3⟩, c4⟩, c5⟩, hB1, hZ⟩ ⟨Bx, hBx, hRow, rfl⟩ _
    have dN := cN.cell
    have d2 := c2.cell
    have d3 := c3.cell
    have d4 := c4.cell
    have d5 := c5.cell
    have f2 := c2.frozen
    have f3 := c3.frozen
    have f4 := c4.frozen
    have f5 := c5.frozen
    have v0 : W.cell? ⟨Bx, 0, none⟩ = some (.string x.2.name) := by rw [cell_of_row _ _ _ _ 61 (0, 0) hRow]; rfl
    have v1 : W.cell? ⟨Bx, 1, none⟩ = some (.int .u8 (x.2.ty : Int)) := by rw [cell_of_row _ _ _ _ 61 (0, 0) hRow]; rfl
    have v2 : W.cell? ⟨Bx, 2, none⟩ = some (.int .i64 x.2.st) := by rw [cell_of_row _ _ _ _ 61 (0, 0) hRow]; rfl
    by_cases heq : (x.2.name.toList == name.toList) = true
    · gi_wp2
      have FB := four_boxed (.int .i64 x.2.st) (.int .u8 (x.2.ty : Int)) (.int .i64 x.1) (.bool true) c2 c3 c4 c5
      have FK := (four_keeps W w.heap.size (.int .i64 x.2.st) (.int .u8 (x.2.ty : Int)) (.int .i64 x.1) (.bool true)).trans (KeepsOthers.drew _)
      have FL := (four_below (.int .i64 x.2.st) (.int .u8 (x.2.ty : Int)) (.int .i64 x.1) (.bool true) hB1).drew
      have F2 := boxed_drew FB.1
      have F3 := boxed_drew FB.2.1
      have F4 := boxed_drew FB.2.2.1
      have F5 := boxed_drew FB.2.2.2
      unfold four at F2 F3 F4 F5 FK FL
      have FIN := hid (And.intro (FK.from W0.heap.size) (And.intro F2 (And.intro F3 (And.intro F4 (And.intro F5 FL)))))
      clear FB FK FL F2 F3 F4 F5
      gi_region
      all_goals
        gi_wp2
        exact ⟨FIN.out.1, pre, x, ⟨rfl, rfl, hf, heq⟩, FIN.out.2⟩
    · have heq' : (x.2.name.toList == name.toList) = false := by simpa using heq
      gi_wp2
      exact ⟨KeepsFrom.refl _ _, Below.refl _ _, ⟨⟨⟨⟨⟨hf.snoc heq', cN⟩, c2⟩, c3⟩, c4⟩, c5⟩, hB1, hZ⟩
  case done =>
    rintro D ys W hD rfl ⟨⟨⟨⟨⟨⟨hf, cN⟩, c2⟩, c3⟩, c4⟩, c5⟩, hB1, hZ⟩ hK
    have d2 := c2.cell
    have d3 := c3.cell
    have d4 := c4.cell
    have d5 := c5.cell
    have f2 := c2.frozen
    have f3 := c3.frozen
    have f4 := c4.frozen
    have f5 := c5.frozen
    gi_wp2
    have FB := four_boxed (.int .i64 0) (.int .u8 0) (.int .i64 0) (.bool false) c2 c3 c4 c5
    have FK := four_keeps W w.heap.size (.int .i64 0) (.int .u8 0) (.int .i64 0) (.bool false)
    have FL := four_below (.int .i64 0) (.int .u8 0) (.int .i64 0) (.bool false) hB1
    have hK' := FK.same D _ hK rfl
    refine ⟨by simp, .inl ⟨_, _, rfl, run_takeDeferred hK', ?_⟩⟩
    have kk : ∀ B t v, Boxed (four W w.heap.size (.int .i64 0) (.int .u8 0) (.int .i64 0) (.bool false)) B t v → ((four W w.heap.size (.int .i64 0) (.int .u8 0) (.int .i64 0) (.bool false)).putObj D (.deferred none)).cell? ⟨B, 0, none⟩ = some v := fun _ _ _ h => Go.cell_kept h.cell (grownBy_putObj' _ D (.deferred none)) (fun r e => by cases e; exact ⟨_, hK', rfl⟩)
    have e2 := kk _ _ _ FB.1
    have e3 := kk _ _ _ FB.2.1
    have e4 := kk _ _ _ FB.2.2.1
    have e5 := kk _ _ _ FB.2.2.2
    refine ⟨.tuple #[.int .i64 0, .int .u8 0, .int .i64 0, .bool false], ?_, by rw [findT_none hf]; rfl, FL.trans (belowK_b (w := w) (Nat.le_refl _) _ D _ _ (by omega) hK' rfl rfl)⟩
    unfold four at e2 e3 e4 e5
    simp [results, Tryd.f18, go_sem, e2, e3, e4, e5]
  case stop =>
    rintro D c pre W hD hpre ⟨q, x, ⟨rfl, rfl, hf, hx⟩, c2, c3, c4, c5, hB1⟩ hK
    gi_wp2
    refine ⟨by simp, .inl ⟨_, _, rfl, run_takeDeferred hK, ?_⟩⟩
    have kk : ∀ B t v, Boxed W B t v → (W.putObj D (.deferred none)).cell? ⟨B, 0, none⟩ = some v := fun _ _ _ h => Go.cell_kept h.cell (grownBy_putObj' _ D (.deferred none)) (fun r e => by cases e; exact ⟨_, hK, rfl⟩)
    have e2 := kk _ _ _ c2
    have e3 := kk _ _ _ c3
    have e4 := kk _ _ _ c4
    have e5 := kk _ _ _ c5
    refine ⟨.tuple #[.int .i64 x.2.st, .int .u8 (x.2.ty : Int), .int .i64 x.1, .bool true], ?_, by rw [findT_some hpre hf hx]; rfl, hB1.trans (belowK_b (w := w) (Nat.le_refl _) W D _ _ (by omega) hK rfl rfl)⟩
    simp [results, Tryd.f18, go_sem, e2, e3, e4, e5]
/-- Find. -/
theorem find (p : Pg) (name : ByteArray) (w : World) (a b c : Value) (hP : PgAt w p a b c) :
    Calls Tryd.prog 18 #[pgV p a b c, .string name] w fun e W' => e = .returned (.tuple (foV (findT (thingsL p) name))) ∧ Below w.heap.size w W' :=
  (callsIn_wide (n := 6)).1 (find_in Fence.wide 6 trivial trivial trivial rfl (Nat.le_refl _) p name w a b c hP)
end Go.Proofs.YtjdlmhkfaodkgaaDoor.Lex
namespace Go.Proofs.YtjdlmhkfaodkgaaDoor.Lex
open Go.ChangeShapes Go.WideShapes Go.ChangeAt Go.RowKit Go.Joins
/-- What a token counts by. -/
structure Mark where
  kind : Nat
  text : ByteArray
/-- The mark of the next token; behind the last one there is one of no kind. -/
def markAt (ts : List Mark) (p : Nat) : Mark := ts.getD p ⟨0, ByteArray.empty⟩
abbrev mkV (m : Mark) : Value := .agg #[.int .u8 (m.kind : Int), .string m.text]
/-- Tokens in memory, from any place of a row on. -/
def MarksAt (w : World) (v : Value) (ts : List Mark) : Prop :=
  ∃ a cap, v = .slice a ts.length cap ∧ (ts.length = 0 ∨ ∃ g o, a = some ⟨g, o, none⟩ ∧ ∀ i (h : i < ts.length), w.cell? ⟨g, o + i * 3, none⟩ = some (.int .u8 (ts[i].kind : Int)) ∧ w.cell? ⟨g, o + i * 3 + 1, none⟩ = some (.string ts[i].text) ∧ ∃ at_ : Int, w.cell? ⟨g, o + i * 3 + 2, none⟩ = some (.int .i64 at_))
theorem heap_drew {w : World} {b : Nat} {o : Obj} (h : w.heap[b]? = some o) (n : Nat) : (w.drewN n).heap[b]? = some o := h
theorem below_drewN {B : Nat} {a w : World} (h : Below B a w) (n : Nat) : Below B a (w.drewN n) := h.trans ⟨rfl, rfl, rfl, Nat.le_refl _, fun _ _ => rfl⟩
theorem info81 : (Tryd.prog.info? 134).map (·.size) = some 2 := by kernel_rfl
end Go.Proofs.YtjdlmhkfaodkgaaDoor.Lex
namespace Go.Proofs.YtjdlmhkfaodkgaaDoor.Lex
open Go.ChangeShapes Go.WideShapes Go.ChangeAt Go.RowKit Go.Joins
/-- Are a row's token and a mark the same? -/
def jIs (r : J) (m : Mark) : Bool := r.kind == m.kind && r.text.toList == m.text.toList
def jAt (m : Mark) : Option J := JT.find? fun r => jIs r m
theorem jAt_some {m : Mark} (k : Nat) (hk : k < 12) (h : ∀ j, j < k → jIs (jR j) m = false) (he : jIs (jR k) m = true) : jAt m = some (jR k) := by
  unfold jAt
  rw [List.find?_eq_some_iff_getElem]
  have hget : ∀ j (hj : j < JT.length), JT[j]'hj = jR j := fun j hj => by unfold jR; rw [List.getD_eq_getElem?_getD, List.getElem?_eq_getElem hj]; rfl
  have hk' : k < JT.length := hk
  refine ⟨he, k, hk', hget k hk', fun j hj => ?_⟩
  have e := hget j (by omega)
  have hn := h j hj
  rw [← e] at hn
  rw [hn]
  rfl
theorem jAt_none {m : Mark} (h : ∀ j, j < 12 → jIs (jR j) m = false) : jAt m = none := by
  unfold jAt
  rw [List.find?_eq_none]
  intro r hr
  obtain ⟨j, hj, e⟩ := List.getElem_of_mem hr
  have := h j hj
  unfold jR at this
  rw [List.getD_eq_getElem?_getD, List.getElem?_eq_getElem hj, e] at this
  simp only [Option.getD_some] at this
  rw [this]
  simp
def jAtOut (m : Mark) : Array Value := jrow ((jAt m).getD j0)
end Go.Proofs.YtjdlmhkfaodkgaaDoor.Lex
namespace Go.Proofs.YtjdlmhkfaodkgaaDoor.Lex
open Go.ChangeShapes Go.WideShapes Go.ChangeAt Go.RowKit Go.Joins
theorem MarksAt.carry {w w' : World} {v : Value} {ts : List Mark} (h : MarksAt w v ts) (hb : ∀ a n c, v = .slice (some a) n c → a.block < w.heap.size → w'.heap[a.block]? = w.heap[a.block]?) : MarksAt w' v ts := by
  obtain ⟨a, cap, rfl, hc⟩ := h
  refine ⟨a, cap, rfl, ?_⟩
  rcases hc with h0 | ⟨g, o, rfl, hc⟩
  · exact .inl h0
  · refine .inr ⟨g, o, rfl, fun i hi => ?_⟩
    obtain ⟨m0, m1, at_, m2⟩ := hc i hi
    have hlt : g < w.heap.size := World.block_lt_of_cell? w ⟨g, o + i * 3, none⟩ m0
    have hk : ∀ {q x}, w.cell? ⟨g, q, none⟩ = some x → w'.cell? ⟨g, q, none⟩ = some x := fun {q x} hx => by
      rw [World.cell?_of_block (w := w) (a := ⟨g, q, none⟩) (hb ⟨g, o, none⟩ _ _ rfl hlt)]
      exact hx
    exact ⟨hk m0, hk m1, at_, hk m2⟩
theorem set_same' {w : World} {b : Nat} {c : Array Value} {t : TypeId} {f : Nat × Nat} (h : w.heap[b]? = some (.cells c t f)) (i : Nat) (u : Value) : (w.setCell ⟨b, i, none⟩ u).heap[b]? = some (.cells (c.setIfInBounds i u) t f) := by
  obtain ⟨hlt, hk⟩ := Array.getElem?_eq_some_iff.1 h
  show (w.heap.modify b _)[b]? = _
  rw [Array.getElem?_eq_getElem (by rw [Array.size_modify]; exact hlt), Array.getElem_modify_self, hk]
  rfl
end Go.Proofs.YtjdlmhkfaodkgaaDoor.Lex
namespace Go.Proofs.YtjdlmhkfaodkgaaDoor.Lex
open Go.ChangeShapes Go.WideShapes Go.ChangeAt Go.RowKit Go.Joins
/-- It stands in memory, in blocks that are so, looked at so deep. -/
def StPN (ok : Nat → Prop) (w : World) : Nat → Ex → Value → Prop
  | 0, _, _ => False
  | k + 1, x, s => ∃ (ao : Option Addr) (cap : Nat) (sl : Nat → Value), s = .slice ao x.args.length cap ∧ x.op < 256 ∧ (-9223372036854775808 ≤ x.n ∧ x.n ≤ 9223372036854775807) ∧ x.name.size ≤ 140737488355328 ∧ x.args.length ≤ 2513169434843 ∧ x.args.length ≤ cap ∧
    (x.args.length = 0 ∨ ∃ b o, ao = some ⟨b, o, none⟩ ∧ ok b ∧ ∀ i (h : i < x.args.length), w.cell? ⟨b, o + i * 4, none⟩ = some (.int .u8 (x.args[i].op : Int)) ∧ w.cell? ⟨b, o + i * 4 + 1, none⟩ = some (.int .i64 x.args[i].n) ∧
        w.cell? ⟨b, o + i * 4 + 2, none⟩ = some (.string x.args[i].name) ∧ w.cell? ⟨b, o + i * 4 + 3, none⟩ = some (sl i)) ∧ ∀ i (h : i < x.args.length), StPN ok w k x.args[i] (sl i)
theorem StPN.up {ok : Nat → Prop} {w : World} : ∀ (k' k : Nat) (x : Ex) (s : Value), StPN ok w k x s → SizeOf.sizeOf x ≤ k' → StPN ok w k' x s
  | 0, k, x, s, _, hs => by have := x.pos; omega
  | k' + 1, 0, x, s, h, _ => h.elim
  | k' + 1, k + 1, x, s, h, hs => by
    obtain ⟨ao, cap, sl, h1, h2, h3, h4, h5, h6, h7, h8⟩ := h
    exact ⟨ao, cap, sl, h1, h2, h3, h4, h5, h6, h7, fun i hi => StPN.up k' k _ _ (h8 i hi) (by have := x.part_lt i hi; omega)⟩
/-- It stands in memory, in blocks that are so. -/
def StP (ok : Nat → Prop) (w : World) (x : Ex) (s : Value) : Prop := StPN ok w (SizeOf.sizeOf x) x s
theorem StP.intro {ok : Nat → Prop} {w : World} (x : Ex) (ao : Option Addr) (cap : Nat) (sl : Nat → Value) (hop : x.op < 256) (hn : -9223372036854775808 ≤ x.n ∧ x.n ≤ 9223372036854775807) (hnm : x.name.size ≤ 140737488355328) (hlen : x.args.length ≤ 2513169434843) (hcap : x.args.length ≤ cap)
      (hc : x.args.length = 0 ∨ ∃ b o, ao = some ⟨b, o, none⟩ ∧ ok b ∧ ∀ i (h : i < x.args.length), w.cell? ⟨b, o + i * 4, none⟩ = some (.int .u8 (x.args[i].op : Int)) ∧ w.cell? ⟨b, o + i * 4 + 1, none⟩ = some (.int .i64 x.args[i].n) ∧
        w.cell? ⟨b, o + i * 4 + 2, none⟩ = some (.string x.args[i].name) ∧ w.cell? ⟨b, o + i * 4 + 3, none⟩ = some (sl i))
      (hs : ∀ i (h : i < x.args.length), StP ok w x.args[i] (sl i)) : StP ok w x (.slice ao x.args.length cap) := by
  unfold StP
  obtain ⟨m, hm⟩ : ∃ m, SizeOf.sizeOf x = m + 1 := ⟨SizeOf.sizeOf x - 1, by have := x.pos; omega⟩
  rw [hm]
  exact ⟨ao, cap, sl, rfl, hop, hn, hnm, hlen, hcap, hc, fun i hi => StPN.up m _ _ _ (hs i hi) (by have := x.part_lt i hi; omega)⟩
theorem StP.out {ok : Nat → Prop} {w : World} {x : Ex} {s : Value} (h : StP ok w x s) : ∃ (ao : Option Addr) (cap : Nat) (sl : Nat → Value), s = .slice ao x.args.length cap ∧ x.op < 256 ∧ (-9223372036854775808 ≤ x.n ∧ x.n ≤ 9223372036854775807) ∧ x.name.size ≤ 140737488355328 ∧ x.args.length ≤ 2513169434843 ∧ x.args.length ≤ cap ∧
    (x.args.length = 0 ∨ ∃ b o, ao = some ⟨b, o, none⟩ ∧ ok b ∧ ∀ i (h : i < x.args.length), w.cell? ⟨b, o + i * 4, none⟩ = some (.int .u8 (x.args[i].op : Int)) ∧ w.cell? ⟨b, o + i * 4 + 1, none⟩ = some (.int .i64 x.args[i].n) ∧
        w.cell? ⟨b, o + i * 4 + 2, none⟩ = some (.string x.args[i].name) ∧ w.cell? ⟨b, o + i * 4 + 3, none⟩ = some (sl i)) ∧ ∀ i (h : i < x.args.length), StP ok w x.args[i] (sl i) := by
  unfold StP at h
  obtain ⟨m, hm⟩ : ∃ m, SizeOf.sizeOf x = m + 1 := ⟨SizeOf.sizeOf x - 1, by have := x.pos; omega⟩
  rw [hm] at h
  obtain ⟨ao, cap, sl, h1, h2, h3, h4, h5, h6, h7, h8⟩ := h
  exact ⟨ao, cap, sl, h1, h2, h3, h4, h5, h6, h7, fun i hi => StPN.up _ m _ _ (h8 i hi) (Nat.le_refl _)⟩
theorem StP.carryN {ok ok' : Nat → Prop} {w w' : World} (hb : ∀ b, ok b → b < w.heap.size → w'.heap[b]? = w.heap[b]?) (ho : ∀ b, b < w.heap.size → ok b → ok' b) : ∀ (m : Nat) (x : Ex) (s : Value), SizeOf.sizeOf x ≤ m → StP ok w x s → StP ok' w' x s
  | 0, x, s, hm, _ => by have := x.pos; omega
  | m + 1, x, s, hm, h => by
    obtain ⟨ao, cap, sl, rfl, hop, hn, hnm, hlen, hcap, hc, hs⟩ := h.out
    refine StP.intro x ao cap sl hop hn hnm hlen hcap ?_ (fun i hi => StP.carryN hb ho m _ _ (by have := x.part_lt i hi; omega) (hs i hi))
    by_cases h00 : x.args.length = 0
    · exact .inl h00
    · obtain ⟨b, o, ha, hok, hc⟩ := hc.resolve_left h00
      have hlt : b < w.heap.size := World.block_lt_of_cell? w ⟨b, o + 0 * 4, none⟩ (hc 0 (by omega)).1
      have hk : ∀ {q v}, w.cell? ⟨b, q, none⟩ = some v → w'.cell? ⟨b, q, none⟩ = some v := fun {q v} h => by
        rw [World.cell?_of_block (w := w) (a := ⟨b, q, none⟩) (hb b hok hlt)]
        exact h
      refine .inr ⟨b, o, ha, ho b hlt hok, fun i hi => ?_⟩
      obtain ⟨h0, h1, h2, h3⟩ := hc i hi
      exact ⟨hk h0, hk h1, hk h2, hk h3⟩
theorem StP.carry {ok : Nat → Prop} {w w' : World} {x : Ex} {s : Value} (h : StP ok w x s) (hb : ∀ b, ok b → b < w.heap.size → w'.heap[b]? = w.heap[b]?) : StP ok w' x s := StP.carryN hb (fun _ _ h => h) _ x s (Nat.le_refl _) h
theorem StP.stN {ok : Nat → Prop} {w : World} : ∀ (m : Nat) (x : Ex) (s : Value), SizeOf.sizeOf x ≤ m → StP ok w x s → St w x s
  | 0, x, s, hm, _ => by have := x.pos; omega
  | m + 1, x, s, hm, h => by
    obtain ⟨ao, cap, sl, rfl, hop, hn, hnm, hlen, hcap, hc, hs⟩ := h.out
    refine St.intro x ao cap sl hop hn hnm hlen hcap ?_ (fun i hi => StP.stN m _ _ (by have := x.part_lt i hi; omega) (hs i hi))
    rcases hc with h0 | ⟨b, o, ha, _, hc⟩
    · exact .inl h0
    · exact .inr ⟨b, o, ha, hc⟩
theorem StP.st {ok : Nat → Prop} {w : World} {x : Ex} {s : Value} (h : StP ok w x s) : St w x s := StP.stN _ x s (Nat.le_refl _) h
/-- What has no parts stands anywhere. -/
theorem StP.leaf {ok : Nat → Prop} {w : World} (op : Nat) (n : Int) (nm : ByteArray) (hop : op < 256) (hn : -9223372036854775808 ≤ n ∧ n ≤ 9223372036854775807) (hnm : nm.size ≤ 140737488355328) : StP ok w ⟨op, n, nm, []⟩ (.slice none 0 0) :=
  StP.intro ⟨op, n, nm, []⟩ none 0 (fun _ => .slice none 0 0) hop hn hnm (Nat.zero_le _) (Nat.le_refl _) (.inl rfl) (fun i hi => by cases hi)
end Go.Proofs.YtjdlmhkfaodkgaaDoor.Lex
namespace Go.Proofs.YtjdlmhkfaodkgaaDoor.Lex
open Go.ChangeShapes Go.WideShapes Go.ChangeAt Go.RowKit Go.Joins
/-- What reading answers: it, and the place behind it; or an error, and its place. -/
abbrev Res := Except (Nat × Nat) (Ex × Nat)
/-- A panic with an error of the language. -/
abbrev panicE (e : Nat) : Ending := .panicked [{ v := .iface 29 (.int .i64 (e : Int)), recovered := false }]
end Go.Proofs.YtjdlmhkfaodkgaaDoor.Lex
namespace Go.Proofs.YtjdlmhkfaodkgaaDoor.Lex
open Go.ChangeShapes Go.WideShapes Go.ChangeAt Go.RowKit Go.Joins
/-- Is a mark this kind and text? -/
def isMk (m : Mark) (kind : Nat) (text : ByteArray) : Bool := m.kind == kind && m.text.toList == text.toList
theorem isMk_no {m : Mark} {kind : Nat} {text : ByteArray} (h : isMk m kind text = false) : (¬ (m.kind : Int) = (kind : Int)) ∨ ((m.kind : Int) = (kind : Int) ∧ ¬ m.text.toList = text.toList) := by
  unfold isMk at h
  by_cases e : m.kind = kind
  · refine .inr ⟨by omega, ?_⟩
    rw [e] at h
    simpa using h
  · exact .inl (by omega)
theorem isMk_yes {m : Mark} {kind : Nat} {text : ByteArray} (h : isMk m kind text = true) : (m.kind : Int) = (kind : Int) ∧ m.text.toList = text.toList := by
  unfold isMk at h
  have := h
  simp at this
  exact ⟨by omega, this.2⟩
theorem grown_below {w w1 : World} (h : Below w.heap.size w w1) (r : Option Nat) : w.grownBy w1 r := ⟨h.os, h.tape, h.output, h.size, fun k hk _ => h.block k hk⟩
theorem grown_on {a b c : World} {r : Option Nat} (h : a.grownBy b r) (k : b.grownBy c r) : a.grownBy c r :=
  ⟨k.os.trans h.os, k.tape.trans h.tape, k.output.trans h.output, Nat.le_trans h.size k.size, fun i hi hr => (k.block i (Nat.lt_of_lt_of_le hi h.size) hr).trans (h.block i hi hr)⟩
theorem markAt_lt {ts : List Mark} {p : Nat} (hl : p ≤ ts.length) (h : (markAt ts p).kind ≠ 0) : p < ts.length := by
  by_cases e : p < ts.length
  · exact e
  · exfalso
    apply h
    unfold markAt
    rw [List.getD_eq_getElem?_getD, List.getElem?_eq_none (by omega)]
    rfl
theorem numN_range (s : ByteArray) : -9223372036854775808 ≤ numN s ∧ numN s ≤ 9223372036854775807 := by
  unfold numN
  split
  · omega
  · cases e : mag 0 s.data.toList with
    | none => simp [outN]
    | some k =>
      have := mag_top _ 0 k (by omega) e
      simp only [outN]
      omega
theorem numE_nat (s : ByteArray) : ((numE s).toNat : Int) = numE s := by
  have : 0 ≤ numE s := by
    unfold numE
    split
    · omega
    · cases mag 0 s.data.toList <;> simp [outE]
  omega
end Go.Proofs.YtjdlmhkfaodkgaaDoor.Lex
namespace Go.Proofs.YtjdlmhkfaodkgaaDoor.Lex
open Go.ChangeShapes Go.WideShapes Go.ChangeAt Go.RowKit Go.Joins
theorem StP.form {ok : Nat → Prop} {w : World} {x : Ex} {s : Value} (h : StP ok w x s) : ∃ ao cap, s = .slice ao x.args.length cap := by
  obtain ⟨ao, cap, _, hs, _⟩ := h.out
  exact ⟨ao, cap, hs⟩
abbrev z25 : Value := .agg #[.int .u8 0, .int .i64 0, .string ⟨#[]⟩, .slice none 0 0]
theorem inf25 : ∃ ie, Tryd.prog.info? 49 = some ie ∧ ie.zero = some z25 ∧ ie.size = 4 := by
  have h : (Tryd.prog.info? 49).map (fun i => (i.zero, i.size)) = some (some z25, 4) := by kernel_rfl
  obtain ⟨ie, h1, h2⟩ := Option.map_eq_some_iff.1 h
  injection h2 with h2 h3
  exact ⟨ie, h1, h2, h3⟩
abbrev ex4 (x : Ex) (s : Value) : Array Value := #[.int .u8 (x.op : Int), .int .i64 x.n, .string x.name, s]
theorem fill1 (x : Ex) (ao : Option Addr) (n cap : Nat) : Instr.fill (fun i => some (i * 4, 4)) ((Array.range (1 * 4)).map (z25.cells[· % z25.cells.size]!)) [(0, exV x (.slice ao n cap))] = some (ex4 x (.slice ao n cap)) := by
  have e : ((Array.range (1 * 4)).map (z25.cells[· % z25.cells.size]!)) = #[.int .u8 0, .int .i64 0, .string ⟨#[]⟩, .slice none 0 0] := by kernel_rfl
  rw [e]
  simp [Instr.fill]
  exact ⟨⟨rfl, Nat.le_refl 4⟩, rfl⟩
theorem grown_setRow {w W : World} {r : Option Nat} (g : w.grownBy W r) (d : Array Value) : w.grownBy (W.setRow w.heap.size d) r :=
  ⟨g.os, g.tape, g.output, by have := g.size; simpa [World.setRow] using this, fun k hk hkr => (setRow_other _ _ _ _ (by omega)).trans (g.block k hk hkr)⟩
/-- A box stays where others are written. -/
theorem box_kept {w w2 : World} {r : Nat} {c : Array Value} {t : TypeId} {u : Value} (hr : r < w.heap.size) (g : ((w.alloc (.cells c t)).setCell ⟨r, 1, none⟩ u).grownBy w2 (some r)) : w2.heap[w.heap.size]? = some (.cells c t (0, 0)) := by
  rw [g.block _ (by simp [World.setCell]) (fun e => by injection e; omega), Below.heap_setCell _ _ _ _ (by show w.heap.size ≠ r; omega)]
  exact heap_alloc_new w _
/-- What has one part, in new memory. -/
theorem StP.one {ok : Nat → Prop} {W : World} {x : Ex} {s : Value} (op : Nat) (hop : op < 256) (g : Nat) (hg : ok g) (hst : StP ok W x s) (hc : W.heap[g]? = some (.cells (ex4 x s) 49 (0, 0))) : StP ok W ⟨op, 0, ByteArray.empty, [x]⟩ (.slice (some ⟨g, 0, none⟩) 1 1) := by
  refine StP.intro ⟨op, 0, ByteArray.empty, [x]⟩ (some ⟨g, 0, none⟩) 1 (fun _ => s) hop (by simp) (by show ByteArray.empty.size ≤ _; decide) (by simp) (by simp) (.inr ⟨g, 0, rfl, hg, fun i hi => ?_⟩) (fun i hi => ?_)
  · obtain rfl : i = 0 := by simpa using hi
    refine ⟨?_, ?_, ?_, ?_⟩ <;> (rw [cell_of_row _ _ _ _ 49 (0, 0) hc]; rfl)
  · obtain rfl : i = 0 := by simpa using hi
    exact hst
end Go.Proofs.YtjdlmhkfaodkgaaDoor.Lex
namespace Go.Proofs.YtjdlmhkfaodkgaaDoor.Lex
open Go.ChangeShapes Go.WideShapes Go.ChangeAt Go.RowKit Go.Joins
theorem box_there {w w2 : World} {r : Nat} {c : Array Value} {t : TypeId} (hr : r < w.heap.size) (g : (w.alloc (.cells c t)).grownBy w2 (some r)) : w2.heap[w.heap.size]? = some (.cells c t (0, 0)) := by
  rw [g.block _ (by simp) (fun e => by injection e; omega)]
  exact heap_alloc_new w _
end Go.Proofs.YtjdlmhkfaodkgaaDoor.Lex
namespace Go.Proofs.YtjdlmhkfaodkgaaDoor.Lex
open Go.ChangeShapes Go.WideShapes Go.ChangeAt Go.RowKit Go.Joins
theorem kept {W W' : World} {r k : Nat} {o : Obj} (h : W.heap[k]? = some o) (g : W.grownBy W' (some r)) (hk : r < k) : W'.heap[k]? = some o :=
  (g.block k (Array.getElem?_eq_some_iff.1 h).1 (fun e => by injection e; omega)).trans h
/-- A part that was read, in a row of its own behind a place. -/
structure Keep (N : Nat) (W : World) (b : Nat) (x : Ex) (s : Value) : Prop where
  row : W.heap[b]? = some (.cells (ex4 x s) 49 (0, 0))
  st : StP (fun k => N < k) W x s
  lt : N < b
theorem Keep.grown {N : Nat} {W W' : World} {b : Nat} {x : Ex} {s : Value} {r : Nat} (h : Keep N W b x s) (g : W.grownBy W' (some r)) (hr : r < N) : Keep N W' b x s :=
  ⟨kept h.row g (by have := h.lt; omega), h.st.carry fun k hk hl => g.block k hl (fun e => by injection e; omega), h.lt⟩
theorem Keep.new {N : Nat} {W0 w2 : World} {x : Ex} {s : Value} (h : StP (fun b => W0.heap.size ≤ b) w2 x s) (hN : N < W0.heap.size) (hl : W0.heap.size ≤ w2.heap.size) : Keep N (w2.alloc (.cells (ex4 x s) 49)) w2.heap.size x s :=
  ⟨heap_alloc_new w2 _, StP.carryN (fun k _ hk => Below.heap_alloc _ _ _ hk) (fun k _ hk => by show N < k; have : W0.heap.size ≤ k := hk; omega) _ x s (Nat.le_refl _) h, by omega⟩
theorem fold4 (c : Array Value) (o : Nat) (a b d e : Value) : Array.foldl (fun cs (x : Value × Nat) => cs.setIfInBounds (o + x.snd) x.fst) c (#[a, b, d, e].zipIdx) = (((c.setIfInBounds (o + 0) a).setIfInBounds (o + 1) b).setIfInBounds (o + 2) d).setIfInBounds (o + 3) e := by rfl
theorem fill3 (x y z : Ex) (a b c : Option Addr) (l m n i j k : Nat) : Instr.fill (fun i => some (i * 4, 4)) ((Array.range (3 * 4)).map (z25.cells[· % z25.cells.size]!)) [(0, exV x (.slice a l i)), (1, exV y (.slice b m j)), (2, exV z (.slice c n k))] = some (ex4 x (.slice a l i) ++ ex4 y (.slice b m j) ++ ex4 z (.slice c n k)) := by
  have e : ((Array.range (3 * 4)).map (z25.cells[· % z25.cells.size]!)) = #[.int .u8 0, .int .i64 0, .string ⟨#[]⟩, .slice none 0 0, .int .u8 0, .int .i64 0, .string ⟨#[]⟩, .slice none 0 0, .int .u8 0, .int .i64 0, .string ⟨#[]⟩, .slice none 0 0] := by kernel_rfl
  rw [e]
  simp only [Instr.fill, show (exV x (.slice a l i)).cells = ex4 x (.slice a l i) from rfl, show (exV y (.slice b m j)).cells = ex4 y (.slice b m j) from rfl, show (exV z (.slice c n k)).cells = ex4 z (.slice c n k) from rfl, ex4, fold4]
  simp
/-- What has three parts, in new memory. -/
theorem StP.three {ok : Nat → Prop} {W : World} {x y z : Ex} {s t u : Value} (op : Nat) (hop : op < 256) (g : Nat) (hg : ok g) (hx : StP ok W x s) (hy : StP ok W y t) (hz : StP ok W z u) (hc : W.heap[g]? = some (.cells (ex4 x s ++ ex4 y t ++ ex4 z u) 49 (0, 0))) : StP ok W ⟨op, 0, ByteArray.empty, [x, y, z]⟩ (.slice (some ⟨g, 0, none⟩) 3 3) := by
  refine StP.intro ⟨op, 0, ByteArray.empty, [x, y, z]⟩ (some ⟨g, 0, none⟩) 3 (fun i => [s, t, u].getD i s) hop (by simp) (by show ByteArray.empty.size ≤ _; decide) (by simp) (by simp) (.inr ⟨g, 0, rfl, hg, fun i hi => ?_⟩) (fun i hi => ?_)
  · have hi3 : i < 3 := hi
    rcases (by omega : i = 0 ∨ i = 1 ∨ i = 2) with rfl | rfl | rfl <;> refine ⟨?_, ?_, ?_, ?_⟩ <;> (rw [cell_of_row _ _ _ _ 49 (0, 0) hc]; rfl)
  · have hi3 : i < 3 := hi
    rcases (by omega : i = 0 ∨ i = 1 ∨ i = 2) with rfl | rfl | rfl
    · exact hx
    · exact hy
    · exact hz
end Go.Proofs.YtjdlmhkfaodkgaaDoor.Lex
namespace Go.Proofs.YtjdlmhkfaodkgaaDoor.Lex
open Go.ChangeShapes Go.WideShapes Go.ChangeAt Go.RowKit Go.Joins Go.WideMaps Go.WideElems Go.Maps
theorem laidOut : laidOutB Tryd.prog = true := by kernel_rfl
theorem row81 : (134 : TypeId) < Tryd.prog.types.size := of_decide_eq_true (by kernel_rfl)
theorem wide81 : (match Tryd.prog.underlying 134 with | some (.array _ _) | some (.struct _) => true | _ => false) = true := by kernel_rfl
theorem deep81 : Tryd.prog.keyTypeAt 3 134 = true := by kernel_rfl
set_option maxRecDepth 100000 in
theorem law81 : KeyLaw Tryd.prog 134 := deep_law_laid laidOut (m := 3) (by omega) row81 deep81 wide81
theorem keyed81 : Keyed Tryd.prog 134 := Keyed.of_law law81
end Go.Proofs.YtjdlmhkfaodkgaaDoor.Lex
namespace Go.Proofs.YtjdlmhkfaodkgaaDoor.Lex
open Go.ChangeShapes Go.WideShapes Go.ChangeAt Go.RowKit Go.Joins Go.WideMaps Go.WideElems Go.Maps
theorem size_types : ∃ n, Tryd.prog.types.size + 1 = n + 2 := ⟨Tryd.prog.types.size - 1, by have : 0 < Tryd.prog.types.size := of_decide_eq_true (by kernel_rfl); omega⟩
theorem keyT81 : Tryd.prog.keyType 134 = true := by kernel_rfl
theorem cells81 : Tryd.prog.cellsOf 134 = 2 := by kernel_rfl
theorem cells5 : Tryd.prog.cellsOf 5 = 1 := by kernel_rfl
theorem cells9 : Tryd.prog.cellsOf 9 = 1 := by kernel_rfl
theorem lits5 (n : Nat) (k : Nat) (hk : k < 256) : Tryd.prog.keyLits (n + 1) 5 [.int .u8 (k : Int)] = some [.int .u8 (k : Int)] := by
  have hwf : (Lit.int .u8 (k : Int)).wf = true := by simp [Lit.wf, IntKind.min, IntKind.max, IntKind.signed, IntKind.bits]; omega
  unfold Program.keyLits
  rw [Tryd.underlying5]
  simp [hwf]
theorem lits9 (n : Nat) (s : ByteArray) (hs : s.size ≤ maxLen) : Tryd.prog.keyLits (n + 1) 9 [.string s] = some [.string s.data.toList] := by
  unfold Program.keyLits
  rw [Tryd.underlying9]
  simp [hs]
theorem key_is (m : Mark) (hk : m.kind < 256) (hs : m.text.size ≤ maxLen) : ∃ l, keyOf Tryd.prog 134 (mkV m) = some l := by
  obtain ⟨n, hn⟩ := size_types
  have hf : (mkV m).formed Tryd.prog 134 = true := by simp [Value.formed, Tryd.underlying134, cells81]
  have h5 := lits5 n m.kind hk
  have h9 := lits9 n m.text hs
  unfold keyOf
  rw [hn, Tryd.underlying134]
  simp only [keyT81, hf]
  unfold Program.keyLits
  rw [Tryd.underlying134]
  simp [Value.cells, cells81, cells5, cells9, h5, h9]
end Go.Proofs.YtjdlmhkfaodkgaaDoor.Lex
namespace Go.Proofs.YtjdlmhkfaodkgaaDoor.Lex
open Go.ChangeShapes Go.WideShapes Go.ChangeAt Go.RowKit Go.Joins Go.WideMaps Go.WideElems Go.Maps
/-- The eight atoms: a token's kind and text, and the function that reads what begins with it. -/
def aT : List (Nat × ByteArray × Nat) := [(1, ⟨#[]⟩, 52), (1, ⟨#[116, 114, 117, 101]⟩, 53), (1, ⟨#[102, 97, 108, 115, 101]⟩, 54), (2, ⟨#[]⟩, 63), (3, ⟨#[40]⟩, 84), (3, ⟨#[45]⟩, 16), (1, ⟨#[110, 111, 116]⟩, 67), (1, ⟨#[112, 114, 101]⟩, 61)]
def aR (k : Nat) : Nat × ByteArray × Nat := aT.getD k (0, ⟨#[]⟩, 0)
def aKey (k : Nat) : Value := .agg #[.int .u8 ((aR k).1 : Int), .string (aR k).2.1]
def aVal (k : Nat) : Value := .func (.func (aR k).2.2) #[] #[]
theorem cases8 {k : Nat} (h : k < 8) : k = 0 ∨ k = 1 ∨ k = 2 ∨ k = 3 ∨ k = 4 ∨ k = 5 ∨ k = 6 ∨ k = 7 := by omega
theorem aKey_mk {k : Nat} {m : Mark} (h : aKey k = mkV m) : (aR k).1 = m.kind ∧ (aR k).2.1 = m.text := by
  unfold aKey at h
  injection h with h
  simp only [Array.mk.injEq, List.cons.injEq, Value.int.injEq, Value.string.injEq, and_true, true_and] at h
  exact ⟨by omega, h.2⟩
theorem aKey_ne {i j : Nat} (hi : i < 8) (hj : j < 8) (h : i ≠ j) : aKey i ≠ aKey j := fun e => by
  have e2 := aKey_mk (m := ⟨(aR j).1, (aR j).2.1⟩) e
  simp only at e2
  rcases cases8 hi with rfl | rfl | rfl | rfl | rfl | rfl | rfl | rfl <;> rcases cases8 hj with rfl | rfl | rfl | rfl | rfl | rfl | rfl | rfl <;> first | omega | exact absurd e2.1 (by decide) | exact absurd (congrArg (fun s => s.data.toList) e2.2) (by decide)
theorem aKey_is {k : Nat} (h : k < 8) : ∃ l, keyOf Tryd.prog 134 (aKey k) = some l := key_is ⟨(aR k).1, (aR k).2.1⟩ (by rcases cases8 h with rfl | rfl | rfl | rfl | rfl | rfl | rfl | rfl <;> decide) (by rcases cases8 h with rfl | rfl | rfl | rfl | rfl | rfl | rfl | rfl <;> decide)
abbrev RA : Value → Option (DataW Unit × List MemPlace) := fun _ => some (.nil, [])
/-- Those of the eight are there that b says. -/
def AtM (b : Nat → Bool) (mp n : Nat) (w : World) : Prop := ∃ es clock, w.heap[mp]? = some (.map es clock) ∧ Fit Tryd.prog 134 RA es clock ∧ es.size + n ≤ 8 ∧
  (∀ x ∈ es.toList, ∃ k, k < 8 ∧ b k = true ∧ x.key = aKey k ∧ x.val = aVal k) ∧ ∀ k, k < 8 → b k = true → ∃ x ∈ es.toList, x.key = aKey k
def upd (b : Nat → Bool) (k : Nat) : Nat → Bool := fun i => if i = k then true else b i
theorem grown_setBlock {w : World} {b : Nat} (o : Obj) : w.grownBy (ChangeMaps.setBlock w b o) (some b) := by
  refine ⟨rfl, rfl, rfl, by simp [ChangeMaps.setBlock], fun k hk hkr => ?_⟩
  have hkr' : k ≠ b := fun e => hkr (by rw [e])
  simp only [ChangeMaps.setBlock]
  rw [Array.getElem?_setIfInBounds_ne (fun e => hkr' e.symm)]
def L35 (b : Nat → Bool) : Array Bool := #[true, true, b 0, true, b 1, true, b 2, true, b 3, true, b 4, true, b 5, true, b 6, true, b 7, false, false]
def left (b : Nat → Bool) : Nat := (!b 0).toNat + (!b 1).toNat + (!b 2).toNat + (!b 3).toNat + (!b 4).toNat + (!b 5).toNat + (!b 6).toNat + (!b 7).toNat
abbrev insOp (k : Nat) (p : String) : Oper := { dst := none, op := Op.insert 79 (.tmp 1) (.tmp (2 + k)) (.func (aR k).2.2), type := 0, pos := p, after := #[⟨0, .data⟩, ⟨1 + 2 * k, .data⟩], guard := none }
end Go.Proofs.YtjdlmhkfaodkgaaDoor.Lex
namespace Go.Proofs.YtjdlmhkfaodkgaaDoor.Lex
open Go.ChangeShapes Go.WideShapes Go.ChangeAt Go.RowKit Go.Joins Go.WideMaps Go.WideElems Go.Maps
theorem left_upd {b : Nat → Bool} {k : Nat} (hk : k < 8) (hb : b k = false) : left b = left (upd b k) + 1 := by
  rcases cases8 hk with rfl | rfl | rfl | rfl | rfl | rfl | rfl | rfl <;> simp [left, upd, hb] <;> omega
theorem left_none {b : Nat → Bool} (h : left b = 0) : ∀ k, k < 8 → b k = true := fun k hk => by
  cases e : b k with
  | true => rfl
  | false => have := left_upd hk e; omega
theorem L35_upd (b : Nat → Bool) {k : Nat} (hk : k < 8) : (L35 b).setIfInBounds (2 + 2 * k) true = L35 (upd b k) := by
  rcases cases8 hk with rfl | rfl | rfl | rfl | rfl | rfl | rfl | rfl <;> simp [L35, upd]
theorem L35_at (b : Nat → Bool) {k : Nat} (hk : k < 8) (d : Bool) : (L35 b).getD (2 + 2 * k) d = b k := by
  rcases cases8 hk with rfl | rfl | rfl | rfl | rfl | rfl | rfl | rfl <;> rfl
def all35 (x y : Bool) : Array Bool := #[true, true, true, true, true, true, true, true, true, true, true, true, true, true, true, true, true, x, y]
theorem all35_at (x y : Bool) {d : Bool} {i : Nat} (h : i < 17) : (all35 x y).getD i d = true := by
  have : i = 0 ∨ i = 1 ∨ i = 2 ∨ i = 3 ∨ i = 4 ∨ i = 5 ∨ i = 6 ∨ i = 7 ∨ i = 8 ∨ i = 9 ∨ i = 10 ∨ i = 11 ∨ i = 12 ∨ i = 13 ∨ i = 14 ∨ i = 15 ∨ i = 16 := by omega
  rcases this with rfl | rfl | rfl | rfl | rfl | rfl | rfl | rfl | rfl | rfl | rfl | rfl | rfl | rfl | rfl | rfl | rfl <;> rfl
theorem all35_at' (y : Bool) {d : Bool} {i : Nat} (h : i < 18) : (all35 true y).getD i d = true := by
  by_cases e : i < 17
  · exact all35_at _ _ e
  · obtain rfl : i = 17 := by omega
    rfl
theorem grownM {a b c : World} {r : Option Nat} (h : a.grownBy b r) (k : b.grownBy c r) : a.grownBy c r := grown_on h k
theorem AtM.none (mp : Nat) (w : World) (h : w.heap[mp]? = some (.map #[] 0)) : AtM (fun _ => false) mp 8 w :=
  ⟨#[], 0, h, ⟨by simp, ⟨fun _ h => by simp at h, by simp, by simp⟩, fun _ h => by simp at h⟩, by simp, fun _ h => by simp at h, fun _ _ h => by cases h⟩
end Go.Proofs.YtjdlmhkfaodkgaaDoor.Lex
namespace Go.Proofs.YtjdlmhkfaodkgaaDoor.Lex
open Go.ChangeShapes Go.WideShapes Go.ChangeAt Go.RowKit Go.Joins Go.WideMaps Go.WideElems Go.Maps
/-- What is asked for: a name, and how long ago. -/
abbrev Rf := ByteArray × Nat
theorem row51 : (78 : TypeId) < Tryd.prog.types.size := of_decide_eq_true (by kernel_rfl)
theorem wide51 : (match Tryd.prog.underlying 78 with | some (.array _ _) | some (.struct _) => true | _ => false) = true := by kernel_rfl
theorem deep51 : Tryd.prog.keyTypeAt 3 78 = true := by kernel_rfl
set_option maxRecDepth 100000 in
theorem keyed51 : Keyed Tryd.prog 78 := Keyed.of_law (deep_law_laid laidOut (m := 3) (by omega) row51 deep51 wide51)
theorem keyT51 : Tryd.prog.keyType 78 = true := by kernel_rfl
theorem cells51 : Tryd.prog.cellsOf 78 = 2 := by kernel_rfl
theorem cells3 : Tryd.prog.cellsOf 3 = 1 := by kernel_rfl
abbrev rV (r : Rf) : Array Value := #[.string r.1, .int .i64 (r.2 : Int)]
abbrev rKey (r : Rf) : Value := .agg (rV r)
/-- One that may be. -/
def RfOk (r : Rf) : Prop := r.1.size ≤ 65536 ∧ r.2 ≤ 1099511627776
theorem lits3 (n : Nat) (k : Nat) (hk : k ≤ 1099511627776) : Tryd.prog.keyLits (n + 1) 3 [.int .i64 (k : Int)] = some [.int .i64 (k : Int)] := by
  have hwf : (Lit.int .i64 (k : Int)).wf = true := by simp [Lit.wf, IntKind.min, IntKind.max, IntKind.signed, IntKind.bits]; omega
  unfold Program.keyLits
  rw [Tryd.underlying3]
  simp [hwf]
theorem rKey_is {r : Rf} (h : RfOk r) : ∃ l, keyOf Tryd.prog 78 (rKey r) = some l := by
  obtain ⟨n, hn⟩ := size_types
  have hf : (rKey r).formed Tryd.prog 78 = true := by simp [Value.formed, Tryd.underlying78, cells51]
  have h3 := lits3 n r.2 h.2
  have h9 := lits9 n r.1 (by have := h.1; unfold maxLen; omega)
  unfold keyOf
  rw [hn, Tryd.underlying78]
  simp only [keyT51, hf]
  unfold Program.keyLits
  rw [Tryd.underlying78]
  simp [Value.cells, cells51, cells3, cells9, h3, h9]
theorem rKey_inj {r q : Rf} (h : rKey r = rKey q) : r = q := by
  unfold rKey at h
  injection h with h
  simp only [Array.mk.injEq, List.cons.injEq, Value.int.injEq, Value.string.injEq, and_true, true_and] at h
  exact Prod.ext h.1 (by omega)
theorem zero3 (w : World) : (zeroValue 3).run Tryd.prog w = .ok (.int .i64 0) w := by kernel_rfl
/-- The map counts what is in a list. -/
def SeenM (acc : List Rf) (N mb : Nat) (w : World) : Prop := ∃ es clock, w.heap[mb]? = some (.map es clock) ∧ Fit Tryd.prog 78 RA es clock ∧ es.size ≤ N ∧
  (∀ x ∈ es.toList, ∃ r, r ∈ acc ∧ x.key = rKey r ∧ ∃ c : Nat, 1 ≤ c ∧ c ≤ N ∧ x.val = .int .i64 (c : Int)) ∧ ∀ r ∈ acc, ∃ x ∈ es.toList, x.key = rKey r
theorem SeenM.kept {acc : List Rf} {N mb : Nat} {w W : World} (h : SeenM acc N mb w) (hb : mb < w.heap.size → W.heap[mb]? = w.heap[mb]?) : SeenM acc N mb W := by
  obtain ⟨es, clock, e1, e2⟩ := h
  exact ⟨es, clock, (hb (Array.getElem?_eq_some_iff.1 e1).1).trans e1, e2⟩
theorem SeenM.none (mb : Nat) (w : World) (h : w.heap[mb]? = some (.map #[] 0)) : SeenM [] 0 mb w :=
  ⟨#[], 0, h, ⟨by simp, ⟨fun _ h => by simp at h, by simp, by simp⟩, fun _ h => by simp at h⟩, by simp, fun _ h => by simp at h, fun _ h => by cases h⟩
theorem look_one {es : Array MapEntry} {clock mb : Nat} {w : World} (hb : w.heap[mb]? = some (.map es clock)) (F : Fit (H := Unit) Tryd.prog 78 RA es clock) {r : Rf} (hr : RfOk r) {x : MapEntry} (hx : x ∈ es.toList) (hk : x.key = rKey r) : (Instr.lookup 100 (.map (some mb)) (rKey r) false).run Tryd.prog w = .ok x.val w := by
  obtain ⟨l, hl⟩ := rKey_is hr
  rcases fit_look false keyed51 Tryd.underlying100 (zero3 w) hb F hl with ⟨_, e2, _⟩ | ⟨e0, y, e1, e2, e3, _⟩
  · exact (e2 x hx hk).elim
  · have he : e0 = x := by
      obtain ⟨i, hi, ei⟩ := List.getElem_of_mem e1
      obtain ⟨j, hj, ej⟩ := List.getElem_of_mem hx
      by_cases hij : i = j
      · subst hij; rw [← ei, ← ej]
      · exfalso
        have := other_key F (j := j) (e0 := x) (by rw [List.getElem?_eq_getElem hj, ej]) (i := i) (x := e0) (by rw [List.getElem?_eq_getElem hi, ei]) hij
        exact this (e2.trans hk.symm)
    rw [e3, he]
    rfl
theorem look_none {es : Array MapEntry} {clock mb : Nat} {w : World} (hb : w.heap[mb]? = some (.map es clock)) (F : Fit (H := Unit) Tryd.prog 78 RA es clock) {r : Rf} (hr : RfOk r) (hn : ∀ x ∈ es.toList, x.key ≠ rKey r) : (Instr.lookup 100 (.map (some mb)) (rKey r) false).run Tryd.prog w = .ok (.int .i64 0) w := by
  obtain ⟨l, hl⟩ := rKey_is hr
  rcases fit_look false keyed51 Tryd.underlying100 (zero3 w) hb F hl with ⟨e1, _, _⟩ | ⟨e0, y, e1, e2, e3, _⟩
  · exact e1
  · exact (hn e0 e1 e2).elim
end Go.Proofs.YtjdlmhkfaodkgaaDoor.Lex
namespace Go.Proofs.YtjdlmhkfaodkgaaDoor.Lex
open Go.ChangeShapes Go.WideShapes Go.ChangeAt Go.RowKit Go.Joins Go.WideMaps Go.WideElems Go.Maps
def rIn (acc : List Rf) (r : Rf) : Bool := acc.any fun q => q.1.data.toList == r.1.data.toList && q.2 == r.2
def addR (acc : List Rf) (r : Rf) : List Rf := if rIn acc r then acc else acc ++ [r]
theorem rIn_mem {acc : List Rf} {r : Rf} : rIn acc r = true ↔ r ∈ acc := by
  unfold rIn
  rw [List.any_eq_true]
  constructor
  · rintro ⟨q, hq, e⟩
    simp only [Bool.and_eq_true, beq_iff_eq] at e
    have : q = r := Prod.ext (by
      obtain ⟨⟨⟨l⟩⟩, n⟩ := q
      obtain ⟨⟨⟨l'⟩⟩, n'⟩ := r
      simp only at e ⊢
      rw [e.1]) e.2
    rw [← this]
    exact hq
  · intro h
    exact ⟨r, h, by simp⟩
theorem modify_last {es : Array MapEntry} {x : MapEntry} (f : MapEntry → MapEntry) : (es.push x).modify es.size f = es.push (f x) := by
  apply Array.ext
  · simp
  · intro i h1 h2
    have hi : i < es.size + 1 := by simpa using h2
    by_cases e : es.size = i
    · subst e
      rw [Array.getElem_modify_self]
      simp
    · rw [Array.getElem_modify_of_ne e, Array.getElem_push_lt (by omega), Array.getElem_push_lt (by omega)]
theorem find_last {es : Array MapEntry} {x : MapEntry} {p : MapEntry → Bool} (h1 : ∀ e ∈ es.toList, p e = false) (h2 : p x = true) : (es.push x).findIdx? p = some es.size := by
  rw [Array.findIdx?_eq_some_iff_getElem]
  refine ⟨by simp, by simpa using h2, fun j hj => ?_⟩
  rw [Array.getElem_push_lt hj]
  have := h1 es[j] (by simp)
  simp [this]
theorem born_at {es : Array MapEntry} {j : Nat} {e0 : MapEntry} (h : es.toList[j]? = some e0) (hn : (es.toList.map (·.born)).Nodup) : es.findIdx? (fun e => (e.born : Int) == (e0.born : Int)) = some j := by
  obtain ⟨hj, ej⟩ := List.getElem?_eq_some_iff.1 h
  have hj' : j < es.size := by simpa using hj
  rw [Array.findIdx?_eq_some_iff_getElem]
  refine ⟨hj', ?_, fun i hi => ?_⟩
  · have : es[j] = e0 := by simpa using ej
    simp [this]
  · have hne := (List.pairwise_iff_getElem.1 hn) i j (by simp; omega) (by simp; omega) hi
    simp only [List.getElem_map, ej] at hne
    simp only [Array.getElem_toList] at hne
    simp
    omega
theorem modify_same {es : Array MapEntry} {j : Nat} {e0 : MapEntry} (h : es.toList[j]? = some e0) (f : MapEntry → MapEntry) (hf : f e0 = e0) : es.modify j f = es := by
  obtain ⟨hj, ej⟩ := List.getElem?_eq_some_iff.1 h
  apply Array.ext
  · simp
  · intro i h1 h2
    by_cases e : j = i
    · subst e
      rw [Array.getElem_modify_self]
      have : es[j] = e0 := by simpa using ej
      rw [this, hf]
    · rw [Array.getElem_modify_of_ne e]
theorem heap_block {w : World} {b : Nat} {o : Obj} (h : b < w.heap.size) : (ChangeMaps.setBlock w b o).heap[b]? = some o := by
  simp [ChangeMaps.setBlock, h]
set_option maxRecDepth 100000 in
theorem SeenM.bump {acc : List Rf} {N mb : Nat} {w : World} (h : SeenM acc N mb w) (hN : N < 1099511627776) {r : Rf} (hr : RfOk r) : ∃ (c : Nat) (W1 W2 : World) (born : Nat), c ≤ N ∧ (c = 0 ↔ rIn acc r = false) ∧ (Instr.lookup 100 (.map (some mb)) (rKey r) false).run Tryd.prog w = .ok (.int .i64 (c : Int)) w ∧
    (Instr.mapEntry 100 (.map (some mb)) (rKey r)).run Tryd.prog w = .ok (.tuple #[.int .i64 (c : Int), .int .i64 (born : Int)]) W1 ∧ (Instr.lookup 100 (.map (some mb)) (rKey r) false).run Tryd.prog W1 = .ok (.int .i64 (c : Int)) W1 ∧
    (Instr.entryStore 100 (.map (some mb)) (.int .i64 (born : Int)) (.int .i64 ((c : Int) + 1))).run Tryd.prog W1 = .ok () W2 ∧ (Instr.lookup 100 (.map (some mb)) (rKey r) false).run Tryd.prog W2 = .ok (.int .i64 ((c : Int) + 1)) W2 ∧ SeenM (addR acc r) (N + 1) mb W2 ∧ w.grownBy W1 (some mb) ∧ W1.grownBy W2 (some mb) := by
  obtain ⟨es, clock, hh, F, hs, h1, h2⟩ := h
  obtain ⟨l, hl⟩ := rKey_is hr
  have hlt := (Array.getElem?_eq_some_iff.1 hh).1
  cases hin : rIn acc r with
  | false =>
    have hno : ∀ x ∈ es.toList, x.key ≠ rKey r := fun x hx e => by
      obtain ⟨q, hq, ek, _⟩ := h1 x hx
      have e2 := rKey_inj (ek.symm.trans e)
      rw [e2, ← rIn_mem, hin] at hq
      cases hq
    have fitP : ∀ v, Fit (H := Unit) Tryd.prog 78 RA (es.push ⟨rKey r, v, clock⟩) (clock + 1) := fun v => ⟨by simp; unfold maxLen; omega, MapKept.stamped_push F.stamped hno, fun x hx => by
      simp only [Array.toList_push, List.mem_append, List.mem_singleton] at hx
      rcases hx with hx | rfl
      · exact F.reads x hx
      · exact ⟨_, rd_mk hl rfl⟩⟩
    have hh1 : (ChangeMaps.setBlock w mb (.map (es.push ⟨rKey r, .int .i64 0, clock⟩) (clock + 1))).heap[mb]? = some (.map (es.push ⟨rKey r, .int .i64 0, clock⟩) (clock + 1)) := heap_block hlt
    have hlt1 := (Array.getElem?_eq_some_iff.1 hh1).1
    have hh2 : (ChangeMaps.setBlock (ChangeMaps.setBlock w mb (.map (es.push ⟨rKey r, .int .i64 0, clock⟩) (clock + 1))) mb (.map (es.push ⟨rKey r, .int .i64 1, clock⟩) (clock + 1))).heap[mb]? = some (.map (es.push ⟨rKey r, .int .i64 1, clock⟩) (clock + 1)) := heap_block hlt1
    refine ⟨0, _, _, clock, Nat.zero_le _, by simp, look_none hh F hr hno, ?_, look_one hh1 (fitP _) hr (x := ⟨rKey r, .int .i64 0, clock⟩) (by simp) rfl, ?_, look_one hh2 (fitP _) hr (x := ⟨rKey r, .int .i64 1, clock⟩) (by simp) rfl, ⟨_, _, hh2, fitP _, by simp; omega, ?_, ?_⟩, grown_setBlock _, grown_setBlock _⟩
    · rcases keyed51.find w hl es.toList F.keys with ⟨f1, _⟩ | ⟨j, e, _, f2, f3⟩
      · simp [Instr.mapEntry, run_underlying Tryd.underlying100, MapKept.run_getObj_map hh, keyed51.check w false hl, f1, MapKept.run_setObj_map _ hh, Result.andThen, ChangeMaps.setBlock, goInt]
      · exact (hno e (List.mem_of_getElem? f2) f3).elim
    · have hf := find_last (es := es) (x := ⟨rKey r, .int .i64 0, clock⟩) (p := fun e => (e.born : Int) == (clock : Int)) (fun e he => by have := F.stamped.1 e he; simp; omega) (by simp)
      simp [Instr.entryStore, MapKept.run_getObj_map hh1, asInt, asIntOf, hf, MapKept.run_setObj_map _ hh1, Result.andThen, modify_last]
      rfl
    · intro x hx
      simp only [Array.toList_push, List.mem_append, List.mem_singleton] at hx
      unfold addR
      rw [hin]
      rcases hx with hx | rfl
      · obtain ⟨q, hq, ek, c, c1, c2, ev⟩ := h1 x hx
        exact ⟨q, by simp [hq], ek, c, c1, by omega, ev⟩
      · exact ⟨r, by simp, rfl, 1, by omega, by omega, rfl⟩
    · intro q hq
      unfold addR at hq
      rw [hin] at hq
      simp only [Bool.false_eq_true, if_false, List.mem_append, List.mem_singleton] at hq
      simp only [Array.toList_push, List.mem_append, List.mem_singleton]
      rcases hq with hq | rfl
      · obtain ⟨x, hx, ek⟩ := h2 q hq
        exact ⟨x, .inl hx, ek⟩
      · exact ⟨_, .inr rfl, rfl⟩
  | true =>
    obtain ⟨x0, hx0, ek0⟩ := h2 r (rIn_mem.1 hin)
    rcases keyed51.find w hl es.toList F.keys with ⟨_, f2⟩ | ⟨j, e0, f1, f2, f3⟩
    · exact (f2 x0 hx0 ek0).elim
    · have he0 := List.mem_of_getElem? f2
      obtain ⟨q, hq, ek, c, c1, c2, ev⟩ := h1 e0 he0
      have hj : es[j]? = some e0 := by simpa using f2
      have hms : es.modify j (fun e => { e with key := rKey r }) = es := modify_same f2 _ (by rw [← f3])
      have hh1 : (ChangeMaps.setBlock w mb (.map es clock)).heap[mb]? = some (.map es clock) := heap_block hlt
      have hlt1 := (Array.getElem?_eq_some_iff.1 hh1).1
      have hh2 : (ChangeMaps.setBlock (ChangeMaps.setBlock w mb (.map es clock)) mb (.map (es.modify j (fun e => { e with val := .int .i64 ((c : Int) + 1) })) clock)).heap[mb]? = some (.map (es.modify j (fun e => { e with val := .int .i64 ((c : Int) + 1) })) clock) := heap_block hlt1
      have hlist : (es.modify j (fun e => { e with val := .int .i64 ((c : Int) + 1) })).toList = es.toList.set j { e0 with val := .int .i64 ((c : Int) + 1) } := by rw [Array.toList_modify, ChangeMaps.modify_eq_set _ _ _ _ f2]
      have hjl : j < es.toList.length := (List.getElem?_eq_some_iff.1 f2).1
      have fit2 : Fit (H := Unit) Tryd.prog 78 RA (es.modify j (fun e => { e with val := .int .i64 ((c : Int) + 1) })) clock := ⟨by simpa using F.size, MapKept.stamped_modify F.stamped _ _ (fun _ _ => rfl) (fun _ _ _ => rfl), fun x hx => by
        rw [hlist] at hx
        rcases List.mem_or_eq_of_mem_set hx with hx | rfl
        · exact F.reads x hx
        · refine ⟨(l, .nil), ?_⟩
          show (keyOf Tryd.prog 78 e0.key).bind _ = _
          rw [f3, hl]
          rfl⟩
      have hmem : ({ e0 with val := .int .i64 ((c : Int) + 1) } : MapEntry) ∈ (es.modify j (fun e => { e with val := .int .i64 ((c : Int) + 1) })).toList := by
        rw [hlist]
        exact List.mem_iff_getElem.2 ⟨j, by simpa using hjl, by simp⟩
      refine ⟨c, _, _, e0.born, c2, ⟨fun e => by omega, fun e => by cases e⟩, by rw [look_one hh F hr he0 f3, ev], ?_, by rw [look_one hh1 F hr he0 f3, ev], ?_, look_one hh2 fit2 hr hmem f3, ⟨_, _, hh2, fit2, by simp; omega, ?_, ?_⟩, grown_setBlock _, grown_setBlock _⟩
      · simp [Instr.mapEntry, run_underlying Tryd.underlying100, MapKept.run_getObj_map hh, keyed51.check w false hl, f1, hj, f3, keyed51.stays w hl, MapKept.run_setObj_map _ hh, Result.andThen, ChangeMaps.setBlock, goInt, hms, ev]
      · have hf := born_at f2 F.stamped.2.1
        simp [Instr.entryStore, MapKept.run_getObj_map hh1, asInt, asIntOf, hf, MapKept.run_setObj_map _ hh1, Result.andThen]
        rfl
      · intro x hx
        unfold addR
        rw [hin, if_pos rfl]
        rw [hlist] at hx
        rcases List.mem_or_eq_of_mem_set hx with hx | rfl
        · obtain ⟨q', hq', ek', c', c1', c2', ev'⟩ := h1 x hx
          exact ⟨q', hq', ek', c', c1', by omega, ev'⟩
        · exact ⟨q, hq, ek, c + 1, by omega, by omega, by simp⟩
      · intro q' hq'
        unfold addR at hq'
        rw [hin, if_pos rfl] at hq'
        obtain ⟨x, hx, ekx⟩ := h2 q' hq'
        obtain ⟨i, hi, ei⟩ := List.getElem_of_mem hx
        by_cases hij : j = i
        · subst hij
          refine ⟨_, hmem, ?_⟩
          have : e0 = x := by rw [List.getElem?_eq_getElem hi, ei] at f2; injection f2 with f2; exact f2.symm
          rw [this]
          exact ekx
        · refine ⟨x, ?_, ekx⟩
          rw [hlist]
          exact List.mem_iff_getElem.2 ⟨i, by simpa using hi, by rw [List.getElem_set_ne hij]; exact ei⟩
end Go.Proofs.YtjdlmhkfaodkgaaDoor.Lex
namespace Go.Proofs.YtjdlmhkfaodkgaaDoor.Lex
open Go.RowKit
/-- A token's cells. -/
def tokV (t : Tok) : List Value := [.int .u8 (t.kind : Int), .string ⟨t.text.toArray⟩, .int .i64 (t.at_ : Int)]
def toksV (ts : List Tok) : List Value := ts.flatMap tokV
theorem toksV_app (ts us : List Tok) : toksV (ts ++ us) = toksV ts ++ toksV us := by simp [toksV]
theorem toksV_len (ts : List Tok) : (toksV ts).length = ts.length * 3 := by
  induction ts with
  | nil => rfl
  | cons t ts ih => simp only [toksV, List.flatMap_cons, List.length_append, List.length_cons] at ih ⊢; rw [ih]; simp [tokV]; omega
theorem ownsRow_below {w w' : World} {base e size n : Nat} {v : Value} {xs : List Value} (h : w.ownsRow base e size v n xs) (hb : Below w.heap.size w w') : w'.ownsRow base e size v n xs := by
  refine ⟨h.1, ?_⟩
  rcases h.2 with hn | ⟨g, cap, cur, rfl, hg0, hg, rest⟩
  · exact .inl hn
  · exact .inr ⟨g, cap, cur, rfl, hg0, (hb.block g (Array.getElem?_eq_some_iff.1 hg).1).trans hg, rest⟩
end Go.Proofs.YtjdlmhkfaodkgaaDoor.Lex
