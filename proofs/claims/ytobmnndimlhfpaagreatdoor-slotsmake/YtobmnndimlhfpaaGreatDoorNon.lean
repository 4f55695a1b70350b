/-
  The kinds of which the book holds none.
-/
import Derived.Test.YtobmnndimlhfpaaGreatDoorBk2
namespace Go.Proofs.YtobmnndimlhfpaaGreatDoor.Slo
set_option linter.unusedVariables false
set_option maxRecDepth 100000
open Go.ChangeShapes Go.WideShapes Go.ChangeAt Go.RowKit Go.Joins
theorem none_36 (bk : Nat) (C : Array Value) (w : World) (h : w.heap[bk]? = some (.cells C 59 (0, 0))) (hC : C[1]? = some (.slice none 0 0)) : Calls Tryz.prog 36 #[.pointer (some ⟨bk, 0, none⟩)] w fun e w' => (∃ x, e = .returned x) ∧ w' = w := by
  have hc : w.cell? ⟨bk, 1, none⟩ = some (.slice none 0 0) := (cell_of_row _ _ _ _ 59 (0, 0) h).trans hC
  go_enter Tryz.func36, Tryz.ntmps36
  go_wp2
  go_loopw [2] (fun i wr => i = .int .i64 0 ∧ wr = w) (fun _ _ => 0)
  case atStart => exact ⟨rfl, rfl⟩
  case round =>
    obtain ⟨rfl, hw⟩ := hrel
    subst hw
    go_wp2
    go_end0
    exact ⟨⟨_, rfl⟩, rfl⟩
theorem none_53 (bk : Nat) (C : Array Value) (w : World) (h : w.heap[bk]? = some (.cells C 59 (0, 0))) (hC : C[1]? = some (.slice none 0 0)) : Calls Tryz.prog 53 #[.pointer (some ⟨bk, 0, none⟩)] w fun e w' => (∃ x, e = .returned x) ∧ w' = w := by
  have hc : w.cell? ⟨bk, 1, none⟩ = some (.slice none 0 0) := (cell_of_row _ _ _ _ 59 (0, 0) h).trans hC
  go_enter Tryz.func53, Tryz.ntmps53
  go_wp2
  go_loopw [2] (fun i wr => i = .int .i64 0 ∧ wr = w) (fun _ _ => 0)
  case atStart => exact ⟨rfl, rfl⟩
  case round =>
    obtain ⟨rfl, hw⟩ := hrel
    subst hw
    go_wp2
    go_end0
    exact ⟨⟨_, rfl⟩, rfl⟩
theorem none_70 (bk : Nat) (C : Array Value) (w : World) (h : w.heap[bk]? = some (.cells C 59 (0, 0))) (hC : C[1]? = some (.slice none 0 0)) : Calls Tryz.prog 70 #[.pointer (some ⟨bk, 0, none⟩)] w fun e w' => e = .returned (.bool true) ∧ w' = w := by
  have hc : w.cell? ⟨bk, 1, none⟩ = some (.slice none 0 0) := (cell_of_row _ _ _ _ 59 (0, 0) h).trans hC
  go_enter Tryz.func70, Tryz.ntmps70
  go_wp2
  go_loopw [3] (fun i wr => i = .int .i64 0 ∧ wr = w) (fun _ _ => 0)
  case atStart => exact ⟨rfl, rfl⟩
  case round =>
    obtain ⟨rfl, hw⟩ := hrel
    subst hw
    go_wp2
    go_ret
    exact ⟨rfl, rfl⟩
theorem none_38 (bk : Nat) (C : Array Value) (w : World) (h : w.heap[bk]? = some (.cells C 59 (0, 0))) (hC : C[3]? = some (.slice none 0 0)) : Calls Tryz.prog 38 #[.pointer (some ⟨bk, 0, none⟩)] w fun e w' => (∃ x, e = .returned x) ∧ w' = w := by
  have hc : w.cell? ⟨bk, 3, none⟩ = some (.slice none 0 0) := (cell_of_row _ _ _ _ 59 (0, 0) h).trans hC
  go_enter Tryz.func38, Tryz.ntmps38
  go_wp2
  go_loopw [2] (fun i wr => i = .int .i64 0 ∧ wr = w) (fun _ _ => 0)
  case atStart => exact ⟨rfl, rfl⟩
  case round =>
    obtain ⟨rfl, hw⟩ := hrel
    subst hw
    go_wp2
    go_end0
    exact ⟨⟨_, rfl⟩, rfl⟩
theorem none_55 (bk : Nat) (C : Array Value) (w : World) (h : w.heap[bk]? = some (.cells C 59 (0, 0))) (hC : C[3]? = some (.slice none 0 0)) : Calls Tryz.prog 55 #[.pointer (some ⟨bk, 0, none⟩)] w fun e w' => (∃ x, e = .returned x) ∧ w' = w := by
  have hc : w.cell? ⟨bk, 3, none⟩ = some (.slice none 0 0) := (cell_of_row _ _ _ _ 59 (0, 0) h).trans hC
  go_enter Tryz.func55, Tryz.ntmps55
  go_wp2
  go_loopw [2] (fun i wr => i = .int .i64 0 ∧ wr = w) (fun _ _ => 0)
  case atStart => exact ⟨rfl, rfl⟩
  case round =>
    obtain ⟨rfl, hw⟩ := hrel
    subst hw
    go_wp2
    go_end0
    exact ⟨⟨_, rfl⟩, rfl⟩
theorem none_72 (bk : Nat) (C : Array Value) (w : World) (h : w.heap[bk]? = some (.cells C 59 (0, 0))) (hC : C[3]? = some (.slice none 0 0)) : Calls Tryz.prog 72 #[.pointer (some ⟨bk, 0, none⟩)] w fun e w' => e = .returned (.bool true) ∧ w' = w := by
  have hc : w.cell? ⟨bk, 3, none⟩ = some (.slice none 0 0) := (cell_of_row _ _ _ _ 59 (0, 0) h).trans hC
  go_enter Tryz.func72, Tryz.ntmps72
  go_wp2
  go_loopw [3] (fun i wr => i = .int .i64 0 ∧ wr = w) (fun _ _ => 0)
  case atStart => exact ⟨rfl, rfl⟩
  case round =>
    obtain ⟨rfl, hw⟩ := hrel
    subst hw
    go_wp2
    go_ret
    exact ⟨rfl, rfl⟩
theorem none_39 (bk : Nat) (C : Array Value) (w : World) (h : w.heap[bk]? = some (.cells C 59 (0, 0))) (hC : C[4]? = some (.slice none 0 0)) : Calls Tryz.prog 39 #[.pointer (some ⟨bk, 0, none⟩)] w fun e w' => (∃ x, e = .returned x) ∧ w' = w := by
  have hc : w.cell? ⟨bk, 4, none⟩ = some (.slice none 0 0) := (cell_of_row _ _ _ _ 59 (0, 0) h).trans hC
  go_enter Tryz.func39, Tryz.ntmps39
  go_wp2
  go_loopw [2] (fun i wr => i = .int .i64 0 ∧ wr = w) (fun _ _ => 0)
  case atStart => exact ⟨rfl, rfl⟩
  case round =>
    obtain ⟨rfl, hw⟩ := hrel
    subst hw
    go_wp2
    go_end0
    exact ⟨⟨_, rfl⟩, rfl⟩
theorem none_56 (bk : Nat) (C : Array Value) (w : World) (h : w.heap[bk]? = some (.cells C 59 (0, 0))) (hC : C[4]? = some (.slice none 0 0)) : Calls Tryz.prog 56 #[.pointer (some ⟨bk, 0, none⟩)] w fun e w' => (∃ x, e = .returned x) ∧ w' = w := by
  have hc : w.cell? ⟨bk, 4, none⟩ = some (.slice none 0 0) := (cell_of_row _ _ _ _ 59 (0, 0) h).trans hC
  go_enter Tryz.func56, Tryz.ntmps56
  go_wp2
  go_loopw [2] (fun i wr => i = .int .i64 0 ∧ wr = w) (fun _ _ => 0)
  case atStart => exact ⟨rfl, rfl⟩
  case round =>
    obtain ⟨rfl, hw⟩ := hrel
    subst hw
    go_wp2
    go_end0
    exact ⟨⟨_, rfl⟩, rfl⟩
theorem none_73 (bk : Nat) (C : Array Value) (w : World) (h : w.heap[bk]? = some (.cells C 59 (0, 0))) (hC : C[4]? = some (.slice none 0 0)) : Calls Tryz.prog 73 #[.pointer (some ⟨bk, 0, none⟩)] w fun e w' => e = .returned (.bool true) ∧ w' = w := by
  have hc : w.cell? ⟨bk, 4, none⟩ = some (.slice none 0 0) := (cell_of_row _ _ _ _ 59 (0, 0) h).trans hC
  go_enter Tryz.func73, Tryz.ntmps73
  go_wp2
  go_loopw [3] (fun i wr => i = .int .i64 0 ∧ wr = w) (fun _ _ => 0)
  case atStart => exact ⟨rfl, rfl⟩
  case round =>
    obtain ⟨rfl, hw⟩ := hrel
    subst hw
    go_wp2
    go_ret
    exact ⟨rfl, rfl⟩
theorem none_40 (bk : Nat) (C : Array Value) (w : World) (h : w.heap[bk]? = some (.cells C 59 (0, 0))) (hC : C[5]? = some (.slice none 0 0)) : Calls Tryz.prog 40 #[.pointer (some ⟨bk, 0, none⟩)] w fun e w' => (∃ x, e = .returned x) ∧ w' = w := by
  have hc : w.cell? ⟨bk, 5, none⟩ = some (.slice none 0 0) := (cell_of_row _ _ _ _ 59 (0, 0) h).trans hC
  go_enter Tryz.func40, Tryz.ntmps40
  go_wp2
  go_loopw [2] (fun i wr => i = .int .i64 0 ∧ wr = w) (fun _ _ => 0)
  case atStart => exact ⟨rfl, rfl⟩
  case round =>
    obtain ⟨rfl, hw⟩ := hrel
    subst hw
    go_wp2
    go_end0
    exact ⟨⟨_, rfl⟩, rfl⟩
theorem none_57 (bk : Nat) (C : Array Value) (w : World) (h : w.heap[bk]? = some (.cells C 59 (0, 0))) (hC : C[5]? = some (.slice none 0 0)) : Calls Tryz.prog 57 #[.pointer (some ⟨bk, 0, none⟩)] w fun e w' => (∃ x, e = .returned x) ∧ w' = w := by
  have hc : w.cell? ⟨bk, 5, none⟩ = some (.slice none 0 0) := (cell_of_row _ _ _ _ 59 (0, 0) h).trans hC
  go_enter Tryz.func57, Tryz.ntmps57
  go_wp2
  go_loopw [2] (fun i wr => i = .int .i64 0 ∧ wr = w) (fun _ _ => 0)
  case atStart => exact ⟨rfl, rfl⟩
  case round =>
    obtain ⟨rfl, hw⟩ := hrel
    subst hw
    go_wp2
    go_end0
    exact ⟨⟨_, rfl⟩, rfl⟩
theorem none_74 (bk : Nat) (C : Array Value) (w : World) (h : w.heap[bk]? = some (.cells C 59 (0, 0))) (hC : C[5]? = some (.slice none 0 0)) : Calls Tryz.prog 74 #[.pointer (some ⟨bk, 0, none⟩)] w fun e w' => e = .returned (.bool true) ∧ w' = w := by
  have hc : w.cell? ⟨bk, 5, none⟩ = some (.slice none 0 0) := (cell_of_row _ _ _ _ 59 (0, 0) h).trans hC
  go_enter Tryz.func74, Tryz.ntmps74
  go_wp2
  go_loopw [3] (fun i wr => i = .int .i64 0 ∧ wr = w) (fun _ _ => 0)
  case atStart => exact ⟨rfl, rfl⟩
  case round =>
    obtain ⟨rfl, hw⟩ := hrel
    subst hw
    go_wp2
    go_ret
    exact ⟨rfl, rfl⟩
theorem none_41 (bk : Nat) (C : Array Value) (w : World) (h : w.heap[bk]? = some (.cells C 59 (0, 0))) (hC : C[6]? = some (.slice none 0 0)) : Calls Tryz.prog 41 #[.pointer (some ⟨bk, 0, none⟩)] w fun e w' => (∃ x, e = .returned x) ∧ w' = w := by
  have hc : w.cell? ⟨bk, 6, none⟩ = some (.slice none 0 0) := (cell_of_row _ _ _ _ 59 (0, 0) h).trans hC
  go_enter Tryz.func41, Tryz.ntmps41
  go_wp2
  go_loopw [2] (fun i wr => i = .int .i64 0 ∧ wr = w) (fun _ _ => 0)
  case atStart => exact ⟨rfl, rfl⟩
  case round =>
    obtain ⟨rfl, hw⟩ := hrel
    subst hw
    go_wp2
    go_end0
    exact ⟨⟨_, rfl⟩, rfl⟩
theorem none_58 (bk : Nat) (C : Array Value) (w : World) (h : w.heap[bk]? = some (.cells C 59 (0, 0))) (hC : C[6]? = some (.slice none 0 0)) : Calls Tryz.prog 58 #[.pointer (some ⟨bk, 0, none⟩)] w fun e w' => (∃ x, e = .returned x) ∧ w' = w := by
  have hc : w.cell? ⟨bk, 6, none⟩ = some (.slice none 0 0) := (cell_of_row _ _ _ _ 59 (0, 0) h).trans hC
  go_enter Tryz.func58, Tryz.ntmps58
  go_wp2
  go_loopw [2] (fun i wr => i = .int .i64 0 ∧ wr = w) (fun _ _ => 0)
  case atStart => exact ⟨rfl, rfl⟩
  case round =>
    obtain ⟨rfl, hw⟩ := hrel
    subst hw
    go_wp2
    go_end0
    exact ⟨⟨_, rfl⟩, rfl⟩
theorem none_75 (bk : Nat) (C : Array Value) (w : World) (h : w.heap[bk]? = some (.cells C 59 (0, 0))) (hC : C[6]? = some (.slice none 0 0)) : Calls Tryz.prog 75 #[.pointer (some ⟨bk, 0, none⟩)] w fun e w' => e = .returned (.bool true) ∧ w' = w := by
  have hc : w.cell? ⟨bk, 6, none⟩ = some (.slice none 0 0) := (cell_of_row _ _ _ _ 59 (0, 0) h).trans hC
  go_enter Tryz.func75, Tryz.ntmps75
  go_wp2
  go_loopw [3] (fun i wr => i = .int .i64 0 ∧ wr = w) (fun _ _ => 0)
  case atStart => exact ⟨rfl, rfl⟩
  case round =>
    obtain ⟨rfl, hw⟩ := hrel
    subst hw
    go_wp2
    go_ret
    exact ⟨rfl, rfl⟩
theorem none_42 (bk : Nat) (C : Array Value) (w : World) (h : w.heap[bk]? = some (.cells C 59 (0, 0))) (hC : C[7]? = some (.slice none 0 0)) : Calls Tryz.prog 42 #[.pointer (some ⟨bk, 0, none⟩)] w fun e w' => (∃ x, e = .returned x) ∧ w' = w := by
  have hc : w.cell? ⟨bk, 7, none⟩ = some (.slice none 0 0) := (cell_of_row _ _ _ _ 59 (0, 0) h).trans hC
  go_enter Tryz.func42, Tryz.ntmps42
  go_wp2
  go_loopw [2] (fun i wr => i = .int .i64 0 ∧ wr = w) (fun _ _ => 0)
  case atStart => exact ⟨rfl, rfl⟩
  case round =>
    obtain ⟨rfl, hw⟩ := hrel
    subst hw
    go_wp2
    go_end0
    exact ⟨⟨_, rfl⟩, rfl⟩
theorem none_59 (bk : Nat) (C : Array Value) (w : World) (h : w.heap[bk]? = some (.cells C 59 (0, 0))) (hC : C[7]? = some (.slice none 0 0)) : Calls Tryz.prog 59 #[.pointer (some ⟨bk, 0, none⟩)] w fun e w' => (∃ x, e = .returned x) ∧ w' = w := by
  have hc : w.cell? ⟨bk, 7, none⟩ = some (.slice none 0 0) := (cell_of_row _ _ _ _ 59 (0, 0) h).trans hC
  go_enter Tryz.func59, Tryz.ntmps59
  go_wp2
  go_loopw [2] (fun i wr => i = .int .i64 0 ∧ wr = w) (fun _ _ => 0)
  case atStart => exact ⟨rfl, rfl⟩
  case round =>
    obtain ⟨rfl, hw⟩ := hrel
    subst hw
    go_wp2
    go_end0
    exact ⟨⟨_, rfl⟩, rfl⟩
theorem none_76 (bk : Nat) (C : Array Value) (w : World) (h : w.heap[bk]? = some (.cells C 59 (0, 0))) (hC : C[7]? = some (.slice none 0 0)) : Calls Tryz.prog 76 #[.pointer (some ⟨bk, 0, none⟩)] w fun e w' => e = .returned (.bool true) ∧ w' = w := by
  have hc : w.cell? ⟨bk, 7, none⟩ = some (.slice none 0 0) := (cell_of_row _ _ _ _ 59 (0, 0) h).trans hC
  go_enter Tryz.func76, Tryz.ntmps76
  go_wp2
  go_loopw [3] (fun i wr => i = .int .i64 0 ∧ wr = w) (fun _ _ => 0)
  case atStart => exact ⟨rfl, rfl⟩
  case round =>
    obtain ⟨rfl, hw⟩ := hrel
    subst hw
    go_wp2
    go_ret
    exact ⟨rfl, rfl⟩
theorem none_43 (bk : Nat) (C : Array Value) (w : World) (h : w.heap[bk]? = some (.cells C 59 (0, 0))) (hC : C[8]? = some (.slice none 0 0)) : Calls Tryz.prog 43 #[.pointer (some ⟨bk, 0, none⟩)] w fun e w' => (∃ x, e = .returned x) ∧ w' = w := by
  have hc : w.cell? ⟨bk, 8, none⟩ = some (.slice none 0 0) := (cell_of_row _ _ _ _ 59 (0, 0) h).trans hC
  go_enter Tryz.func43, Tryz.ntmps43
  go_wp2
  go_loopw [2] (fun i wr => i = .int .i64 0 ∧ wr = w) (fun _ _ => 0)
  case atStart => exact ⟨rfl, rfl⟩
  case round =>
    obtain ⟨rfl, hw⟩ := hrel
    subst hw
    go_wp2
    go_end0
    exact ⟨⟨_, rfl⟩, rfl⟩
theorem none_60 (bk : Nat) (C : Array Value) (w : World) (h : w.heap[bk]? = some (.cells C 59 (0, 0))) (hC : C[8]? = some (.slice none 0 0)) : Calls Tryz.prog 60 #[.pointer (some ⟨bk, 0, none⟩)] w fun e w' => (∃ x, e = .returned x) ∧ w' = w := by
  have hc : w.cell? ⟨bk, 8, none⟩ = some (.slice none 0 0) := (cell_of_row _ _ _ _ 59 (0, 0) h).trans hC
  go_enter Tryz.func60, Tryz.ntmps60
  go_wp2
  go_loopw [2] (fun i wr => i = .int .i64 0 ∧ wr = w) (fun _ _ => 0)
  case atStart => exact ⟨rfl, rfl⟩
  case round =>
    obtain ⟨rfl, hw⟩ := hrel
    subst hw
    go_wp2
    go_end0
    exact ⟨⟨_, rfl⟩, rfl⟩
theorem none_77 (bk : Nat) (C : Array Value) (w : World) (h : w.heap[bk]? = some (.cells C 59 (0, 0))) (hC : C[8]? = some (.slice none 0 0)) : Calls Tryz.prog 77 #[.pointer (some ⟨bk, 0, none⟩)] w fun e w' => e = .returned (.bool true) ∧ w' = w := by
  have hc : w.cell? ⟨bk, 8, none⟩ = some (.slice none 0 0) := (cell_of_row _ _ _ _ 59 (0, 0) h).trans hC
  go_enter Tryz.func77, Tryz.ntmps77
  go_wp2
  go_loopw [3] (fun i wr => i = .int .i64 0 ∧ wr = w) (fun _ _ => 0)
  case atStart => exact ⟨rfl, rfl⟩
  case round =>
    obtain ⟨rfl, hw⟩ := hrel
    subst hw
    go_wp2
    go_ret
    exact ⟨rfl, rfl⟩
theorem none_44 (bk : Nat) (C : Array Value) (w : World) (h : w.heap[bk]? = some (.cells C 59 (0, 0))) (hC : C[9]? = some (.slice none 0 0)) : Calls Tryz.prog 44 #[.pointer (some ⟨bk, 0, none⟩)] w fun e w' => (∃ x, e = .returned x) ∧ w' = w := by
  have hc : w.cell? ⟨bk, 9, none⟩ = some (.slice none 0 0) := (cell_of_row _ _ _ _ 59 (0, 0) h).trans hC
  go_enter Tryz.func44, Tryz.ntmps44
  go_wp2
  go_loopw [2] (fun i wr => i = .int .i64 0 ∧ wr = w) (fun _ _ => 0)
  case atStart => exact ⟨rfl, rfl⟩
  case round =>
    obtain ⟨rfl, hw⟩ := hrel
    subst hw
    go_wp2
    go_end0
    exact ⟨⟨_, rfl⟩, rfl⟩
theorem none_61 (bk : Nat) (C : Array Value) (w : World) (h : w.heap[bk]? = some (.cells C 59 (0, 0))) (hC : C[9]? = some (.slice none 0 0)) : Calls Tryz.prog 61 #[.pointer (some ⟨bk, 0, none⟩)] w fun e w' => (∃ x, e = .returned x) ∧ w' = w := by
  have hc : w.cell? ⟨bk, 9, none⟩ = some (.slice none 0 0) := (cell_of_row _ _ _ _ 59 (0, 0) h).trans hC
  go_enter Tryz.func61, Tryz.ntmps61
  go_wp2
  go_loopw [2] (fun i wr => i = .int .i64 0 ∧ wr = w) (fun _ _ => 0)
  case atStart => exact ⟨rfl, rfl⟩
  case round =>
    obtain ⟨rfl, hw⟩ := hrel
    subst hw
    go_wp2
    go_end0
    exact ⟨⟨_, rfl⟩, rfl⟩
theorem none_78 (bk : Nat) (C : Array Value) (w : World) (h : w.heap[bk]? = some (.cells C 59 (0, 0))) (hC : C[9]? = some (.slice none 0 0)) : Calls Tryz.prog 78 #[.pointer (some ⟨bk, 0, none⟩)] w fun e w' => e = .returned (.bool true) ∧ w' = w := by
  have hc : w.cell? ⟨bk, 9, none⟩ = some (.slice none 0 0) := (cell_of_row _ _ _ _ 59 (0, 0) h).trans hC
  go_enter Tryz.func78, Tryz.ntmps78
  go_wp2
  go_loopw [3] (fun i wr => i = .int .i64 0 ∧ wr = w) (fun _ _ => 0)
  case atStart => exact ⟨rfl, rfl⟩
  case round =>
    obtain ⟨rfl, hw⟩ := hrel
    subst hw
    go_wp2
    go_ret
    exact ⟨rfl, rfl⟩
theorem none_45 (bk : Nat) (C : Array Value) (w : World) (h : w.heap[bk]? = some (.cells C 59 (0, 0))) (hC : C[10]? = some (.slice none 0 0)) : Calls Tryz.prog 45 #[.pointer (some ⟨bk, 0, none⟩)] w fun e w' => (∃ x, e = .returned x) ∧ w' = w := by
  have hc : w.cell? ⟨bk, 10, none⟩ = some (.slice none 0 0) := (cell_of_row _ _ _ _ 59 (0, 0) h).trans hC
  go_enter Tryz.func45, Tryz.ntmps45
  go_wp2
  go_loopw [2] (fun i wr => i = .int .i64 0 ∧ wr = w) (fun _ _ => 0)
  case atStart => exact ⟨rfl, rfl⟩
  case round =>
    obtain ⟨rfl, hw⟩ := hrel
    subst hw
    go_wp2
    go_end0
    exact ⟨⟨_, rfl⟩, rfl⟩
theorem none_62 (bk : Nat) (C : Array Value) (w : World) (h : w.heap[bk]? = some (.cells C 59 (0, 0))) (hC : C[10]? = some (.slice none 0 0)) : Calls Tryz.prog 62 #[.pointer (some ⟨bk, 0, none⟩)] w fun e w' => (∃ x, e = .returned x) ∧ w' = w := by
  have hc : w.cell? ⟨bk, 10, none⟩ = some (.slice none 0 0) := (cell_of_row _ _ _ _ 59 (0, 0) h).trans hC
  go_enter Tryz.func62, Tryz.ntmps62
  go_wp2
  go_loopw [2] (fun i wr => i = .int .i64 0 ∧ wr = w) (fun _ _ => 0)
  case atStart => exact ⟨rfl, rfl⟩
  case round =>
    obtain ⟨rfl, hw⟩ := hrel
    subst hw
    go_wp2
    go_end0
    exact ⟨⟨_, rfl⟩, rfl⟩
theorem none_79 (bk : Nat) (C : Array Value) (w : World) (h : w.heap[bk]? = some (.cells C 59 (0, 0))) (hC : C[10]? = some (.slice none 0 0)) : Calls Tryz.prog 79 #[.pointer (some ⟨bk, 0, none⟩)] w fun e w' => e = .returned (.bool true) ∧ w' = w := by
  have hc : w.cell? ⟨bk, 10, none⟩ = some (.slice none 0 0) := (cell_of_row _ _ _ _ 59 (0, 0) h).trans hC
  go_enter Tryz.func79, Tryz.ntmps79
  go_wp2
  go_loopw [3] (fun i wr => i = .int .i64 0 ∧ wr = w) (fun _ _ => 0)
  case atStart => exact ⟨rfl, rfl⟩
  case round =>
    obtain ⟨rfl, hw⟩ := hrel
    subst hw
    go_wp2
    go_ret
    exact ⟨rfl, rfl⟩
theorem none_46 (bk : Nat) (C : Array Value) (w : World) (h : w.heap[bk]? = some (.cells C 59 (0, 0))) (hC : C[11]? = some (.slice none 0 0)) : Calls Tryz.prog 46 #[.pointer (some ⟨bk, 0, none⟩)] w fun e w' => (∃ x, e = .returned x) ∧ w' = w := by
  have hc : w.cell? ⟨bk, 11, none⟩ = some (.slice none 0 0) := (cell_of_row _ _ _ _ 59 (0, 0) h).trans hC
  go_enter Tryz.func46, Tryz.ntmps46
  go_wp2
  go_loopw [2] (fun i wr => i = .int .i64 0 ∧ wr = w) (fun _ _ => 0)
  case atStart => exact ⟨rfl, rfl⟩
  case round =>
    obtain ⟨rfl, hw⟩ := hrel
    subst hw
    go_wp2
    go_end0
    exact ⟨⟨_, rfl⟩, rfl⟩
theorem none_63 (bk : Nat) (C : Array Value) (w : World) (h : w.heap[bk]? = some (.cells C 59 (0, 0))) (hC : C[11]? = some (.slice none 0 0)) : Calls Tryz.prog 63 #[.pointer (some ⟨bk, 0, none⟩)] w fun e w' => (∃ x, e = .returned x) ∧ w' = w := by
  have hc : w.cell? ⟨bk, 11, none⟩ = some (.slice none 0 0) := (cell_of_row _ _ _ _ 59 (0, 0) h).trans hC
  go_enter Tryz.func63, Tryz.ntmps63
  go_wp2
  go_loopw [2] (fun i wr => i = .int .i64 0 ∧ wr = w) (fun _ _ => 0)
  case atStart => exact ⟨rfl, rfl⟩
  case round =>
    obtain ⟨rfl, hw⟩ := hrel
    subst hw
    go_wp2
    go_end0
    exact ⟨⟨_, rfl⟩, rfl⟩
theorem none_80 (bk : Nat) (C : Array Value) (w : World) (h : w.heap[bk]? = some (.cells C 59 (0, 0))) (hC : C[11]? = some (.slice none 0 0)) : Calls Tryz.prog 80 #[.pointer (some ⟨bk, 0, none⟩)] w fun e w' => e = .returned (.bool true) ∧ w' = w := by
  have hc : w.cell? ⟨bk, 11, none⟩ = some (.slice none 0 0) := (cell_of_row _ _ _ _ 59 (0, 0) h).trans hC
  go_enter Tryz.func80, Tryz.ntmps80
  go_wp2
  go_loopw [3] (fun i wr => i = .int .i64 0 ∧ wr = w) (fun _ _ => 0)
  case atStart => exact ⟨rfl, rfl⟩
  case round =>
    obtain ⟨rfl, hw⟩ := hrel
    subst hw
    go_wp2
    go_ret
    exact ⟨rfl, rfl⟩
theorem none_48 (bk : Nat) (C : Array Value) (w : World) (h : w.heap[bk]? = some (.cells C 59 (0, 0))) (hC : C[13]? = some (.slice none 0 0)) : Calls Tryz.prog 48 #[.pointer (some ⟨bk, 0, none⟩)] w fun e w' => (∃ x, e = .returned x) ∧ w' = w := by
  have hc : w.cell? ⟨bk, 13, none⟩ = some (.slice none 0 0) := (cell_of_row _ _ _ _ 59 (0, 0) h).trans hC
  go_enter Tryz.func48, Tryz.ntmps48
  go_wp2
  go_loopw [2] (fun i wr => i = .int .i64 0 ∧ wr = w) (fun _ _ => 0)
  case atStart => exact ⟨rfl, rfl⟩
  case round =>
    obtain ⟨rfl, hw⟩ := hrel
    subst hw
    go_wp2
    go_end0
    exact ⟨⟨_, rfl⟩, rfl⟩
theorem none_65 (bk : Nat) (C : Array Value) (w : World) (h : w.heap[bk]? = some (.cells C 59 (0, 0))) (hC : C[13]? = some (.slice none 0 0)) : Calls Tryz.prog 65 #[.pointer (some ⟨bk, 0, none⟩)] w fun e w' => (∃ x, e = .returned x) ∧ w' = w := by
  have hc : w.cell? ⟨bk, 13, none⟩ = some (.slice none 0 0) := (cell_of_row _ _ _ _ 59 (0, 0) h).trans hC
  go_enter Tryz.func65, Tryz.ntmps65
  go_wp2
  go_loopw [2] (fun i wr => i = .int .i64 0 ∧ wr = w) (fun _ _ => 0)
  case atStart => exact ⟨rfl, rfl⟩
  case round =>
    obtain ⟨rfl, hw⟩ := hrel
    subst hw
    go_wp2
    go_end0
    exact ⟨⟨_, rfl⟩, rfl⟩
theorem none_82 (bk : Nat) (C : Array Value) (w : World) (h : w.heap[bk]? = some (.cells C 59 (0, 0))) (hC : C[13]? = some (.slice none 0 0)) : Calls Tryz.prog 82 #[.pointer (some ⟨bk, 0, none⟩)] w fun e w' => e = .returned (.bool true) ∧ w' = w := by
  have hc : w.cell? ⟨bk, 13, none⟩ = some (.slice none 0 0) := (cell_of_row _ _ _ _ 59 (0, 0) h).trans hC
  go_enter Tryz.func82, Tryz.ntmps82
  go_wp2
  go_loopw [3] (fun i wr => i = .int .i64 0 ∧ wr = w) (fun _ _ => 0)
  case atStart => exact ⟨rfl, rfl⟩
  case round =>
    obtain ⟨rfl, hw⟩ := hrel
    subst hw
    go_wp2
    go_ret
    exact ⟨rfl, rfl⟩
theorem none_49 (bk : Nat) (C : Array Value) (w : World) (h : w.heap[bk]? = some (.cells C 59 (0, 0))) (hC : C[14]? = some (.slice none 0 0)) : Calls Tryz.prog 49 #[.pointer (some ⟨bk, 0, none⟩)] w fun e w' => (∃ x, e = .returned x) ∧ w' = w := by
  have hc : w.cell? ⟨bk, 14, none⟩ = some (.slice none 0 0) := (cell_of_row _ _ _ _ 59 (0, 0) h).trans hC
  go_enter Tryz.func49, Tryz.ntmps49
  go_wp2
  go_loopw [2] (fun i wr => i = .int .i64 0 ∧ wr = w) (fun _ _ => 0)
  case atStart => exact ⟨rfl, rfl⟩
  case round =>
    obtain ⟨rfl, hw⟩ := hrel
    subst hw
    go_wp2
    go_end0
    exact ⟨⟨_, rfl⟩, rfl⟩
theorem none_66 (bk : Nat) (C : Array Value) (w : World) (h : w.heap[bk]? = some (.cells C 59 (0, 0))) (hC : C[14]? = some (.slice none 0 0)) : Calls Tryz.prog 66 #[.pointer (some ⟨bk, 0, none⟩)] w fun e w' => (∃ x, e = .returned x) ∧ w' = w := by
  have hc : w.cell? ⟨bk, 14, none⟩ = some (.slice none 0 0) := (cell_of_row _ _ _ _ 59 (0, 0) h).trans hC
  go_enter Tryz.func66, Tryz.ntmps66
  go_wp2
  go_loopw [2] (fun i wr => i = .int .i64 0 ∧ wr = w) (fun _ _ => 0)
  case atStart => exact ⟨rfl, rfl⟩
  case round =>
    obtain ⟨rfl, hw⟩ := hrel
    subst hw
    go_wp2
    go_end0
    exact ⟨⟨_, rfl⟩, rfl⟩
theorem none_83 (bk : Nat) (C : Array Value) (w : World) (h : w.heap[bk]? = some (.cells C 59 (0, 0))) (hC : C[14]? = some (.slice none 0 0)) : Calls Tryz.prog 83 #[.pointer (some ⟨bk, 0, none⟩)] w fun e w' => e = .returned (.bool true) ∧ w' = w := by
  have hc : w.cell? ⟨bk, 14, none⟩ = some (.slice none 0 0) := (cell_of_row _ _ _ _ 59 (0, 0) h).trans hC
  go_enter Tryz.func83, Tryz.ntmps83
  go_wp2
  go_loopw [3] (fun i wr => i = .int .i64 0 ∧ wr = w) (fun _ _ => 0)
  case atStart => exact ⟨rfl, rfl⟩
  case round =>
    obtain ⟨rfl, hw⟩ := hrel
    subst hw
    go_wp2
    go_ret
    exact ⟨rfl, rfl⟩
theorem none_50 (bk : Nat) (C : Array Value) (w : World) (h : w.heap[bk]? = some (.cells C 59 (0, 0))) (hC : C[15]? = some (.slice none 0 0)) : Calls Tryz.prog 50 #[.pointer (some ⟨bk, 0, none⟩)] w fun e w' => (∃ x, e = .returned x) ∧ w' = w := by
  have hc : w.cell? ⟨bk, 15, none⟩ = some (.slice none 0 0) := (cell_of_row _ _ _ _ 59 (0, 0) h).trans hC
  go_enter Tryz.func50, Tryz.ntmps50
  go_wp2
  go_loopw [2] (fun i wr => i = .int .i64 0 ∧ wr = w) (fun _ _ => 0)
  case atStart => exact ⟨rfl, rfl⟩
  case round =>
    obtain ⟨rfl, hw⟩ := hrel
    subst hw
    go_wp2
    go_end0
    exact ⟨⟨_, rfl⟩, rfl⟩
theorem none_67 (bk : Nat) (C : Array Value) (w : World) (h : w.heap[bk]? = some (.cells C 59 (0, 0))) (hC : C[15]? = some (.slice none 0 0)) : Calls Tryz.prog 67 #[.pointer (some ⟨bk, 0, none⟩)] w fun e w' => (∃ x, e = .returned x) ∧ w' = w := by
  have hc : w.cell? ⟨bk, 15, none⟩ = some (.slice none 0 0) := (cell_of_row _ _ _ _ 59 (0, 0) h).trans hC
  go_enter Tryz.func67, Tryz.ntmps67
  go_wp2
  go_loopw [2] (fun i wr => i = .int .i64 0 ∧ wr = w) (fun _ _ => 0)
  case atStart => exact ⟨rfl, rfl⟩
  case round =>
    obtain ⟨rfl, hw⟩ := hrel
    subst hw
    go_wp2
    go_end0
    exact ⟨⟨_, rfl⟩, rfl⟩
theorem none_84 (bk : Nat) (C : Array Value) (w : World) (h : w.heap[bk]? = some (.cells C 59 (0, 0))) (hC : C[15]? = some (.slice none 0 0)) : Calls Tryz.prog 84 #[.pointer (some ⟨bk, 0, none⟩)] w fun e w' => e = .returned (.bool true) ∧ w' = w := by
  have hc : w.cell? ⟨bk, 15, none⟩ = some (.slice none 0 0) := (cell_of_row _ _ _ _ 59 (0, 0) h).trans hC
  go_enter Tryz.func84, Tryz.ntmps84
  go_wp2
  go_loopw [3] (fun i wr => i = .int .i64 0 ∧ wr = w) (fun _ _ => 0)
  case atStart => exact ⟨rfl, rfl⟩
  case round =>
    obtain ⟨rfl, hw⟩ := hrel
    subst hw
    go_wp2
    go_ret
    exact ⟨rfl, rfl⟩
theorem none_51 (bk : Nat) (C : Array Value) (w : World) (h : w.heap[bk]? = some (.cells C 59 (0, 0))) (hC : C[16]? = some (.slice none 0 0)) : Calls Tryz.prog 51 #[.pointer (some ⟨bk, 0, none⟩)] w fun e w' => (∃ x, e = .returned x) ∧ w' = w := by
  have hc : w.cell? ⟨bk, 16, none⟩ = some (.slice none 0 0) := (cell_of_row _ _ _ _ 59 (0, 0) h).trans hC
  go_enter Tryz.func51, Tryz.ntmps51
  go_wp2
  go_loopw [2] (fun i wr => i = .int .i64 0 ∧ wr = w) (fun _ _ => 0)
  case atStart => exact ⟨rfl, rfl⟩
  case round =>
    obtain ⟨rfl, hw⟩ := hrel
    subst hw
    go_wp2
    go_end0
    exact ⟨⟨_, rfl⟩, rfl⟩
theorem none_68 (bk : Nat) (C : Array Value) (w : World) (h : w.heap[bk]? = some (.cells C 59 (0, 0))) (hC : C[16]? = some (.slice none 0 0)) : Calls Tryz.prog 68 #[.pointer (some ⟨bk, 0, none⟩)] w fun e w' => (∃ x, e = .returned x) ∧ w' = w := by
  have hc : w.cell? ⟨bk, 16, none⟩ = some (.slice none 0 0) := (cell_of_row _ _ _ _ 59 (0, 0) h).trans hC
  go_enter Tryz.func68, Tryz.ntmps68
  go_wp2
  go_loopw [2] (fun i wr => i = .int .i64 0 ∧ wr = w) (fun _ _ => 0)
  case atStart => exact ⟨rfl, rfl⟩
  case round =>
    obtain ⟨rfl, hw⟩ := hrel
    subst hw
    go_wp2
    go_end0
    exact ⟨⟨_, rfl⟩, rfl⟩
theorem none_85 (bk : Nat) (C : Array Value) (w : World) (h : w.heap[bk]? = some (.cells C 59 (0, 0))) (hC : C[16]? = some (.slice none 0 0)) : Calls Tryz.prog 85 #[.pointer (some ⟨bk, 0, none⟩)] w fun e w' => e = .returned (.bool true) ∧ w' = w := by
  have hc : w.cell? ⟨bk, 16, none⟩ = some (.slice none 0 0) := (cell_of_row _ _ _ _ 59 (0, 0) h).trans hC
  go_enter Tryz.func85, Tryz.ntmps85
  go_wp2
  go_loopw [3] (fun i wr => i = .int .i64 0 ∧ wr = w) (fun _ _ => 0)
  case atStart => exact ⟨rfl, rfl⟩
  case round =>
    obtain ⟨rfl, hw⟩ := hrel
    subst hw
    go_wp2
    go_ret
    exact ⟨rfl, rfl⟩
theorem none_52 (bk : Nat) (C : Array Value) (w : World) (h : w.heap[bk]? = some (.cells C 59 (0, 0))) (hC : C[17]? = some (.slice none 0 0)) : Calls Tryz.prog 52 #[.pointer (some ⟨bk, 0, none⟩)] w fun e w' => (∃ x, e = .returned x) ∧ w' = w := by
  have hc : w.cell? ⟨bk, 17, none⟩ = some (.slice none 0 0) := (cell_of_row _ _ _ _ 59 (0, 0) h).trans hC
  go_enter Tryz.func52, Tryz.ntmps52
  go_wp2
  go_loopw [2] (fun i wr => i = .int .i64 0 ∧ wr = w) (fun _ _ => 0)
  case atStart => exact ⟨rfl, rfl⟩
  case round =>
    obtain ⟨rfl, hw⟩ := hrel
    subst hw
    go_wp2
    go_end0
    exact ⟨⟨_, rfl⟩, rfl⟩
theorem none_69 (bk : Nat) (C : Array Value) (w : World) (h : w.heap[bk]? = some (.cells C 59 (0, 0))) (hC : C[17]? = some (.slice none 0 0)) : Calls Tryz.prog 69 #[.pointer (some ⟨bk, 0, none⟩)] w fun e w' => (∃ x, e = .returned x) ∧ w' = w := by
  have hc : w.cell? ⟨bk, 17, none⟩ = some (.slice none 0 0) := (cell_of_row _ _ _ _ 59 (0, 0) h).trans hC
  go_enter Tryz.func69, Tryz.ntmps69
  go_wp2
  go_loopw [2] (fun i wr => i = .int .i64 0 ∧ wr = w) (fun _ _ => 0)
  case atStart => exact ⟨rfl, rfl⟩
  case round =>
    obtain ⟨rfl, hw⟩ := hrel
    subst hw
    go_wp2
    go_end0
    exact ⟨⟨_, rfl⟩, rfl⟩
theorem none_86 (bk : Nat) (C : Array Value) (w : World) (h : w.heap[bk]? = some (.cells C 59 (0, 0))) (hC : C[17]? = some (.slice none 0 0)) : Calls Tryz.prog 86 #[.pointer (some ⟨bk, 0, none⟩)] w fun e w' => e = .returned (.bool true) ∧ w' = w := by
  have hc : w.cell? ⟨bk, 17, none⟩ = some (.slice none 0 0) := (cell_of_row _ _ _ _ 59 (0, 0) h).trans hC
  go_enter Tryz.func86, Tryz.ntmps86
  go_wp2
  go_loopw [3] (fun i wr => i = .int .i64 0 ∧ wr = w) (fun _ _ => 0)
  case atStart => exact ⟨rfl, rfl⟩
  case round =>
    obtain ⟨rfl, hw⟩ := hrel
    subst hw
    go_wp2
    go_ret
    exact ⟨rfl, rfl⟩
end Go.Proofs.YtobmnndimlhfpaaGreatDoor.Slo
