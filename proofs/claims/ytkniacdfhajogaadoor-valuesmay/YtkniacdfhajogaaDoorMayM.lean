/-
  What is worked out may be, and is told: plain mathematics.
-/
import Derived.Test.YtkniacdfhajogaaDoorNumM
namespace Go.Proofs.YtkniacdfhajogaaDoor.Val
open Go.ChangeShapes Go.WideShapes Go.ChangeAt Go.RowKit Go.Joins
theorem wr_ok (n : Int) : -9223372036854775808 ≤ wr n ∧ wr n ≤ 9223372036854775807 := by unfold wr wrap64; omega
theorem rem_ok (a b : Int) (ha : -9223372036854775808 ≤ a ∧ a ≤ 9223372036854775807) : -9223372036854775808 ≤ remV a b ∧ remV a b ≤ 9223372036854775807 := by
  unfold remV
  split
  · omega
  · have h1 := Int.natAbs_tmod a b
    have h2 : (a.tmod b).natAbs ≤ a.natAbs := by rw [h1]; exact Nat.mod_le _ _
    have h3 : 0 ≤ a → 0 ≤ a.tmod b := fun h => Int.tmod_nonneg b h
    have h4 : a ≤ 0 → a.tmod b ≤ 0 := fun h => by
      have := Int.tmod_nonneg b (a := -a) (by omega)
      rw [Int.neg_tmod] at this
      omega
    generalize a.tmod b = r at *
    omega
theorem quo_ok (a b : Int) : -9223372036854775808 ≤ quoV a b ∧ quoV a b ≤ 9223372036854775807 := by
  unfold quoV
  split
  · omega
  · exact wr_ok _
/-- A value that may be, and is a value of 64 bits. -/
def Fine (v : Vl) : Prop := chkV v = true ∧ v.ok
theorem fine_num {n : Int} (h : -9223372036854775808 ≤ n ∧ n ≤ 9223372036854775807) : Fine (numV n) := ⟨rfl, by show (1 : Nat) < 256; omega, h⟩
theorem fine_yes (b : Bool) : Fine (yesV b) := by
  cases b
  · exact ⟨rfl, by show (2 : Nat) < 256; omega, by show (-9223372036854775808 : Int) ≤ 0; omega, by show (0 : Int) ≤ _; omega⟩
  · exact ⟨rfl, by show (2 : Nat) < 256; omega, by show (-9223372036854775808 : Int) ≤ 1; omega, by show (1 : Int) ≤ _; omega⟩
theorem fine_two (o : Nat) (a b : Int) (ha : -9223372036854775808 ≤ a ∧ a ≤ 9223372036854775807) : Fine (twoV o a b) := by
  unfold twoV
  repeat' split
  all_goals first | exact fine_yes _ | exact fine_num (wr_ok _) | exact fine_num (quo_ok _ _) | exact fine_num (rem_ok _ _ ha)
theorem fine_wk (o : Nat) (l : List Vl) (hl : l.length = 1 ∨ l.length = 2 ∨ l.length = 3) (hc : l.all chkV = true) (hk : ∀ x ∈ l, x.ok) : Fine (wkV o l) := by
  rw [List.all_eq_true] at hc
  match l, hl with
  | [a], _ =>
    show Fine (if o = 4 then numV (wr (-a.n)) else yesV (decide (a.n = 0)))
    split
    · exact fine_num (wr_ok _)
    · exact fine_yes _
  | [a, b], _ => exact fine_two o a.n b.n (hk a (by simp)).2
  | [a, b, c], _ =>
    show Fine (if a.n = 1 then b else c)
    split
    · exact ⟨hc b (by simp), hk b (by simp)⟩
    · exact ⟨hc c (by simp), hk c (by simp)⟩
theorem digits_some (u : Nat) : Lib.decDigits u ≠ [] := by
  rw [Lib.decDigits]
  split <;> simp
theorem txt_some (v : Vl) (h : chkV v = true) : txt v ≠ [] := by
  unfold txt
  rw [if_neg (by rw [h]; simp)]
  split
  · cases decide (v.n = 1) <;> decide
  · unfold Lib.itoa
    split
    · simp
    · exact digits_some _
theorem askL_lens (o : Nat) (h : askL o ≠ []) : (askL o).length = 1 ∨ (askL o).length = 2 ∨ (askL o).length = 3 := by
  have h1 := askL_len o
  have h2 : (askL o).length ≠ 0 := fun e => h (List.length_eq_zero_iff.1 e)
  omega
/-- How an operator answers. -/
theorem do_cases (o : Nat) (l : List Vl) (hk : ∀ x ∈ l, x.ok) : doV o l = (⟨0, 0⟩, 1) ∨ (doV o l = (⟨0, 0⟩, 7) ∧ l.all chkV = true) ∨ ∃ v, doV o l = (v, 0) ∧ l.all chkV = true ∧ Fine v := by
  unfold doV
  by_cases h1 : askL o = [] ∨ l.length ≠ (askL o).length ∨ l.all chkV = false
  · rw [if_pos h1]; exact .inl rfl
  · rw [if_neg h1]
    have h2 : askL o ≠ [] := fun h => h1 (.inl h)
    have h3 : l.length = (askL o).length := Classical.byContradiction fun h => h1 (.inr (.inl h))
    have h4 : l.all chkV = true := by cases h : l.all chkV with | true => rfl | false => exact absurd (.inr (.inr h)) h1
    by_cases h5 : fitL (lastT l) l (askL o) = false
    · rw [if_pos h5]; exact .inr (.inl ⟨rfl, h4⟩)
    · rw [if_neg h5]
      exact .inr (.inr ⟨_, rfl, h4, fine_wk o l (by rw [h3]; exact askL_lens o h2) h4 hk⟩)
end Go.Proofs.YtkniacdfhajogaaDoor.Val
