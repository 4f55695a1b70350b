/-
  The plain reader: what is read is not nothing; enough steps are enough.
-/
import Derived.Test.YtkieljleopbhoaaDoorPrs
namespace Go.Proofs.YtkieljleopbhoaaDoor.Lex
theorem Res.go_inv {r : Res} {f : Ex → Nat → Res} {z : Ex × Nat} (h : r.go f = .ok z) : ∃ x q, r = .ok (x, q) ∧ f x q = .ok z := by
  unfold Res.go at h
  split at h
  · exact ⟨_, _, rfl, h⟩
  · cases h
theorem passR_inv {ts : List Mark} {kind : Nat} {text : ByteArray} {p : Nat} {f : Nat → Res} {z : Ex × Nat} (h : passR ts kind text p f = .ok z) : isMk (markAt ts p) kind text = true ∧ f (p + 1) = .ok z := by
  unfold passR at h
  split at h
  · rename_i h1; exact ⟨h1, h⟩
  · cases h
theorem atomR_far {ts : List Mark} {part : Nat → Nat → Res} (hp : ∀ a q x q', part a q = .ok (x, q') → q < q') {p q : Nat} {x : Ex} (h : atomR ts part p = .ok (x, q)) : p < q := by
  unfold atomR at h
  simp only at h
  split at h
  · cases h; omega
  split at h
  · cases h; omega
  split at h
  · obtain ⟨x1, q1, h1, h2⟩ := Res.go_inv h
    obtain ⟨_, h3⟩ := passR_inv h2
    cases h3
    have := hp _ _ _ _ h1
    omega
  iterate 3
    split at h
    · obtain ⟨x1, q1, h1, h2⟩ := Res.go_inv h
      cases h2
      have := hp _ _ _ _ h1
      omega
  split at h
  · split at h
    · cases h; omega
    · cases h
  split at h
  · split at h
    · cases h; omega
    · cases h
  · cases h
theorem choiceR_far {ts : List Mark} {part : Nat → Nat → Res} (hp : ∀ a q x q', part a q = .ok (x, q') → q < q') {p q : Nat} {x : Ex} (h : choiceR ts part p = .ok (x, q)) : p < q := by
  unfold choiceR at h
  obtain ⟨x1, q1, h1, h⟩ := Res.go_inv h
  obtain ⟨_, h⟩ := passR_inv h
  obtain ⟨x2, q2, h2, h⟩ := Res.go_inv h
  obtain ⟨_, h⟩ := passR_inv h
  obtain ⟨x3, q3, h3, h⟩ := Res.go_inv h
  cases h
  have := hp _ _ _ _ h1
  have := hp _ _ _ _ h2
  have := hp _ _ _ _ h3
  omega
/-- What is read is not nothing. -/
theorem prs_far (ts : List Mark) : ∀ k, (∀ a p x q, prs ts k a none p = .ok (x, q) → p < q) ∧ ∀ a y p x q, prs ts k a (some y) p = .ok (x, q) → p ≤ q
  | 0 => ⟨fun a p x q h => by simp [prs] at h, fun a y p x q h => by simp [prs] at h⟩
  | k + 1 => by
    obtain ⟨i1, i2⟩ := prs_far ts k
    refine ⟨fun a p x q h => ?_, fun a y p x q h => ?_⟩
    · rw [prs] at h
      split at h
      · exact choiceR_far (part := fun a q => prs ts k a none q) i1 h
      · obtain ⟨x1, q1, h1, h2⟩ := Res.go_inv h
        have := atomR_far (part := fun a q => prs ts k a none q) i1 h1
        have := i2 _ _ _ _ _ h2
        omega
    · obtain ⟨y, rank⟩ := y
      rw [prs] at h
      split at h
      · cases h; omega
      · split at h
        · cases h; omega
        · obtain ⟨x1, q1, h1, h2⟩ := Res.go_inv h
          have := i1 _ _ _ _ h1
          have := i2 _ _ _ _ _ h2
          omega
end Go.Proofs.YtkieljleopbhoaaDoor.Lex
