/-
  The plain reader: enough steps are enough.
-/
import Derived.Test.YtkieljleopbhoaaDoorPrsFar
namespace Go.Proofs.YtkieljleopbhoaaDoor.Lex
theorem isMk_lt {ts : List Mark} {p kind : Nat} {text : ByteArray} (hk : kind ≠ 0) (h : isMk (markAt ts p) kind text = true) : p < ts.length := by
  by_cases e : p < ts.length
  · exact e
  · exfalso
    have h1 := (isMk_yes h).1
    rw [show markAt ts p = ⟨0, ByteArray.empty⟩ by unfold markAt; rw [List.getD_eq_getElem?_getD, List.getElem?_eq_none (by omega)]; rfl] at h1
    simp at h1
    omega
theorem Res.go_congr {r r' : Res} {f f' : Ex → Nat → Res} (h : r = r') (hf : ∀ x q, r = .ok (x, q) → f x q = f' x q) : r.go f = r'.go f' := by
  subst h
  unfold Res.go
  split
  · exact hf _ _ rfl
  · rfl
theorem passR_congr {ts : List Mark} {kind : Nat} {text : ByteArray} {p : Nat} {f f' : Nat → Res} (h : f (p + 1) = f' (p + 1)) : passR ts kind text p f = passR ts kind text p f' := by
  unfold passR
  rw [h]
theorem atomR_congr {ts : List Mark} {part part' : Nat → Nat → Res} {p : Nat} (h : p < ts.length → ∀ a q, p < q → part a q = part' a q) : atomR ts part p = atomR ts part' p := by
  unfold atomR
  simp only
  split
  · rfl
  split
  · rfl
  split
  · rename_i hm; rw [h (isMk_lt (by omega) hm) 0 (p + 1) (by omega)]
  iterate 3
    split
    · rename_i hm; rw [h (isMk_lt (by omega) hm) 6 (p + 1) (by omega)]
  rfl
theorem choiceR_congr {ts : List Mark} {part part' : Nat → Nat → Res} {p : Nat} (hf : ∀ a q x q', part a q = .ok (x, q') → q < q') (h : ∀ a q, p < q → part a q = part' a q) : choiceR ts part p = choiceR ts part' p := by
  unfold choiceR
  refine Res.go_congr (h _ _ (by omega)) fun x q h1 => passR_congr ?_
  have := hf _ _ _ _ h1
  refine Res.go_congr (h _ _ (by omega)) fun y q2 h2 => passR_congr ?_
  have := hf _ _ _ _ h2
  exact Res.go_congr (h _ _ (by omega)) fun z q3 _ => rfl
theorem jAt_lt {ts : List Mark} {p : Nat} {j : J} (h : jAt (markAt ts p) = some j) : p < ts.length := by
  by_cases e : p < ts.length
  · exact e
  · exfalso
    rw [show markAt ts p = ⟨0, ByteArray.empty⟩ by unfold markAt; rw [List.getD_eq_getElem?_getD, List.getElem?_eq_none (by omega)]; rfl] at h
    have : jAt ⟨0, ByteArray.empty⟩ = none := by decide
    rw [this] at h
    cases h
/-- Enough steps are enough. -/
theorem prs_same (ts : List Mark) : ∀ k k', (∀ a p, 2 * (ts.length - p) + 2 ≤ k → 2 * (ts.length - p) + 2 ≤ k' → prs ts k a none p = prs ts k' a none p) ∧ ∀ a y p, 2 * (ts.length - p) + 1 ≤ k → 2 * (ts.length - p) + 1 ≤ k' → prs ts k a (some y) p = prs ts k' a (some y) p
  | 0, _ => ⟨fun a p h _ => by omega, fun a y p h _ => by omega⟩
  | _ + 1, 0 => ⟨fun a p _ h => by omega, fun a y p _ h => by omega⟩
  | k + 1, k' + 1 => by
    obtain ⟨i1, i2⟩ := prs_same ts k k'
    refine ⟨fun a p h h' => ?_, fun a y p h h' => ?_⟩
    · rw [prs, prs]
      split
      · rename_i hm
        have hl := isMk_lt (by omega) hm.2
        exact choiceR_congr (part := fun a q => prs ts k a none q) (part' := fun a q => prs ts k' a none q) (prs_far ts k).1 fun a q hq => i1 a q (by omega) (by omega)
      · refine Res.go_congr (atomR_congr fun hl a q hq => i1 a q (by omega) (by omega)) fun x q h1 => ?_
        have := atomR_far (part := fun a q => prs ts k a none q) (prs_far ts k).1 h1
        exact i2 _ _ _ (by omega) (by omega)
    · obtain ⟨y, rank⟩ := y
      rw [prs, prs]
      split
      · rfl
      · rename_i j hj
        have hl := jAt_lt hj
        split
        · rfl
        · refine Res.go_congr (i1 _ _ (by omega) (by omega)) fun x q h1 => ?_
          have := (prs_far ts k).1 _ _ _ _ h1
          exact i2 _ _ _ (by omega) (by omega)
end Go.Proofs.YtkieljleopbhoaaDoor.Lex
