/-
  The contract of Parse, whatever the tokens.
-/
import Derived.Test.YtkieljleopbhoaaDoorParse
namespace Go.Proofs.YtkieljleopbhoaaDoor.Lex
open Go.ChangeShapes Go.WideShapes Go.ChangeAt Go.RowKit Go.Joins
theorem Res.go_bad {r : Res} {f : Ex → Nat → Res} {e : Nat × Nat} (h : r.go f = .error e) : r = .error e ∨ ∃ x q, r = .ok (x, q) ∧ f x q = .error e := by
  unfold Res.go at h
  split at h
  · exact .inr ⟨_, _, rfl, h⟩
  · cases h; exact .inl rfl
theorem passR_bad {ts : List Mark} {kind : Nat} {text : ByteArray} {p : Nat} {f : Nat → Res} {e : Nat × Nat} (h : passR ts kind text p f = .error e) : e.1 = 5 ∨ f (p + 1) = .error e := by
  unfold passR at h
  split at h
  · exact .inr h
  · cases h; exact .inl rfl
theorem numE_bad {s : ByteArray} (h : ¬ numE s = 0) : (numE s).toNat ≠ 0 := by
  have := numE_nat s
  omega
theorem atomR_bad {ts : List Mark} {part : Nat → Nat → Res} {p n q : Nat} (hp : p < ts.length → ∀ a q n q', p < q → part a q = .error (n, q') → n ≠ 0) (h : atomR ts part p = .error (n, q)) : n ≠ 0 := by
  unfold atomR at h
  simp only at h
  split at h
  · cases h
  split at h
  · cases h
  split at h
  · rename_i hm
    rcases Res.go_bad h with h | ⟨x, q1, _, h⟩
    · exact hp (isMk_lt (by omega) hm) _ _ _ _ (by omega) h
    · rcases passR_bad h with h | h
      · simp only at h; omega
      · cases h
  iterate 3
    split at h
    · rename_i hm
      rcases Res.go_bad h with h | ⟨x, q1, _, h⟩
      · exact hp (isMk_lt (by omega) hm) _ _ _ _ (by omega) h
      · cases h
  split at h
  · split at h
    · cases h
    · cases h; omega
  split at h
  · split at h
    · cases h
    · rename_i hn
      cases h
      exact numE_bad hn
  · cases h; omega
theorem choiceR_bad {ts : List Mark} {part : Nat → Nat → Res} {p n q : Nat} (hf : ∀ a q x q', part a q = .ok (x, q') → q < q') (hp : ∀ a q n q', p < q → part a q = .error (n, q') → n ≠ 0) (h : choiceR ts part p = .error (n, q)) : n ≠ 0 := by
  unfold choiceR at h
  rcases Res.go_bad h with h | ⟨x, q1, e1, h⟩
  · exact hp _ _ _ _ (by omega) h
  rcases passR_bad h with h | h
  · simp only at h; omega
  have := hf _ _ _ _ e1
  rcases Res.go_bad h with h | ⟨y, q2, e2, h⟩
  · exact hp _ _ _ _ (by omega) h
  rcases passR_bad h with h | h
  · simp only at h; omega
  have := hf _ _ _ _ e2
  rcases Res.go_bad h with h | ⟨z, q3, e3, h⟩
  · exact hp _ _ _ _ (by omega) h
  · cases h
theorem prs_bad (ts : List Mark) : ∀ k, (∀ a p n q, 2 * (ts.length - p) + 2 ≤ k → prs ts k a none p = .error (n, q) → n ≠ 0) ∧ ∀ a y p n q, 2 * (ts.length - p) + 1 ≤ k → prs ts k a (some y) p = .error (n, q) → n ≠ 0
  | 0 => ⟨fun a p n q h => by omega, fun a y p n q h => by omega⟩
  | k + 1 => by
    obtain ⟨i1, i2⟩ := prs_bad ts k
    refine ⟨fun a p n q hk h => ?_, fun a y p n q hk h => ?_⟩
    · rw [prs] at h
      split at h
      · rename_i hm
        have hl := isMk_lt (by omega) hm.2
        exact choiceR_bad (part := fun a q => prs ts k a none q) (prs_far ts k).1 (fun a q n q' hq => i1 a q n q' (by omega)) h
      · rcases Res.go_bad h with h | ⟨x, q1, e1, h⟩
        · exact atomR_bad (part := fun a q => prs ts k a none q) (fun hl a q n q' hq => i1 a q n q' (by omega)) h
        · have := atomR_far (part := fun a q => prs ts k a none q) (prs_far ts k).1 e1
          exact i2 _ _ _ _ _ (by omega) h
    · obtain ⟨y, rank⟩ := y
      rw [prs] at h
      split at h
      · cases h
      · rename_i j hj
        have hl := jAt_lt hj
        split at h
        · cases h
        · rcases Res.go_bad h with h | ⟨x, q1, e1, h⟩
          · exact i1 _ _ _ _ (by omega) h
          · have := (prs_far ts k).1 _ _ _ _ e1
            exact i2 _ _ _ _ _ (by omega) h
theorem P_bad {ts : List Mark} {a p n q : Nat} (h : P ts a p = .error (n, q)) : n ≠ 0 := (prs_bad ts _).1 a p n q (Nat.le_refl _) h
/-- Parse, from a token on. -/
theorem parse {w : World} (v : Value) (ts : List Mark) (p : Nat) (hM : MarksAt w v ts) (hv : ∀ a n c, v = .slice (some a) n c → a.block < w.heap.size) (E : REnv w) (hT : TsOk ts) (hp : p ≤ ts.length) (hfew : ts.length ≤ 140737488355328) : Calls Tryd.prog 19 #[v, .int .i64 (p : Int)] w (PostP w p (P ts 0 p)) := by
  cases hP : P ts 0 p with
  | error nq =>
    obtain ⟨n, q⟩ := nq
    exact parse_bad v ts p hM hv E hT hp hfew n q hP (P_bad hP)
  | ok xq =>
    obtain ⟨x, q⟩ := xq
    cases hc : chk x with
    | true => exact parse_ok v ts p hM hv E hT hp hfew x q hP hc
    | false => exact parse_lim v ts p hM hv E hT hp hfew x q hP hc
end Go.Proofs.YtkieljleopbhoaaDoor.Lex
