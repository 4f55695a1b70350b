/-
  Plain mathematics of a text's tokens: one step; all tokens; what a step leaves behind.
-/
import Derived.Test.YtkieljleopbhoaaDoorSign
namespace Go.Proofs.YtkieljleopbhoaaDoor.Lex
open Go.RowKit
/-- What a text begins with: its kind, and how many bytes it has. -/
def step (l : List UInt8) : Option (Nat × Nat) :=
  if silLen l ≠ 0 then some (0, silLen l) else if wordLen l ≠ 0 then some (1, wordLen l) else if numLen l ≠ 0 then some (2, numLen l) else if signLen l ≠ 0 then some (3, signLen l) else none
theorem silLen_le (l : List UInt8) : silLen l ≤ l.length := by
  unfold silLen
  split
  · exact span_le _ _
  · exact span_le _ _
theorem wordLen_le (l : List UInt8) : wordLen l ≤ l.length := by
  unfold wordLen
  split
  · omega
  · exact span_le _ _
theorem numLen_le (l : List UInt8) : numLen l ≤ l.length := by
  unfold numLen
  split
  · omega
  · exact span_le _ _
theorem prefix_app {l p : List UInt8} (h : Lib.hasPrefix l p = true) : ∃ t, l = p ++ t := by
  unfold Lib.hasPrefix at h
  obtain ⟨t, ht⟩ := List.isPrefixOf_iff_prefix.1 h
  exact ⟨t, ht.symm⟩
theorem signLen_cases (l : List UInt8) : signLen l = 0 ∨ ∃ k, k < 16 ∧ Lib.hasPrefix l (sgS k).data.toList = true ∧ signLen l = (sgS k).size := by
  unfold signLen
  cases h : sgL.find? fun p => Lib.hasPrefix l p.data.toList with
  | none => exact .inl rfl
  | some p =>
    obtain ⟨k, hk, e⟩ := List.mem_iff_getElem.1 (List.mem_of_find?_eq_some h)
    have e2 : sgS k = p := by
      unfold sgS
      rw [List.getD_eq_getElem?_getD, List.getElem?_eq_getElem hk, e]
      rfl
    have hp := List.find?_some h
    refine .inr ⟨k, hk, ?_, ?_⟩
    · rw [e2]; exact hp
    · rw [e2]
theorem signLen_le (l : List UInt8) : signLen l ≤ l.length := by
  rcases signLen_cases l with h | ⟨k, _, hp, h⟩
  · omega
  · obtain ⟨t, ht⟩ := prefix_app hp
    rw [h, Lib.size_eq, ht, List.length_append]
    omega
theorem step_le {l : List UInt8} {k n : Nat} (h : step l = some (k, n)) : 1 ≤ n ∧ n ≤ l.length ∧ k ≤ 3 := by
  have h1 := silLen_le l
  have h2 := wordLen_le l
  have h3 := numLen_le l
  have h4 := signLen_le l
  unfold step at h
  split at h
  · injection h with h; injection h with e1 e2; omega
  · split at h
    · injection h with h; injection h with e1 e2; omega
    · split at h
      · injection h with h; injection h with e1 e2; omega
      · split at h
        · injection h with h; injection h with e1 e2; omega
        · cases h
theorem blank_low {c : UInt8} (h : blank c = true) : c.toNat < 128 := by unfold blank at h; simp at h; omega
theorem digit_low {c : UInt8} (h : digit c = true) : c.toNat < 128 := by unfold digit at h; simp at h; omega
theorem letter_low {c : UInt8} (h : letter c = true) : c.toNat < 128 := by unfold letter at h; simp at h; omega
theorem ofWord_low {c : UInt8} (h : ofWord c = true) : c.toNat < 128 := by
  unfold ofWord at h
  simp at h
  rcases h with (h | h) | h
  · exact letter_low h
  · exact digit_low h
  · omega
theorem sg_low (k : Nat) (hk : k < 16) : ((sgS k).data.toList.getD ((sgS k).size - 1) 0).toNat < 128 ∧ ((sgS k).data.toList.getD 0 0).toNat < 128 := by
  have h : k = 0 ∨ k = 1 ∨ k = 2 ∨ k = 3 ∨ k = 4 ∨ k = 5 ∨ k = 6 ∨ k = 7 ∨ k = 8 ∨ k = 9 ∨ k = 10 ∨ k = 11 ∨ k = 12 ∨ k = 13 ∨ k = 14 ∨ k = 15 := by omega
  rcases h with rfl | rfl | rfl | rfl | rfl | rfl | rfl | rfl | rfl | rfl | rfl | rfl | rfl | rfl | rfl | rfl
  all_goals exact ⟨by decide, by decide⟩
theorem getD_app (p t : List UInt8) (i : Nat) (h : i < p.length) : (p ++ t).getD i 0 = p.getD i 0 := by
  simp [List.getD, List.getElem?_append_left h]
/-- Behind a step the text is at its end, or one of the two bytes beside the place is no part of a longer rune. -/
theorem step_end {l : List UInt8} {k n : Nat} (h : step l = some (k, n)) : n = l.length ∨ (l.getD n 0).toNat < 128 ∨ (l.getD (n - 1) 0).toNat < 128 := by
  obtain ⟨hn, hle, _⟩ := step_le h
  unfold step at h
  split at h
  · injection h with h; injection h with e1 e2
    unfold silLen at e2
    split at e2
    · by_cases hl : n = l.length
      · exact .inl hl
      · right; left
        have := span_stop ofLine l (by omega)
        rw [e2] at this
        generalize l.getD n 0 = c at this ⊢
        unfold ofLine at this
        simp only [Bool.not_eq_eq_eq_not, Bool.not_false, beq_iff_eq] at this
        omega
    · right; right
      exact blank_low (span_at blank l (n - 1) (by omega))
  · split at h
    · injection h with h; injection h with e1 e2
      unfold wordLen at e2
      split at e2
      · omega
      · right; right
        exact ofWord_low (span_at ofWord l (n - 1) (by omega))
    · split at h
      · injection h with h; injection h with e1 e2
        unfold numLen at e2
        split at e2
        · omega
        · right; right
          exact digit_low (span_at digit l (n - 1) (by omega))
      · split at h
        · injection h with h; injection h with e1 e2
          rcases signLen_cases l with h | ⟨k', hk, hp, h⟩
          · omega
          · right; right
            obtain ⟨t, ht⟩ := prefix_app hp
            have hs := sg_size k' hk
            rw [ht, getD_app _ _ _ (by rw [← Lib.size_eq]; omega), show n = (sgS k').size by omega]
            exact (sg_low k' hk).1
        · cases h
theorem span_zero (p : UInt8 → Bool) (l : List UInt8) (h : p (l.getD 0 0) = false) : span p l = 0 := by
  by_cases h0 : span p l = 0
  · exact h0
  · have := span_at p l 0 (by omega)
    rw [h] at this
    cases this
/-- A text that begins with a byte of a longer rune begins with no token. -/
theorem step_high {l : List UInt8} (h : 128 ≤ (l.getD 0 0).toNat) : step l = none := by
  have hb : blank (l.getD 0 0) = false := by cases e : blank (l.getD 0 0) with | false => rfl | true => have := blank_low e; omega
  have hl : letter (l.getD 0 0) = false := by cases e : letter (l.getD 0 0) with | false => rfl | true => have := letter_low e; omega
  have hd : digit (l.getD 0 0) = false := by cases e : digit (l.getD 0 0) with | false => rfl | true => have := digit_low e; omega
  have h1 : silLen l = 0 := by
    unfold silLen
    rw [if_neg]
    · exact span_zero _ _ hb
    · intro hp
      obtain ⟨t, ht⟩ := prefix_app hp
      rw [ht] at h
      simp at h
  have h2 : wordLen l = 0 := by unfold wordLen; rw [if_pos (span_zero _ _ hl)]
  have h3 : numLen l = 0 := by
    have := span_zero _ _ hd
    unfold numLen
    rw [this]
    simp
  have h4 : signLen l = 0 := by
    rcases signLen_cases l with h | ⟨k', hk, hp, _⟩
    · exact h
    · obtain ⟨t, ht⟩ := prefix_app hp
      have hs := sg_size k' hk
      have := (sg_low k' hk).2
      rw [ht, getD_app _ _ _ (by rw [← Lib.size_eq]; omega)] at h
      omega
  unfold step
  simp [h1, h2, h3, h4]
/-- A token. -/
structure Tok where
  kind : Nat
  text : List UInt8
  at_ : Nat
/-- The tokens of a text that begins at a place, so many steps at most; where there is none. -/
def toksN : Nat → Nat → List UInt8 → Except Nat (List Tok)
  | 0, _, _ => .ok []
  | m + 1, at_, l => if l = [] then .ok [] else match step l with
    | none => .error at_
    | some (k, n) => match toksN m (at_ + n) (l.drop n) with
      | .error e => .error e
      | .ok ts => .ok (if k = 0 then ts else ⟨k, l.take n, at_⟩ :: ts)
/-- The tokens of a text that begins at a place; where there is none. -/
def toks (at_ : Nat) (l : List UInt8) : Except Nat (List Tok) := toksN l.length at_ l
theorem toksN_any : ∀ (m m' a : Nat) (l : List UInt8), l.length ≤ m → l.length ≤ m' → toksN m a l = toksN m' a l
  | 0, 0, a, l, _, _ => rfl
  | 0, m' + 1, a, l, h, _ => by rw [List.eq_nil_of_length_eq_zero (Nat.le_zero.1 h)]; simp [toksN]
  | m + 1, 0, a, l, _, h => by rw [List.eq_nil_of_length_eq_zero (Nat.le_zero.1 h)]; simp [toksN]
  | m + 1, m' + 1, a, l, h, h' => by
    simp only [toksN]
    by_cases h0 : l = []
    · rw [if_pos h0, if_pos h0]
    · rw [if_neg h0, if_neg h0]
      cases e : step l with
      | none => rfl
      | some kn =>
        obtain ⟨k, n⟩ := kn
        have hs := step_le e
        simp only
        rw [toksN_any m m' (a + n) (l.drop n) (by rw [List.length_drop]; omega) (by rw [List.length_drop]; omega)]
/-- Tokens ahead of others. -/
def ahead (ts : List Tok) : Except Nat (List Tok) → Except Nat (List Tok)
  | .error e => .error e
  | .ok us => .ok (ts ++ us)
theorem toks_nil (a : Nat) : toks a [] = .ok [] := rfl
theorem toks_none {a : Nat} {l : List UInt8} (h0 : l ≠ []) (h : step l = none) : toks a l = .error a := by
  unfold toks
  obtain ⟨m, hm⟩ : ∃ m, l.length = m + 1 := ⟨l.length - 1, by have := List.length_pos_iff.2 h0; omega⟩
  rw [hm, toksN, if_neg h0, h]
theorem toks_some {a k n : Nat} {l : List UInt8} (h0 : l ≠ []) (h : step l = some (k, n)) : toks a l = ahead (if k = 0 then [] else [⟨k, l.take n, a⟩]) (toks (a + n) (l.drop n)) := by
  have hs := step_le h
  unfold toks
  obtain ⟨m, hm⟩ : ∃ m, l.length = m + 1 := ⟨l.length - 1, by have := List.length_pos_iff.2 h0; omega⟩
  rw [hm, toksN, if_neg h0, h]
  simp only
  rw [toksN_any m (l.drop n).length (a + n) (l.drop n) (by rw [List.length_drop]; omega) (Nat.le_refl _)]
  cases toksN (l.drop n).length (a + n) (l.drop n) with
  | error x => rfl
  | ok us => unfold ahead; by_cases hk : k = 0 <;> simp [hk]
theorem ahead_app (ts us : List Tok) (r : Except Nat (List Tok)) : ahead ts (ahead us r) = ahead (ts ++ us) r := by
  cases r with
  | error x => rfl
  | ok vs => simp [ahead]
end Go.Proofs.YtkieljleopbhoaaDoor.Lex
