/-
  Plain mathematics: a name is one token; what a byte more makes of it.
-/
import Derived.Test.YtafelijlolidhabDoorJoinKit
namespace Go.Proofs.YtafelijlolidhabDoor.Lex
open Go.RowKit
theorem word_letter {l : List UInt8} (h : wordLen l ≠ 0) : letter (l.getD 0 0) = true ∧ wordLen l = span ofWord l := by
  unfold wordLen at h ⊢
  split at h
  · exact absurd rfl h
  · next e => exact ⟨span_at letter l 0 (by omega), by rw [if_neg e]⟩
theorem letter_not {c : UInt8} (h : letter c = true) : blank c = false ∧ c ≠ 45 := by
  have h2 : 65 ≤ c.toNat := by unfold letter at h; simp at h; omega
  constructor
  · unfold blank; simp; omega
  · rintro rfl; exact absurd h2 (by decide)
theorem step_word {l : List UInt8} (h : wordLen l ≠ 0) : step l = some (1, wordLen l) := by
  obtain ⟨hl, _⟩ := word_letter h
  obtain ⟨hb, h45⟩ := letter_not hl
  have hs : silLen l = 0 := by
    unfold silLen
    rw [if_neg, span_zero _ _ hb]
    intro hp
    obtain ⟨t, ht⟩ := prefix_app hp
    rw [ht] at h45
    exact h45 rfl
  unfold step
  rw [hs, if_neg (by omega), if_pos h]
theorem toks_word {l : List UInt8} (a : Nat) (h0 : l ≠ []) (h : wordLen l = l.length) : toks a l = .ok [⟨1, l, a⟩] := by
  have hl := List.length_pos_iff.2 h0
  rw [toks_some h0 (step_word (by omega)), h, if_neg (by omega), List.take_length, List.drop_length, toks_nil]
  rfl
theorem wordLen_more {l : List UInt8} (c : UInt8) (h0 : l ≠ []) (h : wordLen l = l.length) : wordLen (l ++ [c]) = if ofWord c then l.length + 1 else l.length := by
  have hl := List.length_pos_iff.2 h0
  obtain ⟨h1, h2⟩ := word_letter (l := l) (by omega)
  have hg : ∀ i, i < l.length → (l ++ [c]).getD i 0 = l.getD i 0 := fun i hi => getD_app l [c] i hi
  have hc : (l ++ [c]).getD l.length 0 = c := by simp [List.getD]
  have hsp : 1 ≤ span letter (l ++ [c]) := by
    by_cases e : span letter (l ++ [c]) = 0
    · have := span_stop letter (l ++ [c]) (by rw [e]; simp)
      rw [e, hg 0 hl, h1] at this
      cases this
    · omega
  unfold wordLen
  rw [if_neg (by omega)]
  have hall : ∀ i, i < l.length → ofWord ((l ++ [c]).getD i 0) = true := fun i hi => by rw [hg i hi]; exact span_at ofWord l i (by omega)
  cases hw : ofWord c with
  | true =>
    rw [if_pos rfl]
    refine span_eq ofWord _ _ (by simp) (fun i hi => ?_) (.inl (by simp))
    by_cases e : i = l.length
    · subst e; rw [hc]; exact hw
    · exact hall i (by omega)
  | false =>
    rw [if_neg (by simp)]
    exact span_eq ofWord _ _ (by simp) hall (.inr (by rw [hc]; exact hw))
theorem toks_more_no {l : List UInt8} (c : UInt8) (h0 : l ≠ []) (h : wordLen l = l.length) (hc : ofWord c = false) : (∃ a, toks 0 (l ++ [c]) = .error a) ∨ ∃ us, toks 0 (l ++ [c]) = .ok (⟨1, l, 0⟩ :: us) := by
  have hl := List.length_pos_iff.2 h0
  have hw := wordLen_more c h0 h
  rw [hc, if_neg (by simp)] at hw
  rw [toks_some (by simp) (step_word (by omega)), hw, if_neg (by omega), List.take_append_of_le_length (Nat.le_refl _), List.take_length]
  cases toks (0 + l.length) ((l ++ [c]).drop l.length) with
  | error a => exact .inl ⟨a, rfl⟩
  | ok us => exact .inr ⟨us, rfl⟩
theorem cat1 (s : ByteArray) (c : UInt8) : (s ++ (⟨#[c]⟩ : ByteArray)).data.toList = s.data.toList ++ [c] := by
  rw [ByteArray.data_append, Array.toList_append]
theorem name_true {s : ByteArray} (h : isName s = true) : 0 < s.size ∧ s.size ≤ 40 ∧ wordLen s.data.toList = s.size := by
  unfold isName at h
  simp only [Bool.and_eq_true, decide_eq_true_eq] at h
  exact ⟨h.1, h.2.1, h.2.2.1⟩
theorem name_false_of {s : ByteArray} (h : s.size ≤ 40 → wordLen s.data.toList = s.size → False) : isName s = false := by
  cases e : isName s with
  | false => rfl
  | true => obtain ⟨_, h2, h3⟩ := name_true e; exact (h h2 h3).elim
end Go.Proofs.YtafelijlolidhabDoor.Lex
