/-
  Plain mathematics of a text's tokens: how far bytes of a kind go; runes and bytes.
-/
import Derived.Lib.DecodeN
import Derived.Lib.Strings
import Derived.Laws.RangeAny
import Derived.Laws.RangeString
namespace Go.Proofs.YtkieljleopbhoaaDoor.Lex
open Go
def letter (c : UInt8) : Bool := (decide (97 ≤ c.toNat) && decide (c.toNat ≤ 122)) || (decide (65 ≤ c.toNat) && decide (c.toNat ≤ 90))
def digit (c : UInt8) : Bool := decide (48 ≤ c.toNat) && decide (c.toNat ≤ 57)
def ofWord (c : UInt8) : Bool := letter c || digit c || c.toNat == 95
def ofLine (c : UInt8) : Bool := !(c.toNat == 10)
def blank (c : UInt8) : Bool := c.toNat == 32 || c.toNat == 9 || c.toNat == 10 || c.toNat == 13
/-- How many bytes of a kind a text begins with. -/
def span (p : UInt8 → Bool) (l : List UInt8) : Nat := (l.takeWhile p).length
theorem span_nil (p : UInt8 → Bool) : span p [] = 0 := rfl
theorem span_cons (p : UInt8 → Bool) (c : UInt8) (l : List UInt8) : span p (c :: l) = if p c then span p l + 1 else 0 := by
  unfold span
  rw [List.takeWhile_cons]
  split <;> simp
theorem span_le (p : UInt8 → Bool) (l : List UInt8) : span p l ≤ l.length := by
  induction l with
  | nil => exact Nat.le_refl _
  | cons c l ih => rw [span_cons, List.length_cons]; split <;> omega
theorem span_at (p : UInt8 → Bool) (l : List UInt8) (i : Nat) (h : i < span p l) : p (l.getD i 0) = true := by
  induction l generalizing i with
  | nil => simp [span_nil] at h
  | cons c l ih =>
    rw [span_cons] at h
    split at h
    · rename_i hc
      cases i with
      | zero => simpa using hc
      | succ i => simpa using ih i (by omega)
    · omega
theorem span_stop (p : UInt8 → Bool) (l : List UInt8) (h : span p l < l.length) : p (l.getD (span p l) 0) = false := by
  induction l with
  | nil => simp at h
  | cons c l ih =>
    rw [span_cons] at h ⊢
    split
    · rename_i hc
      rw [if_pos hc, List.length_cons] at h
      simpa using ih (by omega)
    · rename_i hc
      simpa using hc
theorem span_eq (p : UInt8 → Bool) (l : List UInt8) (k : Nat) (hk : k ≤ l.length) (h1 : ∀ i, i < k → p (l.getD i 0) = true) (h2 : k = l.length ∨ p (l.getD k 0) = false) : span p l = k := by
  have ha := span_le p l
  by_cases hlt : span p l < k
  · have := span_stop p l (by omega)
    rw [h1 _ hlt] at this
    cases this
  · by_cases hgt : k < span p l
    · rcases h2 with h2 | h2
      · omega
      · rw [span_at p l k hgt] at h2; cases h2
    · omega
/-! ### Runes and bytes -/
theorem getD_get! (s : ByteArray) (i : Nat) : s.data.toList.getD i 0 = s.get! i := by
  cases s with
  | mk d =>
    show d.toList.getD i 0 = d[i]!
    by_cases h : i < d.size
    · rw [getElem!_pos d i h]; simp [List.getD, h]
    · rw [getElem!_neg d i h]; simp [List.getD, h]; rfl
theorem getD_get (s : ByteArray) (i : Nat) (h : i < s.size) : s.data.toList.getD i 0 = s[i]'h := by
  cases s with
  | mk d =>
    have h' : i < d.size := h
    show d.toList.getD i 0 = d[i]
    simp [List.getD, h']
/-- The bytes of a rune that begins above 127 lie all above 127, and in the text. -/
theorem decode_range (s : ByteArray) (pos i : Nat) (hpos : pos < s.size) (h : 128 ≤ (s.data.toList.getD pos 0).toNat) (hi : pos ≤ i) (hlt : i < pos + (Utf8.decode s pos).2) : i < s.size ∧ 128 ≤ (s.data.toList.getD i 0).toNat := by
  rw [Lib.decode_at, ← getD_get!, ← getD_get!, ← getD_get!, ← getD_get!] at hlt
  have hc : i = pos ∨ i = pos + 1 ∨ i = pos + 2 ∨ i = pos + 3 ∨ pos + 4 ≤ i := by omega
  unfold Lib.decodeN at hlt
  rcases hc with rfl | rfl | rfl | rfl | hc
  · exact ⟨hpos, h⟩
  all_goals
    repeat' split at hlt
    all_goals first | (exfalso; simp only at hlt; omega) | (constructor <;> omega)
end Go.Proofs.YtkieljleopbhoaaDoor.Lex
