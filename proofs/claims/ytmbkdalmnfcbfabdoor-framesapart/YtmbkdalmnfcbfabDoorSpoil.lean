/-
  Plain mathematics of the CRC-32 sum: up to four bytes side by side that are changed change the sum.
-/
import Derived.Test.YtmbkdalmnfcbfabDoorAlike
namespace Go.Proofs.YtmbkdalmnfcbfabDoor.Crc
/-! ### Up to four bytes side by side that are changed -/
theorem run_zero (n : Nat) : run 0#32 (List.replicate n 0) = 0#32 := (run_zeros 0#32 n).2 rfl
theorem run_short {l : List Int} (h4 : l.length ≤ 4) (hb : Byte l) : run 0#32 l = 0#32 ↔ ∀ z ∈ l, z = 0 := by
  constructor
  · intro h
    have h2 : run 0#32 (l ++ List.replicate (4 - l.length) 0) = 0#32 := by rw [run_append, h, run_zero]
    have z0 : (0 : Int) ≤ 0 ∧ (0 : Int) < 256 := by decide
    match l, h4, hb, h2 with
    | [], _, _, _ => intro z hz; cases hz
    | [a], _, hb, h2 =>
      have := run4_zero (hb a (by simp)) z0 z0 z0 h2
      intro z hz; simp at hz; omega
    | [a, b], _, hb, h2 =>
      have := run4_zero (hb a (by simp)) (hb b (by simp)) z0 z0 h2
      intro z hz; simp at hz; omega
    | [a, b, c], _, hb, h2 =>
      have := run4_zero (hb a (by simp)) (hb b (by simp)) (hb c (by simp)) z0 h2
      intro z hz; simp at hz; omega
    | [a, b, c, d], _, hb, h2 =>
      have := run4_zero (hb a (by simp)) (hb b (by simp)) (hb c (by simp)) (hb d (by simp)) h2
      intro z hz; simp at hz; omega
    | a :: b :: c :: d :: e :: r, h4, _, _ => simp at h4
  · intro h
    have e : l = List.replicate l.length 0 := List.eq_replicate_iff.2 ⟨rfl, h⟩
    rw [e]; exact run_zero _
/-- Noughts ahead of the change and behind it. -/
def pad (K : Nat) (bt : List Int) (R : Nat) : List Int := List.replicate K 0 ++ (bt ++ List.replicate R 0)
theorem pad_length (K : Nat) (bt : List Int) (R : Nat) : (pad K bt R).length = K + bt.length + R := by simp [pad]; omega
theorem pad_byte {K : Nat} {bt : List Int} {R : Nat} (h : Byte bt) : Byte (pad K bt R) := by
  intro z hz
  simp only [pad, List.mem_append, List.mem_replicate] at hz
  rcases hz with ⟨_, rfl⟩ | hz | ⟨_, rfl⟩
  · decide
  · exact h z hz
  · decide
theorem pad_getD (K : Nat) (bt : List Int) (R t : Nat) : (pad K bt R).getD t 0 = if K ≤ t ∧ t < K + bt.length then bt.getD (t - K) 0 else 0 := by
  unfold pad
  by_cases h1 : t < K
  · rw [if_neg (by omega)]
    simp [List.getD, List.getElem?_append_left, h1]
  · by_cases h2 : t < K + bt.length
    · rw [if_pos ⟨by omega, h2⟩]
      simp only [List.getD]
      rw [List.getElem?_append_right (by simp; omega), List.length_replicate, List.getElem?_append_left (by omega)]
    · rw [if_neg (by omega)]
      simp only [List.getD]
      rw [List.getElem?_append_right (by simp; omega), List.length_replicate, List.getElem?_append_right (by omega), List.getElem?_replicate]
      split <;> rfl
theorem spoil {l bt : List Int} {K R : Nat} (hl : l.length = K + bt.length + R) (hb : Byte l) (hbt : Byte bt) (h4 : bt.length ≤ 4) :
    more 0#32 (xorL l (pad K bt R)) = more 0#32 l ↔ ∀ z ∈ bt, z = 0 := by
  have e := more_xor l (pad K bt R) (by rw [pad_length, hl]) hb (pad_byte hbt)
  have hr : run 0#32 (pad K bt R) = 0#32 ↔ ∀ z ∈ bt, z = 0 := by
    unfold pad
    rw [run_append, run_zero, run_append, run_zeros, run_short h4 hbt]
  rw [← hr, ← e]
  constructor
  · intro h; rw [h, BitVec.xor_self]
  · intro h; exact (eq_of_xor h).symm
theorem xor8_zero (a : Int) (ha : 0 ≤ a ∧ a < 256) : bits .xor .u8 a 0 = a := by
  obtain ⟨A, rfl⟩ := Int.eq_ofNat_of_zero_le ha.1
  have := u8_xor_nat A 0 (by omega) (by omega)
  simpa using this
end Go.Proofs.YtmbkdalmnfcbfabDoor.Crc
