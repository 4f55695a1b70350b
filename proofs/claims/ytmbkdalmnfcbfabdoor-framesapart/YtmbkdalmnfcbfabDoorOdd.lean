/-
  Plain mathematics of a frame's bytes: up to four that stand side by side, among all but the last four, or among these, changed, are no frame's.
-/
import Derived.Test.YtmbkdalmnfcbfabDoorAll
import Derived.Test.YtmbkdalmnfcbfabDoorSpoil
namespace Go.Proofs.YtmbkdalmnfcbfabDoor.Bits
open Crc (xorL pad xorL_length xorL_getD pad_length pad_getD pad_byte xor8 xor8_zero)
theorem xor8_self {a z : Int} (ha : 0 ≤ a ∧ a < 256) (hz : 0 ≤ z ∧ z < 256) (h : bits .xor .u8 a z = a) : z = 0 := by
  obtain ⟨A, rfl⟩ := Int.eq_ofNat_of_zero_le ha.1
  obtain ⟨Z, rfl⟩ := Int.eq_ofNat_of_zero_le hz.1
  rw [u8_xor_nat A Z (by omega) (by omega)] at h
  have h' : A ^^^ Z = A := by omega
  have : A ^^^ (A ^^^ Z) = A ^^^ A := by rw [h']
  rw [← Nat.xor_assoc, Nat.xor_self, Nat.zero_xor] at this
  omega
theorem part_same (B C : List Int) (s k : Nat) (h : ∀ i, s / 8 ≤ i → B.getD i 0 = C.getD i 0) : part B s k = part C s k := by
  unfold part
  refine List.map_congr_left fun i _ => ?_
  unfold bitAt
  rw [h _ (by omega)]
theorem bitAt_byte (B : List Int) (t i : Nat) (hi : i < 8) : bitAt B (8 * t + i) = (B.getD t 0).toNat.testBit (7 - i) := by
  unfold bitAt
  rw [show (8 * t + i) / 8 = t by omega, show (8 * t + i) % 8 = i by omega]
theorem byte_of_bits {B C : List Int} (hB : Byte B) (hC : Byte C) (t : Nat) (h : ∀ i, i < 8 → bitAt B (8 * t + i) = bitAt C (8 * t + i)) : B.getD t 0 = C.getD t 0 := by
  have b1 := byte_getD hB t
  have c1 := byte_getD hC t
  have : (B.getD t 0).toNat = (C.getD t 0).toNat := by
    refine byte_eq (by omega) (by omega) fun i hi => ?_
    have := h (7 - i) (by omega)
    rw [bitAt_byte _ _ _ (by omega), bitAt_byte _ _ _ (by omega), show 7 - (7 - i) = i by omega] at this
    exact this
  omega
theorem val_inj {l m : List Bool} (hl : l.length = m.length) (h : val l = val m) : l = m := by
  rw [← bitsOf_val l, h, hl, bitsOf_val m]
/-- Bytes that are changed. -/
def spoilt (B bt : List Int) (K : Nat) : List Int := xorL B (pad K bt (B.length - K - bt.length))
theorem spoilt_length (B bt : List Int) (K : Nat) (h : K + bt.length ≤ B.length) : (spoilt B bt K).length = B.length := by
  unfold spoilt; rw [xorL_length _ _ (by rw [pad_length]; omega)]
theorem spoilt_getD (B bt : List Int) (K t : Nat) (hB : Byte B) (h : K + bt.length ≤ B.length) (ht : t < B.length) :
    (spoilt B bt K).getD t 0 = if K ≤ t ∧ t < K + bt.length then bits .xor .u8 (B.getD t 0) (bt.getD (t - K) 0) else B.getD t 0 := by
  unfold spoilt
  rw [xorL_getD _ _ t ht (by rw [pad_length]; omega), pad_getD]
  by_cases hc : K ≤ t ∧ t < K + bt.length
  · rw [if_pos hc, if_pos hc]
  · rw [if_neg hc, if_neg hc, xor8_zero _ (byte_getD hB t)]
theorem spoilt_byte (B bt : List Int) (K : Nat) (hB : Byte B) (hb : Byte bt) (h : K + bt.length ≤ B.length) : Byte (spoilt B bt K) := by
  refine byte_of_getD fun i hi => ?_
  rw [spoilt_length B bt K h] at hi
  rw [spoilt_getD B bt K i hB h hi]
  split
  · exact (xor8 _ _ (byte_getD hB i) (byte_getD hb _)).2
  · exact byte_getD hB i
theorem spoilt_none (B bt : List Int) (K : Nat) (hB : Byte B) (h : K + bt.length ≤ B.length) (h0 : ∀ z ∈ bt, z = 0) : spoilt B bt K = B := by
  refine list_eq (spoilt_length B bt K h) fun i hi => ?_
  rw [spoilt_length B bt K h] at hi
  rw [spoilt_getD B bt K i hB h hi]
  split
  · rename_i hc
    have : bt.getD (i - K) 0 = 0 := by
      rw [List.getD_eq_getElem?_getD, List.getElem?_eq_getElem (by omega)]
      exact h0 _ (List.getElem_mem _)
    rw [this, xor8_zero _ (byte_getD hB i)]
  · rfl
theorem getD_mem2 {l : List Int} {z : Int} (h : z ∈ l) : ∃ i, i < l.length ∧ l.getD i 0 = z := by
  obtain ⟨i, hi, e⟩ := List.getElem_of_mem h
  exact ⟨i, hi, by rw [List.getD_eq_getElem?_getD, List.getElem?_eq_getElem hi]; exact e⟩
/-- A frame's bytes, changed, are no frame's. -/
theorem spoilt_bad (st rd mb md : Nat) (P bt : List Int) (K : Nat) (hP : Byte P) (hbt : Byte bt) (h1 : 1 ≤ st) (hs : st ≤ 8) (hr : rd < 2 ^ 32) (hm : mb < 2 ^ 8) (hd' : md < 2 ^ 16) (hn : P.length ≤ 4095)
    (h4 : bt.length ≤ 4) (hK : K + bt.length ≤ 13 + P.length) (hw : 9 + P.length ≤ K ∨ K + bt.length ≤ 9 + P.length) (hg : good (spoilt (bytesOf sumOf st rd mb md P) bt K) (13 + P.length)) : ∀ z ∈ bt, z = 0 := by
  obtain ⟨B, hBe⟩ : ∃ B, bytesOf sumOf st rd mb md P = B := ⟨_, rfl⟩
  have hB : Byte B := by rw [← hBe]; exact bytesOf_byte _ _ _ _ _ _ hP
  have hl : B.length = 13 + P.length := by rw [← hBe]; exact bytesOf_length _ _ _ _ _ _
  have hgB : good B (13 + P.length) := by rw [← hBe]; exact good_bytesOf st rd mb md P hP h1 hs hr hm hd' hn
  rw [hBe] at hg
  clear hBe
  generalize P.length = n at *
  obtain ⟨g1, g2, _⟩ := hg
  obtain ⟨b1, b2, _⟩ := hgB
  have e1 : H5 (spoilt B bt K) 4 = n := by omega
  have e2 : H5 B 4 = n := by omega
  rw [e1] at g2
  rw [e2] at b2
  have hSb := spoilt_byte B bt K hB hbt (by omega)
  have hSl := spoilt_length B bt K (by omega)
  rcases hw with hw | hw
  · have ht : (spoilt B bt K).take (9 + n) = B.take (9 + n) := by
      refine list_eq (by simp; omega) fun i hi => ?_
      have hi' : i < 9 + n := by simp at hi; omega
      rw [take_getD _ _ _ hi', take_getD _ _ _ hi', spoilt_getD B bt K i hB (by omega) (by omega), if_neg (by omega)]
    rw [ht, ← b2] at g2
    have hp := val_inj (by rw [part_length, part_length]) g2
    intro z hz
    obtain ⟨i, hi, rfl⟩ := getD_mem2 hz
    have hbyte : (spoilt B bt K).getD (K + i) 0 = B.getD (K + i) 0 := by
      refine byte_of_bits hSb hB (K + i) fun j hj => ?_
      have h1 := part_getD (spoilt B bt K) (8 * (9 + n)) 32 (8 * (K + i - (9 + n)) + j) (by omega)
      have h2 := part_getD B (8 * (9 + n)) 32 (8 * (K + i - (9 + n)) + j) (by omega)
      rw [hp, h2, show 8 * (9 + n) + (8 * (K + i - (9 + n)) + j) = 8 * (K + i) + j by omega] at h1
      exact h1.symm
    rw [spoilt_getD B bt K (K + i) hB (by omega) (by omega), if_pos (by omega), show K + i - K = i by omega] at hbyte
    exact xor8_self (byte_getD hB _) (byte_getD hbt _) hbyte
  · have hp : part (spoilt B bt K) (8 * (9 + n)) 32 = part B (8 * (9 + n)) 32 := by
      refine part_same _ _ _ _ fun i hi => ?_
      by_cases hil : i < B.length
      · rw [spoilt_getD B bt K i hB (by omega) hil, if_neg (by omega)]
      · rw [List.getD_eq_getElem?_getD, List.getD_eq_getElem?_getD, List.getElem?_eq_none (by omega), List.getElem?_eq_none (by omega)]
    rw [hp, b2] at g2
    have ht : (spoilt B bt K).take (9 + n) = xorL (B.take (9 + n)) (pad K bt ((9 + n) - K - bt.length)) := by
      refine list_eq ?_ fun i hi => ?_
      · rw [xorL_length _ _ (by rw [pad_length]; simp; omega)]; simp; omega
      · have hi' : i < 9 + n := by simp at hi; omega
        rw [take_getD _ _ _ hi', spoilt_getD B bt K i hB (by omega) (by omega), xorL_getD _ _ i (by simp; omega) (by rw [pad_length]; omega), pad_getD, take_getD _ _ _ hi']
        by_cases hc : K ≤ i ∧ i < K + bt.length
        · rw [if_pos hc, if_pos hc]
        · rw [if_neg hc, if_neg hc, xor8_zero _ (byte_getD hB i)]
    rw [ht] at g2
    unfold sumOf at g2
    exact (Crc.spoil (l := B.take (9 + n)) (bt := bt) (K := K) (R := (9 + n) - K - bt.length) (by simp; omega) (fun z hz => hB z (List.mem_of_mem_take hz)) hbt h4).1 (BitVec.eq_of_toNat_eq g2.symm)
end Go.Proofs.YtmbkdalmnfcbfabDoor.Bits
