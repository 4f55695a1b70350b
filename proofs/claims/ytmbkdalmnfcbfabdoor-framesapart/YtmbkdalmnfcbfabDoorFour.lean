/-
  Plain mathematics of the CRC-32 sum, more: four bytes side by side; a sum behind which its own bytes stand; bytes that are changed.
-/
import Derived.Test.YtmbkdalmnfcbfabDoorMath
namespace Go.Proofs.YtmbkdalmnfcbfabDoor.Crc
/-! ### Four bytes side by side -/
theorem byte_bv (z : Int) (h0 : 0 ≤ z) (h1 : z < 256) : (BitVec.ofInt 32 z).toNat < 256 := by rw [BitVec.toNat_ofInt]; omega
theorem run4 (x : BitVec 32) (a b c d : Int) (hb : 0 ≤ b ∧ b < 256) (hc : 0 ≤ c ∧ c < 256) (hd : 0 ≤ d ∧ d < 256) :
    run x [a, b, c, d] = off 32 (x ^^^ BitVec.ofInt 32 a ^^^ BitVec.ofInt 32 b <<< 8 ^^^ BitVec.ofInt 32 c <<< 16 ^^^ BitVec.ofInt 32 d <<< 24) := by
  have eb := off_shl 8 (BitVec.ofInt 32 b) (by omega) (by have := byte_bv b hb.1 hb.2; omega)
  have ec := off_shl 16 (BitVec.ofInt 32 c) (by omega) (by have := byte_bv c hc.1 hc.2; omega)
  have ed := off_shl 24 (BitVec.ofInt 32 d) (by omega) (by have := byte_bv d hd.1 hd.2; omega)
  show off 8 (off 8 (off 8 (off 8 (x ^^^ BitVec.ofInt 32 a) ^^^ BitVec.ofInt 32 b) ^^^ BitVec.ofInt 32 c) ^^^ BitVec.ofInt 32 d) = _
  conv => lhs; rw [← eb, ← off_xor, ← off_add, ← ec, ← off_xor, ← off_add, ← ed, ← off_xor, ← off_add]
theorem mask_bit (X : BitVec 32) (k i : Nat) (hi : i < 32) : (((X >>> k) &&& 255#32) <<< k).getLsbD i = (decide (k ≤ i) && decide (i < k + 8) && X.getLsbD i) := by
  rw [BitVec.getLsbD_shiftLeft, BitVec.getLsbD_and, BitVec.getLsbD_ushiftRight]
  by_cases h : k ≤ i
  · have e : k + (i - k) = i := by omega
    have h255 : (255#32).getLsbD (i - k) = decide (i - k < 8) := by
      rw [BitVec.getLsbD_ofNat, show (255 : Nat) = 2 ^ 8 - 1 from rfl, Nat.testBit_two_pow_sub_one]
      by_cases h8 : i - k < 8
      · simp [h8]; omega
      · simp [h8]
    rw [e, h255]
    by_cases h8 : i < k + 8
    · simp [h, h8, hi, show i - k < 8 by omega, show ¬ i < k by omega]
    · simp [h, h8, show ¬ i - k < 8 by omega]
  · simp [h, show i < k by omega]
theorem four (X : BitVec 32) : ((X >>> 0) &&& 255#32) <<< 0 ^^^ ((X >>> 8) &&& 255#32) <<< 8 ^^^ ((X >>> 16) &&& 255#32) <<< 16 ^^^ ((X >>> 24) &&& 255#32) <<< 24 = X := by
  apply BitVec.eq_of_getLsbD_eq
  intro i hi
  simp only [BitVec.getLsbD_xor, mask_bit _ _ _ hi]
  by_cases h1 : i < 8
  · simp [h1, show ¬ 8 ≤ i by omega, show ¬ 16 ≤ i by omega, show ¬ 24 ≤ i by omega]
  · by_cases h2 : i < 16
    · simp [h1, h2, show 8 ≤ i by omega, show ¬ 16 ≤ i by omega, show ¬ 24 ≤ i by omega]
    · by_cases h3 : i < 24
      · simp [h1, h2, h3, show 16 ≤ i by omega, show ¬ 24 ≤ i by omega]
      · simp [h1, h2, h3, show 24 ≤ i by omega, show i < 32 by omega]
theorem mask_int (X : BitVec 32) (k : Nat) : BitVec.ofInt 32 ((X.toNat : Int) / ((2 ^ k : Nat) : Int) % 256) = (X >>> k) &&& 255#32 := by
  apply BitVec.eq_of_toNat_eq
  rw [BitVec.toNat_and, BitVec.toNat_ushiftRight, Nat.shiftRight_eq_div_pow, show (255#32).toNat = 2 ^ 8 - 1 from rfl, Nat.and_two_pow_sub_one_eq_mod]
  have e : (X.toNat : Int) / ((2 ^ k : Nat) : Int) % 256 = ((X.toNat / 2 ^ k % 256 : Nat) : Int) := by simp
  rw [e, BitVec.ofInt_natCast, BitVec.toNat_ofNat]
  have : X.toNat / 2 ^ k % 256 < 256 := Nat.mod_lt _ (by decide)
  omega
/-- A sum behind which its own four bytes stand. -/
theorem behind (X : BitVec 32) : more X [(X.toNat : Int) % 256, (X.toNat : Int) / 256 % 256, (X.toNat : Int) / 65536 % 256, (X.toNat : Int) / 16777216 % 256] = 558161692#32 := by
  have h0 : BitVec.ofInt 32 ((X.toNat : Int) % 256) = ((X >>> 0) &&& 255#32) <<< 0 := by
    have h := mask_int X 0
    rw [show (X.toNat : Int) / ((2 ^ 0 : Nat) : Int) = (X.toNat : Int) from Int.ediv_one _] at h
    rw [h, BitVec.shiftLeft_zero]
  have h1 : BitVec.ofInt 32 ((X.toNat : Int) / 256 % 256) = (X >>> 8) &&& 255#32 := mask_int X 8
  have h2 : BitVec.ofInt 32 ((X.toNat : Int) / 65536 % 256) = (X >>> 16) &&& 255#32 := mask_int X 16
  have h3 : BitVec.ofInt 32 ((X.toNat : Int) / 16777216 % 256) = (X >>> 24) &&& 255#32 := mask_int X 24
  unfold more
  rw [run4 _ _ _ _ _ ⟨by omega, by omega⟩ ⟨by omega, by omega⟩ ⟨by omega, by omega⟩, h0, h1, h2, h3, BitVec.xor_assoc, BitVec.xor_assoc, BitVec.xor_assoc, ← BitVec.xor_assoc (((X >>> 8) &&& 255#32) <<< 8), ← BitVec.xor_assoc (((X >>> 0) &&& 255#32) <<< 0), ← BitVec.xor_assoc (((X >>> 0) &&& 255#32) <<< 0), four]
  have e : ~~~ X ^^^ X = BitVec.allOnes 32 := by rw [← BitVec.not_xor_left, BitVec.xor_self]; decide
  rw [e]
  decide +kernel

/-! ### Bytes that are changed -/
theorem small_bit (Z : BitVec 32) (h : Z.toNat < 256) (j : Nat) (hj : 8 ≤ j) : Z.getLsbD j = false := by
  show Nat.testBit Z.toNat j = false
  exact Nat.testBit_lt_two_pow (Nat.lt_of_lt_of_le h (by rw [show (256 : Nat) = 2 ^ 8 from rfl]; exact Nat.pow_le_pow_right (by decide) hj))
theorem zero_of_low (Z : BitVec 32) (h : Z.toNat < 256) (hz : ∀ j, j < 8 → Z.getLsbD j = false) : Z = 0#32 := by
  apply BitVec.eq_of_getLsbD_eq
  intro i _
  rw [BitVec.getLsbD_zero]
  by_cases h8 : i < 8
  · exact hz i h8
  · exact small_bit Z h i (by omega)
theorem word_zero (A B C D : BitVec 32) (ha : A.toNat < 256) (hb : B.toNat < 256) (hc : C.toNat < 256) (hd : D.toNat < 256) (h : A ^^^ B <<< 8 ^^^ C <<< 16 ^^^ D <<< 24 = 0#32) :
    A = 0#32 ∧ B = 0#32 ∧ C = 0#32 ∧ D = 0#32 := by
  have hbit : ∀ i, i < 32 → (A.getLsbD i ^^ (decide (8 ≤ i) && B.getLsbD (i - 8)) ^^ (decide (16 ≤ i) && C.getLsbD (i - 16)) ^^ (decide (24 ≤ i) && D.getLsbD (i - 24))) = false := by
    intro i hi
    have e := congrArg (fun v => BitVec.getLsbD v i) h
    simp only [BitVec.getLsbD_xor, BitVec.getLsbD_shiftLeft, BitVec.getLsbD_zero] at e
    have f : ∀ k, (decide (i < 32) && !decide (i < k)) = decide (k ≤ i) := by
      intro k
      by_cases hk : k ≤ i
      · simp [hk, hi, show ¬ i < k by omega]
      · simp [hk, show i < k by omega]
    simpa only [f] using e
  refine ⟨zero_of_low A ha fun j hj => ?_, zero_of_low B hb fun j hj => ?_, zero_of_low C hc fun j hj => ?_, zero_of_low D hd fun j hj => ?_⟩
  · have := hbit j (by omega)
    simpa [show ¬ 8 ≤ j by omega, show ¬ 16 ≤ j by omega, show ¬ 24 ≤ j by omega] using this
  · have := hbit (8 + j) (by omega)
    simpa [small_bit A ha (8 + j) (by omega), show ¬ 16 ≤ 8 + j by omega, show ¬ 24 ≤ 8 + j by omega] using this
  · have := hbit (16 + j) (by omega)
    simpa [small_bit A ha (16 + j) (by omega), small_bit B hb (16 + j - 8) (by omega), show 8 ≤ 16 + j by omega, show ¬ 24 ≤ 16 + j by omega] using this
  · have := hbit (24 + j) (by omega)
    simpa [small_bit A ha (24 + j) (by omega), small_bit B hb (24 + j - 8) (by omega), small_bit C hc (24 + j - 16) (by omega), show 8 ≤ 24 + j by omega, show 16 ≤ 24 + j by omega] using this
theorem ofInt_zero {z : Int} (h0 : 0 ≤ z) (h1 : z < 256) (h : BitVec.ofInt 32 z = 0#32) : z = 0 := by
  have := congrArg BitVec.toNat h
  rw [BitVec.toNat_ofInt] at this
  simp at this
  omega
/-- Of four bytes behind nothing the rest is nought only if they are. -/
theorem run4_zero {a b c d : Int} (ha : 0 ≤ a ∧ a < 256) (hb : 0 ≤ b ∧ b < 256) (hc : 0 ≤ c ∧ c < 256) (hd : 0 ≤ d ∧ d < 256) (h : run 0#32 [a, b, c, d] = 0#32) : a = 0 ∧ b = 0 ∧ c = 0 ∧ d = 0 := by
  rw [run4 _ _ _ _ _ hb hc hd, BitVec.zero_xor] at h
  obtain ⟨h1, h2, h3, h4⟩ := word_zero _ _ _ _ (byte_bv a ha.1 ha.2) (byte_bv b hb.1 hb.2) (byte_bv c hc.1 hc.2) (byte_bv d hd.1 hd.2) (off_eq_zero h)
  exact ⟨ofInt_zero ha.1 ha.2 h1, ofInt_zero hb.1 hb.2 h2, ofInt_zero hc.1 hc.2 h3, ofInt_zero hd.1 hd.2 h4⟩
/-- Bytes of nought behind: the rest is nought only if it was. -/
theorem run_zeros (x : BitVec 32) (n : Nat) : run x (List.replicate n 0) = 0#32 ↔ x = 0#32 := by
  induction n generalizing x with
  | zero => exact Iff.rfl
  | succ n ih =>
    rw [List.replicate_succ, run_cons, ih]
    constructor
    · intro h
      have := off_eq_zero h
      simpa using this
    · intro h; subst h
      have : (0#32 ^^^ BitVec.ofInt 32 0) = 0#32 := by decide
      rw [upd, this, off_zero]
end Go.Proofs.YtmbkdalmnfcbfabDoor.Crc
