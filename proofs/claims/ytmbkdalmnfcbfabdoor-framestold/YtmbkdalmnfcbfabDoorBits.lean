/-
  Numbers as rows of bits, the first one highest; rows of bits as bytes. Plain mathematics, no word of Go.
-/
namespace Go.Proofs.YtmbkdalmnfcbfabDoor.Bits
/-- The number that a row of bits tells, the first one being the highest. -/
def val (l : List Bool) : Nat := l.foldl (fun n b => 2 * n + b.toNat) 0
/-- So many lowest bits of a number, the highest first. -/
def bitsOf (n k : Nat) : List Bool := (List.range k).map fun i => n.testBit (k - 1 - i)
/-- Byte number j of a row of bits, with noughts behind. -/
def byteAt (L : List Bool) (j : Nat) : Nat := val ((List.range 8).map fun i => L.getD (8 * j + i) false)
/-- A row of bits as bytes. -/
def pack (L : List Bool) : List Int := (List.range ((L.length + 7) / 8)).map fun j => (byteAt L j : Int)
/-- Bit number i of bytes. -/
def bitAt (B : List Int) (i : Nat) : Bool := (B.getD (i / 8) 0).toNat.testBit (7 - i % 8)
/-- So many bits of bytes, from one of them on. -/
def part (B : List Int) (s k : Nat) : List Bool := (List.range k).map fun i => bitAt B (s + i)

theorem snocInd {P : List Bool → Prop} (h0 : P []) (h1 : ∀ l b, P l → P (l ++ [b])) (l : List Bool) : P l := by
  have h : ∀ m : List Bool, P m.reverse := by
    intro m
    induction m with
    | nil => exact h0
    | cons b m ih => rw [List.reverse_cons]; exact h1 _ _ ih
  have := h l.reverse
  rwa [List.reverse_reverse] at this
theorem val_snoc (l : List Bool) (b : Bool) : val (l ++ [b]) = 2 * val l + b.toNat := by simp [val]
theorem val_lt (l : List Bool) : val l < 2 ^ l.length := by
  induction l using snocInd with
  | h0 => simp [val]
  | h1 l b ih =>
    rw [val_snoc, List.length_append, List.length_singleton, Nat.pow_succ]
    cases b <;> simp <;> omega
theorem testBit_val (l : List Bool) (i : Nat) (h : i < l.length) : (val l).testBit i = l.getD (l.length - 1 - i) false := by
  induction l using snocInd generalizing i with
  | h0 => simp at h
  | h1 l b ih =>
    rw [val_snoc]
    simp only [List.length_append, List.length_singleton] at h ⊢
    cases i with
    | zero =>
      rw [Nat.testBit_zero]
      cases b <;> simp [List.getD] <;> omega
    | succ i =>
      rw [Nat.testBit_succ, show (2 * val l + b.toNat) / 2 = val l by cases b <;> simp <;> omega, ih i (by omega)]
      rw [List.getD_eq_getElem?_getD, List.getD_eq_getElem?_getD, List.getElem?_append_left (by omega)]
      congr 2
      omega
theorem testBit_val_ge (l : List Bool) (i : Nat) (h : l.length ≤ i) : (val l).testBit i = false :=
  Nat.testBit_lt_two_pow (Nat.lt_of_lt_of_le (val_lt l) (Nat.pow_le_pow_right (by decide) h))
theorem bitsOf_length (n k : Nat) : (bitsOf n k).length = k := by simp [bitsOf]
theorem bitsOf_getD (n k i : Nat) (h : i < k) : (bitsOf n k).getD i false = n.testBit (k - 1 - i) := by simp [bitsOf, h]
theorem val_bitsOf (n k : Nat) : val (bitsOf n k) = n % 2 ^ k := by
  apply Nat.eq_of_testBit_eq
  intro i
  rw [Nat.testBit_mod_two_pow]
  by_cases h : i < k
  · rw [testBit_val _ _ (by rw [bitsOf_length]; exact h), bitsOf_length, bitsOf_getD _ _ _ (by omega)]
    simp [h]
    congr 1
    omega
  · rw [testBit_val_ge _ _ (by rw [bitsOf_length]; omega)]
    simp [h]
theorem val_append (l m : List Bool) : val (l ++ m) = val l * 2 ^ m.length + val m := by
  induction m using snocInd with
  | h0 => simp [val]
  | h1 m b ih =>
    rw [← List.append_assoc, val_snoc, ih, val_snoc, List.length_append, List.length_singleton, Nat.pow_succ]
    rw [Nat.mul_add, ← Nat.mul_assoc, ← Nat.mul_assoc, Nat.mul_comm 2 (val l), Nat.mul_assoc (val l) 2, Nat.mul_comm 2, ← Nat.mul_assoc]
    omega
theorem byteAt_lt (L : List Bool) (j : Nat) : byteAt L j < 256 := by
  have := val_lt ((List.range 8).map fun i => L.getD (8 * j + i) false)
  rw [List.length_map, List.length_range] at this
  exact this
theorem testBit_byteAt (L : List Bool) (j i : Nat) (h : i < 8) : (byteAt L j).testBit i = L.getD (8 * j + (7 - i)) false := by
  rw [byteAt, testBit_val _ _ (by rw [List.length_map, List.length_range]; exact h), List.length_map, List.length_range, List.getD_eq_getElem?_getD, List.getElem?_map, List.getElem?_range (by omega)]
  rfl
theorem testBit_byteAt_ge (L : List Bool) (j i : Nat) (h : 8 ≤ i) : (byteAt L j).testBit i = false :=
  Nat.testBit_lt_two_pow (Nat.lt_of_lt_of_le (byteAt_lt L j) (show 2 ^ 8 ≤ 2 ^ i from Nat.pow_le_pow_right (by decide) h))
theorem pack_length (L : List Bool) : (pack L).length = (L.length + 7) / 8 := by simp [pack]
theorem pack_getD (L : List Bool) (j : Nat) (h : j < (L.length + 7) / 8) : (pack L).getD j 0 = (byteAt L j : Int) := by simp [pack, h]
theorem bitAt_pack (L : List Bool) (i : Nat) : bitAt (pack L) i = L.getD i false := by
  by_cases h : i / 8 < (L.length + 7) / 8
  · rw [bitAt, pack_getD _ _ h, Int.toNat_natCast, testBit_byteAt _ _ _ (by omega)]
    congr 1
    omega
  · have h1 : (pack L).getD (i / 8) 0 = 0 := by
      rw [List.getD_eq_getElem?_getD, List.getElem?_eq_none (by rw [pack_length]; omega)]; rfl
    have h2 : L.getD i false = false := by
      rw [List.getD_eq_getElem?_getD, List.getElem?_eq_none (by omega)]; rfl
    rw [bitAt, h1, h2]
    simp
/-- The row of bytes that has room for one bit more. -/
theorem room_pack (L : List Bool) : (if L.length % 8 = 0 then pack L ++ [0] else pack L) = (List.range (L.length / 8 + 1)).map fun j => (byteAt L j : Int) := by
  split
  · rename_i h
    rw [List.range_succ, List.map_append, pack, show (L.length + 7) / 8 = L.length / 8 by omega]
    congr 1
    have : byteAt L (L.length / 8) = 0 := by
      apply Nat.eq_of_testBit_eq
      intro i
      by_cases hi : i < 8
      · rw [testBit_byteAt _ _ _ hi, List.getD_eq_getElem?_getD, List.getElem?_eq_none (by omega)]
        simp
      · rw [testBit_byteAt_ge _ _ _ (by omega)]
        simp
    simp [this]
  · rename_i h
    rw [pack, show (L.length + 7) / 8 = L.length / 8 + 1 by omega]
theorem byteAt_before (L : List Bool) (b : Bool) (j : Nat) (h : j < L.length / 8) : byteAt (L ++ [b]) j = byteAt L j := by
  apply Nat.eq_of_testBit_eq
  intro i
  by_cases hi : i < 8
  · rw [testBit_byteAt _ _ _ hi, testBit_byteAt _ _ _ hi, List.getD_eq_getElem?_getD, List.getD_eq_getElem?_getD, List.getElem?_append_left (by omega)]
  · rw [testBit_byteAt_ge _ _ _ (by omega), testBit_byteAt_ge _ _ _ (by omega)]
theorem testBit_bool (b : Bool) (i : Nat) : (b.toNat).testBit i = (decide (i = 0) && b) := by
  cases b
  · simp
  · cases i with
    | zero => simp
    | succ i => rw [Bool.toNat_true, Nat.testBit_succ]; simp
theorem byteAt_last (L : List Bool) (b : Bool) : byteAt (L ++ [b]) (L.length / 8) = byteAt L (L.length / 8) ||| (b.toNat * 2 ^ (7 - L.length % 8)) := by
  rw [← Nat.shiftLeft_eq]
  apply Nat.eq_of_testBit_eq
  intro i
  rw [Nat.testBit_or, Nat.testBit_shiftLeft, testBit_bool]
  by_cases hi : i < 8
  · rw [testBit_byteAt _ _ _ hi, testBit_byteAt _ _ _ hi, List.getD_eq_getElem?_getD, List.getD_eq_getElem?_getD]
    by_cases he : 8 * (L.length / 8) + (7 - i) = L.length
    · rw [he, List.getElem?_append_right (Nat.le_refl _), List.getElem?_eq_none (Nat.le_refl _)]
      simp
      rw [show (decide (7 ≤ i + L.length % 8)) = true by simp; omega, show (decide (i - (7 - L.length % 8) = 0)) = true by simp; omega]
      simp
    · by_cases hl : 8 * (L.length / 8) + (7 - i) < L.length
      · rw [List.getElem?_append_left hl, show (decide (i - (7 - L.length % 8) = 0)) = false by simp; omega]
        simp
      · rw [List.getElem?_eq_none (by simp; omega), List.getElem?_eq_none (by omega), show (decide (i ≥ 7 - L.length % 8)) = false by simp; omega]
        simp
  · rw [testBit_byteAt_ge _ _ _ (by omega), testBit_byteAt_ge _ _ _ (by omega)]
    have : decide (i - (7 - L.length % 8) = 0) = false := by simp; omega
    rw [this]
    simp
/-- One bit more. -/
theorem pack_snoc (L : List Bool) (b : Bool) :
    (if L.length % 8 = 0 then pack L ++ [0] else pack L).set (L.length / 8) ((byteAt L (L.length / 8) ||| (b.toNat * 2 ^ (7 - L.length % 8)) : Nat) : Int) = pack (L ++ [b]) := by
  rw [room_pack, ← byteAt_last]
  apply List.ext_getElem
  · simp [pack_length]
    omega
  · intro i h1 h2
    rw [List.getElem_set]
    simp only [List.length_set, List.length_map, List.length_range] at h1
    split
    · rename_i h
      subst h
      simp [pack]
    · rename_i h
      simp [pack]
      rw [byteAt_before _ _ _ (by omega)]
theorem room_getD (L : List Bool) : (if L.length % 8 = 0 then pack L ++ [0] else pack L).getD (L.length / 8) 0 = (byteAt L (L.length / 8) : Int) := by
  rw [room_pack]
  simp
theorem room_length (L : List Bool) : (if L.length % 8 = 0 then pack L ++ [0] else pack L).length = L.length / 8 + 1 := by
  rw [room_pack]
  simp
theorem part_length (B : List Int) (s k : Nat) : (part B s k).length = k := by simp [part]
theorem part_succ (B : List Int) (s k : Nat) : part B s (k + 1) = part B s k ++ [bitAt B (s + k)] := by simp [part, List.range_succ]
theorem part_add (B : List Int) (s k m : Nat) : part B s (k + m) = part B s k ++ part B (s + k) m := by
  induction m with
  | zero => simp [part]
  | succ m ih => rw [← Nat.add_assoc, part_succ, ih, part_succ, List.append_assoc, Nat.add_assoc]
theorem part_pack (p l q : List Bool) : part (pack (p ++ l ++ q)) p.length l.length = l := by
  apply List.ext_getElem
  · rw [part_length]
  · intro i h1 h2
    simp only [part, List.getElem_map, List.getElem_range, bitAt_pack, List.append_assoc]
    rw [List.getD_eq_getElem?_getD, List.getElem?_append_right (by omega), show p.length + i - p.length = i by omega, List.getElem?_append_left (by omega), List.getElem?_eq_getElem h2]
    rfl
end Go.Proofs.YtmbkdalmnfcbfabDoor.Bits
