/-
  Frames as rows of bits and as bytes, and back. Plain mathematics, no word of Go.
-/
import Derived.Test.YtmbkdalmnfcbfabDoorBits
namespace Go.Proofs.YtmbkdalmnfcbfabDoor.Bits
theorem snoc_getD (l : List Bool) (b : Bool) (i : Nat) (h : i < l.length) : (l ++ [b]).getD i false = l.getD i false := by
  rw [List.getD_eq_getElem?_getD, List.getD_eq_getElem?_getD, List.getElem?_append_left h]
def Byte (l : List Int) : Prop := ∀ z ∈ l, 0 ≤ z ∧ z < 256
theorem byte_getD {l : List Int} (h : Byte l) (i : Nat) : 0 ≤ l.getD i 0 ∧ l.getD i 0 < 256 := by
  by_cases hi : i < l.length
  · have := h (l[i]) (List.getElem_mem hi)
    simpa [List.getD, hi] using this
  · rw [List.getD_eq_getElem?_getD, List.getElem?_eq_none (by omega)]; decide
theorem byte_of_getD {l : List Int} (h : ∀ i, i < l.length → 0 ≤ l.getD i 0 ∧ l.getD i 0 < 256) : Byte l := by
  intro z hz
  obtain ⟨i, hi, rfl⟩ := List.getElem_of_mem hz
  have := h i hi
  simpa [List.getD, hi] using this
theorem byte_eq {x y : Nat} (hx : x < 256) (hy : y < 256) (h : ∀ i, i < 8 → x.testBit i = y.testBit i) : x = y := by
  apply Nat.eq_of_testBit_eq
  intro i
  by_cases hi : i < 8
  · exact h i hi
  · rw [Nat.testBit_lt_two_pow (Nat.lt_of_lt_of_le hx (show 2 ^ 8 ≤ 2 ^ i from Nat.pow_le_pow_right (by decide) (by omega))), Nat.testBit_lt_two_pow (Nat.lt_of_lt_of_le hy (show 2 ^ 8 ≤ 2 ^ i from Nat.pow_le_pow_right (by decide) (by omega)))]
theorem list_eq {a b : List Int} (hl : a.length = b.length) (h : ∀ i, i < a.length → a.getD i 0 = b.getD i 0) : a = b := by
  apply List.ext_getElem hl
  intro i h1 h2
  have := h i h1
  simpa [List.getD, h1, h2] using this
theorem blist_eq {a b : List Bool} (hl : a.length = b.length) (h : ∀ i, i < a.length → a.getD i false = b.getD i false) : a = b := by
  apply List.ext_getElem hl
  intro i h1 h2
  have := h i h1
  simpa [List.getD, h1, h2] using this
theorem part_getD (B : List Int) (s k i : Nat) (h : i < k) : (part B s k).getD i false = bitAt B (s + i) := by simp [part, h]
theorem append_getD (l m : List Bool) (i : Nat) : (l ++ m).getD i false = if i < l.length then l.getD i false else m.getD (i - l.length) false := by
  rw [List.getD_eq_getElem?_getD]
  split
  · rename_i h; rw [List.getElem?_append_left h, List.getD_eq_getElem?_getD]
  · rename_i h; rw [List.getElem?_append_right (by omega), List.getD_eq_getElem?_getD]
theorem iappend_getD (l m : List Int) (i : Nat) : (l ++ m).getD i 0 = if i < l.length then l.getD i 0 else m.getD (i - l.length) 0 := by
  rw [List.getD_eq_getElem?_getD]
  split
  · rename_i h; rw [List.getElem?_append_left h, List.getD_eq_getElem?_getD]
  · rename_i h; rw [List.getElem?_append_right (by omega), List.getD_eq_getElem?_getD]
/-- All the bits of bytes. -/
def full (B : List Int) : List Bool := part B 0 (8 * B.length)
theorem full_length (B : List Int) : (full B).length = 8 * B.length := part_length _ _ _
theorem pack_full (B : List Int) (h : Byte B) : pack (full B) = B := by
  refine list_eq (by rw [pack_length, full_length]; omega) fun i hi => ?_
  rw [pack_length, full_length] at hi
  rw [pack_getD _ _ (by rw [full_length]; omega)]
  have hb := byte_getD h i
  have e : byteAt (full B) i = (B.getD i 0).toNat := by
    refine byte_eq (byteAt_lt _ _) (by omega) fun j hj => ?_
    rw [testBit_byteAt _ _ _ hj, full, part_getD _ _ _ _ (by omega), bitAt]
    congr 1
    · congr 2; omega
    · omega
  omega
theorem pack_append (L M : List Bool) (h : L.length % 8 = 0) : pack (L ++ M) = pack L ++ pack M := by
  refine list_eq (by rw [List.length_append, pack_length, pack_length, pack_length, List.length_append]; omega) fun i hi => ?_
  rw [pack_length, List.length_append] at hi
  rw [pack_getD _ _ (by rw [List.length_append]; exact hi), iappend_getD, pack_length]
  split
  · rename_i hl
    rw [pack_getD _ _ hl]
    congr 1
    refine byte_eq (byteAt_lt _ _) (byteAt_lt _ _) fun j hj => ?_
    rw [testBit_byteAt _ _ _ hj, testBit_byteAt _ _ _ hj, append_getD, if_pos (by omega)]
  · rename_i hl
    rw [pack_getD _ _ (by omega)]
    congr 1
    refine byte_eq (byteAt_lt _ _) (byteAt_lt _ _) fun j hj => ?_
    rw [testBit_byteAt _ _ _ hj, testBit_byteAt _ _ _ hj, append_getD, if_neg (by omega)]
    congr 1
    omega
theorem bitsOf_val (l : List Bool) : bitsOf (val l) l.length = l := by
  refine blist_eq (bitsOf_length _ _) fun i hi => ?_
  rw [bitsOf_length] at hi
  rw [bitsOf_getD _ _ _ hi, testBit_val _ _ (by omega)]
  congr 1
  omega
theorem bitsOf_val' (l : List Bool) (k : Nat) (h : l.length = k) : bitsOf (val l) k = l := by subst h; exact bitsOf_val l
theorem bitsOf_mod (n k : Nat) : bitsOf (n % 2 ^ k) k = bitsOf n k := by
  have := bitsOf_val' (bitsOf n k) k (bitsOf_length _ _)
  rwa [val_bitsOf] at this
theorem part_congr (B C : List Int) (s k : Nat) (h : ∀ i, i < (s + k + 7) / 8 → B.getD i 0 = C.getD i 0) : part B s k = part C s k := by
  refine blist_eq (by rw [part_length, part_length]) fun i hi => ?_
  rw [part_length] at hi
  rw [part_getD _ _ _ _ hi, part_getD _ _ _ _ hi, bitAt, bitAt, h _ (by omega)]
theorem part_full (B : List Int) (s k : Nat) (hs : s % 8 = 0) : part B s k = part (B.drop (s / 8)) 0 k := by
  refine blist_eq (by rw [part_length, part_length]) fun i hi => ?_
  rw [part_length] at hi
  rw [part_getD _ _ _ _ hi, part_getD _ _ _ _ hi, bitAt, bitAt, List.getD_eq_getElem?_getD, List.getD_eq_getElem?_getD, List.getElem?_drop]
  congr 2
  · congr 1; congr 1; omega
  · omega
theorem bitsOf_byte (B : List Int) (j : Nat) : bitsOf (B.getD j 0).toNat 8 = part B (8 * j) 8 := by
  refine blist_eq (by rw [part_length, bitsOf_length]) fun i hi => ?_
  rw [bitsOf_length] at hi
  rw [bitsOf_getD _ _ _ hi, part_getD _ _ _ _ hi, bitAt]
  congr 1
  · congr 2; omega
  · omega
/-- Numbers, each in so many bits, one behind the other. -/
def upTo (K N : Nat → Nat) : Nat → List Bool
  | 0 => []
  | j + 1 => upTo K N j ++ bitsOf (N j) (K j)
/-- How many bits the parts of a frame have, and these parts. -/
def K5 (i : Nat) : Nat := [4, 32, 8, 16, 12, 32].getD i 0
def N5 (st rd mb md n : Nat) (i : Nat) : Nat := [st, rd, mb, md, n].getD i 0
/-- What stands ahead of the Payload. -/
def hd (st rd mb md n : Nat) : List Bool := upTo K5 (N5 st rd mb md n) 5
theorem hd_eq (st rd mb md n : Nat) : hd st rd mb md n = bitsOf st 4 ++ bitsOf rd 32 ++ bitsOf mb 8 ++ bitsOf md 16 ++ bitsOf n 12 := rfl
theorem hd_length (st rd mb md n : Nat) : (hd st rd mb md n).length = 72 := by simp [hd_eq, bitsOf_length]
/-- The bytes that the sum is of. -/
def body (st rd mb md : Nat) (P : List Int) : List Int := pack (hd st rd mb md P.length) ++ P
theorem body_length (st rd mb md : Nat) (P : List Int) : (body st rd mb md P).length = 9 + P.length := by rw [body, List.length_append, pack_length, hd_length]
theorem pack_byte (L : List Bool) : Byte (pack L) := by
  refine byte_of_getD fun i hi => ?_
  rw [pack_getD L i (by rw [pack_length] at hi; exact hi)]
  have := byteAt_lt L i
  omega
theorem byte_append {l m : List Int} (h : Byte l) (k : Byte m) : Byte (l ++ m) := fun z hz => (List.mem_append.1 hz).elim (h z) (k z)
theorem body_byte (st rd mb md : Nat) (P : List Int) (h : Byte P) : Byte (body st rd mb md P) := byte_append (pack_byte _) h
theorem body_pack (st rd mb md : Nat) (P : List Int) (h : Byte P) : pack (hd st rd mb md P.length ++ full P) = body st rd mb md P := by
  rw [pack_append _ _ (by rw [hd_length]), pack_full P h, body]
/-- A frame's bytes, with a sum of its body. -/
def bytesOf (sum : List Int → Nat) (st rd mb md : Nat) (P : List Int) : List Int := body st rd mb md P ++ pack (bitsOf (sum (body st rd mb md P)) 32)
theorem bytesOf_length (sum : List Int → Nat) (st rd mb md : Nat) (P : List Int) : (bytesOf sum st rd mb md P).length = 13 + P.length := by
  rw [bytesOf, List.length_append, body_length, pack_length, bitsOf_length]; omega
theorem bytesOf_byte (sum : List Int → Nat) (st rd mb md : Nat) (P : List Int) (h : Byte P) : Byte (bytesOf sum st rd mb md P) := byte_append (body_byte _ _ _ _ _ h) (pack_byte _)
theorem bytesOf_pack (sum : List Int → Nat) (st rd mb md : Nat) (P : List Int) (h : Byte P) : pack (hd st rd mb md P.length ++ full P ++ bitsOf (sum (body st rd mb md P)) 32) = bytesOf sum st rd mb md P := by
  rw [pack_append _ _ (by rw [List.length_append, hd_length, full_length]; omega), body_pack _ _ _ _ _ h, bytesOf]
theorem bytesOf_take (sum : List Int → Nat) (st rd mb md : Nat) (P : List Int) : (bytesOf sum st rd mb md P).take (9 + P.length) = body st rd mb md P := by
  rw [bytesOf, List.take_append_of_le_length (by rw [body_length]; omega), List.take_of_length_le (by rw [body_length]; omega)]
theorem take_getD (l : List Int) (n i : Nat) (h : i < n) : (l.take n).getD i 0 = l.getD i 0 := by
  rw [List.getD_eq_getElem?_getD, List.getD_eq_getElem?_getD, List.getElem?_take, if_pos h]
theorem drop_getD (l : List Int) (n i : Nat) : (l.drop n).getD i 0 = l.getD (n + i) 0 := by
  rw [List.getD_eq_getElem?_getD, List.getD_eq_getElem?_getD, List.getElem?_drop]
/-- Parts of a frame, as they are read. Its first nine bytes are all that is asked. -/
theorem read_head (B : List Int) (st rd mb md n : Nat) (h : ∀ i, i < 9 → B.getD i 0 = (pack (hd st rd mb md n)).getD i 0) :
    val (part B 0 4) = st % 2 ^ 4 ∧ val (part B 4 32) = rd % 2 ^ 32 ∧ val (part B 36 8) = mb % 2 ^ 8 ∧ val (part B 44 16) = md % 2 ^ 16 ∧ val (part B 60 12) = n % 2 ^ 12 := by
  have key : ∀ s k, s + k ≤ 72 → part B s k = part (pack (hd st rd mb md n)) s k := fun s k hk => part_congr _ _ _ _ fun i hi => h i (by omega)
  have f : ∀ (p q : List Bool) (m k : Nat), hd st rd mb md n = p ++ bitsOf m k ++ q → p.length + k ≤ 72 → val (part B p.length k) = m % 2 ^ k := fun p q m k e hle => by
    rw [key _ _ hle, e]
    have := part_pack p (bitsOf m k) q
    rw [bitsOf_length] at this
    rw [this, val_bitsOf]
  refine ⟨?_, ?_, ?_, ?_, ?_⟩
  · exact f [] (bitsOf rd 32 ++ bitsOf mb 8 ++ bitsOf md 16 ++ bitsOf n 12) st 4 (by simp [hd_eq]) (by simp)
  · have := f (bitsOf st 4) (bitsOf mb 8 ++ bitsOf md 16 ++ bitsOf n 12) rd 32 (by simp [hd_eq]) (by simp [bitsOf_length])
    rwa [bitsOf_length] at this
  · have := f (bitsOf st 4 ++ bitsOf rd 32) (bitsOf md 16 ++ bitsOf n 12) mb 8 (by simp [hd_eq]) (by simp [bitsOf_length])
    rwa [List.length_append, bitsOf_length, bitsOf_length] at this
  · have := f (bitsOf st 4 ++ bitsOf rd 32 ++ bitsOf mb 8) (bitsOf n 12) md 16 (by simp [hd_eq]) (by simp [bitsOf_length])
    rwa [List.length_append, List.length_append, bitsOf_length, bitsOf_length, bitsOf_length] at this
  · have := f (bitsOf st 4 ++ bitsOf rd 32 ++ bitsOf mb 8 ++ bitsOf md 16) [] n 12 (by simp [hd_eq]) (by simp [bitsOf_length])
    rwa [List.length_append, List.length_append, List.length_append, bitsOf_length, bitsOf_length, bitsOf_length, bitsOf_length] at this
theorem bytesOf_head (sum : List Int → Nat) (st rd mb md : Nat) (P : List Int) (i : Nat) (h : i < 9) : (bytesOf sum st rd mb md P).getD i 0 = (pack (hd st rd mb md P.length)).getD i 0 := by
  rw [bytesOf, iappend_getD, body_length, if_pos (by omega), body, iappend_getD, pack_length, hd_length, if_pos (by omega)]
theorem read_sum (sum : List Int → Nat) (st rd mb md : Nat) (P : List Int) (h : Byte P) : val (part (bytesOf sum st rd mb md P) (8 * (9 + P.length)) 32) = sum (body st rd mb md P) % 2 ^ 32 := by
  rw [← bytesOf_pack sum st rd mb md P h]
  have := part_pack (hd st rd mb md P.length ++ full P) (bitsOf (sum (body st rd mb md P)) 32) []
  rw [List.append_nil, bitsOf_length, List.length_append, hd_length, full_length, show 72 + 8 * P.length = 8 * (9 + P.length) by omega] at this
  rw [this, val_bitsOf]
theorem bytesOf_payload (sum : List Int → Nat) (st rd mb md : Nat) (P : List Int) : ((bytesOf sum st rd mb md P).drop 9).take P.length = P := by
  rw [bytesOf, body, List.append_assoc, List.drop_append_of_le_length (by rw [pack_length, hd_length]; decide), List.drop_eq_nil_of_le (by rw [pack_length, hd_length]; decide), List.nil_append, List.take_append_of_le_length (Nat.le_refl _), List.take_of_length_le (Nat.le_refl _)]
/-- What is read of bytes is written as these. -/
theorem again (sum : List Int → Nat) (B : List Int) (n : Nat) (hB : Byte B) (hl : B.length = 13 + n) (hn : n = val (part B 60 12)) (hs : val (part B (8 * (9 + n)) 32) = sum (B.take (9 + n))) :
    bytesOf sum (val (part B 0 4)) (val (part B 4 32)) (val (part B 36 8)) (val (part B 44 16)) ((B.drop 9).take n) = B := by
  have hP : ((B.drop 9).take n).length = n := by rw [List.length_take, List.length_drop]; omega
  have hPb : Byte ((B.drop 9).take n) := fun z hz => hB z (List.mem_of_mem_drop (List.mem_of_mem_take hz))
  have eh : hd (val (part B 0 4)) (val (part B 4 32)) (val (part B 36 8)) (val (part B 44 16)) n = part B 0 72 := by
    conv => lhs; rw [hn]
    rw [hd_eq, bitsOf_val' _ _ (part_length _ _ _), bitsOf_val' _ _ (part_length _ _ _), bitsOf_val' _ _ (part_length _ _ _), bitsOf_val' _ _ (part_length _ _ _), bitsOf_val' _ _ (part_length _ _ _)]
    have e1 := part_add B 0 4 32
    have e2 := part_add B 0 36 8
    have e3 := part_add B 0 44 16
    have e4 := part_add B 0 60 12
    simp only [Nat.zero_add] at e1 e2 e3 e4
    rw [← e1, ← e2, ← e3, ← e4]
  have ep : full ((B.drop 9).take n) = part B 72 (8 * n) := by
    rw [full, hP, part_full B 72 _ (by decide)]
    exact part_congr _ _ _ _ fun i hi => take_getD _ _ _ (by omega)
  have e1 : hd (val (part B 0 4)) (val (part B 4 32)) (val (part B 36 8)) (val (part B 44 16)) n ++ full ((B.drop 9).take n) = part B 0 (8 * (9 + n)) := by
    rw [eh, ep, show 8 * (9 + n) = 72 + 8 * n by omega, part_add, Nat.zero_add]
  have eb : body (val (part B 0 4)) (val (part B 4 32)) (val (part B 36 8)) (val (part B 44 16)) ((B.drop 9).take n) = B.take (9 + n) := by
    rw [← body_pack _ _ _ _ _ hPb, hP, e1]
    have e2 : part B 0 (8 * (9 + n)) = full (B.take (9 + n)) := by
      rw [full, show (B.take (9 + n)).length = 9 + n by rw [List.length_take]; omega]
      exact part_congr _ _ _ _ fun i hi => (take_getD _ _ _ (by omega)).symm
    rw [e2, pack_full _ fun z hz => hB z (List.mem_of_mem_take hz)]
  rw [← bytesOf_pack _ _ _ _ _ _ hPb, eb, hP, e1, ← hs, bitsOf_val' _ _ (part_length _ _ _)]
  have e3 := part_add B 0 (8 * (9 + n)) 32
  rw [Nat.zero_add] at e3
  rw [← e3]
  have := pack_full B hB
  rw [full, hl, show 8 * (13 + n) = 8 * (9 + n) + 32 by omega] at this
  exact this
end Go.Proofs.YtmbkdalmnfcbfabDoor.Bits
