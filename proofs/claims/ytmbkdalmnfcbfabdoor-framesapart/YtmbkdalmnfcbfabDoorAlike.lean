/-
  Plain mathematics of the CRC-32 sum: the sums of lists of one length differ as the lists do.
-/
import Derived.Test.YtmbkdalmnfcbfabDoorFour
import Derived.Laws.BitsAllLaws
namespace Go.Proofs.YtmbkdalmnfcbfabDoor.Crc
/-! ### Lists that are changed alike -/
theorem xor8 (a b : Int) (ha : 0 ≤ a ∧ a < 256) (hb : 0 ≤ b ∧ b < 256) : BitVec.ofInt 32 (bits .xor .u8 a b) = BitVec.ofInt 32 a ^^^ BitVec.ofInt 32 b ∧ 0 ≤ bits .xor .u8 a b ∧ bits .xor .u8 a b < 256 := by
  obtain ⟨A, rfl⟩ := Int.eq_ofNat_of_zero_le ha.1
  obtain ⟨B, rfl⟩ := Int.eq_ofNat_of_zero_le hb.1
  rw [u8_xor_nat A B (by omega) (by omega)]
  have : A ^^^ B < 2 ^ 8 := Nat.xor_lt_two_pow (by omega) (by omega)
  refine ⟨?_, by omega, by omega⟩
  rw [BitVec.ofInt_natCast, BitVec.ofInt_natCast, BitVec.ofInt_natCast, BitVec.ofNat_xor]
def Byte (l : List Int) : Prop := ∀ z ∈ l, 0 ≤ z ∧ z < 256
def xorL (l d : List Int) : List Int := List.zipWith (fun a b => bits .xor .u8 a b) l d
theorem run_xor (l d : List Int) (x y : BitVec 32) (h : l.length = d.length) (hl : Byte l) (hd : Byte d) : run (x ^^^ y) (xorL l d) = run x l ^^^ run y d := by
  induction l generalizing d x y with
  | nil => cases d with
    | nil => rfl
    | cons b d => simp at h
  | cons a l ih => cases d with
    | nil => simp at h
    | cons b d =>
      have e := (xor8 a b (hl a (by simp)) (hd b (by simp))).1
      show run (upd (x ^^^ y) (bits .xor .u8 a b)) (xorL l d) = run (upd x a) l ^^^ run (upd y b) d
      rw [← ih d (upd x a) (upd y b) (by simpa using h) (fun z hz => hl z (by simp [hz])) (fun z hz => hd z (by simp [hz]))]
      congr 1
      unfold upd
      rw [← off_xor, e]
      congr 1
      ac_rfl
/-- The sums of two lists of one length differ as the lists do. -/
theorem more_xor (l d : List Int) (h : l.length = d.length) (hl : Byte l) (hd : Byte d) : more 0#32 l ^^^ more 0#32 (xorL l d) = run 0#32 d := by
  have e := run_xor l d (~~~ 0#32) 0#32 h hl hd
  rw [BitVec.xor_zero] at e
  unfold more
  rw [e]
  rw [← BitVec.not_xor_left, ← BitVec.not_xor_right, BitVec.not_not, xx]
theorem xorL_length (l d : List Int) (h : l.length = d.length) : (xorL l d).length = l.length := by simp [xorL, h]
theorem xorL_getD (l d : List Int) (j : Nat) (hl : j < l.length) (hd : j < d.length) : (xorL l d).getD j 0 = bits .xor .u8 (l.getD j 0) (d.getD j 0) := by
  simp [xorL, List.getD, List.getElem?_zipWith, hl, hd]
theorem byte_of_getD {l : List Int} (h : ∀ i, i < l.length → 0 ≤ l.getD i 0 ∧ l.getD i 0 < 256) : Byte l := by
  intro z hz
  obtain ⟨i, hi, rfl⟩ := List.getElem_of_mem hz
  have := h i hi
  simpa [List.getD, hi] using this
end Go.Proofs.YtmbkdalmnfcbfabDoor.Crc
