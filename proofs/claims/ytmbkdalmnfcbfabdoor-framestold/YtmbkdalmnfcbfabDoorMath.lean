/-
  Plain mathematics of the CRC-32 sum over BitVec 32: no Go text is spoken of here.
-/
namespace Go.Proofs.YtmbkdalmnfcbfabDoor.Crc
/-- One bit off: the lowest bit is taken off, all others go one place down, and the rest is taken against the divisor where that bit was one. -/
def bit1 (x : BitVec 32) : BitVec 32 := (x >>> 1) ^^^ (if x.getLsbD 0 then 3988292384#32 else 0#32)
def off : Nat → BitVec 32 → BitVec 32
  | 0, x => x
  | n + 1, x => off n (bit1 x)
def upd (x : BitVec 32) (z : Int) : BitVec 32 := off 8 (x ^^^ BitVec.ofInt 32 z)
def run (x : BitVec 32) (zs : List Int) : BitVec 32 := zs.foldl upd x
def more (s : BitVec 32) (zs : List Int) : BitVec 32 := ~~~ run (~~~ s) zs

theorem xx (a b : BitVec 32) : a ^^^ (a ^^^ b) = b := by rw [← BitVec.xor_assoc, BitVec.xor_self, BitVec.zero_xor]
theorem bit1_xor (x y : BitVec 32) : bit1 (x ^^^ y) = bit1 x ^^^ bit1 y := by
  unfold bit1
  rw [BitVec.getLsbD_xor, BitVec.ushiftRight_xor_distrib]
  cases x.getLsbD 0 <;> cases y.getLsbD 0 <;> simp only [Bool.false_eq_true, Bool.bne_false, Bool.bne_true, Bool.not_true, Bool.not_false, if_true, if_false, BitVec.xor_zero]
  · ac_rfl
  · ac_rfl
  · rw [show x >>> 1 ^^^ 3988292384#32 ^^^ (y >>> 1 ^^^ 3988292384#32) = 3988292384#32 ^^^ (3988292384#32 ^^^ (x >>> 1 ^^^ y >>> 1)) by ac_rfl, xx]
theorem off_xor (n : Nat) (x y : BitVec 32) : off n (x ^^^ y) = off n x ^^^ off n y := by
  induction n generalizing x y with
  | zero => rfl
  | succ n ih => simp only [off]; rw [bit1_xor, ih]
theorem off_add (m n : Nat) (x : BitVec 32) : off (m + n) x = off n (off m x) := by
  induction m generalizing x with
  | zero => rw [Nat.zero_add]; rfl
  | succ m ih => rw [Nat.succ_add]; exact ih _
theorem bit1_zero : bit1 0#32 = 0#32 := by decide
theorem off_zero (n : Nat) : off n 0#32 = 0#32 := by
  induction n with
  | zero => rfl
  | succ n ih => simp only [off]; rw [bit1_zero, ih]
theorem bit1_eq_zero {x : BitVec 32} (h : bit1 x = 0#32) : x = 0#32 := by
  have hm : (bit1 x).getLsbD 31 = false := by rw [h]; simp
  have hl : x.getLsbD 0 = false := by
    cases e : x.getLsbD 0
    · rfl
    · simp only [bit1, e, if_true, BitVec.getLsbD_xor, BitVec.getLsbD_ushiftRight] at hm
      have : x.getLsbD (1 + 31) = false := BitVec.getLsbD_of_ge _ _ (by omega)
      rw [this] at hm
      revert hm; decide
  rw [bit1, hl] at h
  simp only [Bool.false_eq_true, if_false, BitVec.xor_zero] at h
  apply BitVec.eq_of_getLsbD_eq
  intro i hi
  cases i with
  | zero => rw [hl]; simp
  | succ j =>
    have := congrArg (fun v => BitVec.getLsbD v j) h
    simp only [BitVec.getLsbD_ushiftRight] at this
    rw [Nat.add_comm, this]; simp
theorem off_eq_zero {n : Nat} {x : BitVec 32} (h : off n x = 0#32) : x = 0#32 := by
  induction n generalizing x with
  | zero => exact h
  | succ n ih => exact bit1_eq_zero (ih h)
theorem eq_of_xor {a b : BitVec 32} (h : a ^^^ b = 0#32) : a = b := by
  have : a ^^^ (a ^^^ b) = a := by rw [h, BitVec.xor_zero]
  rw [← this, xx]
theorem off_inj {n : Nat} {x y : BitVec 32} (h : off n x = off n y) : x = y :=
  eq_of_xor (off_eq_zero (n := n) (by rw [off_xor, h, BitVec.xor_self]))
theorem bit1_shl (y : BitVec 32) (h : y.toNat < 2 ^ 31) : bit1 (y <<< 1) = y := by
  have hl : (y <<< 1).getLsbD 0 = false := by simp
  rw [bit1, hl]
  simp only [Bool.false_eq_true, if_false, BitVec.xor_zero]
  apply BitVec.eq_of_toNat_eq
  rw [BitVec.toNat_ushiftRight, BitVec.toNat_shiftLeft, Nat.shiftLeft_eq, Nat.shiftRight_eq_div_pow]
  omega
theorem off_shl (n : Nat) (y : BitVec 32) (hn : n ≤ 32) (h : y.toNat < 2 ^ (32 - n)) : off n (y <<< n) = y := by
  induction n generalizing y with
  | zero => simp [off]
  | succ n ih =>
    have e : y <<< (n + 1) = (y <<< n) <<< 1 := by rw [BitVec.shiftLeft_add]
    have hp : 2 ^ (32 - n) = 2 * 2 ^ (32 - (n + 1)) := by rw [← Nat.pow_succ']; congr 1; omega
    have hb : (y <<< n).toNat < 2 ^ 31 := by
      rw [BitVec.toNat_shiftLeft, Nat.shiftLeft_eq]
      have hq : 2 ^ (32 - (n + 1)) * 2 ^ n = 2 ^ 31 := by rw [← Nat.pow_add]; congr 1; omega
      have : y.toNat * 2 ^ n < 2 ^ 31 := by rw [← hq]; exact Nat.mul_lt_mul_of_pos_right h (Nat.two_pow_pos n)
      omega
    rw [e, off, bit1_shl _ hb]
    exact ih y (by omega) (by omega)
theorem nib (x : BitVec 32) : (x >>> 4) ^^^ off 4 (x &&& 15#32) = off 4 x := by
  have e : x = ((x >>> 4) <<< 4) ^^^ (x &&& 15#32) := by
    apply BitVec.eq_of_getLsbD_eq
    intro i hi
    rw [BitVec.getLsbD_xor, BitVec.getLsbD_shiftLeft, BitVec.getLsbD_ushiftRight, BitVec.getLsbD_and]
    by_cases h : i < 4
    · have : BitVec.getLsbD 15#32 i = true := by
        rcases i with _ | _ | _ | _ | i
        all_goals first | rfl | omega
      rw [this]
      simp [h]
    · have : BitVec.getLsbD 15#32 i = false := by
        rw [BitVec.getLsbD_ofNat]
        have : Nat.testBit 15 i = false := Nat.testBit_lt_two_pow (by
          calc 15 < 2 ^ 4 := by decide
            _ ≤ 2 ^ i := Nat.pow_le_pow_right (by decide) (by omega))
        simp [this]
      rw [this]
      simp [h, hi, show 4 + (i - 4) = i by omega]
  have h2 : off 4 ((x >>> 4) <<< 4) = x >>> 4 := off_shl 4 _ (by omega) (by rw [BitVec.toNat_ushiftRight, Nat.shiftRight_eq_div_pow]; omega)
  conv => rhs; rw [e, off_xor, h2]
/-- What two nibbles do is what eight bits do. -/
theorem nib2 (x : BitVec 32) : (((x >>> 4) ^^^ off 4 (x &&& 15#32)) >>> 4) ^^^ off 4 (((x >>> 4) ^^^ off 4 (x &&& 15#32)) &&& 15#32) = off 8 x := by
  rw [nib, nib, ← off_add]

theorem run_append (x : BitVec 32) (a b : List Int) : run x (a ++ b) = run (run x a) b := by simp [run, List.foldl_append]
theorem run_nil (x : BitVec 32) : run x [] = x := rfl
theorem run_cons (x : BitVec 32) (z : Int) (b : List Int) : run x (z :: b) = run (upd x z) b := rfl
theorem more_append (s : BitVec 32) (a b : List Int) : more s (a ++ b) = more (more s a) b := by
  unfold more; rw [run_append, BitVec.not_not]
theorem upd_inj {x y : BitVec 32} {z : Int} (h : upd x z = upd y z) : x = y := by
  have := off_inj h
  rw [BitVec.xor_comm x, BitVec.xor_comm y] at this
  have e := congrArg (BitVec.ofInt 32 z ^^^ ·) this
  simpa [xx] using e
theorem run_inj {x y : BitVec 32} {l : List Int} (h : run x l = run y l) : x = y := by
  induction l generalizing x y with
  | nil => exact h
  | cons z l ih => exact upd_inj (ih h)
theorem not_inj {x y : BitVec 32} (h : ~~~ x = ~~~ y) : x = y := by have := congrArg (~~~ ·) h; simpa using this
theorem more_inj {x y : BitVec 32} {l : List Int} (h : more x l = more y l) : x = y := not_inj (run_inj (not_inj h))
end Go.Proofs.YtmbkdalmnfcbfabDoor.Crc
