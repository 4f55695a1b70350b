/-
  The digits of a number, read again: plain mathematics of the law ValuesTold.
-/
import Derived.Test.YtkniacdfhajogabDoorAlive
import Derived.Lib.ItoaLen
namespace Go.Proofs.YtkniacdfhajogabDoor.Val
open Go.ChangeShapes Go.WideShapes Go.ChangeAt Go.RowKit Go.Joins
/-- The number that digits are. -/
def dv (l : List UInt8) : Nat := l.foldl (fun v c => 10 * v + (c.toNat - 48)) 0
theorem dv_snoc (l : List UInt8) (c : UInt8) : dv (l ++ [c]) = 10 * dv l + (c.toNat - 48) := by unfold dv; simp
theorem dv_one (c : UInt8) : dv [c] = c.toNat - 48 := by unfold dv; simp
theorem fold_ge : ∀ (l : List UInt8) (v : Nat), v ≤ l.foldl (fun v c => 10 * v + (c.toNat - 48)) v
  | [], v => Nat.le_refl _
  | c :: l, v => by
    have := fold_ge l (10 * v + (c.toNat - 48))
    simp only [List.foldl_cons]
    omega
theorem dv_take (l : List UInt8) (k : Nat) : dv (l.take k) ≤ dv l := by
  have h : dv l = (l.drop k).foldl (fun v c => 10 * v + (c.toNat - 48)) (dv (l.take k)) := by
    unfold dv
    rw [← List.foldl_append, List.take_append_drop]
  rw [h]
  exact fold_ge _ _
theorem byte_dig (u : Nat) (h : u < 10) : (UInt8.ofNat (48 + u)).toNat = 48 + u := by
  rw [UInt8.toNat_ofNat']
  omega
theorem digs_small (u : Nat) (h : u < 10) : Lib.decDigits u = [UInt8.ofNat (48 + u)] := by rw [Lib.decDigits, dif_pos h]
theorem digs_more (u : Nat) (h : ¬ u < 10) : Lib.decDigits u = Lib.decDigits (u / 10) ++ [UInt8.ofNat (48 + u % 10)] := by rw [Lib.decDigits, dif_neg h]
theorem dv_digits : ∀ (m u : Nat), u ≤ m → dv (Lib.decDigits u) = u := by
  intro m
  induction m with
  | zero =>
    intro u hu
    obtain rfl : u = 0 := by omega
    rw [digs_small 0 (by omega), dv_one, byte_dig 0 (by omega)]
  | succ m ih =>
    intro u hu
    by_cases h : u < 10
    · rw [digs_small u h, dv_one, byte_dig u h]
      omega
    · rw [digs_more u h, dv_snoc, ih (u / 10) (by omega), byte_dig (u % 10) (by omega)]
      omega
theorem digits_in : ∀ (m u : Nat), u ≤ m → ∀ c ∈ Lib.decDigits u, 48 ≤ c.toNat ∧ c.toNat ≤ 57 := by
  intro m
  induction m with
  | zero =>
    intro u hu c hc
    obtain rfl : u = 0 := by omega
    rw [digs_small 0 (by omega), List.mem_singleton] at hc
    rw [hc, byte_dig 0 (by omega)]
    omega
  | succ m ih =>
    intro u hu c hc
    by_cases h : u < 10
    · rw [digs_small u h, List.mem_singleton] at hc
      rw [hc, byte_dig u h]
      omega
    · rw [digs_more u h, List.mem_append, List.mem_singleton] at hc
      rcases hc with hc | hc
      · exact ih (u / 10) (by omega) c hc
      · rw [hc, byte_dig (u % 10) (by omega)]
        omega
theorem digits_head : ∀ (m u : Nat), u ≤ m → 0 < u → ∃ c t, Lib.decDigits u = c :: t ∧ c.toNat ≠ 48 := by
  intro m
  induction m with
  | zero => intro u h1 h2; omega
  | succ m ih =>
    intro u hu h0
    by_cases h : u < 10
    · exact ⟨_, [], digs_small u h, by rw [byte_dig u h]; omega⟩
    · obtain ⟨c, t, e, hc⟩ := ih (u / 10) (by omega) (by omega)
      exact ⟨c, t ++ [UInt8.ofNat (48 + u % 10)], by rw [digs_more u h, e]; rfl, hc⟩
theorem digits_inj {u v : Nat} (h : Lib.decDigits u = Lib.decDigits v) : u = v := by
  rw [← dv_digits u u (Nat.le_refl _), h, dv_digits v v (Nat.le_refl _)]
theorem digits_some (u : Nat) : Lib.decDigits u ≠ [] := by
  rw [Lib.decDigits]
  split <;> simp
theorem itoa_nat (u : Nat) : Lib.itoa (u : Int) = Lib.decDigits u := by unfold Lib.itoa; rw [if_neg (by omega)]; simp
theorem itoa_neg (u : Nat) (h : 0 < u) : Lib.itoa (-(u : Int)) = 45 :: Lib.decDigits u := by unfold Lib.itoa; rw [if_pos (by omega)]; simp
theorem no_sign (u : Nat) (l : List UInt8) : Lib.decDigits u ≠ 45 :: l := by
  intro h
  have := digits_in u u (Nat.le_refl _) 45 (by rw [h]; exact List.mem_cons_self)
  have e : (45 : UInt8).toNat = 45 := by decide
  omega
theorem itoa_inj (a b : Int) (h : Lib.itoa a = Lib.itoa b) : a = b := by
  by_cases h1 : a < 0
  · obtain ⟨u, rfl, hu⟩ : ∃ u : Nat, a = -(u : Int) ∧ 0 < u := ⟨a.natAbs, by omega, by omega⟩
    by_cases h2 : b < 0
    · obtain ⟨v, rfl, hv⟩ : ∃ v : Nat, b = -(v : Int) ∧ 0 < v := ⟨b.natAbs, by omega, by omega⟩
      rw [itoa_neg u hu, itoa_neg v hv] at h
      rw [digits_inj (List.cons.inj h).2]
    · obtain ⟨v, rfl⟩ : ∃ v : Nat, b = (v : Int) := ⟨b.natAbs, by omega⟩
      rw [itoa_neg u hu, itoa_nat] at h
      exact absurd h.symm (no_sign v _)
  · obtain ⟨u, rfl⟩ : ∃ u : Nat, a = (u : Int) := ⟨a.natAbs, by omega⟩
    by_cases h2 : b < 0
    · obtain ⟨v, rfl, hv⟩ : ∃ v : Nat, b = -(v : Int) ∧ 0 < v := ⟨b.natAbs, by omega, by omega⟩
      rw [itoa_nat, itoa_neg v hv] at h
      exact absurd h (no_sign u _)
    · obtain ⟨v, rfl⟩ : ∃ v : Nat, b = (v : Int) := ⟨b.natAbs, by omega⟩
      rw [itoa_nat, itoa_nat] at h
      rw [digits_inj h]
abbrev ia (a : Int) : ByteArray := ⟨(Lib.itoa a).toArray⟩
theorem ia_list (a : Int) : (ia a).toList = Lib.itoa a := by rw [ByteArray.toList_eq]
theorem ia_size (a : Int) : (ia a).size = (Lib.itoa a).length := by rw [Lib.size_eq]
theorem ia_same (a b : Int) : ((ia a).toList == (ia b).toList) = (a == b) := by
  rw [ia_list, ia_list, Bool.eq_iff_iff, beq_iff_eq, beq_iff_eq]
  exact ⟨itoa_inj a b, fun h => by rw [h]⟩
theorem ia_at (a : Int) (k : Nat) (h : k < (ia a).size) : (ia a)[k].toNat = ((Lib.itoa a)[k]'(by rw [← ia_size]; exact h)).toNat := rfl
theorem txt_num (a : Int) : txtB (numV a) = ia a := rfl
end Go.Proofs.YtkniacdfhajogabDoor.Val
