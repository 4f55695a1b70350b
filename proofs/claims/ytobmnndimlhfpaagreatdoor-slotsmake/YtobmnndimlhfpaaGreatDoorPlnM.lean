/-
  A plan: slots one behind the other, with so much guard.
-/
import Derived.Test.YtobmnndimlhfpaaGreatDoorMay
import Derived.Deep.WholeRow
namespace Go.Proofs.YtobmnndimlhfpaaGreatDoor.Slo
open Go.ChangeShapes Go.WideShapes Go.ChangeAt Go.RowKit Go.Joins
/-- The round of so many stations. -/
def rdN (s : Su) (r : List Int) (g : Int) : Nat → Int
  | 0 => 0
  | k + 1 => rdN s r g k + g + ga r k * s.b + s.f + g
theorem bit_le {s : Su} {z : Int} (hs : chk s = true) (hz : 1 ≤ z ∧ z ≤ 100000) : 1 ≤ z * s.b ∧ z * s.b ≤ 100000000000 := by
  have h := (chk_iff.1 hs).1
  have h1 : z * s.b ≤ 100000 * 1000000 := mul_le (by omega) (by omega) hz.2 h.2
  have h2 : 1 * 1 ≤ z * s.b := mul_le (by omega) (by omega) hz.1 h.1
  omega
theorem rdN_le {s : Su} {r : List Int} {g T : Int} (hs : chk s = true) (hr : btAll r = true) (hg : 0 ≤ g) (hT : 2 * g + 100001000000 ≤ T) : ∀ k, k ≤ r.length → 0 ≤ rdN s r g k ∧ rdN s r g k ≤ (k : Int) * T
  | 0, _ => by simp [rdN]
  | k + 1, hk => by
    have ih := rdN_le hs hr hg hT k (by omega)
    have h1 := bit_le hs (btAll_at hr (show k < r.length by omega))
    have h2 := (chk_iff.1 hs).2.1
    have h3 : ((k + 1 : Nat) : Int) * T = (k : Int) * T + T := by rw [Int.natCast_add, Int.add_mul]; simp
    rw [h3]
    simp only [rdN]
    generalize ga r k * s.b = z at *
    generalize rdN s r g k = y at *
    generalize (k : Int) * T = x at *
    omega
/-- A plan's numbers, where so many slots are laid. -/
def plZ (s : Su) (r : List Int) (n g : Int) (k : Nat) (j : Nat) : Int :=
  if j < 24 then (if j / 3 < k then (if j % 3 = 0 then rdN s r g (j / 3) else if j % 3 = 1 then rdN s r g (j / 3) + g else rdN s r g (j / 3 + 1)) else 0) else if j = 24 then n else if j = 25 then rdN s r g k else g
def plA (s : Su) (r : List Int) (n g : Int) (k : Nat) : Array Value := ((List.range 27).map fun j => Value.int .i64 (plZ s r n g k j)).toArray
def zC : Array Value := ((List.range 27).map fun _ => Value.int .i64 0).toArray
theorem inf50 : (Tryz.prog.info? 69).map (·.size) = some 27 := by kernel_rfl
theorem inf39 : (Tryz.prog.info? 64).map (·.size) = some 3 := by kernel_rfl
theorem zero50 : ∀ w, (zeroValue 69).run Tryz.prog w = .ok (.agg zC) w := fun _ => by kernel_rfl
theorem plA_size (s : Su) (r : List Int) (n g : Int) (k : Nat) : (plA s r n g k).size = 27 := by simp [plA]
theorem plA_at (s : Su) (r : List Int) (n g : Int) (k : Nat) {j : Nat} (h : j < 27) : (plA s r n g k)[j]? = some (.int .i64 (plZ s r n g k j)) := by simp [plA, h]
theorem plA_one (s : Su) (r : List Int) (n g : Int) (k : Nat) : (plA s r n g k).all (·.oneCell') = true := by simp [plA, Value.oneCell']
theorem zC_size : zC.size = 27 := by simp [zC]
theorem zC_one : zC.all (·.oneCell') = true := by simp [zC, Value.oneCell']
theorem bld50 (s : Su) (r : List Int) (n g : Int) (w : World) : (Instr.build 69 #[(1, .int .i64 n), (3, .int .i64 g)]).run Tryz.prog w = .ok (.agg (plA s r n g 0)) w := run_build w 69 _ _ (by kernel_rfl)
theorem ext27 {a b : Array Value} (ha : a.size = 27) (hb : b.size = 27) (h : ∀ j, j < 27 → a[j]? = b[j]?) : a = b := by
  refine Array.ext (by omega) fun i h1 h2 => ?_
  have := h i (by omega)
  rw [Array.getElem?_eq_getElem h1, Array.getElem?_eq_getElem h2] at this
  exact Option.some.inj this
/-- One slot more. -/
theorem plA_step (s : Su) (r : List Int) (n g : Int) (k : Nat) (hk : k < 8) : ((((plA s r n g k).setIfInBounds (k * 3) (.int .i64 (rdN s r g k))).setIfInBounds (k * 3 + 1) (.int .i64 (rdN s r g k + g))).setIfInBounds (k * 3 + 1 + 1) (.int .i64 (rdN s r g (k + 1)))).setIfInBounds 25 (.int .i64 (rdN s r g (k + 1))) = plA s r n g (k + 1) := by
  refine ext27 (by simp [plA_size]) (plA_size _ _ _ _ _) fun j hj => ?_
  rw [plA_at _ _ _ _ _ hj]
  simp only [Array.getElem?_setIfInBounds, Array.size_setIfInBounds, plA_size, plA_at _ _ _ _ _ hj]
  by_cases e1 : 25 = j
  · subst e1
    simp [plZ]
  by_cases e2 : k * 3 + 1 + 1 = j
  · subst e2
    have h1 : (k * 3 + 1 + 1) / 3 = k := by omega
    have h2 : (k * 3 + 1 + 1) % 3 = 2 := by omega
    have h3 : k * 3 + 1 + 1 < 24 := by omega
    have h4 : ¬ (25 = k * 3 + 1 + 1) := by omega
    have h5 : k * 3 + 1 + 1 < 27 := by omega
    rw [if_neg h4, if_pos rfl, if_pos h5]
    unfold plZ
    rw [if_pos h3, h1, h2, if_pos (by omega), if_neg (by omega), if_neg (by omega)]
  by_cases e3 : k * 3 + 1 = j
  · subst e3
    have h1 : (k * 3 + 1) / 3 = k := by omega
    have h2 : (k * 3 + 1) % 3 = 1 := by omega
    have h3 : k * 3 + 1 < 24 := by omega
    have h4 : ¬ (25 = k * 3 + 1) := by omega
    have h5 : k * 3 + 1 < 27 := by omega
    rw [if_neg h4, if_neg e2, if_pos rfl, if_pos h5]
    unfold plZ
    rw [if_pos h3, h1, h2, if_pos (by omega), if_neg (by omega), if_pos rfl]
  by_cases e4 : k * 3 = j
  · subst e4
    have h1 : (k * 3) / 3 = k := by omega
    have h2 : (k * 3) % 3 = 0 := by omega
    have h3 : k * 3 < 24 := by omega
    have h4 : ¬ (25 = k * 3) := by omega
    have h5 : k * 3 < 27 := by omega
    rw [if_neg h4, if_neg e2, if_neg e3, if_pos rfl, if_pos h5]
    unfold plZ
    rw [if_pos h3, h1, h2, if_pos (by omega), if_pos rfl]
  rw [if_neg e1, if_neg e2, if_neg e3, if_neg e4]
  unfold plZ
  by_cases hj4 : j < 24
  · rw [if_pos hj4, if_pos hj4]
    by_cases hjk : j / 3 < k
    · rw [if_pos hjk, if_pos (show j / 3 < k + 1 by omega)]
    · rw [if_neg hjk, if_neg (show ¬ j / 3 < k + 1 by omega)]
  · rw [if_neg hj4, if_neg hj4]
    rcases (by omega : j = 24 ∨ j = 26) with e | e <;> subst e <;> simp
end Go.Proofs.YtobmnndimlhfpaaGreatDoor.Slo
