/-
  Numbers of setups: what may be, by how much clocks differ, by when a frame has come.
-/
import Derived.Test.YtobmnndimlhfpaaGreatDoorKit
namespace Go.Proofs.YtobmnndimlhfpaaGreatDoor.Slo
open Go.ChangeShapes Go.WideShapes Go.ChangeAt Go.RowKit Go.Joins
/-- Is a number within? -/
def wi (n a b : Int) : Bool := decide (a ≤ n) && decide (n ≤ b)
theorem wi_iff {n a b : Int} : wi n a b = true ↔ a ≤ n ∧ n ≤ b := by simp [wi]
theorem within_at (W : World) (n a b : Int) : Calls Tryz.prog 28 #[.int .i64 n, .int .i64 a, .int .i64 b] W fun e w' => e = .returned (.bool (wi n a b)) ∧ w' = W := by
  by_cases h : a ≤ n
  · have h' : decide (a ≤ n) = true := decide_eq_true h
    go_enter Tryz.func28, Tryz.ntmps28
    go_wp2_with (fail)
    go_ret
    exact ⟨by simp [wi, h], rfl⟩
  · have h' : decide (a ≤ n) = false := decide_eq_false h
    go_enter Tryz.func28, Tryz.ntmps28
    go_wp2_with (fail)
    go_ret
    exact ⟨by simp [wi]; omega, rfl⟩
def ru (n : Int) : Int := (n + 999999) / 1000000
theorem round_at (W : World) (n : Int) (h0 : 0 ≤ n) (h1 : n ≤ 20000000000000000) : Calls Tryz.prog 29 #[.int .i64 n, .int .i64 1000000] W fun e w' => e = .returned (.int .i64 (ru n)) ∧ w' = W := by
  go_enter Tryz.func29, Tryz.ntmps29
  go_wp2_with (fail)
  go_ret
  have e : n + 1000000 - 1 = n + 999999 := by omega
  exact ⟨by simp [ru, e], rfl⟩
/-- A setup. -/
structure Su where
  b : Int
  n : Int
  f : Int
  d : Int
  k : Int
abbrev suC (s : Su) : Array Value := #[.int .i64 s.b, .int .i64 s.n, .int .i64 s.f, .int .i64 s.d, .int .i64 s.k]
def chk (s : Su) : Bool := wi s.b 1 1000000 && wi s.f 0 1000000 && wi s.n 0 s.f && wi s.d 0 10000 && wi s.k 0 2
theorem chk_iff {s : Su} : chk s = true ↔ (1 ≤ s.b ∧ s.b ≤ 1000000) ∧ (0 ≤ s.f ∧ s.f ≤ 1000000) ∧ (0 ≤ s.n ∧ s.n ≤ s.f) ∧ (0 ≤ s.d ∧ s.d ≤ 10000) ∧ (0 ≤ s.k ∧ s.k ≤ 2) := by simp [chk, wi_iff, and_assoc]
set_option maxHeartbeats 4000000 in
theorem check_at (W : World) (s : Su) : Calls Tryz.prog 10 #[.agg (suC s)] W fun e w' => e = .returned (.bool (chk s)) ∧ Below W.heap.size W w' := by
  have c1 : chk s = (wi s.b 1 1000000 && wi s.f 0 1000000 && wi s.n 0 s.f && wi s.d 0 10000 && wi s.k 0 2) := rfl
  go_enter Tryz.func10, Tryz.ntmps10
  go_wp2_with (fail)
  refine (within_at _ _ _ _).mono ?_
  rintro e w1 ⟨rfl, rfl⟩
  cases h1 : wi s.b 1 1000000
  · go_wp2_with (fail)
    go_ret
    exact ⟨by rw [c1, h1]; rfl, balloc _ _⟩
  go_wp2_with (fail)
  refine (within_at _ _ _ _).mono ?_
  rintro e w1 ⟨rfl, rfl⟩
  cases h2 : wi s.f 0 1000000
  · go_wp2_with (fail)
    go_ret
    exact ⟨by rw [c1, h1, h2]; rfl, balloc _ _⟩
  go_wp2_with (fail)
  refine (within_at _ _ _ _).mono ?_
  rintro e w1 ⟨rfl, rfl⟩
  cases h3 : wi s.n 0 s.f
  · go_wp2_with (fail)
    go_ret
    exact ⟨by rw [c1, h1, h2, h3]; rfl, balloc _ _⟩
  go_wp2_with (fail)
  refine (within_at _ _ _ _).mono ?_
  rintro e w1 ⟨rfl, rfl⟩
  cases h4 : wi s.d 0 10000
  · go_wp2_with (fail)
    go_ret
    exact ⟨by rw [c1, h1, h2, h3, h4]; rfl, balloc _ _⟩
  go_wp2_with (fail)
  refine (within_at _ _ _ _).mono ?_
  rintro e w1 ⟨rfl, rfl⟩
  go_wp2_with (fail)
  go_ret
  exact ⟨by rw [c1, h1, h2, h3, h4]; rfl, balloc _ _⟩
theorem su_cells {w : World} {B : Nat} {s : Su} (h : w.heap[B]? = some (.cells (suC s) 23 (0, 0))) : w.cell? ⟨B, 0, none⟩ = some (.int .i64 s.b) ∧ w.cell? ⟨B, 1, none⟩ = some (.int .i64 s.n) ∧ w.cell? ⟨B, 2, none⟩ = some (.int .i64 s.f) ∧ w.cell? ⟨B, 3, none⟩ = some (.int .i64 s.d) ∧ w.cell? ⟨B, 4, none⟩ = some (.int .i64 s.k) :=
  ⟨by rw [cell_of_row _ _ _ _ 23 (0, 0) h]; rfl, by rw [cell_of_row _ _ _ _ 23 (0, 0) h]; rfl, by rw [cell_of_row _ _ _ _ 23 (0, 0) h]; rfl, by rw [cell_of_row _ _ _ _ 23 (0, 0) h]; rfl, by rw [cell_of_row _ _ _ _ 23 (0, 0) h]; rfl⟩
def sk (s : Su) (r : Int) : Int := if chk s = true ∧ wi r 0 1099511627776 = true then 4 * (s.f - s.n) + 8 + 8 * ru (s.d * r) else 0
theorem mul_le {a b c d : Int} (h0 : 0 ≤ a) (h1 : 0 ≤ b) (h2 : a ≤ c) (h3 : b ≤ d) : a * b ≤ c * d := Int.mul_le_mul h2 h3 h1 (by omega)
theorem sk_ge (s : Su) (r : Int) : 0 ≤ sk s r ∧ sk s r ≤ 100000000000 := by
  unfold sk
  split
  · rename_i h
    have h1 := chk_iff.1 h.1
    have h2 := wi_iff.1 h.2
    have h3 := Int.mul_nonneg h1.2.2.2.1.1 h2.1
    have h4 : s.d * r ≤ 10000 * 1099511627776 := mul_le h1.2.2.2.1.1 h2.1 h1.2.2.2.1.2 h2.2
    unfold ru
    generalize s.d * r = z at *
    omega
  · omega
set_option maxHeartbeats 4000000 in
theorem skew_at (W : World) (s : Su) (r : Int) : Calls Tryz.prog 12 #[.agg (suC s), .int .i64 r] W fun e w' => e = .returned (.int .i64 (sk s r)) ∧ Below W.heap.size W w' := by
  go_enter Tryz.func12, Tryz.ntmps12
  go_wp2_with (fail)
  refine (check_at _ _).mono ?_
  rintro e w1 ⟨rfl, hb⟩
  have hb1 := bstep (balloc _ _) hb
  have HB := hid hb1
  have hr1 := keep_row (heap_alloc_new W (.cells (suC s) 23)) hb
  clear hb hb1
  cases h1 : chk s
  · go_wp2_with (fail)
    go_ret
    exact ⟨by simp [sk, h1], HB.out⟩
  go_wp2_with (fail)
  refine (within_at _ _ _ _).mono ?_
  rintro e w2 ⟨rfl, rfl⟩
  cases h2 : wi r 0 1099511627776
  · go_wp2_with (fail)
    go_ret
    exact ⟨by simp [sk, h2], HB.out⟩
  have k1 := chk_iff.1 h1
  have k2 := wi_iff.1 h2
  have k3 := Int.mul_nonneg k1.2.2.2.1.1 k2.1
  have k4 : s.d * r ≤ 10000 * 1099511627776 := mul_le k1.2.2.2.1.1 k2.1 k1.2.2.2.1.2 k2.2
  go_wp2_with (fail)
  have k5 : 0 ≤ ru (s.d * r) ∧ ru (s.d * r) ≤ 10995116278 := (by
    unfold ru
    generalize s.d * r = z at *
    omega)
  obtain ⟨x0, x1, x2, x3, x4⟩ := su_cells hr1
  go_quiet ((go_at_call 29; refine Calls.quiet_of_same (round_at _ _ ?_ ?_) <;> (rw [IntKind.wrap_i64]; omega)))
  go_wp2
  go_ret
  have w1 : IntKind.i64.wrap (s.d * r) = s.d * r := by rw [IntKind.wrap_i64]; omega
  have w2' : IntKind.i64.wrap (s.f - s.n) = s.f - s.n := by rw [IntKind.wrap_i64]; omega
  have w3 : IntKind.i64.wrap (4 * (s.f - s.n)) = 4 * (s.f - s.n) := by rw [IntKind.wrap_i64]; omega
  have w4 : IntKind.i64.wrap (4 * (s.f - s.n) + 8) = 4 * (s.f - s.n) + 8 := by rw [IntKind.wrap_i64]; omega
  have w5 : IntKind.i64.wrap (8 * ru (s.d * r)) = 8 * ru (s.d * r) := by rw [IntKind.wrap_i64]; omega
  have w6 : IntKind.i64.wrap (4 * (s.f - s.n) + 8 + 8 * ru (s.d * r)) = 4 * (s.f - s.n) + 8 + 8 * ru (s.d * r) := by rw [IntKind.wrap_i64]; omega
  exact ⟨by simp [sk, h1, h2]; rw [w1, w2', w3, w4, w5, w6], bstep HB.out (bdrew _ _)⟩
theorem shut_at (W : World) (s : Su) (send m g : Int) (h1 : 0 ≤ send) (h2 : send ≤ 4503599627370496) (h3 : 0 ≤ m * s.b) (h4 : m * s.b ≤ 100000000000) (h5 : 0 ≤ s.f) (h6 : s.f ≤ 1000000) (h7 : 0 ≤ g) (h8 : g ≤ 4503599627370496) : Calls Tryz.prog 31 #[.agg (suC s), .int .i64 send, .int .i64 m, .int .i64 g] W fun e w' => e = .returned (.int .i64 (send + m * s.b + s.f + g)) ∧ Below W.heap.size W w' := by
  go_enter Tryz.func31, Tryz.ntmps31
  go_wp2_with (fail)
  go_ret
  exact ⟨by simp, balloc _ _⟩
end Go.Proofs.YtobmnndimlhfpaaGreatDoor.Slo
