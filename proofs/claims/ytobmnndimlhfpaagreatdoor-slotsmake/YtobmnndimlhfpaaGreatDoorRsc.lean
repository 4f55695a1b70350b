/-
  The document's own: tick, Check, Skew, may.
-/
import Derived.Test.YtobmnndimlhfpaaGreatDoorFits
namespace Go.Proofs.YtobmnndimlhfpaaGreatDoor.Slo
open Go.ChangeShapes Go.WideShapes Go.ChangeAt Go.RowKit Go.Joins
theorem tick_at (W : World) (n : Int) : Calls Tryz.prog 32 #[.int .i64 n] W fun e w' => e = .returned (.bool (wi n 0 1125899906842624)) ∧ w' = W := by
  by_cases h1 : n ≥ 0
  · have h1' : decide (n ≥ 0) = true := decide_eq_true h1
    go_enter Tryz.func32, Tryz.ntmps32
    go_wp2_with (fail)
    go_ret
    exact ⟨by simp [wi, h1], rfl⟩
  · have h1' : decide (n ≥ 0) = false := decide_eq_false h1
    have HF : Hid (wi n 0 1125899906842624 = false) := hid (by cases e : wi n 0 1125899906842624; rfl; have := (wi_iff.1 e).1; omega)
    go_enter Tryz.func32, Tryz.ntmps32
    go_wp2_with (fail)
    go_ret
    exact ⟨by rw [HF.out]; rfl, rfl⟩
set_option maxRecDepth 100000 in
set_option maxHeartbeats 4000000 in
theorem rcheck_at (W : World) (s : Su) : Calls Tryz.prog 11 #[.agg (suC s)] W fun e w' => e = .returned (.bool (chk s)) ∧ Below W.heap.size W w' := by
  have H1 := hid (push_new W (.cells (suC s) 23) _ rfl)
  obtain ⟨x0, x1, x2, x3, x4⟩ := su_cells H1.out
  by_cases h1 : s.b ≥ 1
  case neg =>
    have h1' : decide (s.b ≥ 1) = false := decide_eq_false h1
    have HF : Hid (chk s = false) := hid (by cases e : chk s; rfl; have := chk_iff.1 e; omega)
    go_enter Tryz.func11, Tryz.ntmps11
    go_wp2_with (fail)
    go_ret
    exact ⟨by rw [HF.out]; rfl, balloc _ _⟩
  have h1' : decide (s.b ≥ 1) = true := decide_eq_true h1
  by_cases h2 : s.b ≤ 1000000
  case neg =>
    have h2' : decide (s.b ≤ 1000000) = false := decide_eq_false h2
    have HF : Hid (chk s = false) := hid (by cases e : chk s; rfl; have := chk_iff.1 e; omega)
    go_enter Tryz.func11, Tryz.ntmps11
    go_wp2_with (fail)
    go_ret
    exact ⟨by rw [HF.out]; rfl, balloc _ _⟩
  have h2' : decide (s.b ≤ 1000000) = true := decide_eq_true h2
  by_cases h3 : s.n ≥ 0
  case neg =>
    have h3' : decide (s.n ≥ 0) = false := decide_eq_false h3
    have HF : Hid (chk s = false) := hid (by cases e : chk s; rfl; have := chk_iff.1 e; omega)
    go_enter Tryz.func11, Tryz.ntmps11
    go_wp2_with (fail)
    go_ret
    exact ⟨by rw [HF.out]; rfl, balloc _ _⟩
  have h3' : decide (s.n ≥ 0) = true := decide_eq_true h3
  by_cases h4 : s.n ≤ s.f
  case neg =>
    have h4' : decide (s.n ≤ s.f) = false := decide_eq_false h4
    have HF : Hid (chk s = false) := hid (by cases e : chk s; rfl; have := chk_iff.1 e; omega)
    go_enter Tryz.func11, Tryz.ntmps11
    go_wp2_with (fail)
    go_ret
    exact ⟨by rw [HF.out]; rfl, balloc _ _⟩
  have h4' : decide (s.n ≤ s.f) = true := decide_eq_true h4
  by_cases h5 : s.f ≤ 1000000
  case neg =>
    have h5' : decide (s.f ≤ 1000000) = false := decide_eq_false h5
    have HF : Hid (chk s = false) := hid (by cases e : chk s; rfl; have := chk_iff.1 e; omega)
    go_enter Tryz.func11, Tryz.ntmps11
    go_wp2_with (fail)
    go_ret
    exact ⟨by rw [HF.out]; rfl, balloc _ _⟩
  have h5' : decide (s.f ≤ 1000000) = true := decide_eq_true h5
  by_cases h6 : s.d ≥ 0
  case neg =>
    have h6' : decide (s.d ≥ 0) = false := decide_eq_false h6
    have HF : Hid (chk s = false) := hid (by cases e : chk s; rfl; have := chk_iff.1 e; omega)
    go_enter Tryz.func11, Tryz.ntmps11
    go_wp2_with (fail)
    go_ret
    exact ⟨by rw [HF.out]; rfl, balloc _ _⟩
  have h6' : decide (s.d ≥ 0) = true := decide_eq_true h6
  by_cases h7 : s.d ≤ 10000
  case neg =>
    have h7' : decide (s.d ≤ 10000) = false := decide_eq_false h7
    have HF : Hid (chk s = false) := hid (by cases e : chk s; rfl; have := chk_iff.1 e; omega)
    go_enter Tryz.func11, Tryz.ntmps11
    go_wp2_with (fail)
    go_ret
    exact ⟨by rw [HF.out]; rfl, balloc _ _⟩
  have h7' : decide (s.d ≤ 10000) = true := decide_eq_true h7
  by_cases h8 : s.k ≥ 0
  case neg =>
    have h8' : decide (s.k ≥ 0) = false := decide_eq_false h8
    have HF : Hid (chk s = false) := hid (by cases e : chk s; rfl; have := chk_iff.1 e; omega)
    go_enter Tryz.func11, Tryz.ntmps11
    go_wp2_with (fail)
    go_ret
    exact ⟨by rw [HF.out]; rfl, balloc _ _⟩
  have h8' : decide (s.k ≥ 0) = true := decide_eq_true h8
  by_cases h9 : s.k ≤ 2
  case neg =>
    have h9' : decide (s.k ≤ 2) = false := decide_eq_false h9
    have HF : Hid (chk s = false) := hid (by cases e : chk s; rfl; have := chk_iff.1 e; omega)
    go_enter Tryz.func11, Tryz.ntmps11
    go_wp2_with (fail)
    go_ret
    exact ⟨by rw [HF.out]; rfl, balloc _ _⟩
  have h9' : decide (s.k ≤ 2) = true := decide_eq_true h9
  have HF : Hid (chk s = true) := hid (chk_iff.2 ⟨by omega, by omega, by omega, by omega, by omega⟩)
  go_enter Tryz.func11, Tryz.ntmps11
  go_wp2_with (fail)
  go_ret
  exact ⟨by rw [HF.out]; rfl, balloc _ _⟩
set_option maxRecDepth 100000 in
set_option maxHeartbeats 4000000 in
theorem rskew_at (W : World) (s : Su) (r : Int) : Calls Tryz.prog 13 #[.agg (suC s), .int .i64 r] W fun e w' => e = .returned (.int .i64 (sk s r)) ∧ Below W.heap.size W w' := by
  go_enter Tryz.func13, Tryz.ntmps13
  go_wp2_with (fail)
  refine (rcheck_at _ _).mono ?_
  rintro e w1 ⟨rfl, hb⟩
  have HB := hid (bstep (balloc _ _) hb)
  have hr1 := keep_row (heap_alloc_new W (.cells (suC s) 23)) hb
  clear hb
  cases h1 : chk s
  · go_wp2_with (fail)
    go_ret
    exact ⟨by simp [sk, h1], HB.out⟩
  by_cases h2 : r < 0
  · have h2' : decide (r < 0) = true := decide_eq_true h2
    have HF : Hid (wi r 0 1099511627776 = false) := hid (by cases e : wi r 0 1099511627776; rfl; have := (wi_iff.1 e).1; omega)
    go_wp2_with (fail)
    go_ret
    exact ⟨by simp [sk, HF.out], HB.out⟩
  have h2' : decide (r < 0) = false := decide_eq_false h2
  by_cases h3 : 1099511627776 < r
  · have h3' : decide (r > 1099511627776) = true := decide_eq_true h3
    have HF : Hid (wi r 0 1099511627776 = false) := hid (by cases e : wi r 0 1099511627776; rfl; have := (wi_iff.1 e).2; omega)
    go_wp2_with (fail)
    go_ret
    exact ⟨by simp [sk, HF.out], HB.out⟩
  have h3' : decide (r > 1099511627776) = false := decide_eq_false h3
  have k1 := chk_iff.1 h1
  have k2 : wi r 0 1099511627776 = true := wi_iff.2 ⟨by omega, by omega⟩
  have k3 := Int.mul_nonneg k1.2.2.2.1.1 (show 0 ≤ r by omega)
  have k4 : s.d * r ≤ 10000 * 1099511627776 := mul_le k1.2.2.2.1.1 (by omega) k1.2.2.2.1.2 (by omega)
  have HS : Hid (sk s r = 4 * (s.f - s.n) + 8 + 8 * ru (s.d * r)) := hid (by simp [sk, h1, k2])
  obtain ⟨x0, x1, x2, x3, x4⟩ := su_cells hr1
  have w1' : IntKind.i64.wrap (s.d * r) = s.d * r := by rw [IntKind.wrap_i64]; omega
  have w2' : IntKind.i64.wrap (s.f - s.n) = s.f - s.n := by rw [IntKind.wrap_i64]; omega
  have w3 : IntKind.i64.wrap (4 * (s.f - s.n)) = 4 * (s.f - s.n) := by rw [IntKind.wrap_i64]; omega
  have w4 : IntKind.i64.wrap (4 * (s.f - s.n) + 8) = 4 * (s.f - s.n) + 8 := by rw [IntKind.wrap_i64]; omega
  have w5 : IntKind.i64.wrap (s.d * r + 1000000) = s.d * r + 1000000 := by rw [IntKind.wrap_i64]; omega
  have w6 : IntKind.i64.wrap (s.d * r + 1000000 - 1) = s.d * r + 1000000 - 1 := by rw [IntKind.wrap_i64]; omega
  clear k2 hr1
  have HE : Hid (s.d * r + 1000000 - 1 = s.d * r + 999999) := hid (by omega)
  go_wp2_with (fail)
  go_ret
  exact ⟨by rw [HS.out]; unfold ru; rw [← HE.out]; rfl, HB.out⟩
set_option maxRecDepth 100000 in
set_option maxHeartbeats 4000000 in
theorem rmay_at (W : World) (s : Su) (v : Value) (r : List Int) (h : Rd W W.heap.size v r) : Calls Tryz.prog 25 #[.agg (suC s), v] W fun e w' => e = .returned (.bool (mayF s r)) ∧ Below W.heap.size W w' := by
  obtain ⟨ao, c, rfl, hle, hcc, hcs⟩ := h
  have HC := hid hcs
  clear hcs
  go_enter Tryz.func25, Tryz.ntmps25
  go_wp2_with (fail)
  refine (rcheck_at _ _).mono ?_
  rintro e w1 ⟨rfl, hb⟩
  have HB := hid (bstep (balloc _ _) hb)
  have hr1 := keep_row (heap_alloc_new W (.cells (suC s) 23)) hb
  clear hb
  cases h1 : chk s
  · go_wp2_with (fail)
    go_ret
    exact ⟨by simp [mayF, h1], HB.out⟩
  have k1 := (chk_iff.1 h1).2.2.2.2
  obtain ⟨x0, x1, x2, x3, x4⟩ := su_cells hr1
  have wk : IntKind.i64.wrap (3 * s.k) = 3 * s.k := by rw [IntKind.wrap_i64]; omega
  have wk1 : IntKind.i64.wrap (3 * s.k + 1) = 3 * s.k + 1 := by rw [IntKind.wrap_i64]; omega
  by_cases h2 : (r.length : Int) < 1
  · have h2' : decide ((r.length : Int) < 1) = true := decide_eq_true h2
    have HF : Hid (mayF s r = false) := hid (by cases e : mayF s r; rfl; have := wi_iff.1 (mayF_iff.1 e).2.1; omega)
    go_wp2_with (fail)
    go_ret
    exact ⟨by rw [HF.out]; rfl, HB.out⟩
  have h2' : decide ((r.length : Int) < 1) = false := decide_eq_false h2
  by_cases h3 : 8 < (r.length : Int)
  · have h3' : decide ((r.length : Int) > 8) = true := decide_eq_true h3
    have HF : Hid (mayF s r = false) := hid (by cases e : mayF s r; rfl; have := wi_iff.1 (mayF_iff.1 e).2.1; omega)
    go_wp2_with (fail)
    go_ret
    exact ⟨by rw [HF.out]; rfl, HB.out⟩
  have h3' : decide ((r.length : Int) > 8) = false := decide_eq_false h3
  by_cases h4 : (r.length : Int) < 3 * s.k + 1
  · have h4' : decide ((r.length : Int) < 3 * s.k + 1) = true := decide_eq_true h4
    have HF : Hid (mayF s r = false) := hid (by cases e : mayF s r; rfl; have := wi_iff.1 (mayF_iff.1 e).2.1; omega)
    go_wp2_with (fail)
    go_ret
    exact ⟨by rw [HF.out]; rfl, HB.out⟩
  have h4' : decide ((r.length : Int) < 3 * s.k + 1) = false := decide_eq_false h4
  have HM : Hid (mayF s r = btAll r) := hid (by
    have : wi r.length (3 * s.k + 1) 8 = true := wi_iff.2 ⟨by omega, by omega⟩
    simp [mayF, h1, this])
  clear h1
  go_wp2_with (fail)
  go_loop [5] (fun s5 => ∃ k : Nat, k ≤ r.length ∧ s5 = .int .i64 (k : Int) ∧ Hid (btAll r = btAll (r.drop k))) (fun s5 => r.length - (intOf s5).toNat)
  case atStart => exact ⟨0, by omega, rfl, hid (by simp)⟩
  case round =>
    obtain ⟨k, hk, rfl, HK⟩ := hrel
    by_cases hlt : k < r.length
    · have hlt' : (k : Int) < (r.length : Int) := by omega
      have hk0 : (0 : Int) ≤ (k : Int) := by omega
      obtain ⟨b, o, rfl, hb, hc⟩ := HC.out.resolve_left (by intro e; rw [e] at hlt; simp at hlt)
      have hck := (HB.out.cell (p := ⟨b, o + k, none⟩) hb).trans (hc k hlt)
      clear hc
      have HD := hid (btAll_drop hlt)
      generalize ga r k = z at *
      by_cases z1 : z < 1
      · have z1' : decide (z < 1) = true := decide_eq_true z1
        have HF : Hid (wi z 1 100000 = false) := hid (by cases e : wi z 1 100000; rfl; have := (wi_iff.1 e).1; omega)
        go_wp2_with (fail)
        go_ret
        exact ⟨by rw [HM.out, HK.out, HD.out, HF.out]; rfl, HB.out⟩
      have z1' : decide (z < 1) = false := decide_eq_false z1
      by_cases z2 : 100000 < z
      · have z2' : decide (z > 100000) = true := decide_eq_true z2
        have HF : Hid (wi z 1 100000 = false) := hid (by cases e : wi z 1 100000; rfl; have := (wi_iff.1 e).2; omega)
        go_wp2_with (fail)
        go_ret
        exact ⟨by rw [HM.out, HK.out, HD.out, HF.out]; rfl, HB.out⟩
      have z2' : decide (z > 100000) = false := decide_eq_false z2
      have HN : Hid (btAll r = btAll (r.drop (k + 1))) := hid (by rw [HK.out, HD.out, wi_iff.2 ⟨show 1 ≤ z by omega, by omega⟩]; rfl)
      clear HD
      go_wp2_with (fail)
      go_round
      case rel => exact ⟨k + 1, by omega, by go_num, HN⟩
      case measure => simp [intOf]; omega
    · have hlt' : ¬ (k : Int) < (r.length : Int) := by omega
      obtain rfl : k = r.length := by omega
      have HE : Hid (btAll r = true) := hid (by rw [HK.out]; simp [btAll])
      clear HK
      go_wp2_with (fail)
      go_ret
      exact ⟨by rw [HM.out, HE.out]; rfl, HB.out⟩
end Go.Proofs.YtobmnndimlhfpaaGreatDoor.Slo
