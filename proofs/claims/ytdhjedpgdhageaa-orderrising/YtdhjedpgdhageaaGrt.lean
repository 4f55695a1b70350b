/-
  How great lists are, by the laws' count.
-/
import Derived.Test.YtdhjedpgdhageaaSam
namespace Go.Proofs.Ytdhjedpgdhageaa.Ord
open Go.ChangeShapes Go.WideShapes Go.ChangeAt Go.RowKit Go.Joins
def szN (l : List (List Int)) : Nat → Nat
  | 0 => l.length
  | k + 1 => szN l k + (l.getD k []).length
theorem szN_mono (l : List (List Int)) : ∀ k m, szN l k ≤ szN l (k + m)
  | _, 0 => Nat.le_refl _
  | k, m + 1 => Nat.le_trans (szN_mono l k m) (Nat.le_add_right _ _)
theorem szN_row (l : List (List Int)) (k : Nat) (hk : k < l.length) : (l.getD k []).length ≤ szN l l.length := by
  have h1 : (l.getD k []).length ≤ szN l (k + 1) := Nat.le_add_left _ _
  have h2 := szN_mono l (k + 1) (l.length - (k + 1))
  rw [show k + 1 + (l.length - (k + 1)) = l.length by omega] at h2
  omega
set_option maxRecDepth 100000 in
set_option maxHeartbeats 1000000 in
theorem size_at (W : World) (lo : Nat) (vl : Value) (l : List (List Int)) (h : LL W lo vl l) : Calls Try.prog 13 #[vl] W fun e w' => ∃ s : Nat, e = .returned (.int .i64 (s : Int)) ∧ w' = W ∧ (s ≤ 1048576 → szN l l.length ≤ s) := by
  obtain ⟨ao, c, rfl, hle, hcc, sl, hcs, hrd⟩ := h
  have HCS := hid hcs
  have HRD := hid hrd
  clear hcs hrd
  go_enter Try.func13, Try.ntmps13
  go_wp2_with (fail)
  go_loop [3, 4] (fun s3 s4 => ∃ k n : Nat, k ≤ l.length ∧ s4 = .int .i64 (k : Int) ∧ s3 = .int .i64 (n : Int) ∧ n ≤ 17592186044416 * 2 ∧ Hid (n = szN l k)) (fun _ s4 => l.length - (intOf s4).toNat)
  case atStart => exact ⟨0, l.length, by omega, rfl, rfl, by omega, hid rfl⟩
  case round =>
    obtain ⟨k, n, hk, rfl, rfl, hn, HN⟩ := hrel
    by_cases hlt : k < l.length
    · have hlt' : (k : Int) < (l.length : Int) := by omega
      by_cases hbig : n ≤ 1048576
      · have hb' : decide ((n : Int) ≤ 1048576) = true := decide_eq_true (by omega)
        have hb'' : (n : Int) ≤ 1048576 := by omega
        obtain ⟨b, o, rfl, hb, hc⟩ := HCS.out.resolve_left (by omega)
        have hck := hc k hlt
        obtain ⟨ao2, c2, hs, hle2, hcc2, _⟩ := HRD.out k hlt
        rw [hs] at hck
        have HS : Hid (szN l (k + 1) = n + (l.getD k []).length) := hid (by rw [HN.out]; rfl)
        clear hs hc
        generalize l.getD k [] = r at *
        go_wp2_with (fail)
        go_round
        case rel => exact ⟨k + 1, n + r.length, by omega, by go_num, by go_num, by omega, hid HS.out.symm⟩
        case measure => simp [intOf]; omega
      · have hb' : decide ((n : Int) ≤ 1048576) = false := decide_eq_false (by omega)
        have hb'' : ¬ (n : Int) ≤ 1048576 := by omega
        go_wp2_with (fail)
        go_ret
        exact ⟨n, rfl, rfl, fun h => by omega⟩
    · have hlt' : ¬ (k : Int) < (l.length : Int) := by omega
      obtain rfl : k = l.length := by omega
      go_wp2_with (fail)
      go_ret
      exact ⟨n, rfl, rfl, fun _ => by rw [HN.out]; exact Nat.le_refl _⟩
/-- Lists that are not too great. -/
def Sml (l : List (List Int)) : Prop := l.length ≤ 200 ∧ ∀ k, k < l.length → (l.getD k []).length ≤ 3000
set_option maxRecDepth 100000 in
set_option maxHeartbeats 1000000 in
theorem great_at (W : World) (lo : Nat) (vl : Value) (l : List (List Int)) (h : LL W lo vl l) : Calls Try.prog 9 #[vl] W fun e w' => ∃ b : Bool, e = .returned (.bool b) ∧ w' = W ∧ (b = false → Sml l) := by
  have HL := hid h
  obtain ⟨ao, c, rfl, hle, hcc, _⟩ := h
  by_cases hg : 200 < l.length
  · have hg' : decide ((l.length : Int) > 200) = true := decide_eq_true (by omega)
    have hg'' : (200 : Int) < (l.length : Int) := by omega
    go_enter Try.func9, Try.ntmps9
    go_wp2_with (fail)
    go_ret
    exact ⟨true, rfl, rfl, fun e => by cases e⟩
  · have hg' : decide ((l.length : Int) > 200) = false := decide_eq_false (by omega)
    have hg'' : ¬ (200 : Int) < (l.length : Int) := by omega
    go_enter Try.func9, Try.ntmps9
    go_wp2_with (fail)
    refine (size_at W lo _ l HL.out).mono ?_
    rintro e w1 ⟨s, rfl, rfl, hs⟩
    have HS := hid hs
    clear hs
    by_cases hb : 3000 < s
    · have hb' : decide ((s : Int) > 3000) = true := decide_eq_true (by omega)
      have hb'' : (3000 : Int) < (s : Int) := by omega
      go_wp2_with (fail)
      go_ret
      exact ⟨true, rfl, rfl, fun e => by cases e⟩
    · have hb' : decide ((s : Int) > 3000) = false := decide_eq_false (by omega)
      have hb'' : ¬ (3000 : Int) < (s : Int) := by omega
      go_wp2_with (fail)
      go_ret
      refine ⟨false, rfl, rfl, fun _ => ⟨by omega, fun k hk => ?_⟩⟩
      have h1 := szN_row l k hk
      have h2 := HS.out (by omega)
      omega
end Go.Proofs.Ytdhjedpgdhageaa.Ord
