/-
  Whether stations may send frames of so many bits; whether numbers may be ticks.
-/
import Derived.Test.YtobmnndimlhfpaaGreatDoorSca
namespace Go.Proofs.YtobmnndimlhfpaaGreatDoor.Slo
open Go.ChangeShapes Go.WideShapes Go.ChangeAt Go.RowKit Go.Joins
def tkAll : List Int → Bool
  | [] => true
  | x :: r => wi x 0 1125899906842624 && tkAll r
theorem tkAll_drop {r : List Int} {k : Nat} (h : k < r.length) : tkAll (r.drop k) = (wi (ga r k) 0 1125899906842624 && tkAll (r.drop (k + 1))) := by
  rw [List.drop_eq_getElem_cons h]
  simp [tkAll, ga, h]
theorem tkAll_iff : ∀ {r : List Int}, tkAll r = true ↔ ∀ x ∈ r, 0 ≤ x ∧ x ≤ 1125899906842624
  | [] => by simp [tkAll]
  | x :: r => by simp [tkAll, wi_iff, tkAll_iff]
def btAll : List Int → Bool
  | [] => true
  | x :: r => wi x 1 100000 && btAll r
theorem btAll_drop {r : List Int} {k : Nat} (h : k < r.length) : btAll (r.drop k) = (wi (ga r k) 1 100000 && btAll (r.drop (k + 1))) := by
  rw [List.drop_eq_getElem_cons h]
  simp [btAll, ga, h]
theorem btAll_iff : ∀ {r : List Int}, btAll r = true ↔ ∀ x ∈ r, 1 ≤ x ∧ x ≤ 100000
  | [] => by simp [btAll]
  | x :: r => by simp [btAll, wi_iff, btAll_iff]
theorem ga_mem {r : List Int} {k : Nat} (h : k < r.length) : ga r k ∈ r := by
  simp [ga, h]
theorem btAll_at {r : List Int} (h : btAll r = true) {k : Nat} (hk : k < r.length) : 1 ≤ ga r k ∧ ga r k ≤ 100000 := btAll_iff.1 h _ (ga_mem hk)
set_option maxHeartbeats 4000000 in
theorem ticks_at (W : World) (lo : Nat) (v : Value) (r : List Int) (h : Rd W lo v r) : Calls Tryz.prog 30 #[v] W fun e w' => e = .returned (.bool (tkAll r)) ∧ w' = W := by
  obtain ⟨ao, c, rfl, hle, hcc, hcs⟩ := h
  have HC := hid hcs
  clear hcs
  go_enter Tryz.func30, Tryz.ntmps30
  go_wp2_with (fail)
  go_loop [4, 7] (fun _ s7 => ∃ k : Nat, k ≤ r.length ∧ s7 = .int .i64 (k : Int) ∧ Hid (tkAll r = tkAll (r.drop k))) (fun _ s7 => r.length - (intOf s7).toNat)
  case atStart => exact ⟨0, by omega, rfl, hid (by simp)⟩
  case round =>
    obtain ⟨k, hk, rfl, HK⟩ := hrel
    by_cases hlt : k < r.length
    · have hlt' : (k : Int) < (r.length : Int) := by omega
      obtain ⟨b, o, rfl, hb, hc⟩ := HC.out.resolve_left (by intro e; rw [e] at hlt; simp at hlt)
      have hck := hc k hlt
      clear hc
      have HD := hid (tkAll_drop hlt)
      generalize ga r k = z at *
      go_wp2_with (fail)
      refine (within_at _ _ _ _).mono ?_
      rintro e w1 ⟨rfl, rfl⟩
      cases h1 : wi z 0 1125899906842624
      · go_wp2_with (fail)
        go_ret
        exact ⟨by rw [HK.out, HD.out, h1]; rfl, rfl⟩
      · have HN : Hid (tkAll r = tkAll (r.drop (k + 1))) := hid (by rw [HK.out, HD.out, h1]; rfl)
        clear h1 HD
        go_wp2_with (fail)
        go_round
        case rel => exact ⟨k + 1, by omega, by go_num, HN⟩
        case measure => simp [intOf]; omega
    · have hlt' : ¬ (k : Int) < (r.length : Int) := by omega
      obtain rfl : k = r.length := by omega
      have HE : Hid (tkAll r = true) := hid (by rw [HK.out]; simp [tkAll])
      clear HK
      go_wp2_with (fail)
      go_ret
      exact ⟨by rw [HE.out]; rfl, rfl⟩
/-- May stations send frames of so many bits? -/
def mayF (s : Su) (r : List Int) : Bool := chk s && wi r.length (3 * s.k + 1) 8 && btAll r
theorem mayF_iff {s : Su} {r : List Int} : mayF s r = true ↔ chk s = true ∧ wi r.length (3 * s.k + 1) 8 = true ∧ btAll r = true := by simp [mayF, and_assoc]
set_option maxHeartbeats 4000000 in
theorem may_at (W : World) (s : Su) (v : Value) (r : List Int) (h : Rd W W.heap.size v r) : Calls Tryz.prog 22 #[.agg (suC s), v] W fun e w' => e = .returned (.bool (mayF s r)) ∧ Below W.heap.size W w' := by
  obtain ⟨ao, c, rfl, hle, hcc, hcs⟩ := h
  have HC := hid hcs
  clear hcs
  go_enter Tryz.func22, Tryz.ntmps22
  go_wp2_with (fail)
  refine (check_at _ _).mono ?_
  rintro e w1 ⟨rfl, hb⟩
  have hb1 := bstep (balloc _ _) hb
  have HB := hid hb1
  have hr1 := keep_row (heap_alloc_new W (.cells (suC s) 23)) hb
  clear hb hb1
  cases h1 : chk s
  · go_wp2_with (fail)
    go_ret
    exact ⟨by simp [mayF, h1], HB.out⟩
  have k1 := (chk_iff.1 h1).2.2.2.2
  obtain ⟨x0, x1, x2, x3, x4⟩ := su_cells hr1
  go_wp2_with (fail)
  refine (within_at _ _ _ _).mono ?_
  rintro e w2 ⟨rfl, rfl⟩
  cases h2 : wi r.length (3 * s.k + 1) 8
  · go_wp2_with (fail)
    go_ret
    exact ⟨by simp [mayF, h2], HB.out⟩
  have HM : Hid (mayF s r = btAll r) := hid (by simp [mayF, h1, h2])
  clear h1 h2
  go_wp2_with (fail)
  go_loop [6, 22] (fun _ s7 => ∃ k : Nat, k ≤ r.length ∧ s7 = .int .i64 (k : Int) ∧ Hid (btAll r = btAll (r.drop k))) (fun _ s7 => r.length - (intOf s7).toNat)
  case atStart => exact ⟨0, by omega, rfl, hid (by simp)⟩
  case round =>
    obtain ⟨k, hk, rfl, HK⟩ := hrel
    by_cases hlt : k < r.length
    · have hlt' : (k : Int) < (r.length : Int) := by omega
      obtain ⟨b, o, rfl, hb, hc⟩ := HC.out.resolve_left (by intro e; rw [e] at hlt; simp at hlt)
      have hck := (HB.out.cell (p := ⟨b, o + k, none⟩) hb).trans (hc k hlt)
      clear hc
      have HD := hid (btAll_drop hlt)
      generalize ga r k = z at *
      go_wp2_with (fail)
      refine (within_at _ _ _ _).mono ?_
      rintro e w1 ⟨rfl, rfl⟩
      cases h1 : wi z 1 100000
      · go_wp2_with (fail)
        go_ret
        exact ⟨by rw [HM.out, HK.out, HD.out, h1]; rfl, HB.out⟩
      · have HN : Hid (btAll r = btAll (r.drop (k + 1))) := hid (by rw [HK.out, HD.out, h1]; rfl)
        clear h1 HD
        go_wp2_with (fail)
        go_round
        case rel => exact ⟨k + 1, by omega, by go_num, HN⟩
        case measure => simp [intOf]; omega
    · have hlt' : ¬ (k : Int) < (r.length : Int) := by omega
      obtain rfl : k = r.length := by omega
      have HE : Hid (btAll r = true) := hid (by rw [HK.out]; simp [btAll])
      clear HK
      go_wp2_with (fail)
      go_ret
      exact ⟨by rw [HM.out, HE.out]; rfl, HB.out⟩
end Go.Proofs.YtobmnndimlhfpaaGreatDoor.Slo
