/-
  Whether values have the types that an operator is of, as the document has it.
-/
import Derived.Test.YtkniacdfhajogaaRef
namespace Go.Proofs.Ytkniacdfhajogaa.Val
open Go.ChangeShapes Go.WideShapes Go.ChangeAt Go.RowKit Go.Joins
set_option maxHeartbeats 1000000
set_option maxRecDepth 100000 in
theorem rfit4 (l : List Vl) (g o cap : Nat) (w : World) (hl : l.length = 1) (hV : VAt w g o l) : Calls Try.prog 15 #[.int .u8 4, .slice (some ⟨g, o, none⟩) 1 cap] w fun e w' => e = .returned (.bool (l.all fun v => decide (v.ty = 1))) ∧ Below w.heap.size w w' := by
  have HV := hid hV
  have HL := hid hl
  clear hV hl
  go_enter Try.func15, Try.ntmps15
  go_wp2_with (fail)
  go_loopw [6] (fun i wr => ∃ k : Nat, k ≤ 1 ∧ i = .int .i64 (k : Int) ∧ Hid ((l.take k).all (fun v => decide (v.ty = 1)) = true) ∧ wr = w) (fun i _ => 1 - (intOf i).toNat)
  case atStart => exact ⟨0, Nat.zero_le _, rfl, hid rfl, rfl⟩
  case round =>
    obtain ⟨k, hk, rfl, HA, rfl⟩ := hrel
    by_cases hlt : k < 1
    · have hlt' : (k : Int) < 1 := by omega
      have hk0 : (0 : Int) ≤ (k : Int) := by omega
      have hkl : k < l.length := by rw [HL.out]; exact hlt
      obtain ⟨y0, y1⟩ := HV.out k hkl
      have HT : Hid ((l.take (k + 1)).all (fun v => decide (v.ty = 1)) = decide (l[k].ty = 1)) := hid (by rw [List.take_succ_eq_append_getElem hkl, List.all_append, HA.out]; simp)
      have HM : Hid (l[k].ty ≠ 1 → l.all (fun v => decide (v.ty = 1)) = false) := hid (fun h => by rw [List.all_eq_false]; exact ⟨l[k], List.getElem_mem hkl, by simp [h]⟩)
      generalize l[k] = v at *
      clear hkl y1
      by_cases h1 : v.ty = 1
      · have e1 : ((v.ty : Int) == 1) = true := by rw [beq_iff_eq]; omega
        have e1' : ((v.ty : Int) != 1) = false := by rw [bne, e1]; rfl
        have HC : Hid ((l.take (k + 1)).all (fun v => decide (v.ty = 1)) = true) := hid (by rw [HT.out, decide_eq_true h1])
        clear h1
        go_wp2_with (fail)
        go_roundw
        case rel => exact ⟨k + 1, by omega, by go_num, HC, trivial⟩
        case measure => simp [intOf]; omega
      · have e1 : ((v.ty : Int) == 1) = false := by rw [beq_eq_false_iff_ne]; omega
        have e1' : ((v.ty : Int) != 1) = true := by rw [bne, e1]; rfl
        have HC := hid (HM.out h1)
        clear h1
        go_wp2_with (fail)
        go_ret
        exact ⟨by rw [HC.out]; rfl, Below.refl _ _⟩
    · have hlt' : ¬ (k : Int) < 1 := by omega
      have HE : Hid (l.all (fun v => decide (v.ty = 1)) = true) := hid (by have h := HA.out; rw [List.take_of_length_le (by rw [HL.out]; omega)] at h; exact h)
      go_wp2_with (fail)
      go_ret
      exact ⟨by rw [HE.out]; rfl, Below.refl _ _⟩
set_option maxRecDepth 100000 in
theorem rfit5 (l : List Vl) (g o cap : Nat) (w : World) (hl : l.length = 1) (hV : VAt w g o l) : Calls Try.prog 15 #[.int .u8 5, .slice (some ⟨g, o, none⟩) 1 cap] w fun e w' => e = .returned (.bool (l.all fun v => decide (v.ty = 2))) ∧ Below w.heap.size w w' := by
  have HV := hid hV
  have HL := hid hl
  clear hV hl
  go_enter Try.func15, Try.ntmps15
  go_wp2_with (fail)
  go_loopw [6] (fun i wr => ∃ k : Nat, k ≤ 1 ∧ i = .int .i64 (k : Int) ∧ Hid ((l.take k).all (fun v => decide (v.ty = 2)) = true) ∧ wr = w) (fun i _ => 1 - (intOf i).toNat)
  case atStart => exact ⟨0, Nat.zero_le _, rfl, hid rfl, rfl⟩
  case round =>
    obtain ⟨k, hk, rfl, HA, rfl⟩ := hrel
    by_cases hlt : k < 1
    · have hlt' : (k : Int) < 1 := by omega
      have hk0 : (0 : Int) ≤ (k : Int) := by omega
      have hkl : k < l.length := by rw [HL.out]; exact hlt
      obtain ⟨y0, y1⟩ := HV.out k hkl
      have HT : Hid ((l.take (k + 1)).all (fun v => decide (v.ty = 2)) = decide (l[k].ty = 2)) := hid (by rw [List.take_succ_eq_append_getElem hkl, List.all_append, HA.out]; simp)
      have HM : Hid (l[k].ty ≠ 2 → l.all (fun v => decide (v.ty = 2)) = false) := hid (fun h => by rw [List.all_eq_false]; exact ⟨l[k], List.getElem_mem hkl, by simp [h]⟩)
      generalize l[k] = v at *
      clear hkl y1
      by_cases h1 : v.ty = 2
      · have e1 : ((v.ty : Int) == 2) = true := by rw [beq_iff_eq]; omega
        have e1' : ((v.ty : Int) != 2) = false := by rw [bne, e1]; rfl
        have HC : Hid ((l.take (k + 1)).all (fun v => decide (v.ty = 2)) = true) := hid (by rw [HT.out, decide_eq_true h1])
        clear h1
        go_wp2_with (fail)
        go_roundw
        case rel => exact ⟨k + 1, by omega, by go_num, HC, trivial⟩
        case measure => simp [intOf]; omega
      · have e1 : ((v.ty : Int) == 2) = false := by rw [beq_eq_false_iff_ne]; omega
        have e1' : ((v.ty : Int) != 2) = true := by rw [bne, e1]; rfl
        have HC := hid (HM.out h1)
        clear h1
        go_wp2_with (fail)
        go_ret
        exact ⟨by rw [HC.out]; rfl, Below.refl _ _⟩
    · have hlt' : ¬ (k : Int) < 1 := by omega
      have HE : Hid (l.all (fun v => decide (v.ty = 2)) = true) := hid (by have h := HA.out; rw [List.take_of_length_le (by rw [HL.out]; omega)] at h; exact h)
      go_wp2_with (fail)
      go_ret
      exact ⟨by rw [HE.out]; rfl, Below.refl _ _⟩
set_option maxRecDepth 100000 in
theorem rfit6 (l : List Vl) (g o cap : Nat) (w : World) (hl : l.length = 2) (hV : VAt w g o l) : Calls Try.prog 15 #[.int .u8 6, .slice (some ⟨g, o, none⟩) 2 cap] w fun e w' => e = .returned (.bool (l.all fun v => decide (v.ty = 1))) ∧ Below w.heap.size w w' := by
  have HV := hid hV
  have HL := hid hl
  clear hV hl
  go_enter Try.func15, Try.ntmps15
  go_wp2_with (fail)
  go_loopw [6] (fun i wr => ∃ k : Nat, k ≤ 2 ∧ i = .int .i64 (k : Int) ∧ Hid ((l.take k).all (fun v => decide (v.ty = 1)) = true) ∧ wr = w) (fun i _ => 2 - (intOf i).toNat)
  case atStart => exact ⟨0, Nat.zero_le _, rfl, hid rfl, rfl⟩
  case round =>
    obtain ⟨k, hk, rfl, HA, rfl⟩ := hrel
    by_cases hlt : k < 2
    · have hlt' : (k : Int) < 2 := by omega
      have hk0 : (0 : Int) ≤ (k : Int) := by omega
      have hkl : k < l.length := by rw [HL.out]; exact hlt
      obtain ⟨y0, y1⟩ := HV.out k hkl
      have HT : Hid ((l.take (k + 1)).all (fun v => decide (v.ty = 1)) = decide (l[k].ty = 1)) := hid (by rw [List.take_succ_eq_append_getElem hkl, List.all_append, HA.out]; simp)
      have HM : Hid (l[k].ty ≠ 1 → l.all (fun v => decide (v.ty = 1)) = false) := hid (fun h => by rw [List.all_eq_false]; exact ⟨l[k], List.getElem_mem hkl, by simp [h]⟩)
      generalize l[k] = v at *
      clear hkl y1
      by_cases h1 : v.ty = 1
      · have e1 : ((v.ty : Int) == 1) = true := by rw [beq_iff_eq]; omega
        have e1' : ((v.ty : Int) != 1) = false := by rw [bne, e1]; rfl
        have HC : Hid ((l.take (k + 1)).all (fun v => decide (v.ty = 1)) = true) := hid (by rw [HT.out, decide_eq_true h1])
        clear h1
        go_wp2_with (fail)
        go_roundw
        case rel => exact ⟨k + 1, by omega, by go_num, HC, trivial⟩
        case measure => simp [intOf]; omega
      · have e1 : ((v.ty : Int) == 1) = false := by rw [beq_eq_false_iff_ne]; omega
        have e1' : ((v.ty : Int) != 1) = true := by rw [bne, e1]; rfl
        have HC := hid (HM.out h1)
        clear h1
        go_wp2_with (fail)
        go_ret
        exact ⟨by rw [HC.out]; rfl, Below.refl _ _⟩
    · have hlt' : ¬ (k : Int) < 2 := by omega
      have HE : Hid (l.all (fun v => decide (v.ty = 1)) = true) := hid (by have h := HA.out; rw [List.take_of_length_le (by rw [HL.out]; omega)] at h; exact h)
      go_wp2_with (fail)
      go_ret
      exact ⟨by rw [HE.out]; rfl, Below.refl _ _⟩
set_option maxRecDepth 100000 in
theorem rfit7 (l : List Vl) (g o cap : Nat) (w : World) (hl : l.length = 2) (hV : VAt w g o l) : Calls Try.prog 15 #[.int .u8 7, .slice (some ⟨g, o, none⟩) 2 cap] w fun e w' => e = .returned (.bool (l.all fun v => decide (v.ty = 1))) ∧ Below w.heap.size w w' := by
  have HV := hid hV
  have HL := hid hl
  clear hV hl
  go_enter Try.func15, Try.ntmps15
  go_wp2_with (fail)
  go_loopw [6] (fun i wr => ∃ k : Nat, k ≤ 2 ∧ i = .int .i64 (k : Int) ∧ Hid ((l.take k).all (fun v => decide (v.ty = 1)) = true) ∧ wr = w) (fun i _ => 2 - (intOf i).toNat)
  case atStart => exact ⟨0, Nat.zero_le _, rfl, hid rfl, rfl⟩
  case round =>
    obtain ⟨k, hk, rfl, HA, rfl⟩ := hrel
    by_cases hlt : k < 2
    · have hlt' : (k : Int) < 2 := by omega
      have hk0 : (0 : Int) ≤ (k : Int) := by omega
      have hkl : k < l.length := by rw [HL.out]; exact hlt
      obtain ⟨y0, y1⟩ := HV.out k hkl
      have HT : Hid ((l.take (k + 1)).all (fun v => decide (v.ty = 1)) = decide (l[k].ty = 1)) := hid (by rw [List.take_succ_eq_append_getElem hkl, List.all_append, HA.out]; simp)
      have HM : Hid (l[k].ty ≠ 1 → l.all (fun v => decide (v.ty = 1)) = false) := hid (fun h => by rw [List.all_eq_false]; exact ⟨l[k], List.getElem_mem hkl, by simp [h]⟩)
      generalize l[k] = v at *
      clear hkl y1
      by_cases h1 : v.ty = 1
      · have e1 : ((v.ty : Int) == 1) = true := by rw [beq_iff_eq]; omega
        have e1' : ((v.ty : Int) != 1) = false := by rw [bne, e1]; rfl
        have HC : Hid ((l.take (k + 1)).all (fun v => decide (v.ty = 1)) = true) := hid (by rw [HT.out, decide_eq_true h1])
        clear h1
        go_wp2_with (fail)
        go_roundw
        case rel => exact ⟨k + 1, by omega, by go_num, HC, trivial⟩
        case measure => simp [intOf]; omega
      · have e1 : ((v.ty : Int) == 1) = false := by rw [beq_eq_false_iff_ne]; omega
        have e1' : ((v.ty : Int) != 1) = true := by rw [bne, e1]; rfl
        have HC := hid (HM.out h1)
        clear h1
        go_wp2_with (fail)
        go_ret
        exact ⟨by rw [HC.out]; rfl, Below.refl _ _⟩
    · have hlt' : ¬ (k : Int) < 2 := by omega
      have HE : Hid (l.all (fun v => decide (v.ty = 1)) = true) := hid (by have h := HA.out; rw [List.take_of_length_le (by rw [HL.out]; omega)] at h; exact h)
      go_wp2_with (fail)
      go_ret
      exact ⟨by rw [HE.out]; rfl, Below.refl _ _⟩
set_option maxRecDepth 100000 in
theorem rfit8 (l : List Vl) (g o cap : Nat) (w : World) (hl : l.length = 2) (hV : VAt w g o l) : Calls Try.prog 15 #[.int .u8 8, .slice (some ⟨g, o, none⟩) 2 cap] w fun e w' => e = .returned (.bool (l.all fun v => decide (v.ty = 1))) ∧ Below w.heap.size w w' := by
  have HV := hid hV
  have HL := hid hl
  clear hV hl
  go_enter Try.func15, Try.ntmps15
  go_wp2_with (fail)
  go_loopw [6] (fun i wr => ∃ k : Nat, k ≤ 2 ∧ i = .int .i64 (k : Int) ∧ Hid ((l.take k).all (fun v => decide (v.ty = 1)) = true) ∧ wr = w) (fun i _ => 2 - (intOf i).toNat)
  case atStart => exact ⟨0, Nat.zero_le _, rfl, hid rfl, rfl⟩
  case round =>
    obtain ⟨k, hk, rfl, HA, rfl⟩ := hrel
    by_cases hlt : k < 2
    · have hlt' : (k : Int) < 2 := by omega
      have hk0 : (0 : Int) ≤ (k : Int) := by omega
      have hkl : k < l.length := by rw [HL.out]; exact hlt
      obtain ⟨y0, y1⟩ := HV.out k hkl
      have HT : Hid ((l.take (k + 1)).all (fun v => decide (v.ty = 1)) = decide (l[k].ty = 1)) := hid (by rw [List.take_succ_eq_append_getElem hkl, List.all_append, HA.out]; simp)
      have HM : Hid (l[k].ty ≠ 1 → l.all (fun v => decide (v.ty = 1)) = false) := hid (fun h => by rw [List.all_eq_false]; exact ⟨l[k], List.getElem_mem hkl, by simp [h]⟩)
      generalize l[k] = v at *
      clear hkl y1
      by_cases h1 : v.ty = 1
      · have e1 : ((v.ty : Int) == 1) = true := by rw [beq_iff_eq]; omega
        have e1' : ((v.ty : Int) != 1) = false := by rw [bne, e1]; rfl
        have HC : Hid ((l.take (k + 1)).all (fun v => decide (v.ty = 1)) = true) := hid (by rw [HT.out, decide_eq_true h1])
        clear h1
        go_wp2_with (fail)
        go_roundw
        case rel => exact ⟨k + 1, by omega, by go_num, HC, trivial⟩
        case measure => simp [intOf]; omega
      · have e1 : ((v.ty : Int) == 1) = false := by rw [beq_eq_false_iff_ne]; omega
        have e1' : ((v.ty : Int) != 1) = true := by rw [bne, e1]; rfl
        have HC := hid (HM.out h1)
        clear h1
        go_wp2_with (fail)
        go_ret
        exact ⟨by rw [HC.out]; rfl, Below.refl _ _⟩
    · have hlt' : ¬ (k : Int) < 2 := by omega
      have HE : Hid (l.all (fun v => decide (v.ty = 1)) = true) := hid (by have h := HA.out; rw [List.take_of_length_le (by rw [HL.out]; omega)] at h; exact h)
      go_wp2_with (fail)
      go_ret
      exact ⟨by rw [HE.out]; rfl, Below.refl _ _⟩
set_option maxRecDepth 100000 in
theorem rfit9 (l : List Vl) (g o cap : Nat) (w : World) (hl : l.length = 2) (hV : VAt w g o l) : Calls Try.prog 15 #[.int .u8 9, .slice (some ⟨g, o, none⟩) 2 cap] w fun e w' => e = .returned (.bool (l.all fun v => decide (v.ty = 1))) ∧ Below w.heap.size w w' := by
  have HV := hid hV
  have HL := hid hl
  clear hV hl
  go_enter Try.func15, Try.ntmps15
  go_wp2_with (fail)
  go_loopw [6] (fun i wr => ∃ k : Nat, k ≤ 2 ∧ i = .int .i64 (k : Int) ∧ Hid ((l.take k).all (fun v => decide (v.ty = 1)) = true) ∧ wr = w) (fun i _ => 2 - (intOf i).toNat)
  case atStart => exact ⟨0, Nat.zero_le _, rfl, hid rfl, rfl⟩
  case round =>
    obtain ⟨k, hk, rfl, HA, rfl⟩ := hrel
    by_cases hlt : k < 2
    · have hlt' : (k : Int) < 2 := by omega
      have hk0 : (0 : Int) ≤ (k : Int) := by omega
      have hkl : k < l.length := by rw [HL.out]; exact hlt
      obtain ⟨y0, y1⟩ := HV.out k hkl
      have HT : Hid ((l.take (k + 1)).all (fun v => decide (v.ty = 1)) = decide (l[k].ty = 1)) := hid (by rw [List.take_succ_eq_append_getElem hkl, List.all_append, HA.out]; simp)
      have HM : Hid (l[k].ty ≠ 1 → l.all (fun v => decide (v.ty = 1)) = false) := hid (fun h => by rw [List.all_eq_false]; exact ⟨l[k], List.getElem_mem hkl, by simp [h]⟩)
      generalize l[k] = v at *
      clear hkl y1
      by_cases h1 : v.ty = 1
      · have e1 : ((v.ty : Int) == 1) = true := by rw [beq_iff_eq]; omega
        have e1' : ((v.ty : Int) != 1) = false := by rw [bne, e1]; rfl
        have HC : Hid ((l.take (k + 1)).all (fun v => decide (v.ty = 1)) = true) := hid (by rw [HT.out, decide_eq_true h1])
        clear h1
        go_wp2_with (fail)
        go_roundw
        case rel => exact ⟨k + 1, by omega, by go_num, HC, trivial⟩
        case measure => simp [intOf]; omega
      · have e1 : ((v.ty : Int) == 1) = false := by rw [beq_eq_false_iff_ne]; omega
        have e1' : ((v.ty : Int) != 1) = true := by rw [bne, e1]; rfl
        have HC := hid (HM.out h1)
        clear h1
        go_wp2_with (fail)
        go_ret
        exact ⟨by rw [HC.out]; rfl, Below.refl _ _⟩
    · have hlt' : ¬ (k : Int) < 2 := by omega
      have HE : Hid (l.all (fun v => decide (v.ty = 1)) = true) := hid (by have h := HA.out; rw [List.take_of_length_le (by rw [HL.out]; omega)] at h; exact h)
      go_wp2_with (fail)
      go_ret
      exact ⟨by rw [HE.out]; rfl, Below.refl _ _⟩
set_option maxRecDepth 100000 in
theorem rfit10 (l : List Vl) (g o cap : Nat) (w : World) (hl : l.length = 2) (hV : VAt w g o l) : Calls Try.prog 15 #[.int .u8 10, .slice (some ⟨g, o, none⟩) 2 cap] w fun e w' => e = .returned (.bool (l.all fun v => decide (v.ty = 1))) ∧ Below w.heap.size w w' := by
  have HV := hid hV
  have HL := hid hl
  clear hV hl
  go_enter Try.func15, Try.ntmps15
  go_wp2_with (fail)
  go_loopw [6] (fun i wr => ∃ k : Nat, k ≤ 2 ∧ i = .int .i64 (k : Int) ∧ Hid ((l.take k).all (fun v => decide (v.ty = 1)) = true) ∧ wr = w) (fun i _ => 2 - (intOf i).toNat)
  case atStart => exact ⟨0, Nat.zero_le _, rfl, hid rfl, rfl⟩
  case round =>
    obtain ⟨k, hk, rfl, HA, rfl⟩ := hrel
    by_cases hlt : k < 2
    · have hlt' : (k : Int) < 2 := by omega
      have hk0 : (0 : Int) ≤ (k : Int) := by omega
      have hkl : k < l.length := by rw [HL.out]; exact hlt
      obtain ⟨y0, y1⟩ := HV.out k hkl
      have HT : Hid ((l.take (k + 1)).all (fun v => decide (v.ty = 1)) = decide (l[k].ty = 1)) := hid (by rw [List.take_succ_eq_append_getElem hkl, List.all_append, HA.out]; simp)
      have HM : Hid (l[k].ty ≠ 1 → l.all (fun v => decide (v.ty = 1)) = false) := hid (fun h => by rw [List.all_eq_false]; exact ⟨l[k], List.getElem_mem hkl, by simp [h]⟩)
      generalize l[k] = v at *
      clear hkl y1
      by_cases h1 : v.ty = 1
      · have e1 : ((v.ty : Int) == 1) = true := by rw [beq_iff_eq]; omega
        have e1' : ((v.ty : Int) != 1) = false := by rw [bne, e1]; rfl
        have HC : Hid ((l.take (k + 1)).all (fun v => decide (v.ty = 1)) = true) := hid (by rw [HT.out, decide_eq_true h1])
        clear h1
        go_wp2_with (fail)
        go_roundw
        case rel => exact ⟨k + 1, by omega, by go_num, HC, trivial⟩
        case measure => simp [intOf]; omega
      · have e1 : ((v.ty : Int) == 1) = false := by rw [beq_eq_false_iff_ne]; omega
        have e1' : ((v.ty : Int) != 1) = true := by rw [bne, e1]; rfl
        have HC := hid (HM.out h1)
        clear h1
        go_wp2_with (fail)
        go_ret
        exact ⟨by rw [HC.out]; rfl, Below.refl _ _⟩
    · have hlt' : ¬ (k : Int) < 2 := by omega
      have HE : Hid (l.all (fun v => decide (v.ty = 1)) = true) := hid (by have h := HA.out; rw [List.take_of_length_le (by rw [HL.out]; omega)] at h; exact h)
      go_wp2_with (fail)
      go_ret
      exact ⟨by rw [HE.out]; rfl, Below.refl _ _⟩
set_option maxRecDepth 100000 in
theorem rfit13 (l : List Vl) (g o cap : Nat) (w : World) (hl : l.length = 2) (hV : VAt w g o l) : Calls Try.prog 15 #[.int .u8 13, .slice (some ⟨g, o, none⟩) 2 cap] w fun e w' => e = .returned (.bool (l.all fun v => decide (v.ty = 1))) ∧ Below w.heap.size w w' := by
  have HV := hid hV
  have HL := hid hl
  clear hV hl
  go_enter Try.func15, Try.ntmps15
  go_wp2_with (fail)
  go_loopw [6] (fun i wr => ∃ k : Nat, k ≤ 2 ∧ i = .int .i64 (k : Int) ∧ Hid ((l.take k).all (fun v => decide (v.ty = 1)) = true) ∧ wr = w) (fun i _ => 2 - (intOf i).toNat)
  case atStart => exact ⟨0, Nat.zero_le _, rfl, hid rfl, rfl⟩
  case round =>
    obtain ⟨k, hk, rfl, HA, rfl⟩ := hrel
    by_cases hlt : k < 2
    · have hlt' : (k : Int) < 2 := by omega
      have hk0 : (0 : Int) ≤ (k : Int) := by omega
      have hkl : k < l.length := by rw [HL.out]; exact hlt
      obtain ⟨y0, y1⟩ := HV.out k hkl
      have HT : Hid ((l.take (k + 1)).all (fun v => decide (v.ty = 1)) = decide (l[k].ty = 1)) := hid (by rw [List.take_succ_eq_append_getElem hkl, List.all_append, HA.out]; simp)
      have HM : Hid (l[k].ty ≠ 1 → l.all (fun v => decide (v.ty = 1)) = false) := hid (fun h => by rw [List.all_eq_false]; exact ⟨l[k], List.getElem_mem hkl, by simp [h]⟩)
      generalize l[k] = v at *
      clear hkl y1
      by_cases h1 : v.ty = 1
      · have e1 : ((v.ty : Int) == 1) = true := by rw [beq_iff_eq]; omega
        have e1' : ((v.ty : Int) != 1) = false := by rw [bne, e1]; rfl
        have HC : Hid ((l.take (k + 1)).all (fun v => decide (v.ty = 1)) = true) := hid (by rw [HT.out, decide_eq_true h1])
        clear h1
        go_wp2_with (fail)
        go_roundw
        case rel => exact ⟨k + 1, by omega, by go_num, HC, trivial⟩
        case measure => simp [intOf]; omega
      · have e1 : ((v.ty : Int) == 1) = false := by rw [beq_eq_false_iff_ne]; omega
        have e1' : ((v.ty : Int) != 1) = true := by rw [bne, e1]; rfl
        have HC := hid (HM.out h1)
        clear h1
        go_wp2_with (fail)
        go_ret
        exact ⟨by rw [HC.out]; rfl, Below.refl _ _⟩
    · have hlt' : ¬ (k : Int) < 2 := by omega
      have HE : Hid (l.all (fun v => decide (v.ty = 1)) = true) := hid (by have h := HA.out; rw [List.take_of_length_le (by rw [HL.out]; omega)] at h; exact h)
      go_wp2_with (fail)
      go_ret
      exact ⟨by rw [HE.out]; rfl, Below.refl _ _⟩
set_option maxRecDepth 100000 in
theorem rfit14 (l : List Vl) (g o cap : Nat) (w : World) (hl : l.length = 2) (hV : VAt w g o l) : Calls Try.prog 15 #[.int .u8 14, .slice (some ⟨g, o, none⟩) 2 cap] w fun e w' => e = .returned (.bool (l.all fun v => decide (v.ty = 1))) ∧ Below w.heap.size w w' := by
  have HV := hid hV
  have HL := hid hl
  clear hV hl
  go_enter Try.func15, Try.ntmps15
  go_wp2_with (fail)
  go_loopw [6] (fun i wr => ∃ k : Nat, k ≤ 2 ∧ i = .int .i64 (k : Int) ∧ Hid ((l.take k).all (fun v => decide (v.ty = 1)) = true) ∧ wr = w) (fun i _ => 2 - (intOf i).toNat)
  case atStart => exact ⟨0, Nat.zero_le _, rfl, hid rfl, rfl⟩
  case round =>
    obtain ⟨k, hk, rfl, HA, rfl⟩ := hrel
    by_cases hlt : k < 2
    · have hlt' : (k : Int) < 2 := by omega
      have hk0 : (0 : Int) ≤ (k : Int) := by omega
      have hkl : k < l.length := by rw [HL.out]; exact hlt
      obtain ⟨y0, y1⟩ := HV.out k hkl
      have HT : Hid ((l.take (k + 1)).all (fun v => decide (v.ty = 1)) = decide (l[k].ty = 1)) := hid (by rw [List.take_succ_eq_append_getElem hkl, List.all_append, HA.out]; simp)
      have HM : Hid (l[k].ty ≠ 1 → l.all (fun v => decide (v.ty = 1)) = false) := hid (fun h => by rw [List.all_eq_false]; exact ⟨l[k], List.getElem_mem hkl, by simp [h]⟩)
      generalize l[k] = v at *
      clear hkl y1
      by_cases h1 : v.ty = 1
      · have e1 : ((v.ty : Int) == 1) = true := by rw [beq_iff_eq]; omega
        have e1' : ((v.ty : Int) != 1) = false := by rw [bne, e1]; rfl
        have HC : Hid ((l.take (k + 1)).all (fun v => decide (v.ty = 1)) = true) := hid (by rw [HT.out, decide_eq_true h1])
        clear h1
        go_wp2_with (fail)
        go_roundw
        case rel => exact ⟨k + 1, by omega, by go_num, HC, trivial⟩
        case measure => simp [intOf]; omega
      · have e1 : ((v.ty : Int) == 1) = false := by rw [beq_eq_false_iff_ne]; omega
        have e1' : ((v.ty : Int) != 1) = true := by rw [bne, e1]; rfl
        have HC := hid (HM.out h1)
        clear h1
        go_wp2_with (fail)
        go_ret
        exact ⟨by rw [HC.out]; rfl, Below.refl _ _⟩
    · have hlt' : ¬ (k : Int) < 2 := by omega
      have HE : Hid (l.all (fun v => decide (v.ty = 1)) = true) := hid (by have h := HA.out; rw [List.take_of_length_le (by rw [HL.out]; omega)] at h; exact h)
      go_wp2_with (fail)
      go_ret
      exact ⟨by rw [HE.out]; rfl, Below.refl _ _⟩
set_option maxRecDepth 100000 in
theorem rfit15 (l : List Vl) (g o cap : Nat) (w : World) (hl : l.length = 2) (hV : VAt w g o l) : Calls Try.prog 15 #[.int .u8 15, .slice (some ⟨g, o, none⟩) 2 cap] w fun e w' => e = .returned (.bool (l.all fun v => decide (v.ty = 2))) ∧ Below w.heap.size w w' := by
  have HV := hid hV
  have HL := hid hl
  clear hV hl
  go_enter Try.func15, Try.ntmps15
  go_wp2_with (fail)
  go_loopw [6] (fun i wr => ∃ k : Nat, k ≤ 2 ∧ i = .int .i64 (k : Int) ∧ Hid ((l.take k).all (fun v => decide (v.ty = 2)) = true) ∧ wr = w) (fun i _ => 2 - (intOf i).toNat)
  case atStart => exact ⟨0, Nat.zero_le _, rfl, hid rfl, rfl⟩
  case round =>
    obtain ⟨k, hk, rfl, HA, rfl⟩ := hrel
    by_cases hlt : k < 2
    · have hlt' : (k : Int) < 2 := by omega
      have hk0 : (0 : Int) ≤ (k : Int) := by omega
      have hkl : k < l.length := by rw [HL.out]; exact hlt
      obtain ⟨y0, y1⟩ := HV.out k hkl
      have HT : Hid ((l.take (k + 1)).all (fun v => decide (v.ty = 2)) = decide (l[k].ty = 2)) := hid (by rw [List.take_succ_eq_append_getElem hkl, List.all_append, HA.out]; simp)
      have HM : Hid (l[k].ty ≠ 2 → l.all (fun v => decide (v.ty = 2)) = false) := hid (fun h => by rw [List.all_eq_false]; exact ⟨l[k], List.getElem_mem hkl, by simp [h]⟩)
      generalize l[k] = v at *
      clear hkl y1
      by_cases h1 : v.ty = 2
      · have e1 : ((v.ty : Int) == 2) = true := by rw [beq_iff_eq]; omega
        have e1' : ((v.ty : Int) != 2) = false := by rw [bne, e1]; rfl
        have HC : Hid ((l.take (k + 1)).all (fun v => decide (v.ty = 2)) = true) := hid (by rw [HT.out, decide_eq_true h1])
        clear h1
        go_wp2_with (fail)
        go_roundw
        case rel => exact ⟨k + 1, by omega, by go_num, HC, trivial⟩
        case measure => simp [intOf]; omega
      · have e1 : ((v.ty : Int) == 2) = false := by rw [beq_eq_false_iff_ne]; omega
        have e1' : ((v.ty : Int) != 2) = true := by rw [bne, e1]; rfl
        have HC := hid (HM.out h1)
        clear h1
        go_wp2_with (fail)
        go_ret
        exact ⟨by rw [HC.out]; rfl, Below.refl _ _⟩
    · have hlt' : ¬ (k : Int) < 2 := by omega
      have HE : Hid (l.all (fun v => decide (v.ty = 2)) = true) := hid (by have h := HA.out; rw [List.take_of_length_le (by rw [HL.out]; omega)] at h; exact h)
      go_wp2_with (fail)
      go_ret
      exact ⟨by rw [HE.out]; rfl, Below.refl _ _⟩
set_option maxRecDepth 100000 in
theorem rfit16 (l : List Vl) (g o cap : Nat) (w : World) (hl : l.length = 2) (hV : VAt w g o l) : Calls Try.prog 15 #[.int .u8 16, .slice (some ⟨g, o, none⟩) 2 cap] w fun e w' => e = .returned (.bool (l.all fun v => decide (v.ty = 2))) ∧ Below w.heap.size w w' := by
  have HV := hid hV
  have HL := hid hl
  clear hV hl
  go_enter Try.func15, Try.ntmps15
  go_wp2_with (fail)
  go_loopw [6] (fun i wr => ∃ k : Nat, k ≤ 2 ∧ i = .int .i64 (k : Int) ∧ Hid ((l.take k).all (fun v => decide (v.ty = 2)) = true) ∧ wr = w) (fun i _ => 2 - (intOf i).toNat)
  case atStart => exact ⟨0, Nat.zero_le _, rfl, hid rfl, rfl⟩
  case round =>
    obtain ⟨k, hk, rfl, HA, rfl⟩ := hrel
    by_cases hlt : k < 2
    · have hlt' : (k : Int) < 2 := by omega
      have hk0 : (0 : Int) ≤ (k : Int) := by omega
      have hkl : k < l.length := by rw [HL.out]; exact hlt
      obtain ⟨y0, y1⟩ := HV.out k hkl
      have HT : Hid ((l.take (k + 1)).all (fun v => decide (v.ty = 2)) = decide (l[k].ty = 2)) := hid (by rw [List.take_succ_eq_append_getElem hkl, List.all_append, HA.out]; simp)
      have HM : Hid (l[k].ty ≠ 2 → l.all (fun v => decide (v.ty = 2)) = false) := hid (fun h => by rw [List.all_eq_false]; exact ⟨l[k], List.getElem_mem hkl, by simp [h]⟩)
      generalize l[k] = v at *
      clear hkl y1
      by_cases h1 : v.ty = 2
      · have e1 : ((v.ty : Int) == 2) = true := by rw [beq_iff_eq]; omega
        have e1' : ((v.ty : Int) != 2) = false := by rw [bne, e1]; rfl
        have HC : Hid ((l.take (k + 1)).all (fun v => decide (v.ty = 2)) = true) := hid (by rw [HT.out, decide_eq_true h1])
        clear h1
        go_wp2_with (fail)
        go_roundw
        case rel => exact ⟨k + 1, by omega, by go_num, HC, trivial⟩
        case measure => simp [intOf]; omega
      · have e1 : ((v.ty : Int) == 2) = false := by rw [beq_eq_false_iff_ne]; omega
        have e1' : ((v.ty : Int) != 2) = true := by rw [bne, e1]; rfl
        have HC := hid (HM.out h1)
        clear h1
        go_wp2_with (fail)
        go_ret
        exact ⟨by rw [HC.out]; rfl, Below.refl _ _⟩
    · have hlt' : ¬ (k : Int) < 2 := by omega
      have HE : Hid (l.all (fun v => decide (v.ty = 2)) = true) := hid (by have h := HA.out; rw [List.take_of_length_le (by rw [HL.out]; omega)] at h; exact h)
      go_wp2_with (fail)
      go_ret
      exact ⟨by rw [HE.out]; rfl, Below.refl _ _⟩
set_option maxRecDepth 100000 in
theorem rfit11 (a b : Vl) (g o cap : Nat) (w : World) (hV : VAt w g o [a, b]) : Calls Try.prog 15 #[.int .u8 11, .slice (some ⟨g, o, none⟩) 2 cap] w fun e w' => e = .returned (.bool ((a.ty : Int) == (b.ty : Int))) ∧ Below w.heap.size w w' := by
  have y0 := (hV 0 (by simp)).1
  rw [Nat.zero_mul, Nat.add_zero] at y0
  have y1 := (hV 1 (by simp)).1
  rw [Nat.one_mul] at y1
  simp only [List.getElem_cons_zero, List.getElem_cons_succ] at y0 y1
  have S0 := hid (And.intro y0 y1)
  clear hV y0 y1
  go_enter Try.func15, Try.ntmps15
  go_wp2_with (fail)
  refine wp_region_held_drew (S := fun V => V.cell? ⟨g, o, none⟩ = some (.int .u8 (a.ty : Int)) ∧ V.cell? ⟨g, o + 2, none⟩ = some (.int .u8 (b.ty : Int))) (by kernel_rfl) ?_ (fun hHeld => ?_)
  · exact S0.out
  refine wpAnyH_take (i := 0) (oi := { dst := some 11, op := Go.Op.move (Go.Operand.tmp 1), type := 23, pos := _, after := #[], guard := none }) (v := ?_) rfl (by kernel_rfl) (by kernel_rfl) (by kernel_rfl) (fun _ _ _ h => h) (Or.inl ⟨by rfl, ?_⟩) (by assumption) ?_
  rotate_left
  · intro w hSw; (try dsimp only at hSw); go_simp <;> first | with_reducible rfl | (rw [if_neg (by first | omega | (simp only [ByteArray.size_append] at *; omega))])
  simp only [Act.put, List.setIfInBounds_toArray, List.set_cons_zero, List.set_cons_succ]
  refine wpAnyH_take (i := 1) (oi := { dst := some 12, op := Go.Op.indexAddr 23 (Go.Operand.tmp 11) (Go.Operand.const (Go.Value.int Go.IntKind.i64 0)), type := 0, pos := _, after := #[{ on := 0, ground := Go.Ground.data }], guard := none }) (v := ?_) rfl (by kernel_rfl) (by kernel_rfl) (by kernel_rfl) (fun _ _ _ h => h) (Or.inl ⟨by rfl, ?_⟩) (by assumption) ?_
  rotate_left
  · intro w hSw; (try dsimp only at hSw); go_simp <;> first | with_reducible rfl | (rw [if_neg (by first | omega | (simp only [ByteArray.size_append] at *; omega))])
  simp only [Act.put, List.setIfInBounds_toArray, List.set_cons_zero, List.set_cons_succ]
  refine wpAnyH_take (i := 2) (oi := { dst := some 13, op := Go.Op.fieldAddr 28 (Go.Operand.tmp 12) 0, type := 0, pos := _, after := #[{ on := 1, ground := Go.Ground.data }], guard := none }) (v := ?_) rfl (by kernel_rfl) (by kernel_rfl) (by kernel_rfl) (fun _ _ _ h => h) (Or.inl ⟨by rfl, ?_⟩) (by assumption) ?_
  rotate_left
  · intro w hSw; (try dsimp only at hSw); go_simp <;> first | with_reducible rfl | (rw [if_neg (by first | omega | (simp only [ByteArray.size_append] at *; omega))])
  simp only [Act.put, List.setIfInBounds_toArray, List.set_cons_zero, List.set_cons_succ]
  refine wpAnyH_take (i := 3) (oi := { dst := some 14, op := Go.Op.load 26 (Go.Operand.tmp 13), type := 26, pos := _, after := #[{ on := 2, ground := Go.Ground.data }], guard := none }) (v := ?_) rfl (by kernel_rfl) (by kernel_rfl) (by kernel_rfl) (fun _ _ _ h => h) (Or.inl ⟨by rfl, ?_⟩) (by assumption) ?_
  rotate_left
  · intro w hSw; (try dsimp only at hSw); go_simp <;> first | with_reducible rfl | (rw [if_neg (by first | omega | (simp only [ByteArray.size_append] at *; omega))])
  simp only [Act.put, List.setIfInBounds_toArray, List.set_cons_zero, List.set_cons_succ]
  refine wpAnyH_take (i := 4) (oi := { dst := some 15, op := Go.Op.move (Go.Operand.tmp 1), type := 23, pos := _, after := #[], guard := none }) (v := ?_) rfl (by kernel_rfl) (by kernel_rfl) (by kernel_rfl) (fun _ _ _ h => h) (Or.inl ⟨by rfl, ?_⟩) (by assumption) ?_
  rotate_left
  · intro w hSw; (try dsimp only at hSw); go_simp <;> first | with_reducible rfl | (rw [if_neg (by first | omega | (simp only [ByteArray.size_append] at *; omega))])
  simp only [Act.put, List.setIfInBounds_toArray, List.set_cons_zero, List.set_cons_succ]
  refine wpAnyH_take (i := 5) (oi := { dst := some 16, op := Go.Op.indexAddr 23 (Go.Operand.tmp 15) (Go.Operand.const (Go.Value.int Go.IntKind.i64 1)), type := 0, pos := _, after := #[{ on := 4, ground := Go.Ground.data }], guard := none }) (v := ?_) rfl (by kernel_rfl) (by kernel_rfl) (by kernel_rfl) (fun _ _ _ h => h) (Or.inl ⟨by rfl, ?_⟩) (by assumption) ?_
  rotate_left
  · intro w hSw; (try dsimp only at hSw); go_simp <;> first | with_reducible rfl | (rw [if_neg (by first | omega | (simp only [ByteArray.size_append] at *; omega))])
  simp only [Act.put, List.setIfInBounds_toArray, List.set_cons_zero, List.set_cons_succ]
  refine wpAnyH_take (i := 6) (oi := { dst := some 17, op := Go.Op.fieldAddr 28 (Go.Operand.tmp 16) 0, type := 0, pos := _, after := #[{ on := 5, ground := Go.Ground.data }], guard := none }) (v := ?_) rfl (by kernel_rfl) (by kernel_rfl) (by kernel_rfl) (fun _ _ _ h => h) (Or.inl ⟨by rfl, ?_⟩) (by assumption) ?_
  rotate_left
  · intro w hSw; (try dsimp only at hSw); go_simp <;> first | with_reducible rfl | (rw [if_neg (by first | omega | (simp only [ByteArray.size_append] at *; omega))])
  simp only [Act.put, List.setIfInBounds_toArray, List.set_cons_zero, List.set_cons_succ]
  refine wpAnyH_take (i := 7) (oi := { dst := some 18, op := Go.Op.load 26 (Go.Operand.tmp 17), type := 26, pos := _, after := #[{ on := 6, ground := Go.Ground.data }], guard := none }) (v := ?_) rfl (by kernel_rfl) (by kernel_rfl) (by kernel_rfl) (fun _ _ _ h => h) (Or.inl ⟨by rfl, ?_⟩) (by assumption) ?_
  rotate_left
  · intro w hSw; (try dsimp only at hSw); go_simp <;> first | with_reducible rfl | (rw [if_neg (by first | omega | (simp only [ByteArray.size_append] at *; omega))])
  simp only [Act.put, List.setIfInBounds_toArray, List.set_cons_zero, List.set_cons_succ]
  refine wpAnyH_take (i := 8) (oi := { dst := some 19, op := Go.Op.binOp Go.BinOp.eql 26 (Go.Operand.tmp 14) (Go.Operand.tmp 18) 26, type := 4, pos := _, after := #[{ on := 3, ground := Go.Ground.data }, { on := 7, ground := Go.Ground.data }], guard := none }) (v := ?_) rfl (by kernel_rfl) (by kernel_rfl) (by kernel_rfl) (fun _ _ _ h => h) (Or.inl ⟨by rfl, ?_⟩) (by assumption) ?_
  rotate_left
  · intro w hSw; (try dsimp only at hSw); go_simp <;> first | with_reducible rfl | (rw [if_neg (by first | omega | (simp only [ByteArray.size_append] at *; omega))])
  simp only [Act.put, List.setIfInBounds_toArray, List.set_cons_zero, List.set_cons_succ]
  refine wpAnyH_take (i := 9) (oi := { dst := some 4, op := Go.Op.assign (Go.Operand.tmp 19), type := 4, pos := _, after := #[{ on := 8, ground := Go.Ground.data }, { on := 0, ground := Go.Ground.phase }, { on := 1, ground := Go.Ground.phase }, { on := 2, ground := Go.Ground.phase }, { on := 3, ground := Go.Ground.phase }, { on := 4, ground := Go.Ground.phase }, { on := 5, ground := Go.Ground.phase }, { on := 6, ground := Go.Ground.phase }, { on := 7, ground := Go.Ground.phase }, { on := 8, ground := Go.Ground.phase }], guard := none }) (v := ?_) rfl (by kernel_rfl) (by kernel_rfl) (by kernel_rfl) (fun _ _ _ h => h) (Or.inl ⟨by rfl, ?_⟩) (by assumption) ?_
  rotate_left
  · intro w hSw; (try dsimp only at hSw); go_simp <;> first | with_reducible rfl | (rw [if_neg (by first | omega | (simp only [ByteArray.size_append] at *; omega))])
  simp only [Act.put, List.setIfInBounds_toArray, List.set_cons_zero, List.set_cons_succ]
  refine wpAnyH_done (by kernel_rfl) ?_ _
  go_wp2_with (fail)
  go_ret
  exact ⟨rfl, (Below.refl _ _).drew⟩
set_option maxRecDepth 100000 in
theorem rfit12 (a b : Vl) (g o cap : Nat) (w : World) (hV : VAt w g o [a, b]) : Calls Try.prog 15 #[.int .u8 12, .slice (some ⟨g, o, none⟩) 2 cap] w fun e w' => e = .returned (.bool ((a.ty : Int) == (b.ty : Int))) ∧ Below w.heap.size w w' := by
  have y0 := (hV 0 (by simp)).1
  rw [Nat.zero_mul, Nat.add_zero] at y0
  have y1 := (hV 1 (by simp)).1
  rw [Nat.one_mul] at y1
  simp only [List.getElem_cons_zero, List.getElem_cons_succ] at y0 y1
  have S0 := hid (And.intro y0 y1)
  clear hV y0 y1
  go_enter Try.func15, Try.ntmps15
  go_wp2_with (fail)
  refine wp_region_held_drew (S := fun V => V.cell? ⟨g, o, none⟩ = some (.int .u8 (a.ty : Int)) ∧ V.cell? ⟨g, o + 2, none⟩ = some (.int .u8 (b.ty : Int))) (by kernel_rfl) ?_ (fun hHeld => ?_)
  · exact S0.out
  refine wpAnyH_take (i := 0) (oi := { dst := some 11, op := Go.Op.move (Go.Operand.tmp 1), type := 23, pos := _, after := #[], guard := none }) (v := ?_) rfl (by kernel_rfl) (by kernel_rfl) (by kernel_rfl) (fun _ _ _ h => h) (Or.inl ⟨by rfl, ?_⟩) (by assumption) ?_
  rotate_left
  · intro w hSw; (try dsimp only at hSw); go_simp <;> first | with_reducible rfl | (rw [if_neg (by first | omega | (simp only [ByteArray.size_append] at *; omega))])
  simp only [Act.put, List.setIfInBounds_toArray, List.set_cons_zero, List.set_cons_succ]
  refine wpAnyH_take (i := 1) (oi := { dst := some 12, op := Go.Op.indexAddr 23 (Go.Operand.tmp 11) (Go.Operand.const (Go.Value.int Go.IntKind.i64 0)), type := 0, pos := _, after := #[{ on := 0, ground := Go.Ground.data }], guard := none }) (v := ?_) rfl (by kernel_rfl) (by kernel_rfl) (by kernel_rfl) (fun _ _ _ h => h) (Or.inl ⟨by rfl, ?_⟩) (by assumption) ?_
  rotate_left
  · intro w hSw; (try dsimp only at hSw); go_simp <;> first | with_reducible rfl | (rw [if_neg (by first | omega | (simp only [ByteArray.size_append] at *; omega))])
  simp only [Act.put, List.setIfInBounds_toArray, List.set_cons_zero, List.set_cons_succ]
  refine wpAnyH_take (i := 2) (oi := { dst := some 13, op := Go.Op.fieldAddr 28 (Go.Operand.tmp 12) 0, type := 0, pos := _, after := #[{ on := 1, ground := Go.Ground.data }], guard := none }) (v := ?_) rfl (by kernel_rfl) (by kernel_rfl) (by kernel_rfl) (fun _ _ _ h => h) (Or.inl ⟨by rfl, ?_⟩) (by assumption) ?_
  rotate_left
  · intro w hSw; (try dsimp only at hSw); go_simp <;> first | with_reducible rfl | (rw [if_neg (by first | omega | (simp only [ByteArray.size_append] at *; omega))])
  simp only [Act.put, List.setIfInBounds_toArray, List.set_cons_zero, List.set_cons_succ]
  refine wpAnyH_take (i := 3) (oi := { dst := some 14, op := Go.Op.load 26 (Go.Operand.tmp 13), type := 26, pos := _, after := #[{ on := 2, ground := Go.Ground.data }], guard := none }) (v := ?_) rfl (by kernel_rfl) (by kernel_rfl) (by kernel_rfl) (fun _ _ _ h => h) (Or.inl ⟨by rfl, ?_⟩) (by assumption) ?_
  rotate_left
  · intro w hSw; (try dsimp only at hSw); go_simp <;> first | with_reducible rfl | (rw [if_neg (by first | omega | (simp only [ByteArray.size_append] at *; omega))])
  simp only [Act.put, List.setIfInBounds_toArray, List.set_cons_zero, List.set_cons_succ]
  refine wpAnyH_take (i := 4) (oi := { dst := some 15, op := Go.Op.move (Go.Operand.tmp 1), type := 23, pos := _, after := #[], guard := none }) (v := ?_) rfl (by kernel_rfl) (by kernel_rfl) (by kernel_rfl) (fun _ _ _ h => h) (Or.inl ⟨by rfl, ?_⟩) (by assumption) ?_
  rotate_left
  · intro w hSw; (try dsimp only at hSw); go_simp <;> first | with_reducible rfl | (rw [if_neg (by first | omega | (simp only [ByteArray.size_append] at *; omega))])
  simp only [Act.put, List.setIfInBounds_toArray, List.set_cons_zero, List.set_cons_succ]
  refine wpAnyH_take (i := 5) (oi := { dst := some 16, op := Go.Op.indexAddr 23 (Go.Operand.tmp 15) (Go.Operand.const (Go.Value.int Go.IntKind.i64 1)), type := 0, pos := _, after := #[{ on := 4, ground := Go.Ground.data }], guard := none }) (v := ?_) rfl (by kernel_rfl) (by kernel_rfl) (by kernel_rfl) (fun _ _ _ h => h) (Or.inl ⟨by rfl, ?_⟩) (by assumption) ?_
  rotate_left
  · intro w hSw; (try dsimp only at hSw); go_simp <;> first | with_reducible rfl | (rw [if_neg (by first | omega | (simp only [ByteArray.size_append] at *; omega))])
  simp only [Act.put, List.setIfInBounds_toArray, List.set_cons_zero, List.set_cons_succ]
  refine wpAnyH_take (i := 6) (oi := { dst := some 17, op := Go.Op.fieldAddr 28 (Go.Operand.tmp 16) 0, type := 0, pos := _, after := #[{ on := 5, ground := Go.Ground.data }], guard := none }) (v := ?_) rfl (by kernel_rfl) (by kernel_rfl) (by kernel_rfl) (fun _ _ _ h => h) (Or.inl ⟨by rfl, ?_⟩) (by assumption) ?_
  rotate_left
  · intro w hSw; (try dsimp only at hSw); go_simp <;> first | with_reducible rfl | (rw [if_neg (by first | omega | (simp only [ByteArray.size_append] at *; omega))])
  simp only [Act.put, List.setIfInBounds_toArray, List.set_cons_zero, List.set_cons_succ]
  refine wpAnyH_take (i := 7) (oi := { dst := some 18, op := Go.Op.load 26 (Go.Operand.tmp 17), type := 26, pos := _, after := #[{ on := 6, ground := Go.Ground.data }], guard := none }) (v := ?_) rfl (by kernel_rfl) (by kernel_rfl) (by kernel_rfl) (fun _ _ _ h => h) (Or.inl ⟨by rfl, ?_⟩) (by assumption) ?_
  rotate_left
  · intro w hSw; (try dsimp only at hSw); go_simp <;> first | with_reducible rfl | (rw [if_neg (by first | omega | (simp only [ByteArray.size_append] at *; omega))])
  simp only [Act.put, List.setIfInBounds_toArray, List.set_cons_zero, List.set_cons_succ]
  refine wpAnyH_take (i := 8) (oi := { dst := some 19, op := Go.Op.binOp Go.BinOp.eql 26 (Go.Operand.tmp 14) (Go.Operand.tmp 18) 26, type := 4, pos := _, after := #[{ on := 3, ground := Go.Ground.data }, { on := 7, ground := Go.Ground.data }], guard := none }) (v := ?_) rfl (by kernel_rfl) (by kernel_rfl) (by kernel_rfl) (fun _ _ _ h => h) (Or.inl ⟨by rfl, ?_⟩) (by assumption) ?_
  rotate_left
  · intro w hSw; (try dsimp only at hSw); go_simp <;> first | with_reducible rfl | (rw [if_neg (by first | omega | (simp only [ByteArray.size_append] at *; omega))])
  simp only [Act.put, List.setIfInBounds_toArray, List.set_cons_zero, List.set_cons_succ]
  refine wpAnyH_take (i := 9) (oi := { dst := some 4, op := Go.Op.assign (Go.Operand.tmp 19), type := 4, pos := _, after := #[{ on := 8, ground := Go.Ground.data }, { on := 0, ground := Go.Ground.phase }, { on := 1, ground := Go.Ground.phase }, { on := 2, ground := Go.Ground.phase }, { on := 3, ground := Go.Ground.phase }, { on := 4, ground := Go.Ground.phase }, { on := 5, ground := Go.Ground.phase }, { on := 6, ground := Go.Ground.phase }, { on := 7, ground := Go.Ground.phase }, { on := 8, ground := Go.Ground.phase }], guard := none }) (v := ?_) rfl (by kernel_rfl) (by kernel_rfl) (by kernel_rfl) (fun _ _ _ h => h) (Or.inl ⟨by rfl, ?_⟩) (by assumption) ?_
  rotate_left
  · intro w hSw; (try dsimp only at hSw); go_simp <;> first | with_reducible rfl | (rw [if_neg (by first | omega | (simp only [ByteArray.size_append] at *; omega))])
  simp only [Act.put, List.setIfInBounds_toArray, List.set_cons_zero, List.set_cons_succ]
  refine wpAnyH_done (by kernel_rfl) ?_ _
  go_wp2_with (fail)
  go_ret
  exact ⟨rfl, (Below.refl _ _).drew⟩
set_option maxRecDepth 100000 in
theorem rfit17 (a b c : Vl) (g o cap : Nat) (w : World) (hV : VAt w g o [a, b, c]) : Calls Try.prog 15 #[.int .u8 17, .slice (some ⟨g, o, none⟩) 3 cap] w fun e w' => e = .returned (.bool (((a.ty : Int) == 2) && ((b.ty : Int) == (c.ty : Int)))) ∧ Below w.heap.size w w' := by
  have y0 := (hV 0 (by simp)).1
  rw [Nat.zero_mul, Nat.add_zero] at y0
  have y1 := (hV 1 (by simp)).1
  rw [Nat.one_mul] at y1
  have y2 := (hV 2 (by simp)).1
  simp only [List.getElem_cons_zero, List.getElem_cons_succ] at y0 y1 y2
  have S0 := hid (And.intro y0 (And.intro y1 y2))
  clear hV y0 y1 y2
  by_cases h : a.ty = 2
  · have e1 : ((a.ty : Int) == 2) = true := by rw [beq_iff_eq]; omega
    clear h
    rw [e1, Bool.true_and]
    go_enter Try.func15, Try.ntmps15
    go_wp2_with (fail)
    refine wp_region_held_drew (S := fun V => V.cell? ⟨g, o, none⟩ = some (.int .u8 (a.ty : Int)) ∧ V.cell? ⟨g, o + 2, none⟩ = some (.int .u8 (b.ty : Int)) ∧ V.cell? ⟨g, o + 2 * 2, none⟩ = some (.int .u8 (c.ty : Int))) (by kernel_rfl) ?_ (fun hHeld => ?_)
    · exact S0.out
    refine wpAnyH_take (i := 0) (oi := { dst := some 22, op := Go.Op.move (Go.Operand.tmp 1), type := 23, pos := _, after := #[], guard := none }) (v := ?_) rfl (by kernel_rfl) (by kernel_rfl) (by kernel_rfl) (fun _ _ _ h => h) (Or.inl ⟨by rfl, ?_⟩) (by assumption) ?_
    rotate_left
    · intro w hSw; (try dsimp only at hSw); go_simp <;> first | with_reducible rfl | (rw [if_neg (by first | omega | (simp only [ByteArray.size_append] at *; omega))])
    simp only [Act.put, List.setIfInBounds_toArray, List.set_cons_zero, List.set_cons_succ]
    refine wpAnyH_take (i := 1) (oi := { dst := some 23, op := Go.Op.indexAddr 23 (Go.Operand.tmp 22) (Go.Operand.const (Go.Value.int Go.IntKind.i64 0)), type := 0, pos := _, after := #[{ on := 0, ground := Go.Ground.data }], guard := none }) (v := ?_) rfl (by kernel_rfl) (by kernel_rfl) (by kernel_rfl) (fun _ _ _ h => h) (Or.inl ⟨by rfl, ?_⟩) (by assumption) ?_
    rotate_left
    · intro w hSw; (try dsimp only at hSw); go_simp <;> first | with_reducible rfl | (rw [if_neg (by first | omega | (simp only [ByteArray.size_append] at *; omega))])
    simp only [Act.put, List.setIfInBounds_toArray, List.set_cons_zero, List.set_cons_succ]
    refine wpAnyH_take (i := 2) (oi := { dst := some 24, op := Go.Op.fieldAddr 28 (Go.Operand.tmp 23) 0, type := 0, pos := _, after := #[{ on := 1, ground := Go.Ground.data }], guard := none }) (v := ?_) rfl (by kernel_rfl) (by kernel_rfl) (by kernel_rfl) (fun _ _ _ h => h) (Or.inl ⟨by rfl, ?_⟩) (by assumption) ?_
    rotate_left
    · intro w hSw; (try dsimp only at hSw); go_simp <;> first | with_reducible rfl | (rw [if_neg (by first | omega | (simp only [ByteArray.size_append] at *; omega))])
    simp only [Act.put, List.setIfInBounds_toArray, List.set_cons_zero, List.set_cons_succ]
    refine wpAnyH_take (i := 3) (oi := { dst := some 25, op := Go.Op.load 26 (Go.Operand.tmp 24), type := 26, pos := _, after := #[{ on := 2, ground := Go.Ground.data }], guard := none }) (v := ?_) rfl (by kernel_rfl) (by kernel_rfl) (by kernel_rfl) (fun _ _ _ h => h) (Or.inl ⟨by rfl, ?_⟩) (by assumption) ?_
    rotate_left
    · intro w hSw; (try dsimp only at hSw); go_simp <;> first | with_reducible rfl | (rw [if_neg (by first | omega | (simp only [ByteArray.size_append] at *; omega))])
    simp only [Act.put, List.setIfInBounds_toArray, List.set_cons_zero, List.set_cons_succ]
    refine wpAnyH_take (i := 4) (oi := { dst := some 26, op := Go.Op.binOp Go.BinOp.eql 26 (Go.Operand.tmp 25) (Go.Operand.const (Go.Value.int Go.IntKind.u8 2)) 26, type := 4, pos := _, after := #[{ on := 3, ground := Go.Ground.data }], guard := none }) (v := ?_) rfl (by kernel_rfl) (by kernel_rfl) (by kernel_rfl) (fun _ _ _ h => h) (Or.inl ⟨by rfl, ?_⟩) (by assumption) ?_
    rotate_left
    · intro w hSw; (try dsimp only at hSw); go_simp <;> first | with_reducible rfl | (rw [if_neg (by first | omega | (simp only [ByteArray.size_append] at *; omega))])
    simp only [Act.put, List.setIfInBounds_toArray, List.set_cons_zero, List.set_cons_succ]
    refine wpAnyH_take (i := 5) (oi := { dst := some 27, op := Go.Op.move (Go.Operand.tmp 26), type := 4, pos := _, after := #[{ on := 4, ground := Go.Ground.data }], guard := none }) (v := ?_) rfl (by kernel_rfl) (by kernel_rfl) (by kernel_rfl) (fun _ _ _ h => h) (Or.inl ⟨by rfl, ?_⟩) (by assumption) ?_
    rotate_left
    · intro w hSw; (try dsimp only at hSw); go_simp <;> first | with_reducible rfl | (rw [if_neg (by first | omega | (simp only [ByteArray.size_append] at *; omega))])
    simp only [Act.put, List.setIfInBounds_toArray, List.set_cons_zero, List.set_cons_succ]
    refine wpAnyH_take (i := 6) (oi := { dst := some 28, op := Go.Op.move (Go.Operand.tmp 1), type := 23, pos := _, after := #[{ on := 5, ground := Go.Ground.guard }], guard := some (5, true) }) (v := ?_) rfl (by kernel_rfl) (by kernel_rfl) (by kernel_rfl) (fun _ _ _ h => h) (Or.inl ⟨by rfl, ?_⟩) (by assumption) ?_
    rotate_left
    · intro w hSw; (try dsimp only at hSw); go_simp <;> first | with_reducible rfl | (rw [if_neg (by first | omega | (simp only [ByteArray.size_append] at *; omega))])
    simp only [Act.put, List.setIfInBounds_toArray, List.set_cons_zero, List.set_cons_succ]
    refine wpAnyH_take (i := 7) (oi := { dst := some 29, op := Go.Op.indexAddr 23 (Go.Operand.tmp 28) (Go.Operand.const (Go.Value.int Go.IntKind.i64 1)), type := 0, pos := _, after := #[{ on := 6, ground := Go.Ground.data }, { on := 5, ground := Go.Ground.guard }], guard := some (5, true) }) (v := ?_) rfl (by kernel_rfl) (by kernel_rfl) (by kernel_rfl) (fun _ _ _ h => h) (Or.inl ⟨by rfl, ?_⟩) (by assumption) ?_
    rotate_left
    · intro w hSw; (try dsimp only at hSw); go_simp <;> first | with_reducible rfl | (rw [if_neg (by first | omega | (simp only [ByteArray.size_append] at *; omega))])
    simp only [Act.put, List.setIfInBounds_toArray, List.set_cons_zero, List.set_cons_succ]
    refine wpAnyH_take (i := 8) (oi := { dst := some 30, op := Go.Op.fieldAddr 28 (Go.Operand.tmp 29) 0, type := 0, pos := _, after := #[{ on := 7, ground := Go.Ground.data }, { on := 5, ground := Go.Ground.guard }], guard := some (5, true) }) (v := ?_) rfl (by kernel_rfl) (by kernel_rfl) (by kernel_rfl) (fun _ _ _ h => h) (Or.inl ⟨by rfl, ?_⟩) (by assumption) ?_
    rotate_left
    · intro w hSw; (try dsimp only at hSw); go_simp <;> first | with_reducible rfl | (rw [if_neg (by first | omega | (simp only [ByteArray.size_append] at *; omega))])
    simp only [Act.put, List.setIfInBounds_toArray, List.set_cons_zero, List.set_cons_succ]
    refine wpAnyH_take (i := 9) (oi := { dst := some 31, op := Go.Op.load 26 (Go.Operand.tmp 30), type := 26, pos := _, after := #[{ on := 8, ground := Go.Ground.data }, { on := 5, ground := Go.Ground.guard }], guard := some (5, true) }) (v := ?_) rfl (by kernel_rfl) (by kernel_rfl) (by kernel_rfl) (fun _ _ _ h => h) (Or.inl ⟨by rfl, ?_⟩) (by assumption) ?_
    rotate_left
    · intro w hSw; (try dsimp only at hSw); go_simp <;> first | with_reducible rfl | (rw [if_neg (by first | omega | (simp only [ByteArray.size_append] at *; omega))])
    simp only [Act.put, List.setIfInBounds_toArray, List.set_cons_zero, List.set_cons_succ]
    refine wpAnyH_take (i := 10) (oi := { dst := some 32, op := Go.Op.move (Go.Operand.tmp 1), type := 23, pos := _, after := #[{ on := 5, ground := Go.Ground.guard }], guard := some (5, true) }) (v := ?_) rfl (by kernel_rfl) (by kernel_rfl) (by kernel_rfl) (fun _ _ _ h => h) (Or.inl ⟨by rfl, ?_⟩) (by assumption) ?_
    rotate_left
    · intro w hSw; (try dsimp only at hSw); go_simp <;> first | with_reducible rfl | (rw [if_neg (by first | omega | (simp only [ByteArray.size_append] at *; omega))])
    simp only [Act.put, List.setIfInBounds_toArray, List.set_cons_zero, List.set_cons_succ]
    refine wpAnyH_take (i := 11) (oi := { dst := some 33, op := Go.Op.indexAddr 23 (Go.Operand.tmp 32) (Go.Operand.const (Go.Value.int Go.IntKind.i64 2)), type := 0, pos := _, after := #[{ on := 10, ground := Go.Ground.data }, { on := 5, ground := Go.Ground.guard }], guard := some (5, true) }) (v := ?_) rfl (by kernel_rfl) (by kernel_rfl) (by kernel_rfl) (fun _ _ _ h => h) (Or.inl ⟨by rfl, ?_⟩) (by assumption) ?_
    rotate_left
    · intro w hSw; (try dsimp only at hSw); go_simp <;> first | with_reducible rfl | (rw [if_neg (by first | omega | (simp only [ByteArray.size_append] at *; omega))])
    simp only [Act.put, List.setIfInBounds_toArray, List.set_cons_zero, List.set_cons_succ]
    refine wpAnyH_take (i := 12) (oi := { dst := some 34, op := Go.Op.fieldAddr 28 (Go.Operand.tmp 33) 0, type := 0, pos := _, after := #[{ on := 11, ground := Go.Ground.data }, { on := 5, ground := Go.Ground.guard }], guard := some (5, true) }) (v := ?_) rfl (by kernel_rfl) (by kernel_rfl) (by kernel_rfl) (fun _ _ _ h => h) (Or.inl ⟨by rfl, ?_⟩) (by assumption) ?_
    rotate_left
    · intro w hSw; (try dsimp only at hSw); go_simp <;> first | with_reducible rfl | (rw [if_neg (by first | omega | (simp only [ByteArray.size_append] at *; omega))])
    simp only [Act.put, List.setIfInBounds_toArray, List.set_cons_zero, List.set_cons_succ]
    refine wpAnyH_take (i := 13) (oi := { dst := some 35, op := Go.Op.load 26 (Go.Operand.tmp 34), type := 26, pos := _, after := #[{ on := 12, ground := Go.Ground.data }, { on := 5, ground := Go.Ground.guard }], guard := some (5, true) }) (v := ?_) rfl (by kernel_rfl) (by kernel_rfl) (by kernel_rfl) (fun _ _ _ h => h) (Or.inl ⟨by rfl, ?_⟩) (by assumption) ?_
    rotate_left
    · intro w hSw; (try dsimp only at hSw); go_simp <;> first | with_reducible rfl | (rw [if_neg (by first | omega | (simp only [ByteArray.size_append] at *; omega))])
    simp only [Act.put, List.setIfInBounds_toArray, List.set_cons_zero, List.set_cons_succ]
    refine wpAnyH_take (i := 14) (oi := { dst := some 36, op := Go.Op.binOp Go.BinOp.eql 26 (Go.Operand.tmp 31) (Go.Operand.tmp 35) 26, type := 4, pos := _, after := #[{ on := 9, ground := Go.Ground.data }, { on := 13, ground := Go.Ground.data }, { on := 5, ground := Go.Ground.guard }], guard := some (5, true) }) (v := ?_) rfl (by kernel_rfl) (by kernel_rfl) (by kernel_rfl) (fun _ _ _ h => h) (Or.inl ⟨by rfl, ?_⟩) (by assumption) ?_
    rotate_left
    · intro w hSw; (try dsimp only at hSw); go_simp <;> first | with_reducible rfl | (rw [if_neg (by first | omega | (simp only [ByteArray.size_append] at *; omega))])
    simp only [Act.put, List.setIfInBounds_toArray, List.set_cons_zero, List.set_cons_succ]
    refine wpAnyH_take (i := 15) (oi := { dst := some 37, op := Go.Op.pick (Go.Operand.tmp 27) (Go.Operand.tmp 36) (Go.Operand.const (Go.Value.bool false)), type := 4, pos := _, after := #[{ on := 5, ground := Go.Ground.data }, { on := 14, ground := Go.Ground.data }], guard := none }) (v := ?_) rfl (by kernel_rfl) (by kernel_rfl) (by kernel_rfl) (fun _ _ _ h => h) (Or.inl ⟨by rfl, ?_⟩) (by assumption) ?_
    rotate_left
    · intro w hSw; (try dsimp only at hSw); go_simp <;> first | with_reducible rfl | (rw [if_neg (by first | omega | (simp only [ByteArray.size_append] at *; omega))])
    simp only [Act.put, List.setIfInBounds_toArray, List.set_cons_zero, List.set_cons_succ]
    refine wpAnyH_take (i := 16) (oi := { dst := some 4, op := Go.Op.assign (Go.Operand.tmp 37), type := 4, pos := _, after := #[{ on := 15, ground := Go.Ground.data }, { on := 5, ground := Go.Ground.chain }, { on := 0, ground := Go.Ground.phase }, { on := 1, ground := Go.Ground.phase }, { on := 2, ground := Go.Ground.phase }, { on := 3, ground := Go.Ground.phase }, { on := 4, ground := Go.Ground.phase }, { on := 5, ground := Go.Ground.phase }, { on := 6, ground := Go.Ground.phase }, { on := 7, ground := Go.Ground.phase }, { on := 8, ground := Go.Ground.phase }, { on := 9, ground := Go.Ground.phase }, { on := 10, ground := Go.Ground.phase }, { on := 11, ground := Go.Ground.phase }, { on := 12, ground := Go.Ground.phase }, { on := 13, ground := Go.Ground.phase }, { on := 14, ground := Go.Ground.phase }, { on := 15, ground := Go.Ground.phase }], guard := none }) (v := ?_) rfl (by kernel_rfl) (by kernel_rfl) (by kernel_rfl) (fun _ _ _ h => h) (Or.inl ⟨by rfl, ?_⟩) (by assumption) ?_
    rotate_left
    · intro w hSw; (try dsimp only at hSw); go_simp <;> first | with_reducible rfl | (rw [if_neg (by first | omega | (simp only [ByteArray.size_append] at *; omega))])
    simp only [Act.put, List.setIfInBounds_toArray, List.set_cons_zero, List.set_cons_succ]
    refine wpAnyH_done (by kernel_rfl) ?_ _
    go_wp2_with (fail)
    go_ret
    exact ⟨rfl, (Below.refl _ _).drew⟩
  · have e1 : ((a.ty : Int) == 2) = false := by rw [beq_eq_false_iff_ne]; omega
    clear h
    rw [e1, Bool.false_and]
    go_enter Try.func15, Try.ntmps15
    go_wp2_with (fail)
    refine wp_region_held_drew (S := fun V => V.cell? ⟨g, o, none⟩ = some (.int .u8 (a.ty : Int)) ∧ V.cell? ⟨g, o + 2, none⟩ = some (.int .u8 (b.ty : Int)) ∧ V.cell? ⟨g, o + 2 * 2, none⟩ = some (.int .u8 (c.ty : Int))) (by kernel_rfl) ?_ (fun hHeld => ?_)
    · exact S0.out
    refine wpAnyH_take (i := 0) (oi := { dst := some 22, op := Go.Op.move (Go.Operand.tmp 1), type := 23, pos := _, after := #[], guard := none }) (v := ?_) rfl (by kernel_rfl) (by kernel_rfl) (by kernel_rfl) (fun _ _ _ h => h) (Or.inl ⟨by rfl, ?_⟩) (by assumption) ?_
    rotate_left
    · intro w hSw; (try dsimp only at hSw); go_simp <;> first | with_reducible rfl | (rw [if_neg (by first | omega | (simp only [ByteArray.size_append] at *; omega))])
    simp only [Act.put, List.setIfInBounds_toArray, List.set_cons_zero, List.set_cons_succ]
    refine wpAnyH_take (i := 1) (oi := { dst := some 23, op := Go.Op.indexAddr 23 (Go.Operand.tmp 22) (Go.Operand.const (Go.Value.int Go.IntKind.i64 0)), type := 0, pos := _, after := #[{ on := 0, ground := Go.Ground.data }], guard := none }) (v := ?_) rfl (by kernel_rfl) (by kernel_rfl) (by kernel_rfl) (fun _ _ _ h => h) (Or.inl ⟨by rfl, ?_⟩) (by assumption) ?_
    rotate_left
    · intro w hSw; (try dsimp only at hSw); go_simp <;> first | with_reducible rfl | (rw [if_neg (by first | omega | (simp only [ByteArray.size_append] at *; omega))])
    simp only [Act.put, List.setIfInBounds_toArray, List.set_cons_zero, List.set_cons_succ]
    refine wpAnyH_take (i := 2) (oi := { dst := some 24, op := Go.Op.fieldAddr 28 (Go.Operand.tmp 23) 0, type := 0, pos := _, after := #[{ on := 1, ground := Go.Ground.data }], guard := none }) (v := ?_) rfl (by kernel_rfl) (by kernel_rfl) (by kernel_rfl) (fun _ _ _ h => h) (Or.inl ⟨by rfl, ?_⟩) (by assumption) ?_
    rotate_left
    · intro w hSw; (try dsimp only at hSw); go_simp <;> first | with_reducible rfl | (rw [if_neg (by first | omega | (simp only [ByteArray.size_append] at *; omega))])
    simp only [Act.put, List.setIfInBounds_toArray, List.set_cons_zero, List.set_cons_succ]
    refine wpAnyH_take (i := 3) (oi := { dst := some 25, op := Go.Op.load 26 (Go.Operand.tmp 24), type := 26, pos := _, after := #[{ on := 2, ground := Go.Ground.data }], guard := none }) (v := ?_) rfl (by kernel_rfl) (by kernel_rfl) (by kernel_rfl) (fun _ _ _ h => h) (Or.inl ⟨by rfl, ?_⟩) (by assumption) ?_
    rotate_left
    · intro w hSw; (try dsimp only at hSw); go_simp <;> first | with_reducible rfl | (rw [if_neg (by first | omega | (simp only [ByteArray.size_append] at *; omega))])
    simp only [Act.put, List.setIfInBounds_toArray, List.set_cons_zero, List.set_cons_succ]
    refine wpAnyH_take (i := 4) (oi := { dst := some 26, op := Go.Op.binOp Go.BinOp.eql 26 (Go.Operand.tmp 25) (Go.Operand.const (Go.Value.int Go.IntKind.u8 2)) 26, type := 4, pos := _, after := #[{ on := 3, ground := Go.Ground.data }], guard := none }) (v := ?_) rfl (by kernel_rfl) (by kernel_rfl) (by kernel_rfl) (fun _ _ _ h => h) (Or.inl ⟨by rfl, ?_⟩) (by assumption) ?_
    rotate_left
    · intro w hSw; (try dsimp only at hSw); go_simp <;> first | with_reducible rfl | (rw [if_neg (by first | omega | (simp only [ByteArray.size_append] at *; omega))])
    simp only [Act.put, List.setIfInBounds_toArray, List.set_cons_zero, List.set_cons_succ]
    refine wpAnyH_take (i := 5) (oi := { dst := some 27, op := Go.Op.move (Go.Operand.tmp 26), type := 4, pos := _, after := #[{ on := 4, ground := Go.Ground.data }], guard := none }) (v := ?_) rfl (by kernel_rfl) (by kernel_rfl) (by kernel_rfl) (fun _ _ _ h => h) (Or.inl ⟨by rfl, ?_⟩) (by assumption) ?_
    rotate_left
    · intro w hSw; (try dsimp only at hSw); go_simp <;> first | with_reducible rfl | (rw [if_neg (by first | omega | (simp only [ByteArray.size_append] at *; omega))])
    simp only [Act.put, List.setIfInBounds_toArray, List.set_cons_zero, List.set_cons_succ]
    refine wpAnyH_take (i := 6) (oi := { dst := some 28, op := Go.Op.move (Go.Operand.tmp 1), type := 23, pos := _, after := #[{ on := 5, ground := Go.Ground.guard }], guard := some (5, true) }) (v := undef) rfl (by kernel_rfl) (by kernel_rfl) (by kernel_rfl) (fun _ _ _ h => h) (Or.inr ⟨by rfl, rfl⟩) (by assumption) ?_
    simp only [Act.put, List.setIfInBounds_toArray, List.set_cons_zero, List.set_cons_succ]
    refine wpAnyH_take (i := 7) (oi := { dst := some 29, op := Go.Op.indexAddr 23 (Go.Operand.tmp 28) (Go.Operand.const (Go.Value.int Go.IntKind.i64 1)), type := 0, pos := _, after := #[{ on := 6, ground := Go.Ground.data }, { on := 5, ground := Go.Ground.guard }], guard := some (5, true) }) (v := undef) rfl (by kernel_rfl) (by kernel_rfl) (by kernel_rfl) (fun _ _ _ h => h) (Or.inr ⟨by rfl, rfl⟩) (by assumption) ?_
    simp only [Act.put, List.setIfInBounds_toArray, List.set_cons_zero, List.set_cons_succ]
    refine wpAnyH_take (i := 8) (oi := { dst := some 30, op := Go.Op.fieldAddr 28 (Go.Operand.tmp 29) 0, type := 0, pos := _, after := #[{ on := 7, ground := Go.Ground.data }, { on := 5, ground := Go.Ground.guard }], guard := some (5, true) }) (v := undef) rfl (by kernel_rfl) (by kernel_rfl) (by kernel_rfl) (fun _ _ _ h => h) (Or.inr ⟨by rfl, rfl⟩) (by assumption) ?_
    simp only [Act.put, List.setIfInBounds_toArray, List.set_cons_zero, List.set_cons_succ]
    refine wpAnyH_take (i := 9) (oi := { dst := some 31, op := Go.Op.load 26 (Go.Operand.tmp 30), type := 26, pos := _, after := #[{ on := 8, ground := Go.Ground.data }, { on := 5, ground := Go.Ground.guard }], guard := some (5, true) }) (v := undef) rfl (by kernel_rfl) (by kernel_rfl) (by kernel_rfl) (fun _ _ _ h => h) (Or.inr ⟨by rfl, rfl⟩) (by assumption) ?_
    simp only [Act.put, List.setIfInBounds_toArray, List.set_cons_zero, List.set_cons_succ]
    refine wpAnyH_take (i := 10) (oi := { dst := some 32, op := Go.Op.move (Go.Operand.tmp 1), type := 23, pos := _, after := #[{ on := 5, ground := Go.Ground.guard }], guard := some (5, true) }) (v := undef) rfl (by kernel_rfl) (by kernel_rfl) (by kernel_rfl) (fun _ _ _ h => h) (Or.inr ⟨by rfl, rfl⟩) (by assumption) ?_
    simp only [Act.put, List.setIfInBounds_toArray, List.set_cons_zero, List.set_cons_succ]
    refine wpAnyH_take (i := 11) (oi := { dst := some 33, op := Go.Op.indexAddr 23 (Go.Operand.tmp 32) (Go.Operand.const (Go.Value.int Go.IntKind.i64 2)), type := 0, pos := _, after := #[{ on := 10, ground := Go.Ground.data }, { on := 5, ground := Go.Ground.guard }], guard := some (5, true) }) (v := undef) rfl (by kernel_rfl) (by kernel_rfl) (by kernel_rfl) (fun _ _ _ h => h) (Or.inr ⟨by rfl, rfl⟩) (by assumption) ?_
    simp only [Act.put, List.setIfInBounds_toArray, List.set_cons_zero, List.set_cons_succ]
    refine wpAnyH_take (i := 12) (oi := { dst := some 34, op := Go.Op.fieldAddr 28 (Go.Operand.tmp 33) 0, type := 0, pos := _, after := #[{ on := 11, ground := Go.Ground.data }, { on := 5, ground := Go.Ground.guard }], guard := some (5, true) }) (v := undef) rfl (by kernel_rfl) (by kernel_rfl) (by kernel_rfl) (fun _ _ _ h => h) (Or.inr ⟨by rfl, rfl⟩) (by assumption) ?_
    simp only [Act.put, List.setIfInBounds_toArray, List.set_cons_zero, List.set_cons_succ]
    refine wpAnyH_take (i := 13) (oi := { dst := some 35, op := Go.Op.load 26 (Go.Operand.tmp 34), type := 26, pos := _, after := #[{ on := 12, ground := Go.Ground.data }, { on := 5, ground := Go.Ground.guard }], guard := some (5, true) }) (v := undef) rfl (by kernel_rfl) (by kernel_rfl) (by kernel_rfl) (fun _ _ _ h => h) (Or.inr ⟨by rfl, rfl⟩) (by assumption) ?_
    simp only [Act.put, List.setIfInBounds_toArray, List.set_cons_zero, List.set_cons_succ]
    refine wpAnyH_take (i := 14) (oi := { dst := some 36, op := Go.Op.binOp Go.BinOp.eql 26 (Go.Operand.tmp 31) (Go.Operand.tmp 35) 26, type := 4, pos := _, after := #[{ on := 9, ground := Go.Ground.data }, { on := 13, ground := Go.Ground.data }, { on := 5, ground := Go.Ground.guard }], guard := some (5, true) }) (v := undef) rfl (by kernel_rfl) (by kernel_rfl) (by kernel_rfl) (fun _ _ _ h => h) (Or.inr ⟨by rfl, rfl⟩) (by assumption) ?_
    simp only [Act.put, List.setIfInBounds_toArray, List.set_cons_zero, List.set_cons_succ]
    refine wpAnyH_take (i := 15) (oi := { dst := some 37, op := Go.Op.pick (Go.Operand.tmp 27) (Go.Operand.tmp 36) (Go.Operand.const (Go.Value.bool false)), type := 4, pos := _, after := #[{ on := 5, ground := Go.Ground.data }, { on := 14, ground := Go.Ground.data }], guard := none }) (v := ?_) rfl (by kernel_rfl) (by kernel_rfl) (by kernel_rfl) (fun _ _ _ h => h) (Or.inl ⟨by rfl, ?_⟩) (by assumption) ?_
    rotate_left
    · intro w hSw; (try dsimp only at hSw); go_simp <;> first | with_reducible rfl | (rw [if_neg (by first | omega | (simp only [ByteArray.size_append] at *; omega))])
    simp only [Act.put, List.setIfInBounds_toArray, List.set_cons_zero, List.set_cons_succ]
    refine wpAnyH_take (i := 16) (oi := { dst := some 4, op := Go.Op.assign (Go.Operand.tmp 37), type := 4, pos := _, after := #[{ on := 15, ground := Go.Ground.data }, { on := 5, ground := Go.Ground.chain }, { on := 0, ground := Go.Ground.phase }, { on := 1, ground := Go.Ground.phase }, { on := 2, ground := Go.Ground.phase }, { on := 3, ground := Go.Ground.phase }, { on := 4, ground := Go.Ground.phase }, { on := 5, ground := Go.Ground.phase }, { on := 6, ground := Go.Ground.phase }, { on := 7, ground := Go.Ground.phase }, { on := 8, ground := Go.Ground.phase }, { on := 9, ground := Go.Ground.phase }, { on := 10, ground := Go.Ground.phase }, { on := 11, ground := Go.Ground.phase }, { on := 12, ground := Go.Ground.phase }, { on := 13, ground := Go.Ground.phase }, { on := 14, ground := Go.Ground.phase }, { on := 15, ground := Go.Ground.phase }], guard := none }) (v := ?_) rfl (by kernel_rfl) (by kernel_rfl) (by kernel_rfl) (fun _ _ _ h => h) (Or.inl ⟨by rfl, ?_⟩) (by assumption) ?_
    rotate_left
    · intro w hSw; (try dsimp only at hSw); go_simp <;> first | with_reducible rfl | (rw [if_neg (by first | omega | (simp only [ByteArray.size_append] at *; omega))])
    simp only [Act.put, List.setIfInBounds_toArray, List.set_cons_zero, List.set_cons_succ]
    refine wpAnyH_done (by kernel_rfl) ?_ _
    go_wp2_with (fail)
    go_ret
    exact ⟨rfl, (Below.refl _ _).drew⟩
theorem chk_ty {v : Vl} (h : chkV v = true) : v.ty ≠ 0 := by
  intro h0
  unfold chkV at h
  simp [h0] at h
theorem beq_nat (x y : Nat) : ((x : Int) == (y : Int)) = decide (x = y) := by rw [Bool.eq_iff_iff, beq_iff_eq, decide_eq_true_eq]; omega
end Go.Proofs.Ytkniacdfhajogaa.Val
