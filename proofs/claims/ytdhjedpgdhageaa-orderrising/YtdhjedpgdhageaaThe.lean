/-
  Lists of numbers that came in; are all numbers there? A copy of the outer list.
-/
import Derived.Test.YtdhjedpgdhageaaPut
namespace Go.Proofs.Ytdhjedpgdhageaa.Ord
open Go.ChangeShapes Go.WideShapes Go.ChangeAt Go.RowKit Go.Joins
/-- Lists of numbers in memory, below lo. -/
def LL (W : World) (lo : Nat) (v : Value) (l : List (List Int)) : Prop := ∃ ao c, v = .slice ao l.length c ∧ l.length ≤ c ∧ (c ≤ 9223372036854775807 ∧ l.length ≤ 17592186044416) ∧ ∃ sl : Nat → Value, (l.length = 0 ∨ ∃ b o, ao = some ⟨b, o, none⟩ ∧ b < lo ∧ ∀ i, i < l.length → W.cell? ⟨b, o + i, none⟩ = some (sl i)) ∧ ∀ i, i < l.length → Rd W lo (sl i) (l.getD i [])
theorem LL.keep {W W' : World} {lo : Nat} {v : Value} {l : List (List Int)} (h : LL W lo v l) (hb : Below lo W W') : LL W' lo v l := by
  obtain ⟨ao, c, h1, h2, h3, sl, h4, h5⟩ := h
  refine ⟨ao, c, h1, h2, h3, sl, h4.imp id ?_, fun i hi => (h5 i hi).keep hb⟩
  rintro ⟨b, o, e, hlt, hc⟩
  exact ⟨b, o, e, hlt, fun i hi => (hb.cell (p := ⟨b, o + i, none⟩) hlt).trans (hc i hi)⟩
theorem Rd.up {W : World} {lo lo' : Nat} {v : Value} {r : List Int} (h : Rd W lo v r) (hl : lo ≤ lo') : Rd W lo' v r := by
  obtain ⟨ao, c, h1, h2, h3, h4⟩ := h
  refine ⟨ao, c, h1, h2, h3, h4.imp id ?_⟩
  rintro ⟨b, o, e, hlt, hc⟩
  exact ⟨b, o, e, by omega, hc⟩
theorem LL.up {W : World} {lo lo' : Nat} {v : Value} {l : List (List Int)} (h : LL W lo v l) (hl : lo ≤ lo') : LL W lo' v l := by
  obtain ⟨ao, c, h1, h2, h3, sl, h4, h5⟩ := h
  refine ⟨ao, c, h1, h2, h3, sl, h4.imp id ?_, fun i hi => (h5 i hi).up hl⟩
  rintro ⟨b, o, e, hlt, hc⟩
  exact ⟨b, o, e, by omega, hc⟩
def okR (n : Nat) (r : List Int) : Bool := r.all fun z => decide (0 ≤ z) && decide (z < (n : Int))
theorem there_eq (l : List (List Int)) : there l = l.all (okR l.length) := rfl
theorem all_take {α : Type} (l : List α) (p : α → Bool) (d : α) (k : Nat) (hk : k < l.length) : (l.take (k + 1)).all p = ((l.take k).all p && p (l.getD k d)) := by
  rw [List.take_add_one, List.getElem?_eq_getElem hk, List.all_append]
  simp [hk]
theorem all_false {α : Type} {l : List α} {p : α → Bool} {d : α} {k : Nat} (hk : k < l.length) (h : p (l.getD k d) = false) : l.all p = false := by
  rw [List.all_eq_false]
  refine ⟨l[k], List.getElem_mem hk, ?_⟩
  simp [hk] at h
  simp [h]
set_option maxRecDepth 100000 in
set_option maxHeartbeats 1000000 in
theorem there_at (W : World) (lo : Nat) (vl : Value) (l : List (List Int)) (h : LL W lo vl l) : Calls Try.prog 14 #[vl] W fun e w' => e = .returned (.bool (there l)) ∧ w' = W := by
  obtain ⟨ao, c, rfl, hle, hcc, sl, hcs, hrd⟩ := h
  have HCS := hid hcs
  have HRD := hid hrd
  clear hcs hrd
  go_enter Try.func14, Try.ntmps14
  go_wp2_with (fail)
  go_loop [9] (fun s9 => ∃ k : Nat, k ≤ l.length ∧ s9 = .int .i64 (k : Int) ∧ Hid ((l.take k).all (okR l.length) = true)) (fun s9 => l.length - (intOf s9).toNat)
  case atStart => exact ⟨0, by omega, rfl, hid (by simp)⟩
  case round =>
    obtain ⟨k, hk, rfl, HK⟩ := hrel
    by_cases hlt : k < l.length
    · have hlt' : (k : Int) < (l.length : Int) := by omega
      obtain ⟨b, o, rfl, hb, hc⟩ := HCS.out.resolve_left (by omega)
      have hck := hc k hlt
      obtain ⟨ao2, c2, hs, hle2, hcc2, hrs⟩ := HRD.out k hlt
      rw [hs] at hck
      clear hs hc
      have HG : Hid (l.getD k [] = l.getD k []) := hid rfl
      have HT := hid (all_take l (okR l.length) [] k hlt)
      have HFA := hid (fun h => all_false (p := okR l.length) (d := []) hlt h)
      generalize l.getD k [] = r at *
      have HRS := hid hrs
      clear hrs HG
      go_wp2_with (fail)
      go_loop [15] (fun s15 => ∃ j : Nat, j ≤ r.length ∧ s15 = .int .i64 (j : Int) ∧ Hid (okR l.length (r.take j) = true)) (fun s15 => r.length - (intOf s15).toNat)
      case atStart => exact ⟨0, by omega, rfl, hid rfl⟩
      case round =>
        obtain ⟨j, hj, rfl, HJ⟩ := hrel
        by_cases hjl : j < r.length
        · have hjl' : (j : Int) < (r.length : Int) := by omega
          obtain ⟨b2, o2, rfl, _, hc2⟩ := HRS.out.resolve_left (by intro e; rw [e] at hjl; simp at hjl)
          have hcj := hc2 j hjl
          clear hc2
          have HTJ := hid (all_take r (fun z => decide (0 ≤ z) && decide (z < (l.length : Int))) 0 j hjl)
          have HFJ := hid (fun h => all_false (p := fun z => decide (0 ≤ z) && decide (z < (l.length : Int))) (d := 0) hjl h)
          have HGA : Hid (r.getD j 0 = ga r j) := hid rfl
          by_cases h0 : ga r j < 0
          · have h0' : decide (ga r j < 0) = true := by simpa using h0
            have HF : Hid (there l = false) := hid (HFA.out (HFJ.out (by rw [HGA.out]; simp; omega)))
            go_wp2_with (fail)
            go_ret
            exact ⟨by rw [HF.out]; rfl, rfl⟩
          · have h0' : decide (ga r j < 0) = false := by simpa using h0
            by_cases h1 : (l.length : Int) ≤ ga r j
            · have h1' : decide (ga r j ≥ (l.length : Int)) = true := by simpa using h1
              have h1'' : decide ((l.length : Int) ≤ ga r j) = true := by simpa using h1
              have HF : Hid (there l = false) := hid (HFA.out (HFJ.out (by rw [HGA.out]; simp; omega)))
              go_wp2_with (fail)
              go_ret
              exact ⟨by rw [HF.out]; rfl, rfl⟩
            · have h1'' : decide ((l.length : Int) ≤ ga r j) = false := by simpa using h1
              go_wp2_with (fail)
              go_round
              case rel =>
                refine ⟨j + 1, by omega, by go_num, hid ?_⟩
                unfold okR
                rw [HTJ.out, HGA.out]
                have h3 := HJ.out
                unfold okR at h3
                rw [h3]
                simp
                omega
              case measure => simp [intOf]; omega
        · have hjl' : ¬ (j : Int) < (r.length : Int) := by omega
          obtain rfl : j = r.length := by omega
          go_wp2_with (fail)
          go_round
          case rel =>
            refine ⟨k + 1, by omega, by go_num, hid ?_⟩
            have h3 := HJ.out
            rw [List.take_length] at h3
            rw [HT.out, HK.out, h3]
            rfl
          case measure => simp [intOf]; omega
    · have hlt' : ¬ (k : Int) < (l.length : Int) := by omega
      obtain rfl : k = l.length := by omega
      go_wp2_with (fail)
      go_ret
      refine ⟨?_, rfl⟩
      have h3 := HK.out
      rw [List.take_length] at h3
      rw [there_eq, h3]
      rfl
end Go.Proofs.Ytdhjedpgdhageaa.Ord
