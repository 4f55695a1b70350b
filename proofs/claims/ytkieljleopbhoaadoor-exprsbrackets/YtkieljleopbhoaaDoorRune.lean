/-
  The functions that tell what a rune is; how far runes of a kind go.
-/
import Derived.Test.YtkieljleopbhoaaDoorLex
import Derived.Test.YtkieljleopbhoaaDoorProg
import Derived.WalkKit
import Derived.WalkSpells
import Derived.Lib.OthersKept
import Derived.Below
namespace Go.Proofs.YtkieljleopbhoaaDoor.Lex
open Go.RowKit
/-- What the functions tell of a rune. -/
def rDigit (r : Int) : Bool := decide (48 ≤ r) && decide (r ≤ 57)
def rLetter (r : Int) : Bool := (decide (97 ≤ r) && decide (r ≤ 122)) || (decide (65 ≤ r) && decide (r ≤ 90))
def rOfWord (r : Int) : Bool := rLetter r || rDigit r || r == 95
def rOfLine (r : Int) : Bool := r != 10
def rBlank (r : Int) : Bool := r == 32 || r == 9 || r == 10 || r == 13
theorem isDigit (r : Int) (w : World) : Calls Tryd.prog 79 #[.int .i32 r] w fun e w' => e = .returned (.bool (rDigit r)) ∧ w' = w := by
  unfold rDigit
  by_cases h : 48 ≤ r
  · go_enter Tryd.func79, Tryd.ntmps79
    go_wp2
    go_ret
    exact ⟨by simp [h], rfl⟩
  · go_enter Tryd.func79, Tryd.ntmps79
    go_wp2
    go_ret
    have e : decide (48 ≤ r) = false := decide_eq_false (by omega)
    exact ⟨by simp [e], rfl⟩
theorem isLetter (r : Int) (w : World) : Calls Tryd.prog 77 #[.int .i32 r] w fun e w' => e = .returned (.bool (rLetter r)) ∧ w' = w := by
  by_cases h1 : 97 ≤ r ∧ r ≤ 122
  · obtain ⟨ha, hb⟩ := h1
    have Hr : Hid (rLetter r = true) := by unfold Hid rLetter; simp [ha, hb]
    go_enter Tryd.func77, Tryd.ntmps77
    go_wp2
    go_ret
    exact ⟨by rw [Hr.out]; simp, rfl⟩
  · by_cases h2 : 65 ≤ r ∧ r ≤ 90
    · obtain ⟨ha, hb⟩ := h2
      have hc : ¬ 97 ≤ r := by omega
      have Hr : Hid (rLetter r = true) := by unfold Hid rLetter; simp [ha, hb]
      clear h1
      go_enter Tryd.func77, Tryd.ntmps77
      go_wp2
      go_ret
      exact ⟨by rw [Hr.out]; simp, rfl⟩
    · have Hr : Hid (rLetter r = false) := by unfold Hid rLetter; simp; omega
      by_cases h3 : 97 ≤ r
      · have h4 : ¬ r ≤ 122 := by omega
        have h5 : ¬ r ≤ 90 := by omega
        have h6 : 65 ≤ r := by omega
        clear h1 h2
        go_enter Tryd.func77, Tryd.ntmps77
        go_wp2
        go_ret
        exact ⟨by rw [Hr.out]; simp, rfl⟩
      · by_cases h6 : 65 ≤ r
        · have h5 : ¬ r ≤ 90 := by omega
          clear h1 h2
          go_enter Tryd.func77, Tryd.ntmps77
          go_wp2
          go_ret
          exact ⟨by rw [Hr.out]; simp, rfl⟩
        · clear h1 h2
          go_enter Tryd.func77, Tryd.ntmps77
          go_wp2
          go_ret
          exact ⟨by rw [Hr.out]; simp, rfl⟩
theorem isOfWord (r : Int) (w : World) : Calls Tryd.prog 78 #[.int .i32 r] w fun e w' => e = .returned (.bool (rOfWord r)) ∧ w' = w := by
  have h1 := isLetter r w
  have h2 := isDigit r w
  unfold rOfWord
  cases hl : rLetter r
  · rw [hl] at h1
    cases hd : rDigit r
    · rw [hd] at h2
      go_enter Tryd.func78, Tryd.ntmps78
      go_wp2_with (first
        | (go_at_call 77; refine h1.mono ?_; rintro e w2 ⟨rfl, h⟩; rw [h]; clear h w2)
        | (go_at_call 79; refine h2.mono ?_; rintro e w2 ⟨rfl, h⟩; rw [h]; clear h w2))
      go_ret
      exact ⟨by simp, rfl⟩
    · rw [hd] at h2
      go_enter Tryd.func78, Tryd.ntmps78
      go_wp2_with (first
        | (go_at_call 77; refine h1.mono ?_; rintro e w2 ⟨rfl, h⟩; rw [h]; clear h w2)
        | (go_at_call 79; refine h2.mono ?_; rintro e w2 ⟨rfl, h⟩; rw [h]; clear h w2))
      go_ret
      exact ⟨by simp, rfl⟩
  · rw [hl] at h1
    go_enter Tryd.func78, Tryd.ntmps78
    go_wp2_with (go_at_call 77; refine h1.mono ?_; rintro e w2 ⟨rfl, h⟩; rw [h]; clear h w2)
    go_ret
    exact ⟨by simp, rfl⟩
theorem isOfLine (r : Int) (w : World) : Calls Tryd.prog 75 #[.int .i32 r] w fun e w' => e = .returned (.bool (rOfLine r)) ∧ w' = w := by
  unfold rOfLine
  go_enter Tryd.func75, Tryd.ntmps75
  go_wp2
  go_ret
  exact ⟨rfl, rfl⟩
theorem isBlank (r : Int) (w : World) : Calls Tryd.prog 76 #[.int .i32 r] w fun e w' => e = .returned (.bool (rBlank r)) ∧ w' = w := by
  unfold rBlank
  cases h1 : r == 32 <;> cases h2 : r == 9 <;> cases h3 : r == 10 <;> cases h4 : r == 13
  all_goals
    go_enter Tryd.func76, Tryd.ntmps76
    go_wp2
    go_ret
    exact ⟨by simp, rfl⟩
end Go.Proofs.YtkieljleopbhoaaDoor.Lex
