/-
  The document's own: of how many parts an operator is, how great it is, whether it may be.
-/
import Derived.Test.YtkieljleopbhoaaDoorFits
import Derived.BigQuiet
namespace Go.Proofs.YtkieljleopbhoaaDoor.Lex
open Go.ChangeShapes Go.WideShapes Go.ChangeAt Go.RowKit Go.Joins
/-- Of how many parts; below 0: none. -/
def manyI (op : Nat) : Int := if op = 1 ∨ op = 2 ∨ op = 3 then 0 else if 0 < parts op then (parts op : Int) else -1
theorem many_1 (w : World) : Calls Tryd.prog 49 #[.int .u8 (1 : Int)] w fun e w' => e = .returned (.int .i64 (manyI 1)) ∧ w' = w := by
  have h : manyI 1 = 0 := by decide
  rw [h]
  go_enter Tryd.func49, Tryd.ntmps49
  go_wp2
  go_ret
  exact ⟨rfl, rfl⟩
theorem many_2 (w : World) : Calls Tryd.prog 49 #[.int .u8 (2 : Int)] w fun e w' => e = .returned (.int .i64 (manyI 2)) ∧ w' = w := by
  have h : manyI 2 = 0 := by decide
  rw [h]
  go_enter Tryd.func49, Tryd.ntmps49
  go_wp2
  go_ret
  exact ⟨rfl, rfl⟩
theorem many_3 (w : World) : Calls Tryd.prog 49 #[.int .u8 (3 : Int)] w fun e w' => e = .returned (.int .i64 (manyI 3)) ∧ w' = w := by
  have h : manyI 3 = 0 := by decide
  rw [h]
  go_enter Tryd.func49, Tryd.ntmps49
  go_wp2
  go_ret
  exact ⟨rfl, rfl⟩
theorem many_4 (w : World) : Calls Tryd.prog 49 #[.int .u8 (4 : Int)] w fun e w' => e = .returned (.int .i64 (manyI 4)) ∧ w' = w := by
  have h : manyI 4 = 1 := by decide
  rw [h]
  go_enter Tryd.func49, Tryd.ntmps49
  go_wp2
  go_ret
  exact ⟨rfl, rfl⟩
theorem many_5 (w : World) : Calls Tryd.prog 49 #[.int .u8 (5 : Int)] w fun e w' => e = .returned (.int .i64 (manyI 5)) ∧ w' = w := by
  have h : manyI 5 = 1 := by decide
  rw [h]
  go_enter Tryd.func49, Tryd.ntmps49
  go_wp2
  go_ret
  exact ⟨rfl, rfl⟩
theorem many_6 (w : World) : Calls Tryd.prog 49 #[.int .u8 (6 : Int)] w fun e w' => e = .returned (.int .i64 (manyI 6)) ∧ w' = w := by
  have h : manyI 6 = 2 := by decide
  rw [h]
  go_enter Tryd.func49, Tryd.ntmps49
  go_wp2
  go_ret
  exact ⟨rfl, rfl⟩
theorem many_7 (w : World) : Calls Tryd.prog 49 #[.int .u8 (7 : Int)] w fun e w' => e = .returned (.int .i64 (manyI 7)) ∧ w' = w := by
  have h : manyI 7 = 2 := by decide
  rw [h]
  go_enter Tryd.func49, Tryd.ntmps49
  go_wp2
  go_ret
  exact ⟨rfl, rfl⟩
theorem many_8 (w : World) : Calls Tryd.prog 49 #[.int .u8 (8 : Int)] w fun e w' => e = .returned (.int .i64 (manyI 8)) ∧ w' = w := by
  have h : manyI 8 = 2 := by decide
  rw [h]
  go_enter Tryd.func49, Tryd.ntmps49
  go_wp2
  go_ret
  exact ⟨rfl, rfl⟩
theorem many_9 (w : World) : Calls Tryd.prog 49 #[.int .u8 (9 : Int)] w fun e w' => e = .returned (.int .i64 (manyI 9)) ∧ w' = w := by
  have h : manyI 9 = 2 := by decide
  rw [h]
  go_enter Tryd.func49, Tryd.ntmps49
  go_wp2
  go_ret
  exact ⟨rfl, rfl⟩
theorem many_10 (w : World) : Calls Tryd.prog 49 #[.int .u8 (10 : Int)] w fun e w' => e = .returned (.int .i64 (manyI 10)) ∧ w' = w := by
  have h : manyI 10 = 2 := by decide
  rw [h]
  go_enter Tryd.func49, Tryd.ntmps49
  go_wp2
  go_ret
  exact ⟨rfl, rfl⟩
theorem many_11 (w : World) : Calls Tryd.prog 49 #[.int .u8 (11 : Int)] w fun e w' => e = .returned (.int .i64 (manyI 11)) ∧ w' = w := by
  have h : manyI 11 = 2 := by decide
  rw [h]
  go_enter Tryd.func49, Tryd.ntmps49
  go_wp2
  go_ret
  exact ⟨rfl, rfl⟩
theorem many_12 (w : World) : Calls Tryd.prog 49 #[.int .u8 (12 : Int)] w fun e w' => e = .returned (.int .i64 (manyI 12)) ∧ w' = w := by
  have h : manyI 12 = 2 := by decide
  rw [h]
  go_enter Tryd.func49, Tryd.ntmps49
  go_wp2
  go_ret
  exact ⟨rfl, rfl⟩
theorem many_13 (w : World) : Calls Tryd.prog 49 #[.int .u8 (13 : Int)] w fun e w' => e = .returned (.int .i64 (manyI 13)) ∧ w' = w := by
  have h : manyI 13 = 2 := by decide
  rw [h]
  go_enter Tryd.func49, Tryd.ntmps49
  go_wp2
  go_ret
  exact ⟨rfl, rfl⟩
theorem many_14 (w : World) : Calls Tryd.prog 49 #[.int .u8 (14 : Int)] w fun e w' => e = .returned (.int .i64 (manyI 14)) ∧ w' = w := by
  have h : manyI 14 = 2 := by decide
  rw [h]
  go_enter Tryd.func49, Tryd.ntmps49
  go_wp2
  go_ret
  exact ⟨rfl, rfl⟩
theorem many_15 (w : World) : Calls Tryd.prog 49 #[.int .u8 (15 : Int)] w fun e w' => e = .returned (.int .i64 (manyI 15)) ∧ w' = w := by
  have h : manyI 15 = 2 := by decide
  rw [h]
  go_enter Tryd.func49, Tryd.ntmps49
  go_wp2
  go_ret
  exact ⟨rfl, rfl⟩
theorem many_16 (w : World) : Calls Tryd.prog 49 #[.int .u8 (16 : Int)] w fun e w' => e = .returned (.int .i64 (manyI 16)) ∧ w' = w := by
  have h : manyI 16 = 2 := by decide
  rw [h]
  go_enter Tryd.func49, Tryd.ntmps49
  go_wp2
  go_ret
  exact ⟨rfl, rfl⟩
theorem many_17 (w : World) : Calls Tryd.prog 49 #[.int .u8 (17 : Int)] w fun e w' => e = .returned (.int .i64 (manyI 17)) ∧ w' = w := by
  have h : manyI 17 = 3 := by decide
  rw [h]
  go_enter Tryd.func49, Tryd.ntmps49
  go_wp2
  go_ret
  exact ⟨rfl, rfl⟩
theorem many_18 (w : World) : Calls Tryd.prog 49 #[.int .u8 (18 : Int)] w fun e w' => e = .returned (.int .i64 (manyI 18)) ∧ w' = w := by
  have h : manyI 18 = 2 := by decide
  rw [h]
  go_enter Tryd.func49, Tryd.ntmps49
  go_wp2
  go_ret
  exact ⟨rfl, rfl⟩
theorem many_19 (w : World) : Calls Tryd.prog 49 #[.int .u8 (19 : Int)] w fun e w' => e = .returned (.int .i64 (manyI 19)) ∧ w' = w := by
  have h : manyI 19 = 1 := by decide
  rw [h]
  go_enter Tryd.func49, Tryd.ntmps49
  go_wp2
  go_ret
  exact ⟨rfl, rfl⟩
theorem jOf_far {op : Nat} (h : 20 ≤ op) : jOf op = none := by
  unfold jOf JT
  rw [List.find?_eq_none]
  intro r hr
  simp only [List.mem_cons, List.not_mem_nil, or_false] at hr
  rcases hr with rfl | rfl | rfl | rfl | rfl | rfl | rfl | rfl | rfl | rfl | rfl | rfl <;> simp <;> omega
theorem many_far {op : Nat} (h : op = 0 ∨ 20 ≤ op) : manyI op = -1 := by
  rcases h with rfl | h
  · decide
  · have hp : parts op = 0 := by unfold parts; rw [if_neg (by omega), if_neg (by omega), jOf_far h]; rfl
    unfold manyI
    rw [if_neg (by omega), hp]
    rfl
theorem many_any (op : Nat) (w : World) : Calls Tryd.prog 49 #[.int .u8 (op : Int)] w fun e w' => e = .returned (.int .i64 (manyI op)) ∧ w' = w := by
  by_cases hop : op = 0 ∨ 20 ≤ op
  · rw [many_far hop]
    have e1 := neN (a := op) (b := 1) (by omega)
    have e2 := neN (a := op) (b := 2) (by omega)
    have e3 := neN (a := op) (b := 3) (by omega)
    have e4 := neN (a := op) (b := 4) (by omega)
    have e5 := neN (a := op) (b := 5) (by omega)
    have e6 := neN (a := op) (b := 6) (by omega)
    have e7 := neN (a := op) (b := 7) (by omega)
    have e8 := neN (a := op) (b := 8) (by omega)
    have e9 := neN (a := op) (b := 9) (by omega)
    have e10 := neN (a := op) (b := 10) (by omega)
    have e11 := neN (a := op) (b := 11) (by omega)
    have e12 := neN (a := op) (b := 12) (by omega)
    have e13 := neN (a := op) (b := 13) (by omega)
    have e14 := neN (a := op) (b := 14) (by omega)
    have e15 := neN (a := op) (b := 15) (by omega)
    have e16 := neN (a := op) (b := 16) (by omega)
    have e17 := neN (a := op) (b := 17) (by omega)
    have e18 := neN (a := op) (b := 18) (by omega)
    have e19 := neN (a := op) (b := 19) (by omega)
    clear hop
    go_enter Tryd.func49, Tryd.ntmps49
    go_wp2
    go_ret
    exact ⟨rfl, rfl⟩
  · have h : op = 1 ∨ op = 2 ∨ op = 3 ∨ op = 4 ∨ op = 5 ∨ op = 6 ∨ op = 7 ∨ op = 8 ∨ op = 9 ∨ op = 10 ∨ op = 11 ∨ op = 12 ∨ op = 13 ∨ op = 14 ∨ op = 15 ∨ op = 16 ∨ op = 17 ∨ op = 18 ∨ op = 19 := by omega
    clear hop
    rcases h with rfl | rfl | rfl | rfl | rfl | rfl | rfl | rfl | rfl | rfl | rfl | rfl | rfl | rfl | rfl | rfl | rfl | rfl | rfl
    · exact many_1 w
    · exact many_2 w
    · exact many_3 w
    · exact many_4 w
    · exact many_5 w
    · exact many_6 w
    · exact many_7 w
    · exact many_8 w
    · exact many_9 w
    · exact many_10 w
    · exact many_11 w
    · exact many_12 w
    · exact many_13 w
    · exact many_14 w
    · exact many_15 w
    · exact many_16 w
    · exact many_17 w
    · exact many_18 w
    · exact many_19 w
/-- The fields but for the parts. -/
def fldOk (op : Nat) (n : Int) (nm : ByteArray) : Bool :=
  if op = 1 then decide (0 ≤ n) && decide (nm.size = 0)
  else if op = 2 then (decide (n = 0) || decide (n = 1)) && decide (nm.size = 0)
  else if op = 3 then decide (n = 0) && isName nm
  else decide (n = 0) && decide (nm.size = 0)
theorem fields_split (op : Nat) (n : Int) (nm : ByteArray) (len : Nat) : fieldsOk op n nm len = (decide (manyI op = (len : Int)) && fldOk op n nm) := by
  have hz : decide ((0 : Int) = (len : Int)) = decide (len = 0) := by
    by_cases h : len = 0
    · rw [decide_eq_true h, decide_eq_true (by omega)]
    · rw [decide_eq_false h, decide_eq_false (by omega)]
  unfold fieldsOk fldOk
  by_cases h1 : op = 1
  · rw [if_pos h1, if_pos h1, manyI, if_pos (.inl h1), hz]
    cases decide (0 ≤ n) <;> cases decide (nm.size = 0) <;> cases decide (len = 0) <;> rfl
  · rw [if_neg h1, if_neg h1]
    by_cases h2 : op = 2
    · rw [if_pos h2, if_pos h2, manyI, if_pos (.inr (.inl h2)), hz]
      cases (decide (n = 0) || decide (n = 1)) <;> cases decide (nm.size = 0) <;> cases decide (len = 0) <;> rfl
    · rw [if_neg h2, if_neg h2]
      by_cases h3 : op = 3
      · rw [if_pos h3, if_pos h3, manyI, if_pos (.inr (.inr h3)), hz]
        cases decide (n = 0) <;> cases isName nm <;> cases decide (len = 0) <;> rfl
      · rw [if_neg h3, if_neg h3, manyI, if_neg (by omega)]
        by_cases hp : 0 < parts op
        · rw [if_pos hp, decide_eq_true hp]
          have : decide ((parts op : Int) = (len : Int)) = decide (len = parts op) := by
            by_cases h : len = parts op
            · rw [decide_eq_true h, decide_eq_true (by omega)]
            · rw [decide_eq_false h, decide_eq_false (by omega)]
          rw [this]
          cases decide (n = 0) <;> cases decide (nm.size = 0) <;> cases decide (len = parts op) <;> rfl
        · have hl : decide ((-1 : Int) = (len : Int)) = false := decide_eq_false (by omega)
          rw [if_neg hp, decide_eq_false hp, hl]
          rfl
end Go.Proofs.YtkieljleopbhoaaDoor.Lex
