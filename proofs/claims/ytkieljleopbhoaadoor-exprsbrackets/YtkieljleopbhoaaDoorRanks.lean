/-
  Ranks, signs, digits: the contracts on both sides.
-/
import Derived.Test.YtkieljleopbhoaaDoorWr
import Derived.Test.YtkieljleopbhoaaDoorMany
namespace Go.Proofs.YtkieljleopbhoaaDoor.Lex
open Go.ChangeShapes Go.WideShapes Go.ChangeAt Go.RowKit Go.Joins
set_option maxRecDepth 100000 in
theorem rankOf (op : Nat) (w : World) (hT : TabJ w) : Calls Tryd.prog 70 #[.int .u8 (op : Int)] w fun e w' => e = .returned (.int .i64 (rkOf op : Int)) ∧ Below w.heap.size w w' := by
  have c := joinOf op w hT
  unfold jOut jrow at c
  cases hj : jOf op with
  | some r =>
    have hp : rkOf op = r.rank := by unfold rkOf; rw [hj]
    rw [hp]
    rw [hj] at c
    simp only [Option.getD_some, Option.isSome_some] at c
    clear hp hj
    go_enter Tryd.func70, Tryd.ntmps70
    go_wp2_with (go_at_call 43; refine c.mono ?_; rintro e w2 ⟨rfl, hb2⟩)
    go_ret
    exact ⟨rfl, bstep hb2 ((Below.refl _ _).alloc (Nat.le_refl _) _)⟩
  | none =>
    have hp : rkOf op = if op = 17 then 0 else if op = 4 ∨ op = 5 ∨ op = 19 then 6 else 7 := by unfold rkOf; rw [hj]
    rw [hp]
    rw [hj] at c
    simp only [Option.getD_none, Option.isSome_none] at c
    clear hp hj
    by_cases h17 : op = 17
    · have e17 := eqN (b := 17) h17
      rw [if_pos h17]
      clear h17
      go_enter Tryd.func70, Tryd.ntmps70
      go_wp2_with (go_at_call 43; refine c.mono ?_; rintro e w2 ⟨rfl, hb2⟩)
      go_ret
      exact ⟨rfl, bstep hb2 ((Below.refl _ _).alloc (Nat.le_refl _) _)⟩
    · have e17 := neN (b := 17) h17
      rw [if_neg h17]
      by_cases h4 : op = 4
      · have e4 := eqN (b := 4) h4
        rw [if_pos (.inl h4)]
        clear h17 h4
        go_enter Tryd.func70, Tryd.ntmps70
        go_wp2_with (go_at_call 43; refine c.mono ?_; rintro e w2 ⟨rfl, hb2⟩)
        go_ret
        exact ⟨rfl, bstep hb2 ((Below.refl _ _).alloc (Nat.le_refl _) _)⟩
      · have e4 := neN (b := 4) h4
        by_cases h5 : op = 5
        · have e5 := eqN (b := 5) h5
          rw [if_pos (.inr (.inl h5))]
          clear h17 h4 h5
          go_enter Tryd.func70, Tryd.ntmps70
          go_wp2_with (go_at_call 43; refine c.mono ?_; rintro e w2 ⟨rfl, hb2⟩)
          go_ret
          exact ⟨rfl, bstep hb2 ((Below.refl _ _).alloc (Nat.le_refl _) _)⟩
        · have e5 := neN (b := 5) h5
          by_cases h19 : op = 19
          · have e19 := eqN (b := 19) h19
            rw [if_pos (.inr (.inr h19))]
            clear h17 h4 h5 h19
            go_enter Tryd.func70, Tryd.ntmps70
            go_wp2_with (go_at_call 43; refine c.mono ?_; rintro e w2 ⟨rfl, hb2⟩)
            go_ret
            exact ⟨rfl, bstep hb2 ((Below.refl _ _).alloc (Nat.le_refl _) _)⟩
          · have e19 := neN (b := 19) h19
            rw [if_neg (by omega)]
            clear h17 h4 h5 h19
            go_enter Tryd.func70, Tryd.ntmps70
            go_wp2_with (go_at_call 43; refine c.mono ?_; rintro e w2 ⟨rfl, hb2⟩)
            go_ret
            exact ⟨rfl, bstep hb2 ((Below.refl _ _).alloc (Nat.le_refl _) _)⟩
theorem rank_1 (w : World) : Calls Tryd.prog 44 #[.int .u8 (1 : Int)] w fun e w' => e = .returned (.int .i64 (rkOf 1 : Int)) ∧ w' = w := by
  have h : rkOf 1 = 7 := by decide
  rw [h]
  go_enter Tryd.func44, Tryd.ntmps44
  go_wp2
  go_ret
  exact ⟨rfl, rfl⟩
theorem rank_2 (w : World) : Calls Tryd.prog 44 #[.int .u8 (2 : Int)] w fun e w' => e = .returned (.int .i64 (rkOf 2 : Int)) ∧ w' = w := by
  have h : rkOf 2 = 7 := by decide
  rw [h]
  go_enter Tryd.func44, Tryd.ntmps44
  go_wp2
  go_ret
  exact ⟨rfl, rfl⟩
theorem rank_3 (w : World) : Calls Tryd.prog 44 #[.int .u8 (3 : Int)] w fun e w' => e = .returned (.int .i64 (rkOf 3 : Int)) ∧ w' = w := by
  have h : rkOf 3 = 7 := by decide
  rw [h]
  go_enter Tryd.func44, Tryd.ntmps44
  go_wp2
  go_ret
  exact ⟨rfl, rfl⟩
theorem rank_4 (w : World) : Calls Tryd.prog 44 #[.int .u8 (4 : Int)] w fun e w' => e = .returned (.int .i64 (rkOf 4 : Int)) ∧ w' = w := by
  have h : rkOf 4 = 6 := by decide
  rw [h]
  go_enter Tryd.func44, Tryd.ntmps44
  go_wp2
  go_ret
  exact ⟨rfl, rfl⟩
theorem rank_5 (w : World) : Calls Tryd.prog 44 #[.int .u8 (5 : Int)] w fun e w' => e = .returned (.int .i64 (rkOf 5 : Int)) ∧ w' = w := by
  have h : rkOf 5 = 6 := by decide
  rw [h]
  go_enter Tryd.func44, Tryd.ntmps44
  go_wp2
  go_ret
  exact ⟨rfl, rfl⟩
theorem rank_6 (w : World) : Calls Tryd.prog 44 #[.int .u8 (6 : Int)] w fun e w' => e = .returned (.int .i64 (rkOf 6 : Int)) ∧ w' = w := by
  have h : rkOf 6 = 4 := by decide
  rw [h]
  go_enter Tryd.func44, Tryd.ntmps44
  go_wp2
  go_ret
  exact ⟨rfl, rfl⟩
theorem rank_7 (w : World) : Calls Tryd.prog 44 #[.int .u8 (7 : Int)] w fun e w' => e = .returned (.int .i64 (rkOf 7 : Int)) ∧ w' = w := by
  have h : rkOf 7 = 4 := by decide
  rw [h]
  go_enter Tryd.func44, Tryd.ntmps44
  go_wp2
  go_ret
  exact ⟨rfl, rfl⟩
theorem rank_8 (w : World) : Calls Tryd.prog 44 #[.int .u8 (8 : Int)] w fun e w' => e = .returned (.int .i64 (rkOf 8 : Int)) ∧ w' = w := by
  have h : rkOf 8 = 5 := by decide
  rw [h]
  go_enter Tryd.func44, Tryd.ntmps44
  go_wp2
  go_ret
  exact ⟨rfl, rfl⟩
theorem rank_9 (w : World) : Calls Tryd.prog 44 #[.int .u8 (9 : Int)] w fun e w' => e = .returned (.int .i64 (rkOf 9 : Int)) ∧ w' = w := by
  have h : rkOf 9 = 5 := by decide
  rw [h]
  go_enter Tryd.func44, Tryd.ntmps44
  go_wp2
  go_ret
  exact ⟨rfl, rfl⟩
theorem rank_10 (w : World) : Calls Tryd.prog 44 #[.int .u8 (10 : Int)] w fun e w' => e = .returned (.int .i64 (rkOf 10 : Int)) ∧ w' = w := by
  have h : rkOf 10 = 5 := by decide
  rw [h]
  go_enter Tryd.func44, Tryd.ntmps44
  go_wp2
  go_ret
  exact ⟨rfl, rfl⟩
theorem rank_11 (w : World) : Calls Tryd.prog 44 #[.int .u8 (11 : Int)] w fun e w' => e = .returned (.int .i64 (rkOf 11 : Int)) ∧ w' = w := by
  have h : rkOf 11 = 3 := by decide
  rw [h]
  go_enter Tryd.func44, Tryd.ntmps44
  go_wp2
  go_ret
  exact ⟨rfl, rfl⟩
theorem rank_12 (w : World) : Calls Tryd.prog 44 #[.int .u8 (12 : Int)] w fun e w' => e = .returned (.int .i64 (rkOf 12 : Int)) ∧ w' = w := by
  have h : rkOf 12 = 3 := by decide
  rw [h]
  go_enter Tryd.func44, Tryd.ntmps44
  go_wp2
  go_ret
  exact ⟨rfl, rfl⟩
theorem rank_13 (w : World) : Calls Tryd.prog 44 #[.int .u8 (13 : Int)] w fun e w' => e = .returned (.int .i64 (rkOf 13 : Int)) ∧ w' = w := by
  have h : rkOf 13 = 3 := by decide
  rw [h]
  go_enter Tryd.func44, Tryd.ntmps44
  go_wp2
  go_ret
  exact ⟨rfl, rfl⟩
theorem rank_14 (w : World) : Calls Tryd.prog 44 #[.int .u8 (14 : Int)] w fun e w' => e = .returned (.int .i64 (rkOf 14 : Int)) ∧ w' = w := by
  have h : rkOf 14 = 3 := by decide
  rw [h]
  go_enter Tryd.func44, Tryd.ntmps44
  go_wp2
  go_ret
  exact ⟨rfl, rfl⟩
theorem rank_15 (w : World) : Calls Tryd.prog 44 #[.int .u8 (15 : Int)] w fun e w' => e = .returned (.int .i64 (rkOf 15 : Int)) ∧ w' = w := by
  have h : rkOf 15 = 2 := by decide
  rw [h]
  go_enter Tryd.func44, Tryd.ntmps44
  go_wp2
  go_ret
  exact ⟨rfl, rfl⟩
theorem rank_16 (w : World) : Calls Tryd.prog 44 #[.int .u8 (16 : Int)] w fun e w' => e = .returned (.int .i64 (rkOf 16 : Int)) ∧ w' = w := by
  have h : rkOf 16 = 1 := by decide
  rw [h]
  go_enter Tryd.func44, Tryd.ntmps44
  go_wp2
  go_ret
  exact ⟨rfl, rfl⟩
theorem rank_17 (w : World) : Calls Tryd.prog 44 #[.int .u8 (17 : Int)] w fun e w' => e = .returned (.int .i64 (rkOf 17 : Int)) ∧ w' = w := by
  have h : rkOf 17 = 0 := by decide
  rw [h]
  go_enter Tryd.func44, Tryd.ntmps44
  go_wp2
  go_ret
  exact ⟨rfl, rfl⟩
theorem rank_18 (w : World) : Calls Tryd.prog 44 #[.int .u8 (18 : Int)] w fun e w' => e = .returned (.int .i64 (rkOf 18 : Int)) ∧ w' = w := by
  have h : rkOf 18 = 0 := by decide
  rw [h]
  go_enter Tryd.func44, Tryd.ntmps44
  go_wp2
  go_ret
  exact ⟨rfl, rfl⟩
theorem rank_19 (w : World) : Calls Tryd.prog 44 #[.int .u8 (19 : Int)] w fun e w' => e = .returned (.int .i64 (rkOf 19 : Int)) ∧ w' = w := by
  have h : rkOf 19 = 6 := by decide
  rw [h]
  go_enter Tryd.func44, Tryd.ntmps44
  go_wp2
  go_ret
  exact ⟨rfl, rfl⟩
theorem rk_far {op : Nat} (h : op = 0 ∨ 20 ≤ op) : rkOf op = 7 := by
  rcases h with rfl | h
  · decide
  · unfold rkOf
    rw [jOf_far h]
    simp only
    rw [if_neg (by omega), if_neg (by omega)]
theorem rank_any (op : Nat) (w : World) : Calls Tryd.prog 44 #[.int .u8 (op : Int)] w fun e w' => e = .returned (.int .i64 (rkOf op : Int)) ∧ w' = w := by
  by_cases hop : op = 0 ∨ 20 ≤ op
  · rw [rk_far hop]
    have e1 := neN (a := op) (b := 1) (by omega)
    have e2 := neN (a := op) (b := 2) (by omega)
    have e3 := neN (a := op) (b := 3) (by omega)
    have e4 := neN (a := op) (b := 4) (by omega)
    have e5 := neN (a := op) (b := 5) (by omega)
    have e6 := neN (a := op) (b := 6) (by omega)
    have e7 := neN (a := op) (b := 7) (by omega)
    have e8 := neN (a := op) (b := 8) (by omega)
    have e9 := neN (a := op) (b := 9) (by omega)
    have e10 := neN (a := op) (b := 10) (by omega)
    have e11 := neN (a := op) (b := 11) (by omega)
    have e12 := neN (a := op) (b := 12) (by omega)
    have e13 := neN (a := op) (b := 13) (by omega)
    have e14 := neN (a := op) (b := 14) (by omega)
    have e15 := neN (a := op) (b := 15) (by omega)
    have e16 := neN (a := op) (b := 16) (by omega)
    have e17 := neN (a := op) (b := 17) (by omega)
    have e18 := neN (a := op) (b := 18) (by omega)
    have e19 := neN (a := op) (b := 19) (by omega)
    clear hop
    go_enter Tryd.func44, Tryd.ntmps44
    go_wp2
    go_ret
    exact ⟨rfl, rfl⟩
  · have h : op = 1 ∨ op = 2 ∨ op = 3 ∨ op = 4 ∨ op = 5 ∨ op = 6 ∨ op = 7 ∨ op = 8 ∨ op = 9 ∨ op = 10 ∨ op = 11 ∨ op = 12 ∨ op = 13 ∨ op = 14 ∨ op = 15 ∨ op = 16 ∨ op = 17 ∨ op = 18 ∨ op = 19 := by omega
    clear hop
    rcases h with rfl | rfl | rfl | rfl | rfl | rfl | rfl | rfl | rfl | rfl | rfl | rfl | rfl | rfl | rfl | rfl | rfl | rfl | rfl
    · exact rank_1 w
    · exact rank_2 w
    · exact rank_3 w
    · exact rank_4 w
    · exact rank_5 w
    · exact rank_6 w
    · exact rank_7 w
    · exact rank_8 w
    · exact rank_9 w
    · exact rank_10 w
    · exact rank_11 w
    · exact rank_12 w
    · exact rank_13 w
    · exact rank_14 w
    · exact rank_15 w
    · exact rank_16 w
    · exact rank_17 w
    · exact rank_18 w
    · exact rank_19 w
/-- negated. -/
theorem negated (s : ByteArray) (w : World) (hs : s.size ≤ 65536) : Calls Tryd.prog 41 #[.string s] w fun e w' => e = .returned (.string ⟨(negW s.data.toList).toArray⟩) ∧ w' = w := by
  have c := Tryd.strings_HasPrefix s ⟨#[45]⟩ w
  unfold negW
  cases hp : Lib.hasPrefix s.data.toList [45]
  · rw [hp] at c
    go_enter Tryd.func41, Tryd.ntmps41
    go_wp2_with (go_at_call 69; refine c.mono ?_; rintro e w2 ⟨rfl, rfl⟩)
    go_ret
    refine ⟨?_, rfl⟩
    congr 2
  · rw [hp] at c
    go_enter Tryd.func41, Tryd.ntmps41
    go_wp2_with (go_at_call 69; refine c.mono ?_; rintro e w2 ⟨rfl, rfl⟩)
    go_ret
    refine ⟨?_, rfl⟩
    congr 2
theorem wrap_id {x : Int} (h1 : -9223372036854775808 ≤ x) (h2 : x ≤ 9223372036854775807) : IntKind.i64.wrap x = x := by
  simp only [IntKind.wrap, IntKind.signed, IntKind.bits]
  simp
  omega
def tenS : ByteArray := ⟨#[48, 49, 50, 51, 52, 53, 54, 55, 56, 57]⟩
theorem ten_ext (r : Nat) (h : r < 10) : (⟨#[48, 49, 50, 51, 52, 53, 54, 55, 56, 57]⟩ : ByteArray).extract r (r + 1) = ⟨#[UInt8.ofNat (48 + r)]⟩ := by
  have h : r = 0 ∨ r = 1 ∨ r = 2 ∨ r = 3 ∨ r = 4 ∨ r = 5 ∨ r = 6 ∨ r = 7 ∨ r = 8 ∨ r = 9 := by omega
  rcases h with rfl | rfl | rfl | rfl | rfl | rfl | rfl | rfl | rfl | rfl <;> decide
set_option maxRecDepth 100000 in
set_option maxHeartbeats 1000000 in
/-- The document's own digits. -/
theorem digits : ∀ (m u : Nat), u ≤ m → u ≤ 9223372036854775807 → ∀ (w : World), Calls Tryd.prog 45 #[.int .i64 (u : Int)] w fun e w' => e = .returned (.string ⟨(Lib.decDigits u).toArray⟩) ∧ ∃ n, w' = w.drewN n := by
  intro m
  induction m with
  | zero =>
    intro u hu _ w
    obtain rfl : u = 0 := by omega
    have h0 := ten_ext 0 (by omega)
    rw [Lib.decDigits, dif_pos (by omega)]
    go_enter Tryd.func45, Tryd.ntmps45
    go_wp2
    go_ret
    exact ⟨by first | rfl | (rw [h0]), 0, rfl⟩
  | succ m ih =>
    intro u hu hmax w
    have hneg : ¬ (u : Int) < 0 := by omega
    have hgt : (-10 : Int) < (u : Int) := by omega
    by_cases h10 : u < 10
    · have h10' : (u : Int) < 10 := by omega
      have h0 := ten_ext u h10
      rw [Lib.decDigits, dif_pos h10]
      go_enter Tryd.func45, Tryd.ntmps45
      go_wp2
      go_ret
      exact ⟨by first | rfl | (rw [h0]; rfl), 0, rfl⟩
    · have h10' : ¬ (u : Int) < 10 := by omega
      have h0 := ten_ext (u % 10) (by omega)
      have c := ih (u / 10) (by omega) (by omega)
      have hl := dec_len 18 (u / 10) (by have : (10 : Nat) ^ (18 + 1) = 10000000000000000000 := by decide
                                         omega)
      have hd : Int.tdiv (u : Int) 10 = ((u / 10 : Nat) : Int) := by rw [Int.tdiv_eq_ediv_of_nonneg (by omega)]; omega
      have hr : Int.tmod (u : Int) 10 = ((u % 10 : Nat) : Int) := by rw [Int.tmod_eq_emod_of_nonneg (by omega)]; omega
      have hr9 : u % 10 < 10 := by omega
      rw [Lib.decDigits, dif_neg h10]
      go_enter Tryd.func45, Tryd.ntmps45
      go_wp2
      have hw1 : IntKind.i64.wrap ((u / 10 : Nat) : Int) = ((u / 10 : Nat) : Int) := wrap_id (by omega) (by omega)
      have hw2 : IntKind.i64.wrap ((u % 10 : Nat) : Int) = ((u % 10 : Nat) : Int) := wrap_id (by omega) (by omega)
      have hw3 : IntKind.i64.wrap (((u % 10 : Nat) : Int) + 1) = ((u % 10 : Nat) : Int) + 1 := wrap_id (by omega) (by omega)
      generalize hD : Lib.decDigits (u / 10) = D at *
      have hDs : (⟨D.toArray⟩ : ByteArray).size ≤ 19 := by rw [Lib.size_eq]; simpa using hl
      go_quiet ((go_at_call 45; exact Calls.quiet_of (c _)))
      go_wp2
      go_ret
      refine ⟨?_, nq, rfl⟩
      have e : (⟨D.toArray⟩ : ByteArray) ++ (⟨#[48 + UInt8.ofNat (u % 10)]⟩ : ByteArray) = ⟨(D ++ [UInt8.ofNat (48 + u % 10)]).toArray⟩ := by
        apply ByteArray.ext
        rw [ByteArray.data_append]
        simp [UInt8.ofNat_add]
      subst hD
      exact congrArg (fun s => Ending.returned (.string s)) e
def opsV : Array Value := #[.int .u8 18, .int .u8 16, .int .u8 15, .int .u8 11, .int .u8 12, .int .u8 13, .int .u8 14, .int .u8 6, .int .u8 7, .int .u8 8, .int .u8 9, .int .u8 10]
def sgnV : Array Value := #[.string ⟨#[45, 62]⟩, .string ⟨#[111, 114]⟩, .string ⟨#[97, 110, 100]⟩, .string ⟨#[61, 61]⟩, .string ⟨#[33, 61]⟩, .string ⟨#[60]⟩, .string ⟨#[60, 61]⟩, .string ⟨#[43]⟩, .string ⟨#[45]⟩, .string ⟨#[42]⟩, .string ⟨#[47]⟩, .string ⟨#[37]⟩]
theorem ops_at (k : Nat) (hk : k < 12) : opsV[k]? = some (.int .u8 ((jR k).op : Int)) ∧ sgnV[k]? = some (.string (jR k).text) := by
  have h : k = 0 ∨ k = 1 ∨ k = 2 ∨ k = 3 ∨ k = 4 ∨ k = 5 ∨ k = 6 ∨ k = 7 ∨ k = 8 ∨ k = 9 ∨ k = 10 ∨ k = 11 := by omega
  rcases h with rfl | rfl | rfl | rfl | rfl | rfl | rfl | rfl | rfl | rfl | rfl | rfl <;> exact ⟨rfl, rfl⟩
/-- The document's own sign of an operator of two. -/
theorem sign_of (op : Nat) (r : J) (hr : jOf op = some r) (w : World) : Calls Tryd.prog 47 #[.int .u8 (op : Int)] w fun e w' => e = .returned (.string r.text) ∧ Below w.heap.size w w' := by
  have e1 : (w.alloc (.cells opsV 22)).heap.size = w.heap.size + 1 := by simp
  have HB : Hid (Below w.heap.size w ((w.alloc (.cells opsV 22)).alloc (.cells sgnV 9))) := bstep ((Below.refl _ _).alloc (Nat.le_refl _) _) ((Below.refl _ _).alloc (Nat.le_refl _) _)
  have c1 : ∀ k, k < 12 → ((w.alloc (.cells opsV 22)).alloc (.cells sgnV 9)).cell? ⟨w.heap.size, k, none⟩ = some (.int .u8 ((jR k).op : Int)) := fun k hk => by
    have h0 : (w.alloc (.cells opsV 22)).cell? ⟨w.heap.size, k, none⟩ = some (.int .u8 ((jR k).op : Int)) := by rw [World.cell?_alloc_at _ _ _ _ rfl]; exact (ops_at k hk).1
    exact cell_kept h0 ((Below.refl _ _).alloc (Nat.le_refl _) _)
  have c2 : ∀ k, k < 12 → ((w.alloc (.cells opsV 22)).alloc (.cells sgnV 9)).cell? ⟨w.heap.size + 1, k, none⟩ = some (.string (jR k).text) := fun k hk => by
    have h0 : ((w.alloc (.cells opsV 22)).alloc (.cells sgnV 9)).cell? ⟨(w.alloc (.cells opsV 22)).heap.size, k, none⟩ = some (.string (jR k).text) := by rw [World.cell?_alloc_at _ _ _ _ rfl]; exact (ops_at k hk).2
    rwa [e1] at h0
  unfold opsV sgnV at c1 c2 HB
  have C1 := hid c1
  have C2 := hid c2
  clear c1 c2 e1
  go_enter Tryd.func47, Tryd.ntmps47
  go_wp2
  go_loop [5] (fun i => ∃ k : Nat, k ≤ 12 ∧ i = .int .i64 (k : Int) ∧ Hid (∀ j, j < k → ((jR j).op == op) = false)) (fun i => 12 - (intOf i).toNat)
  case atStart => exact ⟨0, by omega, rfl, fun j hj => by omega⟩
  case round =>
    obtain ⟨k, hk, rfl, hall⟩ := hrel
    by_cases hlt : k < 12
    · have hlt' : (k : Int) < 12 := by omega
      have hk0 : (0 : Int) ≤ (k : Int) := by omega
      have x1 := C1.out k hlt
      have x2 := C2.out k hlt
      cases he : ((jR k).op == op)
      · have he' : (((jR k).op : Int) == (op : Int)) = false := by simp at he ⊢; omega
        have Hnew : Hid (∀ j, j < k + 1 → ((jR j).op == op) = false) := fun j hj => by
          by_cases e : j = k
          · rw [e]; exact he
          · exact hall.out j (by omega)
        clear hall he x2
        generalize (jR k).op = O at *
        go_wp2
        go_round
        case rel => exact ⟨k + 1, by omega, by go_num, Hnew⟩
        case measure => simp [intOf]; omega
      · have he' : (((jR k).op : Int) == (op : Int)) = true := by simp at he ⊢; omega
        have Hr : Hid (jR k = r) := Option.some.inj ((jOf_some k hlt hall.out he).symm.trans hr)
        clear hall he
        go_wp2
        go_ret
        exact ⟨by rw [Hr.out]; rfl, HB.out⟩
    · have hno : jOf op = none := jOf_none fun j hj => hall.out j (by omega)
      rw [hno] at hr
      cases hr
end Go.Proofs.YtkieljleopbhoaaDoor.Lex
