/-
  The document's own size and Check, whatever it is.
-/
import Derived.Test.YtkieljleopbhoaaDoorRSize
namespace Go.Proofs.YtkieljleopbhoaaDoor.Lex
open Go.ChangeShapes Go.WideShapes Go.ChangeAt Go.RowKit Go.Joins
theorem many_ne {op len : Nat} (h : ¬ manyI op = (len : Int)) : (manyI op != (len : Int)) = true := by simp [h]
theorem many_eq {op len : Nat} (h : manyI op = (len : Int)) : (manyI op != (len : Int)) = false := by simp [h]
theorem sz_none {d M : Nat} {x : Ex} (h : M = 0 ∨ fieldsOk x.op x.n x.name x.args.length = false) : sz (d + 1) M x = none := by rw [sz, if_pos h]
theorem rsize_any : ∀ (d : Nat), d ≤ 32 → RSzC d
  | 0, _ => by
    intro x w s M hM hS
    obtain ⟨ao, cap, _, rfl, _⟩ := hS.out
    have e : sz 0 M x = none := by simp [sz]
    rw [e]
    exact rs_d0 x ao cap ((0 : Nat) : Int) (M : Int) w rfl
  | d + 1, hd => by
    intro x w s M hM hS
    have ih := rsize_any d (by omega)
    obtain ⟨ao, cap, sl, rfl, hop, hn, hnm, _⟩ := hS.out
    have hD : ((((d + 1 : Nat) : Int)) == 0) = false := by simp; omega
    by_cases hM0 : M = 0
    · rw [sz_none (.inl hM0)]
      exact rs_m0 x ao cap _ _ w hD (by simp [hM0])
    · have hM1 : ((M : Int) == 0) = false := by simp; omega
      have hsplit := fields_split x.op x.n x.name x.args.length
      by_cases hm : manyI x.op = (x.args.length : Int)
      · rw [decide_eq_true hm, Bool.true_and] at hsplit
        have hm' := many_eq hm
        have bad : fldOk x.op x.n x.name = false → sz (d + 1) M x = none := fun h => sz_none (.inr (hsplit.trans h))
        have good : fldOk x.op x.n x.name = true → sz (d + 1) M x = szL (sz d) M 1 x.args := fun h => by rw [sz, if_neg (by rw [hsplit, h]; simp [hM0])]
        have leaf : x.args.length = 0 → szL (sz d) M 1 x.args = some 1 := fun h => by rw [List.eq_nil_of_length_eq_zero h]; rfl
        unfold fldOk at bad good
        by_cases h1 : x.op = 1
        · rw [if_pos h1] at bad good
          have e1 := eqN (b := 1) h1
          have hl : x.args.length = 0 := by rw [h1] at hm; have : manyI 1 = 0 := by decide
                                            omega
          by_cases h0 : x.n < 0
          · rw [bad (by rw [decide_eq_false (by omega)]; rfl)]
            exact rs_1a x ao cap _ _ w hD hM1 hm' e1 h0
          · rw [decide_eq_true (by omega)] at bad good
            by_cases he : x.name.size = 0
            · rw [good (by rw [decide_eq_true he]; rfl), leaf hl]
              exact rs_1c x ao cap _ _ w hD hM1 hm' e1 h0 (empty_yes he) hl
            · rw [bad (by rw [decide_eq_false he]; rfl)]
              exact rs_1b x ao cap _ _ w hD hM1 hm' e1 h0 (empty_no he)
        · rw [if_neg h1] at bad good
          have e1 := neN (b := 1) h1
          by_cases h2 : x.op = 2
          · rw [if_pos h2] at bad good
            have e2 := eqN (b := 2) h2
            have hl : x.args.length = 0 := by rw [h2] at hm; have : manyI 2 = 0 := by decide
                                              omega
            by_cases h0 : x.n = 0
            · rw [decide_eq_true h0] at bad good
              by_cases he : x.name.size = 0
              · rw [good (by rw [decide_eq_true he]; rfl), leaf hl]
                exact rs_2d x ao cap _ _ w hD hM1 hm' e1 e2 (inn h0) (empty_yes he) hl
              · rw [bad (by rw [decide_eq_false he]; rfl)]
                exact rs_2b x ao cap _ _ w hD hM1 hm' e1 e2 (inn h0) (empty_no he)
            · rw [decide_eq_false h0] at bad good
              by_cases h01 : x.n = 1
              · rw [decide_eq_true h01] at bad good
                by_cases he : x.name.size = 0
                · rw [good (by rw [decide_eq_true he]; rfl), leaf hl]
                  exact rs_2e x ao cap _ _ w hD hM1 hm' e1 e2 (inq h0) (inn h01) (empty_yes he) hl
                · rw [bad (by rw [decide_eq_false he]; rfl)]
                  exact rs_2c x ao cap _ _ w hD hM1 hm' e1 e2 (inq h0) (inn h01) (empty_no he)
              · rw [decide_eq_false h01] at bad
                rw [bad rfl]
                exact rs_2a x ao cap _ _ w hD hM1 hm' e1 e2 (inq h0) (inq h01)
          · rw [if_neg h2] at bad good
            have e2 := neN (b := 2) h2
            by_cases h3 : x.op = 3
            · rw [if_pos h3] at bad good
              have e3 := eqN (b := 3) h3
              have hl : x.args.length = 0 := by rw [h3] at hm; have : manyI 3 = 0 := by decide
                                                omega
              by_cases h0 : x.n = 0
              · rw [decide_eq_true h0] at bad good
                cases hb : isName x.name with
                | false =>
                  rw [bad (by rw [hb]; rfl)]
                  exact rs_3b x ao cap _ _ w hD hM1 hm' e1 e2 e3 (inn h0) hnm hb
                | true =>
                  rw [good (by rw [hb]; rfl), leaf hl]
                  exact rs_3c x ao cap _ _ w hD hM1 hm' e1 e2 e3 (inn h0) hnm hb hl
              · rw [decide_eq_false h0] at bad
                rw [bad rfl]
                exact rs_3a x ao cap _ _ w hD hM1 hm' e1 e2 e3 (inq h0)
            · rw [if_neg h3] at bad good
              have e3 := neN (b := 3) h3
              by_cases h0 : x.n = 0
              · rw [decide_eq_true h0] at bad good
                by_cases he : x.name.size = 0
                · rw [good (by rw [decide_eq_true he]; rfl)]
                  exact rs_4c x ao cap _ _ w d ih hd rfl M rfl (by omega) hM hD hM1 hm' e1 e2 e3 (inn h0) (empty_yes he) hS
                · rw [bad (by rw [decide_eq_false he]; rfl)]
                  exact rs_4b x ao cap _ _ w hD hM1 hm' e1 e2 e3 (inn h0) (empty_no he)
              · rw [decide_eq_false h0] at bad
                rw [bad rfl]
                exact rs_4a x ao cap _ _ w hD hM1 hm' e1 e2 e3 (inq h0)
      · rw [decide_eq_false hm, Bool.false_and] at hsplit
        rw [sz_none (.inr hsplit)]
        exact rs_mn x ao cap _ _ w hD hM1 (many_ne hm)
set_option maxRecDepth 100000 in
/-- The document's own Check. -/
theorem rcheck (x : Ex) (w : World) (s : Value) (hS : St w x s) : Calls Tryd.prog 12 #[exV x s] w fun e w' => e = .returned (.bool (chk x)) ∧ Below w.heap.size w w' := by
  obtain ⟨ao, cap, sl, rfl, _⟩ := hS.out
  have b1 := (Below.refl w.heap.size w).alloc (Nat.le_refl _) (.cells #[.int .u8 (x.op : Int), .int .i64 x.n, .string x.name, .slice ao x.args.length cap] 25)
  have c := rsize_any 32 (Nat.le_refl _) x _ _ 200 (Nat.le_refl _) (hS.keep b1)
  have H1 := hid b1
  unfold chk
  cases hz : sz 32 200 x with
  | none =>
    rw [hz] at c
    simp only [szI] at c
    clear hS b1
    go_enter Tryd.func12, Tryd.ntmps12
    go_wp2_with (go_at_call 28; refine c.mono ?_; rintro e w3 ⟨rfl, hb3⟩)
    go_ret
    exact ⟨rfl, bstep H1.out hb3⟩
  | some k =>
    have hk := sz_le _ _ _ _ hz
    have hk' : (0 : Int) < (k : Int) := by omega
    rw [hz] at c
    simp only [szI] at c
    clear hS b1 hz
    go_enter Tryd.func12, Tryd.ntmps12
    go_wp2_with (go_at_call 28; refine c.mono ?_; rintro e w3 ⟨rfl, hb3⟩)
    go_ret
    exact ⟨by first | rfl | (simp; omega), bstep H1.out hb3⟩
end Go.Proofs.YtkieljleopbhoaaDoor.Lex
