/-
  The heap: up.
-/
import Derived.Test.YtdhjedpgdhageaaHp
namespace Go.Proofs.Ytdhjedpgdhageaa.Ord
open Go.ChangeShapes Go.WideShapes Go.ChangeAt Go.RowKit Go.Joins
set_option maxRecDepth 100000 in
set_option maxHeartbeats 1000000 in
theorem up_at (qb base : Nat) (hqb : qb < base) (l : List Int) (g c : Nat) (W : World) (hR : Row W base (.slice (some ⟨g, 0, none⟩) l.length c) l) (hgb : base ≤ g) (hc : W.cell? ⟨qb, 3, none⟩ = some (.slice (some ⟨g, 0, none⟩) l.length c)) (j : Nat) (hj : j < l.length) (hU : Up l.length l j) (hsz : l.length ≤ 1099511627776) :
    Calls Try.prog 24 #[.iface 49 (.pointer (some ⟨qb, 3, none⟩)), .int .i64 (j : Int)] W fun e w' => e = .returned (.tuple #[]) ∧ ∃ l', l'.Perm l ∧ l'.length = l.length ∧ Hp l'.length l' ∧ Row w' base (.slice (some ⟨g, 0, none⟩) l.length c) l' ∧ W.grownBy w' (some g) := by
  have m1 := fun w h => m_less w qb 3 (.slice (some ⟨g, 0, none⟩) l.length c) h
  have m2 := fun w h => m_swap w qb 3 (.slice (some ⟨g, 0, none⟩) l.length c) h
  have HR := hid hR
  have HU := hid hU
  have HC := hid hc
  clear hR hU
  go_enter Try.func24, Try.ntmps24
  go_wp2_with (fail)
  go_loopw [1] (fun s1 wr => ∃ (j' : Nat) (l' : List Int), s1 = .int .i64 (j' : Int) ∧ j' < l'.length ∧ l'.length = l.length ∧ Hid (l'.Perm l ∧ Up l'.length l' j' ∧ Row wr base (.slice (some ⟨g, 0, none⟩) l.length c) l' ∧ W.grownBy wr (some g)) ∧ wr.cell? ⟨qb, 3, none⟩ = some (.slice (some ⟨g, 0, none⟩) l.length c)) (fun s1 _ => (intOf s1).toNat)
  case atStart => exact ⟨j, l, rfl, hj, rfl, hid ⟨List.Perm.refl _, HU.out, HR.out, World.grownBy.refl _ _⟩, HC.out⟩
  case round =>
    obtain ⟨j', l', rfl, hj', hl', HL, hc'⟩ := hrel
    by_cases h0 : j' = 0
    · subst h0
      have d0 : (((0 : Nat) : Int) - 1).tdiv 2 = 0 := by decide
      go_wp2_with (fail)
      go_end0
      exact ⟨rfl, l', HL.out.1, hl', HL.out.2.1.done (.inl rfl), HL.out.2.2.1, HL.out.2.2.2⟩
    · have hi : (j' - 1) / 2 < l'.length := by omega
      have HI := hid (half (j := j') (by omega))
      have HE : Hid ((j' - 1) / 2 ≠ j') := hid (by omega)
      have cj := (Row.cell (hl' ▸ HL.out.2.2.1) hj').1
      have ci := (Row.cell (hl' ▸ HL.out.2.2.1) hi).1
      have fj := (Row.cell (hl' ▸ HL.out.2.2.1) hj').2
      have fi := (Row.cell (hl' ▸ HL.out.2.2.1) hi).2
      have HS : Hid (ga l' j' < ga l' ((j' - 1) / 2) → Up l'.length (sw l' ((j' - 1) / 2) j') ((j' - 1) / 2)) := hid (fun h => HL.out.2.1.step hj' (by omega) h)
      have HD : Hid (ga l' ((j' - 1) / 2) ≤ ga l' j' → Hp l'.length l') := hid (fun h => HL.out.2.1.done (.inr h))
      have HM : Hid ((j' - 1) / 2 < j') := hid (by omega)
      generalize (j' - 1) / 2 = i at *
      have hd := HI.out
      have e0 : ((i : Int) == (j' : Int)) = false := by have := HE.out; rw [beq_eq_false_iff_ne]; omega
      go_wp2_with (fail)
      refine (less_at g c l.length wr _ _ j' i (by omega) (by omega) (by omega) cj ci).mono ?_
      rintro e w1 ⟨rfl, q, rfl⟩
      by_cases hlt : ga l' j' < ga l' i
      · have hlt' : decide (ga l' j' < ga l' i) = true := by simpa using hlt
        go_wp2_with (fail)
        refine (swap_at g c l.length (wr.drewN q) _ _ i j' (by omega) (by omega) (by omega) ci cj fi fj).mono ?_
        rintro e w2 ⟨rfl, q2, rfl⟩
        have HW := hid (Row.swap (W := wr.drewN q) (base := base) (c := c) (l := l') (by rw [hl']; exact HL.out.2.2.1) (i := i) hj' q2)
        have hc2 := HW.out.2.cell (a := ⟨qb, 3, none⟩) hc' (show some qb ≠ some g from ne_some (by omega))
        generalize ((((wr.drewN q).setCell ⟨g, i, none⟩ (.int .i64 (ga l' j'))).setCell ⟨g, j', none⟩ (.int .i64 (ga l' i))).drewN q2) = W2 at *
        go_wp2_with (fail)
        go_roundw
        case rel => exact ⟨i, sw l' i j', rfl, by rw [sw_len]; omega, by rw [sw_len, hl'], hid ⟨(sw_perm hi hj').trans HL.out.1, by rw [sw_len]; exact HS.out hlt, by rw [← hl']; exact HW.out.1, (HL.out.2.2.2.trans (grown_drew wr q _)).trans HW.out.2⟩, hc2⟩
        case measure => have := HM.out; simp [intOf]; omega
      · have hlt' : decide (ga l' j' < ga l' i) = false := by simpa using hlt
        go_wp2_with (fail)
        go_end0
        exact ⟨rfl, l', HL.out.1, hl', HD.out (by omega), HL.out.2.2.1, HL.out.2.2.2.trans (grown_drew wr q _)⟩
end Go.Proofs.Ytdhjedpgdhageaa.Ord
