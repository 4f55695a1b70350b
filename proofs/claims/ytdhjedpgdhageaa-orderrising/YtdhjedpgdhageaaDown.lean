/-
  The heap: down.
-/
import Derived.Test.YtdhjedpgdhageaaUp
namespace Go.Proofs.Ytdhjedpgdhageaa.Ord
open Go.ChangeShapes Go.WideShapes Go.ChangeAt Go.RowKit Go.Joins
set_option maxRecDepth 100000 in
set_option maxHeartbeats 2000000 in
theorem down_at (qb base : Nat) (hqb : qb < base) (l : List Int) (g c : Nat) (W : World) (hR : Row W base (.slice (some ⟨g, 0, none⟩) l.length c) l) (hgb : base ≤ g) (hc : W.cell? ⟨qb, 3, none⟩ = some (.slice (some ⟨g, 0, none⟩) l.length c)) (n : Nat) (hn : n < l.length) (hU : Dn n l 0) (hsz : l.length ≤ 1099511627776) :
    Calls Try.prog 23 #[.iface 49 (.pointer (some ⟨qb, 3, none⟩)), .int .i64 0, .int .i64 (n : Int)] W fun e w' => ∃ b, e = .returned (.bool b) ∧ ∃ l', l'.Perm l ∧ l'.length = l.length ∧ Hp n l' ∧ ga l' n = ga l n ∧ Row w' base (.slice (some ⟨g, 0, none⟩) l.length c) l' ∧ W.grownBy w' (some g) := by
  have m1 := fun w h => m_less w qb 3 (.slice (some ⟨g, 0, none⟩) l.length c) h
  have m2 := fun w h => m_swap w qb 3 (.slice (some ⟨g, 0, none⟩) l.length c) h
  have HR := hid hR
  have HU := hid hU
  have HC := hid hc
  clear hR hU
  go_enter Try.func23, Try.ntmps23
  go_wp2_with (fail)
  go_loopw [7] (fun s7 wr => ∃ (i : Nat) (l' : List Int), s7 = .int .i64 (i : Int) ∧ i ≤ n ∧ l'.length = l.length ∧ Hid (l'.Perm l ∧ Dn n l' i ∧ ga l' n = ga l n ∧ Row wr base (.slice (some ⟨g, 0, none⟩) l.length c) l' ∧ W.grownBy wr (some g)) ∧ wr.cell? ⟨qb, 3, none⟩ = some (.slice (some ⟨g, 0, none⟩) l.length c)) (fun s7 _ => n - (intOf s7).toNat)
  case atStart => exact ⟨0, l, rfl, by omega, rfl, hid ⟨List.Perm.refl _, HU.out, rfl, HR.out, World.grownBy.refl _ _⟩, HC.out⟩
  case round =>
    obtain ⟨i, l', rfl, hin, hl', HL, hc'⟩ := hrel
    by_cases h1 : n ≤ 2 * i + 1
    · have d1 : decide ((2 * (i : Int) + 1) ≥ (n : Int)) = true := by simp; omega
      have d2 : decide ((n : Int) ≤ (2 * (i : Int) + 1)) = true := by simp; omega
      go_wp2_with (fail)
      go_ret
      exact ⟨_, rfl, l', HL.out.1, hl', HL.out.2.1.leaf h1, HL.out.2.2.1, HL.out.2.2.2.1, HL.out.2.2.2.2⟩
    · have d1 : decide ((n : Int) ≤ (2 * (i : Int) + 1)) = false := by simp; omega
      have d2 : decide ((2 * (i : Int) + 1) < 0) = false := by simp; omega
      have w1 : Int.ofNat (2 * i + 1) = 2 * (i : Int) + 1 := by simp
      have hi : i < l'.length := by omega
      have ci := (Row.cell (hl' ▸ HL.out.2.2.2.1) hi).1
      have fi := (Row.cell (hl' ▸ HL.out.2.2.2.1) hi).2
      have h2 : 2 * i + 1 < l'.length := by omega
      have c1 := (Row.cell (hl' ▸ HL.out.2.2.2.1) h2).1
      have f1 := (Row.cell (hl' ▸ HL.out.2.2.2.1) h2).2
      by_cases h3' : 2 * i + 2 < n
      · have d3 : decide ((2 * (i : Int) + 1 + 1) < (n : Int)) = true := by simp; omega
        have h3 : 2 * i + 2 < l'.length := by omega
        have c2 := (Row.cell (hl' ▸ HL.out.2.2.2.1) h3).1
        have f2 := (Row.cell (hl' ▸ HL.out.2.2.2.1) h3).2
        go_wp2_with (fail)
        rw [show (2 * (i : Int) + 1 + 1) = ((2 * i + 2 : Nat) : Int) from by omega, show (2 * (i : Int) + 1) = ((2 * i + 1 : Nat) : Int) from by omega]
        refine (less_at g c l.length wr _ _ (2 * i + 2) (2 * i + 1) (by omega) (by omega) (by omega) c2 c1).mono ?_
        rintro e w2 ⟨rfl, q1, rfl⟩
        have HLa : Hid (l'.Perm l ∧ Dn n l' i ∧ ga l' n = ga l n ∧ Row (wr.drewN q1) base (.slice (some ⟨g, 0, none⟩) l.length c) l' ∧ W.grownBy (wr.drewN q1) (some g)) := hid ⟨HL.out.1, HL.out.2.1, HL.out.2.2.1, HL.out.2.2.2.1, HL.out.2.2.2.2.trans (grown_drew wr q1 _)⟩
        have cia : (wr.drewN q1).cell? ⟨g, i, none⟩ = _ := ci
        have c1a : (wr.drewN q1).cell? ⟨g, 2 * i + 1, none⟩ = _ := c1
        have c2a : (wr.drewN q1).cell? ⟨g, 2 * i + 2, none⟩ = _ := c2
        have fia : (wr.drewN q1).frozen? ⟨g, i, none⟩ = _ := fi
        have f1a : (wr.drewN q1).frozen? ⟨g, 2 * i + 1, none⟩ = _ := f1
        have f2a : (wr.drewN q1).frozen? ⟨g, 2 * i + 2, none⟩ = _ := f2
        have hc'a : (wr.drewN q1).cell? ⟨qb, 3, none⟩ = _ := hc'
        generalize wr.drewN q1 = wra at *
        by_cases hless : ga l' (2 * i + 2) < ga l' (2 * i + 1)
        · have hless' : decide (ga l' (2 * i + 2) < ga l' (2 * i + 1)) = true := by simpa using hless
          have HM : Hid (∀ k, 0 < k → k < n → (k - 1) / 2 = i → ga l' (2 * i + 2) ≤ ga l' k) := hid (fun k k0 kn ki => by
            have hk : k = 2 * i + 1 ∨ k = 2 * i + 2 := by omega
            rcases hk with rfl | rfl <;> omega)
          have hjn : (2 * i + 2) < n := by omega
          have HMS : Hid (i < (2 * i + 2)) := hid (by omega)
          go_wp2_with (fail)
          (first | rw [show (2 * (i : Int) + 1 + 1) = ((2 * i + 2 : Nat) : Int) from by omega] | rw [show (2 * (i : Int) + 2) = ((2 * i + 2 : Nat) : Int) from by omega] | skip)
          refine (less_at g c l.length wra _ _ (2 * i + 2) i (by omega) (by omega) (by omega) c2a cia).mono ?_
          rintro e w3 ⟨rfl, q3, rfl⟩
          by_cases hlt : ga l' (2 * i + 2) < ga l' i
          · have hlt' : decide (ga l' (2 * i + 2) < ga l' i) = true := by simpa using hlt
            go_wp2_with (fail)
            (first | rw [show (2 * (i : Int) + 1 + 1) = ((2 * i + 2 : Nat) : Int) from by omega] | rw [show (2 * (i : Int) + 2) = ((2 * i + 2 : Nat) : Int) from by omega] | skip)
            refine (swap_at g c l.length (wra.drewN q3) _ _ i (2 * i + 2) (by omega) (by omega) (by omega) cia c2a fia f2a).mono ?_
            rintro e w2 ⟨rfl, q2, rfl⟩
            have HW := hid (Row.swap (W := wra.drewN q3) (base := base) (c := c) (l := l') (by rw [hl']; exact HLa.out.2.2.2.1) (i := i) h3 q2)
            have hc2 := HW.out.2.cell (a := ⟨qb, 3, none⟩) hc'a (show some qb ≠ some g from ne_some (by omega))
            generalize ((((wra.drewN q3).setCell ⟨g, i, none⟩ (.int .i64 (ga l' (2 * i + 2)))).setCell ⟨g, (2 * i + 2), none⟩ (.int .i64 (ga l' i))).drewN q2) = W2 at *
            have HST := hid (HLa.out.2.1.step (by omega) hjn (by omega) HM.out hlt)
            have HGA : Hid (ga (sw l' i (2 * i + 2)) n = ga l n) := hid (by rw [sw_at hi h3, if_neg (by omega), if_neg (by omega)]; exact HLa.out.2.2.1)
            go_wp2_with (fail)
            (first | rw [show (2 * (i : Int) + 1 + 1) = ((2 * i + 2 : Nat) : Int) from by omega] | rw [show (2 * (i : Int) + 2) = ((2 * i + 2 : Nat) : Int) from by omega] | skip)
            go_roundw
            case rel => exact ⟨(2 * i + 2), sw l' i (2 * i + 2), by (first | rfl | (congr 1; omega)), by omega, by rw [sw_len, hl'], hid ⟨(sw_perm hi h3).trans HLa.out.1, HST.out, HGA.out, by rw [← hl']; exact HW.out.1, (HLa.out.2.2.2.2.trans (grown_drew wra q3 _)).trans HW.out.2⟩, hc2⟩
            case measure => have := HMS.out; simp [intOf]; omega
          · have hlt' : decide (ga l' (2 * i + 2) < ga l' i) = false := by simpa using hlt
            go_wp2_with (fail)
            go_ret
            exact ⟨_, rfl, l', HLa.out.1, hl', HLa.out.2.1.done HM.out (by omega), HLa.out.2.2.1, HLa.out.2.2.2.1, HLa.out.2.2.2.2.trans (grown_drew wra q3 _)⟩
        · have hless' : decide (ga l' (2 * i + 2) < ga l' (2 * i + 1)) = false := by simpa using hless
          have HM : Hid (∀ k, 0 < k → k < n → (k - 1) / 2 = i → ga l' (2 * i + 1) ≤ ga l' k) := hid (fun k k0 kn ki => by
            have hk : k = 2 * i + 1 ∨ k = 2 * i + 2 := by omega
            rcases hk with rfl | rfl <;> omega)
          have hjn : (2 * i + 1) < n := by omega
          have HMS : Hid (i < (2 * i + 1)) := hid (by omega)
          go_wp2_with (fail)
          (first | rw [show (2 * (i : Int) + 1) = ((2 * i + 1 : Nat) : Int) from by omega] | skip)
          refine (less_at g c l.length wra _ _ (2 * i + 1) i (by omega) (by omega) (by omega) c1a cia).mono ?_
          rintro e w3 ⟨rfl, q3, rfl⟩
          by_cases hlt : ga l' (2 * i + 1) < ga l' i
          · have hlt' : decide (ga l' (2 * i + 1) < ga l' i) = true := by simpa using hlt
            go_wp2_with (fail)
            (first | rw [show (2 * (i : Int) + 1) = ((2 * i + 1 : Nat) : Int) from by omega] | skip)
            refine (swap_at g c l.length (wra.drewN q3) _ _ i (2 * i + 1) (by omega) (by omega) (by omega) cia c1a fia f1a).mono ?_
            rintro e w2 ⟨rfl, q2, rfl⟩
            have HW := hid (Row.swap (W := wra.drewN q3) (base := base) (c := c) (l := l') (by rw [hl']; exact HLa.out.2.2.2.1) (i := i) h2 q2)
            have hc2 := HW.out.2.cell (a := ⟨qb, 3, none⟩) hc'a (show some qb ≠ some g from ne_some (by omega))
            generalize ((((wra.drewN q3).setCell ⟨g, i, none⟩ (.int .i64 (ga l' (2 * i + 1)))).setCell ⟨g, (2 * i + 1), none⟩ (.int .i64 (ga l' i))).drewN q2) = W2 at *
            have HST := hid (HLa.out.2.1.step (by omega) hjn (by omega) HM.out hlt)
            have HGA : Hid (ga (sw l' i (2 * i + 1)) n = ga l n) := hid (by rw [sw_at hi h2, if_neg (by omega), if_neg (by omega)]; exact HLa.out.2.2.1)
            go_wp2_with (fail)
            (first | rw [show (2 * (i : Int) + 1) = ((2 * i + 1 : Nat) : Int) from by omega] | skip)
            go_roundw
            case rel => exact ⟨(2 * i + 1), sw l' i (2 * i + 1), by (first | rfl | (congr 1; omega)), by omega, by rw [sw_len, hl'], hid ⟨(sw_perm hi h2).trans HLa.out.1, HST.out, HGA.out, by rw [← hl']; exact HW.out.1, (HLa.out.2.2.2.2.trans (grown_drew wra q3 _)).trans HW.out.2⟩, hc2⟩
            case measure => have := HMS.out; simp [intOf]; omega
          · have hlt' : decide (ga l' (2 * i + 1) < ga l' i) = false := by simpa using hlt
            go_wp2_with (fail)
            go_ret
            exact ⟨_, rfl, l', HLa.out.1, hl', HLa.out.2.1.done HM.out (by omega), HLa.out.2.2.1, HLa.out.2.2.2.1, HLa.out.2.2.2.2.trans (grown_drew wra q3 _)⟩
      · have d3 : decide ((2 * (i : Int) + 1 + 1) < (n : Int)) = false := by simp; omega
        have HM : Hid (∀ k, 0 < k → k < n → (k - 1) / 2 = i → ga l' (2 * i + 1) ≤ ga l' k) := hid (fun k k0 kn ki => by
          have hk : k = 2 * i + 1 ∨ k = 2 * i + 2 := by omega
          rcases hk with rfl | rfl <;> omega)
        have hjn : (2 * i + 1) < n := by omega
        have HMS : Hid (i < (2 * i + 1)) := hid (by omega)
        go_wp2_with (fail)
        (first | rw [show (2 * (i : Int) + 1) = ((2 * i + 1 : Nat) : Int) from by omega] | skip)
        refine (less_at g c l.length wr _ _ (2 * i + 1) i (by omega) (by omega) (by omega) c1 ci).mono ?_
        rintro e w3 ⟨rfl, q3, rfl⟩
        by_cases hlt : ga l' (2 * i + 1) < ga l' i
        · have hlt' : decide (ga l' (2 * i + 1) < ga l' i) = true := by simpa using hlt
          go_wp2_with (fail)
          (first | rw [show (2 * (i : Int) + 1) = ((2 * i + 1 : Nat) : Int) from by omega] | skip)
          refine (swap_at g c l.length (wr.drewN q3) _ _ i (2 * i + 1) (by omega) (by omega) (by omega) ci c1 fi f1).mono ?_
          rintro e w2 ⟨rfl, q2, rfl⟩
          have HW := hid (Row.swap (W := wr.drewN q3) (base := base) (c := c) (l := l') (by rw [hl']; exact HL.out.2.2.2.1) (i := i) h2 q2)
          have hc2 := HW.out.2.cell (a := ⟨qb, 3, none⟩) hc' (show some qb ≠ some g from ne_some (by omega))
          generalize ((((wr.drewN q3).setCell ⟨g, i, none⟩ (.int .i64 (ga l' (2 * i + 1)))).setCell ⟨g, (2 * i + 1), none⟩ (.int .i64 (ga l' i))).drewN q2) = W2 at *
          have HST := hid (HL.out.2.1.step (by omega) hjn (by omega) HM.out hlt)
          have HGA : Hid (ga (sw l' i (2 * i + 1)) n = ga l n) := hid (by rw [sw_at hi h2, if_neg (by omega), if_neg (by omega)]; exact HL.out.2.2.1)
          go_wp2_with (fail)
          (first | rw [show (2 * (i : Int) + 1) = ((2 * i + 1 : Nat) : Int) from by omega] | skip)
          go_roundw
          case rel => exact ⟨(2 * i + 1), sw l' i (2 * i + 1), by (first | rfl | (congr 1; omega)), by omega, by rw [sw_len, hl'], hid ⟨(sw_perm hi h2).trans HL.out.1, HST.out, HGA.out, by rw [← hl']; exact HW.out.1, (HL.out.2.2.2.2.trans (grown_drew wr q3 _)).trans HW.out.2⟩, hc2⟩
          case measure => have := HMS.out; simp [intOf]; omega
        · have hlt' : decide (ga l' (2 * i + 1) < ga l' i) = false := by simpa using hlt
          go_wp2_with (fail)
          go_ret
          exact ⟨_, rfl, l', HL.out.1, hl', HL.out.2.1.done HM.out (by omega), HL.out.2.2.1, HL.out.2.2.2.1, HL.out.2.2.2.2.trans (grown_drew wr q3 _)⟩
end Go.Proofs.Ytdhjedpgdhageaa.Ord
