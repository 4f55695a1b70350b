/-
  The statement BitsOdd of this seat is proved: for every number of 64 bits and every width from 64 below nought to 191, a number that has higher bits than it may, or a width that may not be, is refused and nothing is put; else it is put.
  Conditions: none beside those that the given row prints.
-/
import Derived.Test.YtcaappheoekijabAcc
import Derived.WalkKit
import Derived.ProofKit
import Derived.OpenShut
import Derived.ShutString
import Derived.ChangeOld
import Derived.Below
import Derived.SizedLaws
namespace Go.Proofs.Ytcaappheoekijab.Bits
open Go.ChangeShapes Go.WideShapes Go.ChangeAt Go.RowKit
set_option linter.unusedVariables false
theorem put11 (w0 : World) (a r : Nat) (w : World) (hb : Below w0.heap.size w0 w) (hP : Pen w0.heap.size w a r (.slice none 0 0) []) :
    Calls Try.prog 6 #[.pointer (some ⟨a, 0, none⟩), .int .u64 1, .int .i64 1] w fun e w' => e = .returned (.int .i64 0) ∧ ∃ v', Pen w0.heap.size w' a r v' [true] ∧ Below w0.heap.size w0 w' :=
  put_a w0 a r _ [] 1 1 w hb hP (by decide) (by decide) (by decide)
theorem len_c (a r : Nat) (v : Value) (L : List Bool) (w : World) (hW : Wr w a r v L) (T : Int) (hT : T = L.length) :
    Calls Try.prog 9 #[.pointer (some ⟨a, 0, none⟩)] w fun e w' => e = .returned (.int .i64 T) ∧ w' = w := by
  subst hT
  exact len a r v L w hW
/-- A number that may be put. -/
theorem walk3_ok (n y k : Nat) (w : World) (hn : n < 2 ^ 64) (hy : y < 256) (hk : (y : Int) - 64 = (k : Int)) (hk64 : k ≤ 64) (hnk : n < 2 ^ k) :
    Calls Try.prog 3 #[.int .u64 (n : Int), .int .u8 (y : Int)] w fun e w' => e = .returned (.bool true) ∧ Below w.heap.size w w' := by
  have hb0 := Below.refl w.heap.size w
  have p1 : Hid True := trivial
  have hk64' : (k : Int) ≤ 64 := by omega
  have hmod : Hid (n % 2 ^ k = n) := Nat.mod_eq_of_lt hnk
  have hmax : max (k : Int) 0 = (k : Int) := by omega
  have HL : Hid (((1 : Int) + (k : Int)) = (([true] ++ bitsOf n k).length : Int)) := by show _ = _; simp [bitsOf_length]; omega
  have HN : Hid (n < 2 ^ 64) := hn
  have HNK : Hid (n < 2 ^ k) := hnk
  clear hn hnk
  go_enter Try.func3, Try.ntmps3
  go_wp2_with (first
    | (go_at_call 5; refine (new_a w w hb0).mono ?_; rintro e w1 ⟨a, r, rfl, hP1, hb1⟩)
    | (go_at_call 6; first
      | (clear p1; refine (put11 w a r w1 hb1 hP1).mono ?_; rintro e w2 ⟨rfl, v2, hP2, hb2⟩)
      | (refine (put_a w a r v2 [true] n k w2 hb2 hP2 hk64 HNK.out (by simp; omega)).mono ?_; rintro e w3 ⟨rfl, v3, hP3, hb3⟩))
    | (go_at_call 7; refine (low n k w3 HN.out).mono ?_; rintro e w4 ⟨rfl, h4⟩; rw [h4, hmod.out]; clear h4 w4)
    | (go_at_call 8; refine (alive_a w w3 hb3).mono ?_; rintro e w5 ⟨rfl, hk5, hb5⟩; have hP5 := hP3.kept hk5)
    | (go_at_call 9; refine (len_c a r v3 _ w5 hP5.wr (1 + k) HL.out).mono ?_; rintro e w6 ⟨rfl, h6⟩; rw [h6]; clear h6 w6))
  go_ret
  exact ⟨rfl, hb5⟩
/-- A number with higher bits than it may have. -/
theorem walk3_odd (n y k : Nat) (w : World) (hn : n < 2 ^ 64) (hy : y < 256) (hk : (y : Int) - 64 = (k : Int)) (hk64 : k ≤ 64) (hnk : 2 ^ k ≤ n) :
    Calls Try.prog 3 #[.int .u64 (n : Int), .int .u8 (y : Int)] w fun e w' => e = .returned (.bool true) ∧ Below w.heap.size w w' := by
  have hb0 := Below.refl w.heap.size w
  have p1 : Hid True := trivial
  have hk64' : (k : Int) ≤ 64 := by omega
  obtain ⟨x, hx⟩ : ∃ x, n % 2 ^ k = x := ⟨_, rfl⟩
  have hmod : Hid (n % 2 ^ k = x) := hx
  have hne : ((x : Int) == (n : Int)) = false := by
    have := Nat.mod_lt n (Nat.two_pow_pos k)
    rw [hx] at this
    simp only [beq_eq_false_iff_ne, ne_eq]
    omega
  have hmax : max (k : Int) 0 = (k : Int) := by omega
  have HN : Hid (n < 2 ^ 64) := hn
  have HNK : Hid (2 ^ k ≤ n) := hnk
  clear hn hnk hx
  go_enter Try.func3, Try.ntmps3
  go_wp2_with (first
    | (go_at_call 5; refine (new_a w w hb0).mono ?_; rintro e w1 ⟨a, r, rfl, hP1, hb1⟩)
    | (go_at_call 6; first
      | (clear p1; refine (put11 w a r w1 hb1 hP1).mono ?_; rintro e w2 ⟨rfl, v2, hP2, hb2⟩)
      | (refine (bad_a w a r v2 [true] n k w2 hb2 hP2 (.inr ⟨k, rfl, hk64, HNK.out⟩)).mono ?_; rintro e w3 ⟨rfl, hP3, hb3⟩))
    | (go_at_call 7; refine (low n k w3 HN.out).mono ?_; rintro e w4 ⟨rfl, h4⟩; rw [h4, hmod.out]; clear h4 w4)
    | (go_at_call 8; refine (alive_a w w3 hb3).mono ?_; rintro e w5 ⟨rfl, hk5, hb5⟩; have hP5 := hP3.kept hk5)
    | (go_at_call 9; refine (len_c a r v2 [true] w5 hP5.wr 1 rfl).mono ?_; rintro e w6 ⟨rfl, h6⟩; rw [h6]; clear h6 w6))
  go_ret
  exact ⟨rfl, hb5⟩
/-- A width that may not be. -/
theorem walk3_wide (n y : Nat) (k : Int) (w : World) (hy : y < 256) (hk : (y : Int) - 64 = k) (hb : k < 0 ∨ 64 < k) :
    Calls Try.prog 3 #[.int .u64 (n : Int), .int .u8 (y : Int)] w fun e w' => e = .returned (.bool true) ∧ Below w.heap.size w w' := by
  have hb0 := Below.refl w.heap.size w
  have hbad : Hid (¬ (0 ≤ k ∧ k ≤ 64)) := by show ¬ _; omega
  have p1 : Hid True := trivial
  have hr1 : -64 ≤ k := by omega
  have hr2 : k < 192 := by omega
  rcases hb with h0 | h0
  all_goals
    go_enter Try.func3, Try.ntmps3
    go_wp2_with (first
      | (go_at_call 5; refine (new_a w w hb0).mono ?_; rintro e w1 ⟨a, r, rfl, hP1, hb1⟩)
      | (go_at_call 6; first
        | (clear p1; refine (put11 w a r w1 hb1 hP1).mono ?_; rintro e w2 ⟨rfl, v2, hP2, hb2⟩)
        | (refine (bad_a w a r v2 [true] n k w2 hb2 hP2 (.inl hbad.out)).mono ?_; rintro e w3 ⟨rfl, hP3, hb3⟩))
      | (go_at_call 8; refine (alive_a w w3 hb3).mono ?_; rintro e w5 ⟨rfl, hk5, hb5⟩; have hP5 := hP3.kept hk5)
      | (go_at_call 9; refine (len_c a r v2 [true] w5 hP5.wr 1 rfl).mono ?_; rintro e w6 ⟨rfl, h6⟩; rw [h6]; clear h6 w6))
    go_ret
    exact ⟨rfl, hb5⟩
theorem walk3 (n y : Nat) (w : World) (hn : n < 2 ^ 64) (hy : y < 256) :
    Calls Try.prog 3 #[.int .u64 (n : Int), .int .u8 (y : Int)] w fun e w' => e = .returned (.bool true) ∧ Below w.heap.size w w' := by
  by_cases h1 : 64 ≤ y ∧ y ≤ 128
  · obtain ⟨k, hk⟩ : ∃ k : Nat, y = k + 64 := ⟨y - 64, by omega⟩
    by_cases h2 : n < 2 ^ k
    · exact walk3_ok n y k w hn hy (by omega) (by omega) h2
    · exact walk3_odd n y k w hn hy (by omega) (by omega) (Nat.le_of_not_lt h2)
  · exact walk3_wide n y ((y : Int) - 64) w hy rfl (by omega)
theorem nat_N {n : Int} (h : (Lit.int .u64 n).wf = true) : ∃ m : Nat, m < 2 ^ 64 ∧ n = (m : Int) := by
  simp [Lit.wf, IntKind.min, IntKind.max, IntKind.signed, IntKind.bits] at h
  exact ⟨n.toNat, by omega, by omega⟩
theorem nat_c {n : Int} (h : (Lit.int .u8 n).wf = true) : ∃ m : Nat, m < 256 ∧ n = (m : Int) := by
  have := byte_wf h
  exact ⟨n.toNat, by omega, by omega⟩
end Go.Proofs.Ytcaappheoekijab.Bits
namespace Go.Proofs.Ytcaappheoekijab
open Go.ChangeShapes Go.WideShapes Go.ChangeAt Go.RowKit
set_option linter.unusedVariables false
set_option maxRecDepth 100000 in
theorem bitsOdd_lifted (os : Os) (started : os.Started) (H : Type) (enc : TypeId × Value → H) :
    ReturnsInHanded {} Try.checked os 3 .any (Rows.bitsOddSpec.pre6 enc Try.prog Try.f3 Rows.bitsOddRow.domain false) (Rows.bitsOddSpec.post enc Try.prog Try.f3 false true false false) := by
  refine returnsInHanded_of_change_sized (C := Try.checked) Bits.ownGo started (by kernel_rfl) Try.func3
    (ChangeSpec.witness6 (enc := enc) (C := Try.checked) false ⟨#[], #[.int .u64 0, .int .u8 0], []⟩ 8 (by kernel_rfl) (by kernel_rfl) (by kernel_rfl) (by kernel_rfl)) ?_
  intro W base args ds gs before hval0 hW _ hsz0 _
  have hsz : (DataW.weightsEach Try.prog (Try.f3.params.toList ++ Rows.bitsOddSpec.plain.varTypes Try.prog) (ds ++ gs)).all (· ≤ reachBytes) = true := hsz0
  clear hsz0
  have hval : ∀ (j : Nat) t v, Try.f3.params[j]? = some t → args[j]? = some v → Value.okWide Try.prog W .any base t v := hval0
  have hW' := hW
  obtain ⟨p, q, hA0, hV, rfl, hfz, hnd⟩ := hW
  have hA : DataW.TrodAll enc Try.prog W 0 (fun _ => true) true Try.f3.params.toList args.toList ds p := hA0
  rw [Try.params3] at hA hval hsz
  obtain ⟨v0, vs0, d0, ds0, p0, q0, hargs, rfl, rfl, h0, r0⟩ := trodAll_cons hA
  obtain ⟨v1, vs1, d1, ds1, p1, q1, rfl, rfl, rfl, h1, r1⟩ := trodAll_cons r0
  obtain ⟨rfl, rfl, rfl⟩ := trodAll_nil r1
  obtain rfl : args = #[v0, v1] := by cases args; simp_all
  obtain ⟨rfl, rfl⟩ := trodVars_none hV
  obtain ⟨z0, rfl, rfl, rfl, w0⟩ := open_int Try.underlying22 (hval 0 22 v0 rfl rfl) h0
  obtain ⟨n0, c0, rfl⟩ := Bits.nat_N w0
  obtain ⟨z1, rfl, rfl, rfl, w1⟩ := open_int Try.underlying5 (hval 1 5 v1 rfl rfl) h1
  obtain ⟨n1, c1, rfl⟩ := Bits.nat_c w1
  clear hA0 hval0
  refine (Bits.walk3 n0 n1 W c0 c1).mono fun e W' ⟨he, bel⟩ => ?_
  subst he
  exact ⟨_, rfl, _, _, _, [], _, [], hW', trodAll_mk1 (shut_bool Try.underlying4 _), (trodAll_cons_mk (shut_int Try.underlying22 w0) (trodAll_cons_mk (shut_int Try.underlying5 w1) trodAll_mk0)), rfl, bel.frame _, fun h => by cases h⟩

/-- The statement. -/
theorem bitsOdd_holds : Rows.BitsOddSaid :=
  OpenClaim.holds_of_wide 3 Try.f3 rfl rfl rfl rfl rfl rfl rfl ⟨rfl, rfl, rfl, rfl, rfl⟩ rfl rfl rfl rfl rfl (by kernel_rfl) Try.func3 (by kernel_rfl)
    (of_decide_eq_true (by kernel_rfl)) (by unfold Func.isWrapper; first | (rw [if_pos (by decide +kernel)]; kernel_rfl) | (rw [if_neg (by decide +kernel)]; exact ⟨rfl, rfl⟩))
    (fun os started H enc _ => bitsOdd_lifted os started H enc)
#print axioms bitsOdd_holds
end Go.Proofs.Ytcaappheoekijab
