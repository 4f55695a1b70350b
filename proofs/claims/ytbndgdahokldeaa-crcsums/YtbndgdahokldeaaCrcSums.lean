/-
  The statement CrcSums of this seat is proved: for every list of bytes and every sum, crc.Of and crc.More answer exactly what the document's own functions answer, the bytes and the room behind them stay as they were, and the law returns true; where the list is longer than 1048576 bytes the law itself asks nothing.
  Conditions: none beside those that the given row prints.
-/
import Derived.Test.YtbndgdahokldeaaCopy
import Derived.WalkKit
import Derived.ProofKit
import Derived.OpenShut
import Derived.ShutString
import Derived.ChangeOld
import Derived.Below
import Derived.SizedLaws
namespace Go.Proofs.Ytbndgdahokldeaa.Crc
open Go.ChangeShapes Go.WideShapes Go.ChangeAt Go.RowKit
/-- The walk: the Go text of the law returns true and turns nothing that was there. -/
theorem walk3 (a0 : Option Addr) (len0 cap0 : Nat) (l : List Int) (s : BitVec 32) (w : World) (h0 : Came w a0 len0 l) :
    Calls Try.prog 3 #[.slice a0 len0 cap0, .int .u32 (s.toNat : Int)] w fun e w' => e = .returned (.bool true) ∧ Below w.heap.size w w' := by
  have hx := one_size len0 h0.2.1
  have hcell := one_cell w len0
  by_cases hbig : 1048576 < [(len0 : Int)].sum
  · go_enter Try.func3, Try.ntmps3
    go_wp2_with (go_at_call 9; refine (beyond_yes _ 1 1 _ _ rfl (by omega) hx hcell hbig).mono ?_; rintro e w' ⟨rfl, rfl⟩)
    go_ret
    exact ⟨rfl, (Below.refl _ _).alloc (Nat.le_refl _) _⟩
  · have hlen : len0 ≤ 1048576 := by simp at hbig; omega
    have hE := h0.elems hlen
    have hb1 := (Below.refl w.heap.size w).alloc (Nat.le_refl _) (.cells #[.int .i64 (len0 : Int)] 3)
    have hE1 := hE.below hb1
    go_enter Try.func3, Try.ntmps3
    go_wp2_with (first
      | (go_at_call 9; refine (beyond_no _ 1 1 _ _ rfl (by omega) hx hcell (Int.not_lt.1 hbig)).mono ?_; rintro e w' ⟨rfl, rfl⟩)
      | (go_at_call 10; refine (twin _ _ _ l _ (w.heap.size + 1) (by simp) hE1).mono ?_; rintro e w2 ⟨rfl, hc2, hb2⟩; have hE2 := hE1.below (hb2.mono (by simp)))
      | (go_at_call 11; refine (w11 _ _ _ l _ (hc2.elems hE2)).mono ?_; rintro e w3 ⟨rfl, hb3⟩; have hE3 := hE2.below hb3; have hc3 := hc2.below hb3 (Nat.le_refl _))
      | (go_at_call 12; refine (w12 _ _ _ l _ hE3).mono ?_; rintro e w' ⟨rfl, rfl⟩)
      | (go_at_call 13; refine (w13 s _ _ _ l _ (hc3.elems hE3)).mono ?_; rintro e w4 ⟨rfl, hb4⟩; have hE4 := hE3.below hb4; have hc4 := hc3.below hb4 (Nat.le_refl _))
      | (go_at_call 14; refine (w14 s _ _ _ l _ hE4).mono ?_; rintro e w' ⟨rfl, rfl⟩)
      | (go_at_call 15; refine (left _ _ _ _ l _ hE4 hc4).mono ?_; rintro e w5 ⟨rfl, hb5⟩))
    go_ret
    exact ⟨rfl, bstep (bstep (bstep (hb1.trans (hb2.mono (by simp))) hb3) hb4) hb5⟩
end Go.Proofs.Ytbndgdahokldeaa.Crc
namespace Go.Proofs.Ytbndgdahokldeaa
open Go.ChangeShapes Go.WideShapes Go.ChangeAt Go.RowKit
set_option linter.unusedVariables false
set_option maxRecDepth 100000 in
theorem crcSums_lifted (os : Os) (started : os.Started) (H : Type) (enc : TypeId × Value → H) :
    ReturnsInHanded {} Try.checked os 3 .any (Rows.crcSumsSpec.pre6 enc Try.prog Try.f3 Rows.crcSumsRow.domain false) (Rows.crcSumsSpec.post enc Try.prog Try.f3 false true false false) := by
  refine returnsInHanded_of_change_sized (C := Try.checked) Crc.own started (by kernel_rfl) Try.func3
    (ChangeSpec.witness6 (enc := enc) (C := Try.checked) false ⟨#[], #[.slice none 0 0, .int .u32 0], []⟩ 8 (by kernel_rfl) (by kernel_rfl) (by kernel_rfl) (by kernel_rfl)) ?_
  intro W base args ds gs before hval0 hW _ hsz0 _
  have hsz : (DataW.weightsEach Try.prog (Try.f3.params.toList ++ Rows.crcSumsSpec.plain.varTypes Try.prog) (ds ++ gs)).all (· ≤ reachBytes) = true := hsz0
  clear hsz0
  have hval : ∀ (j : Nat) t v, Try.f3.params[j]? = some t → args[j]? = some v → Value.okWide Try.prog W .any base t v := hval0
  have hW' := hW
  obtain ⟨p, q, hA0, hV, rfl, hfz, hnd⟩ := hW
  have hA : DataW.TrodAll enc Try.prog W 0 (fun _ => true) true Try.f3.params.toList args.toList ds p := hA0
  rw [Try.params3] at hA hval hsz
  obtain ⟨v0, vs0, d0, ds0, p0, q0, hargs, rfl, rfl, h0, r0⟩ := trodAll_cons hA
  obtain ⟨v1, vs1, d1, ds1, p1, q1, rfl, rfl, rfl, h1, r1⟩ := trodAll_cons r0
  obtain ⟨rfl, rfl, rfl⟩ := trodAll_nil r1
  obtain rfl : args = #[v0, v1] := by cases args; simp_all
  obtain ⟨rfl, rfl⟩ := trodVars_none hV
  obtain ⟨a0, len0, cap0, rfl⟩ := okWide_slice Try.underlying22 (hval 0 22 v0 rfl rfl)
  have lt0 : ∀ x ∈ p0, x.block < W.heap.size := by obtain ⟨m, hm⟩ := h0; exact DataW.trod_lt m _ _ _ hm
  obtain ⟨l0, c0⟩ := Crc.view h0 hsz (j := 0) rfl rfl
  obtain ⟨z1, rfl, rfl, rfl, w1⟩ := open_int Try.underlying23 (hval 1 23 v1 rfl rfl) h1
  obtain ⟨s1, rfl⟩ := Crc.word_wf w1
  clear hA0 hval0
  refine (Crc.walk3 a0 len0 cap0 l0 s1 W c0).mono fun e W' ⟨he, bel⟩ => ?_
  subst he
  exact ⟨_, rfl, _, _, _, [], _, [], hW', trodAll_mk1 (shut_bool Try.underlying4 _), (trodAll_cons_mk (Below.trod Crc.laidOut (by kernel_rfl) (of_decide_eq_true (by kernel_rfl)) h0 bel lt0) (trodAll_cons_mk (shut_int Try.underlying23 w1) trodAll_mk0)), rfl, bel.frame _, fun h => by cases h⟩

/-- The statement. -/
theorem crcSums_holds : Rows.CrcSumsSaid :=
  OpenClaim.holds_of_wide 3 Try.f3 rfl rfl rfl rfl rfl rfl rfl ⟨rfl, rfl, rfl, rfl, rfl⟩ rfl rfl rfl rfl rfl (by kernel_rfl) Try.func3 (by kernel_rfl)
    (of_decide_eq_true (by kernel_rfl)) (by unfold Func.isWrapper; first | (rw [if_pos (by decide +kernel)]; kernel_rfl) | (rw [if_neg (by decide +kernel)]; exact ⟨rfl, rfl⟩))
    (fun os started H enc _ => crcSums_lifted os started H enc)
#print axioms crcSums_holds
end Go.Proofs.Ytbndgdahokldeaa
