/-
  The statement CrcTurned of this seat is proved: for every two sums and every list of bytes, crc.More of the two sums and the bytes answers the same just where the two sums are the same; where the list is longer than 1048576 bytes the law itself asks nothing.
  Conditions: none beside those that the given row prints.
-/
import Derived.Test.YtbndgdahokldeaaFrom
import Derived.WalkKit
import Derived.ProofKit
import Derived.OpenShut
import Derived.ShutString
import Derived.ChangeOld
import Derived.Below
import Derived.SizedLaws
namespace Go.Proofs.Ytbndgdahokldeaa.Crc
open Go.ChangeShapes Go.WideShapes Go.ChangeAt Go.RowKit
/-- The walk: the Go text of the law returns true and turns nothing that was there. -/
theorem walk7 (x y : BitVec 32) (a0 : Option Addr) (len0 cap0 : Nat) (l : List Int) (w : World) (h0 : Came w a0 len0 l) :
    Calls Try.prog 7 #[.int .u32 (x.toNat : Int), .int .u32 (y.toNat : Int), .slice a0 len0 cap0] w fun e w' => e = .returned (.bool true) ∧ Below w.heap.size w w' := by
  have hx := one_size len0 h0.2.1
  have hB := Below.refl w.heap.size w
  by_cases hbig : 1048576 < [(len0 : Int)].sum
  · go_enter Try.func7, Try.ntmps7
    go_wp2_with (first
      | (go_at_call 16; refine (alive_acc hB).mono ?_; clear hB; rintro e w1 ⟨rfl, hb1⟩; have hb2 := hb1.alloc hb1.size (.cells #[.int .i64 (len0 : Int)] 3))
      | (go_at_call 9; refine (beyond_yes _ 1 1 _ _ rfl (by omega) hx (one_cell _ _) hbig).mono ?_; rintro e w' ⟨rfl, rfl⟩)
      | (go_at_call 16; refine (alive_acc hb2).mono ?_; rintro e w3 ⟨rfl, hb3⟩))
    go_ret
    exact ⟨rfl, hb3⟩
  · have hlen : len0 ≤ 1048576 := by simp at hbig; omega
    have HB : [(len0 : Int)].sum ≤ 1048576 := Int.not_lt.1 hbig
    clear hbig
    have hE := h0.elems hlen
    by_cases hxy : x = y
    · subst hxy
      go_enter Try.func7, Try.ntmps7
      go_wp2_with (first
        | (go_at_call 16; refine (alive_acc hB).mono ?_; clear hB; rintro e w1 ⟨rfl, hb1⟩; have hb2 := hb1.alloc hb1.size (.cells #[.int .i64 (len0 : Int)] 3); have hE2 := hE.below hb2)
        | (go_at_call 9; refine (beyond_no _ 1 1 _ _ rfl (by omega) hx (one_cell _ _) HB).mono ?_; rintro e w' ⟨rfl, rfl⟩)
        | (go_at_call 13; refine (more_acc hb2 x _ _ _ l hE2).mono ?_; rintro e w3 ⟨rfl, hb3, k3⟩; have hE3 := hE2.below k3; clear hb2 hE2)
        | (go_at_call 13; refine (more_acc hb3 x _ _ _ l hE3).mono ?_; rintro e w4 ⟨rfl, hb4, k4⟩))
      go_ret
      exact ⟨rfl, hb4⟩
    · have hn1 := word_ne hxy
      have hn2 := word_ne (x := more x l) (y := more y l) fun h => hxy (more_inj h)
      go_enter Try.func7, Try.ntmps7
      go_wp2_with (first
        | (go_at_call 16; refine (alive_acc hB).mono ?_; clear hB; rintro e w1 ⟨rfl, hb1⟩; have hb2 := hb1.alloc hb1.size (.cells #[.int .i64 (len0 : Int)] 3); have hE2 := hE.below hb2)
        | (go_at_call 9; refine (beyond_no _ 1 1 _ _ rfl (by omega) hx (one_cell _ _) HB).mono ?_; rintro e w' ⟨rfl, rfl⟩)
        | (go_at_call 13; refine (more_acc hb2 x _ _ _ l hE2).mono ?_; rintro e w3 ⟨rfl, hb3, k3⟩; have hE3 := hE2.below k3; clear hb2 hE2)
        | (go_at_call 13; refine (more_acc hb3 y _ _ _ l hE3).mono ?_; rintro e w4 ⟨rfl, hb4, k4⟩))
      go_ret
      exact ⟨rfl, hb4⟩
end Go.Proofs.Ytbndgdahokldeaa.Crc
namespace Go.Proofs.Ytbndgdahokldeaa
open Go.ChangeShapes Go.WideShapes Go.ChangeAt Go.RowKit
set_option linter.unusedVariables false
set_option maxRecDepth 100000 in
theorem crcTurned_lifted (os : Os) (started : os.Started) (H : Type) (enc : TypeId × Value → H) :
    ReturnsInHanded {} Try.checked os 7 .any (Rows.crcTurnedSpec.pre6 enc Try.prog Try.f7 Rows.crcTurnedRow.domain false) (Rows.crcTurnedSpec.post enc Try.prog Try.f7 false true false false) := by
  refine returnsInHanded_of_change_sized (C := Try.checked) Crc.own started (by kernel_rfl) Try.func7
    (ChangeSpec.witness6 (enc := enc) (C := Try.checked) false ⟨#[], #[.int .u32 0, .int .u32 0, .slice none 0 0], []⟩ 8 (by kernel_rfl) (by kernel_rfl) (by kernel_rfl) (by kernel_rfl)) ?_
  intro W base args ds gs before hval0 hW _ hsz0 _
  have hsz : (DataW.weightsEach Try.prog (Try.f7.params.toList ++ Rows.crcTurnedSpec.plain.varTypes Try.prog) (ds ++ gs)).all (· ≤ reachBytes) = true := hsz0
  clear hsz0
  have hval : ∀ (j : Nat) t v, Try.f7.params[j]? = some t → args[j]? = some v → Value.okWide Try.prog W .any base t v := hval0
  have hW' := hW
  obtain ⟨p, q, hA0, hV, rfl, hfz, hnd⟩ := hW
  have hA : DataW.TrodAll enc Try.prog W 0 (fun _ => true) true Try.f7.params.toList args.toList ds p := hA0
  rw [Try.params7] at hA hval hsz
  obtain ⟨v0, vs0, d0, ds0, p0, q0, hargs, rfl, rfl, h0, r0⟩ := trodAll_cons hA
  obtain ⟨v1, vs1, d1, ds1, p1, q1, rfl, rfl, rfl, h1, r1⟩ := trodAll_cons r0
  obtain ⟨v2, vs2, d2, ds2, p2, q2, rfl, rfl, rfl, h2, r2⟩ := trodAll_cons r1
  obtain ⟨rfl, rfl, rfl⟩ := trodAll_nil r2
  obtain rfl : args = #[v0, v1, v2] := by cases args; simp_all
  obtain ⟨rfl, rfl⟩ := trodVars_none hV
  obtain ⟨z0, rfl, rfl, rfl, w0⟩ := open_int Try.underlying23 (hval 0 23 v0 rfl rfl) h0
  obtain ⟨s0, rfl⟩ := Crc.word_wf w0
  obtain ⟨z1, rfl, rfl, rfl, w1⟩ := open_int Try.underlying23 (hval 1 23 v1 rfl rfl) h1
  obtain ⟨s1, rfl⟩ := Crc.word_wf w1
  obtain ⟨a2, len2, cap2, rfl⟩ := okWide_slice Try.underlying22 (hval 2 22 v2 rfl rfl)
  have lt2 : ∀ x ∈ p2, x.block < W.heap.size := by obtain ⟨m, hm⟩ := h2; exact DataW.trod_lt m _ _ _ hm
  obtain ⟨l2, c2⟩ := Crc.view h2 hsz (j := 2) rfl rfl
  clear hA0 hval0
  refine (Crc.walk7 s0 s1 a2 len2 cap2 l2 W c2).mono fun e W' ⟨he, bel⟩ => ?_
  subst he
  exact ⟨_, rfl, _, _, _, [], _, [], hW', trodAll_mk1 (shut_bool Try.underlying4 _), (trodAll_cons_mk (shut_int Try.underlying23 w0) (trodAll_cons_mk (shut_int Try.underlying23 w1) (trodAll_cons_mk (Below.trod Crc.laidOut (by kernel_rfl) (of_decide_eq_true (by kernel_rfl)) h2 bel lt2) trodAll_mk0))), rfl, bel.frame _, fun h => by cases h⟩

/-- The statement. -/
theorem crcTurned_holds : Rows.CrcTurnedSaid :=
  OpenClaim.holds_of_wide 7 Try.f7 rfl rfl rfl rfl rfl rfl rfl ⟨rfl, rfl, rfl, rfl, rfl⟩ rfl rfl rfl rfl rfl (by kernel_rfl) Try.func7 (by kernel_rfl)
    (of_decide_eq_true (by kernel_rfl)) (by unfold Func.isWrapper; first | (rw [if_pos (by decide +kernel)]; kernel_rfl) | (rw [if_neg (by decide +kernel)]; exact ⟨rfl, rfl⟩))
    (fun os started H enc _ => crcTurned_lifted os started H enc)
#print axioms crcTurned_holds
end Go.Proofs.Ytbndgdahokldeaa
