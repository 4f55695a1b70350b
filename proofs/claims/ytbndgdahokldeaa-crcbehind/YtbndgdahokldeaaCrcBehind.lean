/-
  The statement CrcBehind of this seat is proved: for every list of bytes, with the four bytes of their sum behind them, the lowest first, the sum is 2144df1c in hexadecimal; where the list is longer than 1048576 bytes the law itself asks nothing.
  Conditions: none beside those that the given row prints.
-/
import Derived.Test.YtbndgdahokldeaaFrom
import Derived.Test.YtbndgdahokldeaaFour
import Derived.WalkKit
import Derived.ProofKit
import Derived.OpenShut
import Derived.ShutString
import Derived.ChangeOld
import Derived.Below
import Derived.SizedLaws
namespace Go.Proofs.Ytbndgdahokldeaa.Crc
open Go.ChangeShapes Go.WideShapes Go.ChangeAt Go.RowKit
theorem behind_int (X : BitVec 32) : ((more X [(X.toNat : Int) % 256, (X.toNat : Int) / 256 % 256, (X.toNat : Int) / 65536 % 256, (X.toNat : Int) / 16777216]).toNat : Int) = 558161692 := by
  have e : (X.toNat : Int) / 16777216 = (X.toNat : Int) / 16777216 % 256 := by omega
  rw [e, behind]; rfl
theorem behind_elems (X : BitVec 32) (w : World) : Elems (w.alloc (.cells #[.int .u8 ((X.toNat : Int) % 256), .int .u8 ((X.toNat : Int) / 256 % 256), .int .u8 ((X.toNat : Int) / 65536 % 256), .int .u8 ((X.toNat : Int) / 16777216)] 5)) (some ⟨w.heap.size, 0, none⟩) 4
    [(X.toNat : Int) % 256, (X.toNat : Int) / 256 % 256, (X.toNat : Int) / 65536 % 256, (X.toNat : Int) / 16777216] := by
  refine new_elems w _ _ 4 rfl (by omega) (fun i hi => ?_) (fun i hi => ?_) (0, 0)
  · match i, hi with
    | 0, _ => exact ⟨Int.emod_nonneg _ (by decide), Int.emod_lt_of_pos _ (by decide)⟩
    | 1, _ => exact ⟨Int.emod_nonneg _ (by decide), Int.emod_lt_of_pos _ (by decide)⟩
    | 2, _ => exact ⟨Int.emod_nonneg _ (by decide), Int.emod_lt_of_pos _ (by decide)⟩
    | 3, _ => show 0 ≤ (X.toNat : Int) / 16777216 ∧ (X.toNat : Int) / 16777216 < 256; omega
  · match i, hi with
    | 0, _ => rfl
    | 1, _ => rfl
    | 2, _ => rfl
    | 3, _ => rfl
/-- The walk: the Go text of the law returns true and turns nothing that was there. -/
theorem walk8 (a0 : Option Addr) (len0 cap0 : Nat) (l : List Int) (w : World) (h0 : Came w a0 len0 l) :
    Calls Try.prog 8 #[.slice a0 len0 cap0] w fun e w' => e = .returned (.bool true) ∧ Below w.heap.size w w' := by
  have hx := one_size len0 h0.2.1
  have hB := Below.refl w.heap.size w
  by_cases hbig : 1048576 < [(len0 : Int)].sum
  · go_enter Try.func8, Try.ntmps8
    go_wp2_with (first
      | (go_at_call 16; refine (alive_acc hB).mono ?_; clear hB; rintro e w1 ⟨rfl, hb1⟩; have hb2 := hb1.alloc hb1.size (.cells #[.int .i64 (len0 : Int)] 3))
      | (go_at_call 9; refine (beyond_yes _ 1 1 _ _ rfl (by omega) hx (one_cell _ _) hbig).mono ?_; rintro e w' ⟨rfl, rfl⟩)
      | (go_at_call 16; refine (alive_acc hb2).mono ?_; rintro e w3 ⟨rfl, hb3⟩))
    go_ret
    exact ⟨rfl, hb3⟩
  · have hlen : len0 ≤ 1048576 := by simp at hbig; omega
    have HB : [(len0 : Int)].sum ≤ 1048576 := Int.not_lt.1 hbig
    clear hbig
    have hE := h0.elems hlen
    obtain ⟨X, hX0⟩ : ∃ X, X = more 0#32 l := ⟨_, rfl⟩
    have hX : Hid (X = more 0#32 l) := hX0
    clear hX0
    go_enter Try.func8, Try.ntmps8
    go_wp2_with (first
      | (go_at_call 16; refine (alive_acc hB).mono ?_; clear hB; rintro e w1 ⟨rfl, hb1⟩; have hb2 := hb1.alloc hb1.size (.cells #[.int .i64 (len0 : Int)] 3); have hE2 := hE.below hb2)
      | (go_at_call 9; refine (beyond_no _ 1 1 _ _ rfl (by omega) hx (one_cell _ _) HB).mono ?_; rintro e w' ⟨rfl, rfl⟩)
      | (go_at_call 11; refine (of_acc hb2 _ _ _ l hE2).mono ?_; rw [← hX.out]; rintro e w3 ⟨rfl, hb3, k3⟩; have hb4 := hb3.alloc hb3.size (.cells #[.int .u8 ((X.toNat : Int) % 256), .int .u8 ((X.toNat : Int) / 256 % 256), .int .u8 ((X.toNat : Int) / 65536 % 256), .int .u8 ((X.toNat : Int) / 16777216)] 5))
      | (go_at_call 13; refine (more_is X _ rfl _ 4 4 _ _ _ (behind_int X) (behind_elems X _)).mono ?_; rintro e w5 ⟨rfl, hb5⟩))
    go_ret
    exact ⟨rfl, bstep hb4 hb5⟩
end Go.Proofs.Ytbndgdahokldeaa.Crc
namespace Go.Proofs.Ytbndgdahokldeaa
open Go.ChangeShapes Go.WideShapes Go.ChangeAt Go.RowKit
set_option linter.unusedVariables false
set_option maxRecDepth 100000 in
theorem crcBehind_lifted (os : Os) (started : os.Started) (H : Type) (enc : TypeId × Value → H) :
    ReturnsInHanded {} Try.checked os 8 .any (Rows.crcBehindSpec.pre6 enc Try.prog Try.f8 Rows.crcBehindRow.domain false) (Rows.crcBehindSpec.post enc Try.prog Try.f8 false true false false) := by
  refine returnsInHanded_of_change_sized (C := Try.checked) Crc.own started (by kernel_rfl) Try.func8
    (ChangeSpec.witness6 (enc := enc) (C := Try.checked) false ⟨#[], #[.slice none 0 0], []⟩ 8 (by kernel_rfl) (by kernel_rfl) (by kernel_rfl) (by kernel_rfl)) ?_
  intro W base args ds gs before hval0 hW _ hsz0 _
  have hsz : (DataW.weightsEach Try.prog (Try.f8.params.toList ++ Rows.crcBehindSpec.plain.varTypes Try.prog) (ds ++ gs)).all (· ≤ reachBytes) = true := hsz0
  clear hsz0
  have hval : ∀ (j : Nat) t v, Try.f8.params[j]? = some t → args[j]? = some v → Value.okWide Try.prog W .any base t v := hval0
  have hW' := hW
  obtain ⟨p, q, hA0, hV, rfl, hfz, hnd⟩ := hW
  have hA : DataW.TrodAll enc Try.prog W 0 (fun _ => true) true Try.f8.params.toList args.toList ds p := hA0
  rw [Try.params8] at hA hval hsz
  obtain ⟨v0, vs0, d0, ds0, p0, q0, hargs, rfl, rfl, h0, r0⟩ := trodAll_cons hA
  obtain ⟨rfl, rfl, rfl⟩ := trodAll_nil r0
  obtain rfl : args = #[v0] := by cases args; simp_all
  obtain ⟨rfl, rfl⟩ := trodVars_none hV
  obtain ⟨a0, len0, cap0, rfl⟩ := okWide_slice Try.underlying22 (hval 0 22 v0 rfl rfl)
  have lt0 : ∀ x ∈ p0, x.block < W.heap.size := by obtain ⟨m, hm⟩ := h0; exact DataW.trod_lt m _ _ _ hm
  obtain ⟨l0, c0⟩ := Crc.view h0 hsz (j := 0) rfl rfl
  clear hA0 hval0
  refine (Crc.walk8 a0 len0 cap0 l0 W c0).mono fun e W' ⟨he, bel⟩ => ?_
  subst he
  exact ⟨_, rfl, _, _, _, [], _, [], hW', trodAll_mk1 (shut_bool Try.underlying4 _), (trodAll_cons_mk (Below.trod Crc.laidOut (by kernel_rfl) (of_decide_eq_true (by kernel_rfl)) h0 bel lt0) trodAll_mk0), rfl, bel.frame _, fun h => by cases h⟩

/-- The statement. -/
theorem crcBehind_holds : Rows.CrcBehindSaid :=
  OpenClaim.holds_of_wide 8 Try.f8 rfl rfl rfl rfl rfl rfl rfl ⟨rfl, rfl, rfl, rfl, rfl⟩ rfl rfl rfl rfl rfl (by kernel_rfl) Try.func8 (by kernel_rfl)
    (of_decide_eq_true (by kernel_rfl)) (by unfold Func.isWrapper; first | (rw [if_pos (by decide +kernel)]; kernel_rfl) | (rw [if_neg (by decide +kernel)]; exact ⟨rfl, rfl⟩))
    (fun os started H enc _ => crcBehind_lifted os started H enc)
#print axioms crcBehind_holds
end Go.Proofs.Ytbndgdahokldeaa
