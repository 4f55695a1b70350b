/-
  The statement BitsGets of this seat is proved: for every list of bytes and every two numbers, bits.Get answers exactly what the document's own function answers, the bytes and the room behind them stay as they were, and the law returns true; where the list is longer than 1048576 bytes the law itself asks nothing.
  Conditions: none beside those that the given row prints.
-/
import Derived.Test.YtcaappheoekijaaCame
import Derived.WalkKit
import Derived.ProofKit
import Derived.OpenShut
import Derived.ShutString
import Derived.ChangeOld
import Derived.Below
import Derived.SizedLaws
namespace Go.Proofs.Ytcaappheoekijaa.Bits
open Go.ChangeShapes Go.WideShapes Go.ChangeAt Go.RowKit
/-- The document's own Get: the number that the bits tell. -/
theorem ref_ok (s : Option Addr) (len cap : Nat) (B : List Int) (at_ k : Nat) (w : World) (hE : Elems w s len B) (hk : k ≤ 64) (hr : at_ + k ≤ 8 * len) :
    Calls Try.prog 11 #[.slice s len cap, .int .i64 (at_ : Int), .int .i64 (k : Int)] w fun e w' => e = .returned (.tuple #[.int .u64 (val (part B at_ k) : Int), .int .i64 0]) ∧ w' = w := by
  obtain ⟨hl, hlm, hby, hcs⟩ := hE
  have h0 : ¬ ((8 : Int) * (len : Int) - (k : Int) < (at_ : Int)) := by omega
  go_enter Try.func11, Try.ntmps11
  go_wp2
  go_loop [8, 9] (fun n q => ∃ j : Nat, j ≤ k ∧ q = .int .i64 ((at_ + j : Nat) : Int) ∧ n = .int .u64 (val (part B at_ j) : Int))
    (fun n q => at_ + k - (intOf q).toNat)
  case atStart => exact ⟨0, Nat.zero_le _, by simp, rfl⟩
  case round =>
    obtain ⟨j, hj, rfl, rfl⟩ := hrel
    by_cases hlt : j < k
    · obtain ⟨b, o, rfl, hcell⟩ := hcs.resolve_left (by omega)
      obtain ⟨i, hi⟩ : ∃ i : Nat, i = at_ + j := ⟨_, rfl⟩
      have HS : Hid (val (part B at_ (j + 1)) = 2 * val (part B at_ j) + (bitAt B i).toNat) := by rw [hi, part_succ]; exact val_snoc _ _
      have hv : val (part B at_ (j + 1)) < 2 ^ 64 := Nat.lt_of_lt_of_le (val_lt _) (Nat.pow_le_pow_right (by decide) (by rw [part_length]; omega))
      rw [HS.out] at hv
      have hi8 : i / 8 < len := by omega
      have hc := hcell _ hi8
      have hbit : bits .and .u8 (B.getD (i / 8) 0 / 2 ^ (7 - i % 8)) 1 = ((bitAt B i).toNat : Int) := byte_bit _ _ (hby _ hi8).1 (hby _ hi8).2
      have hzp := (hby _ hi8).1
      rw [← hi]
      generalize bitAt B i = x at hbit HS hv
      generalize B.getD (i / 8) 0 = z at hc hbit hzp
      generalize val (part B at_ j) = m at HS hv
      have hlt' : (i : Int) < (at_ : Int) + (k : Int) := by omega
      have hih : Hid (i = at_ + j) := hi
      have h8' : (i : Int) / 8 < (len : Int) := by omega
      clear hcell hby hcs hi
      go_wp2
      go_round
      case rel => exact ⟨j + 1, by omega, by rw [hih.out]; go_num, val_int (by rw [HS.out]; go_num)⟩
      case measure => have := hih.out; simp [intOf]; omega
    · have hjk : j = k := by omega
      subst hjk
      go_wp2
      refine bodyPost_ret (results_tmp2 rfl _ _ _) rfl ?_
      exact ⟨rfl, rfl⟩
theorem ref_bad (s : Option Addr) (len cap : Nat) (at_ k : Int) (w : World) (hb : at_ < 0 ∨ ¬ (0 ≤ k ∧ k ≤ 64)) :
    Calls Try.prog 11 #[.slice s len cap, .int .i64 at_, .int .i64 k] w fun e w' => e = .returned (.tuple #[.int .u64 0, .int .i64 1]) ∧ w' = w := by
  by_cases ha : at_ < 0
  · clear hb
    go_enter Try.func11, Try.ntmps11
    go_wp2
    refine bodyPost_ret (results_tmp2 rfl _ _ _) rfl ?_
    exact ⟨rfl, rfl⟩
  · by_cases h0 : k < 0
    · clear hb
      go_enter Try.func11, Try.ntmps11
      go_wp2
      refine bodyPost_ret (results_tmp2 rfl _ _ _) rfl ?_
      exact ⟨rfl, rfl⟩
    · have h1 : 64 < k := by omega
      clear hb
      go_enter Try.func11, Try.ntmps11
      go_wp2
      refine bodyPost_ret (results_tmp2 rfl _ _ _) rfl ?_
      exact ⟨rfl, rfl⟩
theorem ref_short (s : Option Addr) (len cap : Nat) (at_ k : Nat) (w : World) (hl : len ≤ 1048576) (ha : at_ < 9223372036854775808) (hk : k ≤ 64) (hr : 8 * len < at_ + k) :
    Calls Try.prog 11 #[.slice s len cap, .int .i64 (at_ : Int), .int .i64 (k : Int)] w fun e w' => e = .returned (.tuple #[.int .u64 0, .int .i64 4]) ∧ w' = w := by
  have hs : (8 : Int) * (len : Int) - (k : Int) < (at_ : Int) := by omega
  go_enter Try.func11, Try.ntmps11
  go_wp2
  refine bodyPost_ret (results_tmp2 rfl _ _ _) rfl ?_
  exact ⟨rfl, rfl⟩
/-- Both Gets answer the same: the walk of the law, whatever that is. -/
theorem walk3_of (a0 : Option Addr) (len0 cap0 : Nat) (l : List Int) (at_ k X E : Int) (w : World) (h0 : Came w a0 len0 l) (hlen : len0 ≤ 1048576)
    (h10 : ∀ s cap w', Elems w' s len0 l → Calls Try.prog 10 #[.slice s len0 cap, .int .i64 at_, .int .i64 k] w' fun e w2 => e = .returned (.tuple #[.int .u64 X, .int .i64 E]) ∧ Below w'.heap.size w' w2)
    (h11 : ∀ s cap w', Elems w' s len0 l → Calls Try.prog 11 #[.slice s len0 cap, .int .i64 at_, .int .i64 k] w' fun e w2 => e = .returned (.tuple #[.int .u64 X, .int .i64 E]) ∧ w2 = w') :
    Calls Try.prog 3 #[.slice a0 len0 cap0, .int .i64 at_, .int .i64 k] w fun e w' => e = .returned (.bool true) ∧ Below w.heap.size w w' := by
  have hx := one_size len0 h0.2.1
  have hcell := one_cell w len0
  have hbig : [(len0 : Int)].sum ≤ 1048576 := by simp; omega
  have hE := h0.elems hlen
  have hb1 := (Below.refl w.heap.size w).alloc (Nat.le_refl _) (.cells #[.int .i64 (len0 : Int)] 3)
  have hE1 := hE.below hb1
  go_enter Try.func3, Try.ntmps3
  go_wp2_with (first
    | (go_at_call 8; refine (beyond_no _ 1 1 _ _ rfl (by omega) hx hcell hbig).mono ?_; rintro e w' ⟨rfl, rfl⟩)
    | (go_at_call 9; refine (twin _ _ _ l _ (w.heap.size + 1) (by simp) hE1).mono ?_; rintro e w2 ⟨rfl, hc2, hb2⟩; have hE2 := hE1.below (hb2.mono (by simp)))
    | (go_at_call 10; refine (h10 _ _ _ (hc2.elems hE2)).mono ?_; rintro e w3 ⟨rfl, hb3⟩; have hE3 := hE2.below hb3; have hc3 := hc2.below hb3 (Nat.le_refl _))
    | (go_at_call 11; refine (h11 _ _ _ hE3).mono ?_; rintro e w' ⟨rfl, rfl⟩)
    | (go_at_call 12; refine (left _ _ _ _ l _ hE3 hc3).mono ?_; rintro e w5 ⟨rfl, hb5⟩))
  go_ret
  exact ⟨rfl, bstep (bstep (hb1.trans (hb2.mono (by simp))) hb3) hb5⟩
/-- The walk: the Go text of the law returns true and turns nothing that was there. -/
theorem walk3 (a0 : Option Addr) (len0 cap0 : Nat) (l : List Int) (at_ k : Int) (w : World) (h0 : Came w a0 len0 l) (hat : at_ < 9223372036854775808) :
    Calls Try.prog 3 #[.slice a0 len0 cap0, .int .i64 at_, .int .i64 k] w fun e w' => e = .returned (.bool true) ∧ Below w.heap.size w w' := by
  have hx := one_size len0 h0.2.1
  have hcell := one_cell w len0
  by_cases hbig : 1048576 < [(len0 : Int)].sum
  · go_enter Try.func3, Try.ntmps3
    go_wp2_with (go_at_call 8; refine (beyond_yes _ 1 1 _ _ rfl (by omega) hx hcell hbig).mono ?_; rintro e w' ⟨rfl, rfl⟩)
    go_ret
    exact ⟨rfl, (Below.refl _ _).alloc (Nat.le_refl _) _⟩
  · have hlen : len0 ≤ 1048576 := by simp at hbig; omega
    by_cases hbad : at_ < 0 ∨ ¬ (0 ≤ k ∧ k ≤ 64)
    · exact walk3_of a0 len0 cap0 l at_ k 0 1 w h0 hlen (fun s cap w' _ => (get_bad s len0 cap at_ k w' hbad).mono fun e w2 h => ⟨h.1, by rw [h.2]; exact Below.refl _ _⟩) (fun s cap w' _ => ref_bad s len0 cap at_ k w' hbad)
    · obtain ⟨i, rfl⟩ : ∃ i : Nat, at_ = i := ⟨at_.toNat, by omega⟩
      obtain ⟨q, rfl⟩ : ∃ q : Nat, k = q := ⟨k.toNat, by omega⟩
      by_cases hs : 8 * len0 < i + q
      · exact walk3_of a0 len0 cap0 l i q 0 4 w h0 hlen (fun s cap w' _ => (get_short s len0 cap i q w' hlen (by omega) (by omega) hs).mono fun e w2 h => ⟨h.1, by rw [h.2]; exact Below.refl _ _⟩) (fun s cap w' _ => ref_short s len0 cap i q w' hlen (by omega) (by omega) hs)
      · exact walk3_of a0 len0 cap0 l i q _ 0 w h0 hlen (fun s cap w' hE => get_ok s len0 cap l i q w' hE (by omega) (by omega)) (fun s cap w' hE => ref_ok s len0 cap l i q w' hE (by omega) (by omega))
theorem int_wf {n : Int} (h : (Lit.int .i64 n).wf = true) : n < 9223372036854775808 := by
  simp [Lit.wf, IntKind.min, IntKind.max, IntKind.signed, IntKind.bits] at h
  omega
end Go.Proofs.Ytcaappheoekijaa.Bits
namespace Go.Proofs.Ytcaappheoekijaa
open Go.ChangeShapes Go.WideShapes Go.ChangeAt Go.RowKit
set_option linter.unusedVariables false
set_option maxRecDepth 100000 in
theorem bitsGets_lifted (os : Os) (started : os.Started) (H : Type) (enc : TypeId × Value → H) :
    ReturnsInHanded {} Try.checked os 3 .any (Rows.bitsGetsSpec.pre6 enc Try.prog Try.f3 Rows.bitsGetsRow.domain false) (Rows.bitsGetsSpec.post enc Try.prog Try.f3 false true false false) := by
  refine returnsInHanded_of_change_sized (C := Try.checked) Bits.ownGo started (by kernel_rfl) Try.func3
    (ChangeSpec.witness6 (enc := enc) (C := Try.checked) false ⟨#[], #[.slice none 0 0, .int .i64 0, .int .i64 0], []⟩ 8 (by kernel_rfl) (by kernel_rfl) (by kernel_rfl) (by kernel_rfl)) ?_
  intro W base args ds gs before hval0 hW _ hsz0 _
  have hsz : (DataW.weightsEach Try.prog (Try.f3.params.toList ++ Rows.bitsGetsSpec.plain.varTypes Try.prog) (ds ++ gs)).all (· ≤ reachBytes) = true := hsz0
  clear hsz0
  have hval : ∀ (j : Nat) t v, Try.f3.params[j]? = some t → args[j]? = some v → Value.okWide Try.prog W .any base t v := hval0
  have hW' := hW
  obtain ⟨p, q, hA0, hV, rfl, hfz, hnd⟩ := hW
  have hA : DataW.TrodAll enc Try.prog W 0 (fun _ => true) true Try.f3.params.toList args.toList ds p := hA0
  rw [Try.params3] at hA hval hsz
  obtain ⟨v0, vs0, d0, ds0, p0, q0, hargs, rfl, rfl, h0, r0⟩ := trodAll_cons hA
  obtain ⟨v1, vs1, d1, ds1, p1, q1, rfl, rfl, rfl, h1, r1⟩ := trodAll_cons r0
  obtain ⟨v2, vs2, d2, ds2, p2, q2, rfl, rfl, rfl, h2, r2⟩ := trodAll_cons r1
  obtain ⟨rfl, rfl, rfl⟩ := trodAll_nil r2
  obtain rfl : args = #[v0, v1, v2] := by cases args; simp_all
  obtain ⟨rfl, rfl⟩ := trodVars_none hV
  obtain ⟨a0, len0, cap0, rfl⟩ := okWide_slice Try.underlying22 (hval 0 22 v0 rfl rfl)
  have lt0 : ∀ x ∈ p0, x.block < W.heap.size := by obtain ⟨m, hm⟩ := h0; exact DataW.trod_lt m _ _ _ hm
  obtain ⟨l0, c0⟩ := Bits.view h0 hsz (j := 0) rfl rfl
  obtain ⟨z1, rfl, rfl, rfl, w1⟩ := open_int Try.underlying3 (hval 1 3 v1 rfl rfl) h1
  obtain ⟨z2, rfl, rfl, rfl, w2⟩ := open_int Try.underlying3 (hval 2 3 v2 rfl rfl) h2
  clear hA0 hval0
  refine (Bits.walk3 a0 len0 cap0 l0 z1 z2 W c0 (Bits.int_wf w1)).mono fun e W' ⟨he, bel⟩ => ?_
  subst he
  exact ⟨_, rfl, _, _, _, [], _, [], hW', trodAll_mk1 (shut_bool Try.underlying4 _), (trodAll_cons_mk (Below.trod Bits.laidOut (by kernel_rfl) (of_decide_eq_true (by kernel_rfl)) h0 bel lt0) (trodAll_cons_mk (shut_int Try.underlying3 w1) (trodAll_cons_mk (shut_int Try.underlying3 w2) trodAll_mk0))), rfl, bel.frame _, fun h => by cases h⟩

/-- The statement. -/
theorem bitsGets_holds : Rows.BitsGetsSaid :=
  OpenClaim.holds_of_wide 3 Try.f3 rfl rfl rfl rfl rfl rfl rfl ⟨rfl, rfl, rfl, rfl, rfl⟩ rfl rfl rfl rfl rfl (by kernel_rfl) Try.func3 (by kernel_rfl)
    (of_decide_eq_true (by kernel_rfl)) (by unfold Func.isWrapper; first | (rw [if_pos (by decide +kernel)]; kernel_rfl) | (rw [if_neg (by decide +kernel)]; exact ⟨rfl, rfl⟩))
    (fun os started H enc _ => bitsGets_lifted os started H enc)
#print axioms bitsGets_holds
end Go.Proofs.Ytcaappheoekijaa
