/-
  The statement CrcJoins of this seat is proved: for every two lists of bytes and every sum, the sum of both, one behind the other, is that of the second one behind the sum of the first; where both together are longer than 1048576 bytes the law itself asks nothing.
  Conditions: none beside those that the given row prints.
-/
import Derived.Test.YtbndgdahokldeaaJoin
import Derived.WalkKit
import Derived.ProofKit
import Derived.OpenShut
import Derived.ShutString
import Derived.ChangeOld
import Derived.Below
import Derived.SizedLaws
namespace Go.Proofs.Ytbndgdahokldeaa.Crc
open Go.ChangeShapes Go.WideShapes Go.ChangeAt Go.RowKit
/-- The walk: the Go text of the law returns true and turns nothing that was there. -/
theorem walk4 (a0 : Option Addr) (len0 cap0 : Nat) (l0 : List Int) (a1 : Option Addr) (len1 cap1 : Nat) (l1 : List Int) (s : BitVec 32) (w : World) (h0 : Came w a0 len0 l0) (h1 : Came w a1 len1 l1)
    (n0 : a0 = none → len0 = 0 ∧ cap0 = 0) (n1 : a1 = none → len1 = 0 ∧ cap1 = 0) :
    Calls Try.prog 4 #[.slice a0 len0 cap0, .slice a1 len1 cap1, .int .u32 (s.toNat : Int)] w fun e w' => e = .returned (.bool true) ∧ Below w.heap.size w w' := by
  have hx := two_size len0 len1 h0.2.1 h1.2.1
  have hB := Below.refl w.heap.size w
  by_cases hbig : 1048576 < [(len0 : Int), (len1 : Int)].sum
  · go_enter Try.func4, Try.ntmps4
    go_wp2_with (first
      | (go_at_call 16; refine (alive_acc hB).mono ?_; clear hB; rintro e w1 ⟨rfl, hb1⟩; have hb2 := hb1.alloc hb1.size (.cells #[.int .i64 (len0 : Int), .int .i64 (len1 : Int)] 3))
      | (go_at_call 9; refine (beyond_yes _ 2 2 _ _ rfl (by omega) hx (two_cell _ _ _) hbig).mono ?_; rintro e w' ⟨rfl, rfl⟩)
      | (go_at_call 16; refine (alive_acc hb2).mono ?_; rintro e w3 ⟨rfl, hb3⟩))
    go_ret
    exact ⟨rfl, hb3⟩
  · have HB : [(len0 : Int), (len1 : Int)].sum ≤ 1048576 := Int.not_lt.1 hbig
    have hlen : len0 + len1 ≤ 1048576 := by simp at HB; omega
    clear hbig
    have hE0 := h0.elems (by omega)
    have hE1 := h1.elems (by omega)
    have hby : ∀ i, i < len0 + len1 → 0 ≤ (l0 ++ l1).getD i 0 ∧ (l0 ++ l1).getD i 0 < 256 := by
      intro i hi
      have e0 := hE0.1
      rw [getD_append]
      split
      · exact hE0.2.2.1 i (by omega)
      · exact hE1.2.2.1 _ (by omega)
    have j0 : ((more 0#32 (l0 ++ l1)).toNat : Int) = ((more (more 0#32 l0) l1).toNat : Int) := by rw [more_append]
    have j1 : ((more s (l0 ++ l1)).toNat : Int) = ((more (more s l0) l1).toNat : Int) := by rw [more_append]
    obtain ⟨i0, hi, hz0, hz1, hz2⟩ := info_parts info5
    go_enter Try.func4, Try.ntmps4
    go_wp2_with (first
      | (go_at_call 16; refine (alive_acc hB).mono ?_; clear hB; rintro e w1 ⟨rfl, hb1⟩; have hb2 := hb1.alloc hb1.size (.cells #[.int .i64 (len0 : Int), .int .i64 (len1 : Int)] 3))
      | (go_at_call 9; refine (beyond_no _ 2 2 _ _ rfl (by omega) hx (two_cell _ _ _) HB).mono ?_; rintro e w' ⟨rfl, rfl⟩)
      | (at_builtin; refine wpList_append_src rfl (.tmp 19) (.tmp 20) 22 rfl w.heap.size 5 i0 (.int .u8 0) 1 1 Try.underlying22 hi hz0 hz1 hz2 rfl (by decide) (.slice none 0 0) 0 [] (by rfl) (World.ownsRow_nil _ _ _ _) a0 len0 cap0 (l0.map (Value.int .u8)) (by rfl) n0 (by simp [hE0.1]) (src_cells (hE0.below hb2)) (src_one _) (by unfold maxLen; omega) (by omega) hb2.size ?_; intro v1 w3 hown1 hg1; rw [Nat.zero_add, List.nil_append] at hown1; have hb3 := hb2.grown hg1 hb2.size (fun k hk => by cases hk))
      | (at_builtin; refine wpList_append_src rfl (.tmp 22) (.tmp 23) 22 rfl w.heap.size 5 i0 (.int .u8 0) 1 1 Try.underlying22 hi hz0 hz1 hz2 rfl (by decide) v1 len0 (l0.map (Value.int .u8)) (by rfl) hown1 a1 len1 cap1 (l1.map (Value.int .u8)) (by rfl) n1 (by simp [hE1.1]) (src_cells (hE1.below hb3)) (src_one _) (by unfold maxLen; omega) (by omega) hb3.size ?_; intro v2 w4 hown2 hg2; have hb4 := hb3.grown hg2 hb3.size (own_ge hown1); rw [← List.map_append] at hown2; obtain ⟨ao, cp, rfl, hEa⟩ := own_form hown2 (by omega) hby)
      | (go_at_call 11; refine (of_acc_is hb4 _ _ _ _ _ j0 hEa).mono ?_; rintro e w5 ⟨rfl, hb5, k5⟩; have hEa5 := hEa.below k5; have hE05 := hE0.below hb5; clear j0)
      | (go_at_call 11; refine (of_acc hb5 _ _ _ l0 hE05).mono ?_; rintro e w6 ⟨rfl, hb6, k6⟩; have hEa6 := hEa5.below k6; have hE16 := hE1.below hb6)
      | (go_at_call 13; refine (more_acc hb6 _ _ _ _ l1 hE16).mono ?_; rintro e w7 ⟨rfl, hb7, k7⟩; have hEa7 := hEa6.below k7; clear hE16)
      | (go_at_call 13; refine (more_acc_is hb7 s _ _ _ _ _ j1 hEa7).mono ?_; rintro e w8 ⟨rfl, hb8, k8⟩; have hE08 := hE0.below hb8; clear j1 hEa7)
      | (go_at_call 13; refine (more_acc hb8 s _ _ _ l0 hE08).mono ?_; rintro e w9 ⟨rfl, hb9, k9⟩; have hE19 := hE1.below hb9; clear hE08)
      | (go_at_call 13; refine (more_acc hb9 _ _ _ _ l1 hE19).mono ?_; rintro e w10 ⟨rfl, hb10, k10⟩))
    go_ret
    exact ⟨rfl, hb10⟩
end Go.Proofs.Ytbndgdahokldeaa.Crc
namespace Go.Proofs.Ytbndgdahokldeaa
open Go.ChangeShapes Go.WideShapes Go.ChangeAt Go.RowKit
set_option linter.unusedVariables false
set_option maxRecDepth 100000 in
theorem crcJoins_lifted (os : Os) (started : os.Started) (H : Type) (enc : TypeId × Value → H) :
    ReturnsInHanded {} Try.checked os 4 .any (Rows.crcJoinsSpec.pre6 enc Try.prog Try.f4 Rows.crcJoinsRow.domain false) (Rows.crcJoinsSpec.post enc Try.prog Try.f4 false true false false) := by
  refine returnsInHanded_of_change_sized (C := Try.checked) Crc.own started (by kernel_rfl) Try.func4
    (ChangeSpec.witness6 (enc := enc) (C := Try.checked) false ⟨#[], #[.slice none 0 0, .slice none 0 0, .int .u32 0], []⟩ 8 (by kernel_rfl) (by kernel_rfl) (by kernel_rfl) (by kernel_rfl)) ?_
  intro W base args ds gs before hval0 hW _ hsz0 _
  have hsz : (DataW.weightsEach Try.prog (Try.f4.params.toList ++ Rows.crcJoinsSpec.plain.varTypes Try.prog) (ds ++ gs)).all (· ≤ reachBytes) = true := hsz0
  clear hsz0
  have hval : ∀ (j : Nat) t v, Try.f4.params[j]? = some t → args[j]? = some v → Value.okWide Try.prog W .any base t v := hval0
  have hW' := hW
  obtain ⟨p, q, hA0, hV, rfl, hfz, hnd⟩ := hW
  have hA : DataW.TrodAll enc Try.prog W 0 (fun _ => true) true Try.f4.params.toList args.toList ds p := hA0
  rw [Try.params4] at hA hval hsz
  obtain ⟨v0, vs0, d0, ds0, p0, q0, hargs, rfl, rfl, h0, r0⟩ := trodAll_cons hA
  obtain ⟨v1, vs1, d1, ds1, p1, q1, rfl, rfl, rfl, h1, r1⟩ := trodAll_cons r0
  obtain ⟨v2, vs2, d2, ds2, p2, q2, rfl, rfl, rfl, h2, r2⟩ := trodAll_cons r1
  obtain ⟨rfl, rfl, rfl⟩ := trodAll_nil r2
  obtain rfl : args = #[v0, v1, v2] := by cases args; simp_all
  obtain ⟨rfl, rfl⟩ := trodVars_none hV
  obtain ⟨a0, len0, cap0, rfl⟩ := okWide_slice Try.underlying22 (hval 0 22 v0 rfl rfl)
  have lt0 : ∀ x ∈ p0, x.block < W.heap.size := by obtain ⟨m, hm⟩ := h0; exact DataW.trod_lt m _ _ _ hm
  obtain ⟨l0, c0⟩ := Crc.view h0 hsz (j := 0) rfl rfl
  obtain ⟨a1, len1, cap1, rfl⟩ := okWide_slice Try.underlying22 (hval 1 22 v1 rfl rfl)
  have lt1 : ∀ x ∈ p1, x.block < W.heap.size := by obtain ⟨m, hm⟩ := h1; exact DataW.trod_lt m _ _ _ hm
  obtain ⟨l1, c1⟩ := Crc.view h1 hsz (j := 1) rfl rfl
  obtain ⟨z2, rfl, rfl, rfl, w2⟩ := open_int Try.underlying23 (hval 2 23 v2 rfl rfl) h2
  obtain ⟨s2, rfl⟩ := Crc.word_wf w2
  clear hA0 hval0
  refine (Crc.walk4 a0 len0 cap0 l0 a1 len1 cap1 l1 s2 W c0 c1 (Crc.view_nil h0) (Crc.view_nil h1)).mono fun e W' ⟨he, bel⟩ => ?_
  subst he
  exact ⟨_, rfl, _, _, _, [], _, [], hW', trodAll_mk1 (shut_bool Try.underlying4 _), (trodAll_cons_mk (Below.trod Crc.laidOut (by kernel_rfl) (of_decide_eq_true (by kernel_rfl)) h0 bel lt0) (trodAll_cons_mk (Below.trod Crc.laidOut (by kernel_rfl) (of_decide_eq_true (by kernel_rfl)) h1 bel lt1) (trodAll_cons_mk (shut_int Try.underlying23 w2) trodAll_mk0))), rfl, bel.frame _, fun h => by cases h⟩

/-- The statement. -/
theorem crcJoins_holds : Rows.CrcJoinsSaid :=
  OpenClaim.holds_of_wide 4 Try.f4 rfl rfl rfl rfl rfl rfl rfl ⟨rfl, rfl, rfl, rfl, rfl⟩ rfl rfl rfl rfl rfl (by kernel_rfl) Try.func4 (by kernel_rfl)
    (of_decide_eq_true (by kernel_rfl)) (by unfold Func.isWrapper; first | (rw [if_pos (by decide +kernel)]; kernel_rfl) | (rw [if_neg (by decide +kernel)]; exact ⟨rfl, rfl⟩))
    (fun os started H enc _ => crcJoins_lifted os started H enc)
#print axioms crcJoins_holds
end Go.Proofs.Ytbndgdahokldeaa
