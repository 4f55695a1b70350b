/-
  The statement BitsParts of this seat is proved: for every list of bytes and every three numbers that tell from where on, how many bits, and where they are parted, the number of all the bits is that of the first ones and that of the others put together, or there are too few bits and that is told; where the list is longer than 5000 bytes the law asks nothing of it.
  Conditions: none beside those that the given row prints.
-/
import Derived.Test.YtcaappheoekijaaAcc
import Derived.WalkKit
import Derived.ProofKit
import Derived.OpenShut
import Derived.ShutString
import Derived.ChangeOld
import Derived.Below
import Derived.SizedLaws
namespace Go.Proofs.Ytcaappheoekijaa.Bits
open Go.ChangeShapes Go.WideShapes Go.ChangeAt Go.RowKit
theorem parts_join (B : List Int) (s k m : Nat) (hm : k ≤ m) : val (part B s m) = val (part B s k) * 2 ^ (m - k) + val (part B (s + k) (m - k)) := by
  obtain ⟨d, rfl⟩ : ∃ d, m = k + d := ⟨m - k, by omega⟩
  rw [part_add, val_append, part_length, show k + d - k = d by omega]
theorem arr3 {w w2 : World} {a b c : Value} {t : TypeId} (h : Below (w.alloc (.cells #[a, b, c] t)).heap.size (w.alloc (.cells #[a, b, c] t)) w2) :
    w2.cell? ⟨w.heap.size, 0, none⟩ = some a ∧ w2.cell? ⟨w.heap.size, 1, none⟩ = some b ∧ w2.cell? ⟨w.heap.size, 2, none⟩ = some c := by
  refine ⟨?_, ?_, ?_⟩
  · rw [h.cell (by simp)]; simp
  · rw [h.cell (by simp)]; simp
  · rw [h.cell (by simp)]; simp
/-- The walk, behind the choice of the three numbers. -/
theorem walk6_in (a0 : Option Addr) (len0 cap0 : Nat) (l : List Int) (y0 y1 y2 m k : Nat) (w : World) (h0 : Came w a0 len0 l) (hlen : len0 ≤ 5000) (hy0 : y0 < 256) (hm : (y1 : Int) % 65 = (m : Int)) (hm64 : m ≤ 64) (hkm : k ≤ m)
    (hy2 : y2 < 256) (hk : 0 < m ∧ (y2 : Int).tmod ((m : Int) + 1) = (k : Int) ∨ m = 0 ∧ k = 0) :
    Calls Try.prog 6 #[.slice a0 len0 cap0, .agg #[.int .u8 (y0 : Int), .int .u8 (y1 : Int), .int .u8 (y2 : Int)]] w fun e w' => e = .returned (.bool true) ∧ Below w.heap.size w w' := by
  have hE := h0.elems (by omega)
  have hb1 := below_alloc w (.cells #[.int .u8 (y0 : Int), .int .u8 (y1 : Int), .int .u8 (y2 : Int)] 44)
  have p1 : Hid True := trivial
  have p2 : Hid True := trivial
  have p3 : Hid True := trivial
  by_cases hs : 8 * len0 < y0 + m
  · rcases hk with ⟨hk1, hk2⟩ | ⟨rfl, rfl⟩
    · have hk3 : (y2 : Int) % ((m : Int) + 1) = (k : Int) := by rw [← hk2, Int.tmod_eq_emod_of_nonneg (by omega)]
      by_cases hs2 : 8 * len0 < y0 + k
      · go_enter Try.func6, Try.ntmps6
        go_wp2_with (first
          | (go_at_call 13; refine (alive_a w _ hb1).mono ?_; rintro e w2 ⟨rfl, hk2', hb2⟩; have hE2 := hE.below hb2; obtain ⟨hx0, hx1, hx2⟩ := arr3 hk2'; clear hk2')
          | (go_at_call 10; first
            | (clear p1; refine (get_short_a a0 len0 cap0 y0 m w2 (by omega) (by omega) hm64 hs y0 m rfl rfl).mono ?_; rintro e w3 ⟨rfl, h3⟩; rw [h3]; clear h3 w3)
            | (clear p2; refine (get_short_a a0 len0 cap0 y0 k w2 (by omega) (by omega) (by omega) hs2 y0 k rfl rfl).mono ?_; rintro e w3 ⟨rfl, h3⟩; rw [h3]; clear h3 w3)
            | (clear p3; refine (get_short_a a0 len0 cap0 (y0 + k) (m - k) w2 (by omega) (by omega) (by omega) (by omega) (y0 + k) (m - k) (by omega) (by omega)).mono ?_; rintro e w3 ⟨rfl, h3⟩; rw [h3]; clear h3 w3)))
        go_ret
        exact ⟨rfl, hb2⟩
      · go_enter Try.func6, Try.ntmps6
        go_wp2_with (first
          | (go_at_call 13; refine (alive_a w _ hb1).mono ?_; rintro e w2 ⟨rfl, hk2', hb2⟩; have hE2 := hE.below hb2; obtain ⟨hx0, hx1, hx2⟩ := arr3 hk2'; clear hk2')
          | (go_at_call 10; first
            | (clear p1; refine (get_short_a a0 len0 cap0 y0 m w2 (by omega) (by omega) hm64 hs y0 m rfl rfl).mono ?_; rintro e w3 ⟨rfl, h3⟩; rw [h3]; clear h3 w3)
            | (clear p2; refine (get_ok_a w a0 len0 cap0 l y0 k w2 hb2 hE2 (by omega) (by omega) y0 k rfl rfl).mono ?_; rintro e w4 ⟨rfl, hE4, hb4⟩)
            | (clear p3; refine (get_short_a a0 len0 cap0 (y0 + k) (m - k) w4 (by omega) (by omega) (by omega) (by omega) (y0 + k) (m - k) (by omega) (by omega)).mono ?_; rintro e w3 ⟨rfl, h3⟩; rw [h3]; clear h3 w3)))
        go_ret
        exact ⟨rfl, hb4⟩
    · go_enter Try.func6, Try.ntmps6
      go_wp2_with (first
        | (go_at_call 13; refine (alive_a w _ hb1).mono ?_; rintro e w2 ⟨rfl, hk2', hb2⟩; have hE2 := hE.below hb2; obtain ⟨hx0, hx1, hx2⟩ := arr3 hk2'; clear hk2')
        | (go_at_call 10; refine (get_short_a a0 len0 cap0 y0 0 w2 (by omega) (by omega) (by omega) hs y0 0 rfl rfl).mono ?_; rintro e w3 ⟨rfl, h3⟩; rw [h3]; clear h3 w3))
      go_ret
      exact ⟨rfl, hb2⟩
  · have hsum : bits BinOp.or IntKind.u64 (IntKind.u64.wrap ((val (part l y0 k) : Int) * 2 ^ (m - k))) (val (part l (y0 + k) (m - k)) : Int) = (val (part l y0 m) : Int) := by
      rw [parts_join l y0 k m hkm]
      refine join64 _ _ _ (by have := val_lt (part l (y0 + k) (m - k)); rw [part_length] at this; exact this) ?_
      rw [← parts_join l y0 k m hkm]
      exact Nat.lt_of_lt_of_le (val_lt _) (Nat.pow_le_pow_right (by decide) (by rw [part_length]; exact hm64))
    rcases hk with ⟨hk1, hk2⟩ | ⟨rfl, rfl⟩
    · have hk3 : (y2 : Int) % ((m : Int) + 1) = (k : Int) := by rw [← hk2, Int.tmod_eq_emod_of_nonneg (by omega)]
      go_enter Try.func6, Try.ntmps6
      go_wp2_with (first
        | (go_at_call 13; refine (alive_a w _ hb1).mono ?_; rintro e w2 ⟨rfl, hk2', hb2⟩; have hE2 := hE.below hb2; obtain ⟨hx0, hx1, hx2⟩ := arr3 hk2'; clear hk2')
        | (go_at_call 10; first
          | (clear p1; refine (get_ok_a w a0 len0 cap0 l y0 m w2 hb2 hE2 hm64 (by omega) y0 m rfl rfl).mono ?_; rintro e w3 ⟨rfl, hE3, hb3⟩)
          | (clear p2; refine (get_ok_a w a0 len0 cap0 l y0 k w3 hb3 hE3 (by omega) (by omega) y0 k rfl rfl).mono ?_; rintro e w4 ⟨rfl, hE4, hb4⟩)
          | (clear p3; refine (get_ok_a w a0 len0 cap0 l (y0 + k) (m - k) w4 hb4 hE4 (by omega) (by omega) (y0 + k) (m - k) (by omega) (by omega)).mono ?_; rintro e w5 ⟨rfl, hE5, hb5⟩)))
      go_ret
      exact ⟨rfl, hb5⟩
    · have hv0 : val (part l y0 0) = 0 := rfl
      clear hsum
      go_enter Try.func6, Try.ntmps6
      go_wp2_with (first
        | (go_at_call 13; refine (alive_a w _ hb1).mono ?_; rintro e w2 ⟨rfl, hk2', hb2⟩; have hE2 := hE.below hb2; obtain ⟨hx0, hx1, hx2⟩ := arr3 hk2'; clear hk2')
        | (go_at_call 10; first
          | (clear p1; refine (get_ok_a w a0 len0 cap0 l y0 0 w2 hb2 hE2 (by omega) (by omega) y0 0 rfl rfl).mono ?_; rintro e w3 ⟨rfl, hE3, hb3⟩)
          | (clear p2; refine (get_ok_a w a0 len0 cap0 l y0 0 w3 hb3 hE3 (by omega) (by omega) y0 0 rfl rfl).mono ?_; rintro e w4 ⟨rfl, hE4, hb4⟩)
          | (clear p3; refine (get_ok_a w a0 len0 cap0 l y0 0 w4 hb4 hE4 (by omega) (by omega) y0 0 rfl rfl).mono ?_; rintro e w5 ⟨rfl, hE5, hb5⟩)))
      go_ret
      exact ⟨rfl, hb5⟩
theorem walk6 (a0 : Option Addr) (len0 cap0 : Nat) (l : List Int) (y0 y1 y2 : Nat) (w : World) (h0 : Came w a0 len0 l) (hy : y0 < 256 ∧ y1 < 256 ∧ y2 < 256) :
    Calls Try.prog 6 #[.slice a0 len0 cap0, .agg #[.int .u8 (y0 : Int), .int .u8 (y1 : Int), .int .u8 (y2 : Int)]] w fun e w' => e = .returned (.bool true) ∧ Below w.heap.size w w' := by
  by_cases hlen : len0 ≤ 5000
  · by_cases hm : y1 % 65 = 0
    · exact walk6_in a0 len0 cap0 l y0 y1 y2 0 0 w h0 hlen hy.1 (by omega) (by omega) (Nat.le_refl _) hy.2.2 (.inr ⟨rfl, rfl⟩)
    · have hk : y2 % (y1 % 65 + 1) ≤ y1 % 65 := by have := Nat.mod_lt y2 (show 0 < y1 % 65 + 1 by omega); omega
      refine walk6_in a0 len0 cap0 l y0 y1 y2 (y1 % 65) (y2 % (y1 % 65 + 1)) w h0 hlen hy.1 (by omega) (by omega) hk hy.2.2 (.inl ⟨by omega, ?_⟩)
      rw [Int.tmod_eq_emod_of_nonneg (by omega)]
      have e : ((y1 % 65 : Nat) : Int) + 1 = ((y1 % 65 + 1 : Nat) : Int) := by omega
      rw [e]
      exact (Int.natCast_emod _ _).symm
  · have hb1 := below_alloc w (.cells #[.int .u8 (y0 : Int), .int .u8 (y1 : Int), .int .u8 (y2 : Int)] 44)
    have p1 : Hid True := trivial
    have hlen' : (5000 : Int) < (len0 : Int) := by omega
    go_enter Try.func6, Try.ntmps6
    go_wp2_with (go_at_call 13; first
      | (clear p1; refine (alive_a w _ hb1).mono ?_; rintro e w2 ⟨rfl, hk2, hb2⟩)
      | (refine (alive_a w _ hb2).mono ?_; rintro e w3 ⟨rfl, hk3, hb3⟩))
    go_ret
    exact ⟨rfl, hb3⟩
theorem list3 {α : Type} (l : List α) (h : (⟨l⟩ : Array α).size = 3) : ∃ a b c, l = [a, b, c] := by
  match l, h with
  | [a, b, c], _ => exact ⟨a, b, c, rfl⟩
theorem cells44 : Try.prog.cellsOf 44 = 3 := by kernel_rfl
/-- An array of three bytes that came in. -/
theorem view3 {H : Type} {enc : TypeId × Value → H} {W : World} {base : Nat} {v : Value} {d : DataW H} {p : List MemPlace}
    (hv : Value.okWide Try.prog W .any base 44 v) (hd : DataW.Trod enc Try.prog W 0 (fun _ => true) true 44 v d p) :
    ∃ y0 y1 y2 : Nat, v = .agg #[.int .u8 (y0 : Int), .int .u8 (y1 : Int), .int .u8 (y2 : Int)] ∧ (y0 < 256 ∧ y1 < 256 ∧ y2 < 256) := by
  obtain ⟨cs, rfl, hsz, _⟩ : ∃ cs, v = .agg cs ∧ cs.size = Try.prog.cellsOf 44 ∧ Row.okWide Try.prog W .any base 44 cs := by
    simpa [Value.okWide, Try.underlying44] using hv
  rw [cells44] at hsz
  obtain ⟨l⟩ := cs
  obtain ⟨c0, c1, c2, rfl⟩ := list3 l hsz
  obtain ⟨fuel, hf⟩ := hd
  obtain ⟨q0, q1, q2, m, hx, hy0, hy1, hy2⟩ := trod_array3 Try.underlying44 cells5 hf
  obtain ⟨x0, e0, rfl, w0⟩ := DataW.trod_int Try.underlying5 hy0
  obtain ⟨x1, e1, rfl, w1⟩ := DataW.trod_int Try.underlying5 hy1
  obtain ⟨x2, e2, rfl, w2⟩ := DataW.trod_int Try.underlying5 hy2
  simp at e0 e1 e2
  subst e0 e1 e2
  have b0 := byte_wf w0
  have b1 := byte_wf w1
  have b2 := byte_wf w2
  obtain ⟨n0, rfl⟩ : ∃ n : Nat, x0 = n := ⟨x0.toNat, by omega⟩
  obtain ⟨n1, rfl⟩ : ∃ n : Nat, x1 = n := ⟨x1.toNat, by omega⟩
  obtain ⟨n2, rfl⟩ : ∃ n : Nat, x2 = n := ⟨x2.toNat, by omega⟩
  exact ⟨n0, n1, n2, rfl, by omega, by omega, by omega⟩
end Go.Proofs.Ytcaappheoekijaa.Bits
namespace Go.Proofs.Ytcaappheoekijaa
open Go.ChangeShapes Go.WideShapes Go.ChangeAt Go.RowKit
set_option linter.unusedVariables false
set_option maxRecDepth 100000 in
theorem bitsParts_lifted (os : Os) (started : os.Started) (H : Type) (enc : TypeId × Value → H) :
    ReturnsInHanded {} Try.checked os 6 .any (Rows.bitsPartsSpec.pre6 enc Try.prog Try.f6 Rows.bitsPartsRow.domain false) (Rows.bitsPartsSpec.post enc Try.prog Try.f6 false true false false) := by
  refine returnsInHanded_of_change_sized (C := Try.checked) Bits.ownGo started (by kernel_rfl) Try.func6
    (ChangeSpec.witness6 (enc := enc) (C := Try.checked) false ⟨#[], #[.slice none 0 0, .agg #[.int .u8 0, .int .u8 0, .int .u8 0]], []⟩ 8 (by kernel_rfl) (by kernel_rfl) (by kernel_rfl) (by kernel_rfl)) ?_
  intro W base args ds gs before hval0 hW _ hsz0 _
  have hsz : (DataW.weightsEach Try.prog (Try.f6.params.toList ++ Rows.bitsPartsSpec.plain.varTypes Try.prog) (ds ++ gs)).all (· ≤ reachBytes) = true := hsz0
  clear hsz0
  have hval : ∀ (j : Nat) t v, Try.f6.params[j]? = some t → args[j]? = some v → Value.okWide Try.prog W .any base t v := hval0
  have hW' := hW
  obtain ⟨p, q, hA0, hV, rfl, hfz, hnd⟩ := hW
  have hA : DataW.TrodAll enc Try.prog W 0 (fun _ => true) true Try.f6.params.toList args.toList ds p := hA0
  rw [Try.params6] at hA hval hsz
  obtain ⟨v0, vs0, d0, ds0, p0, q0, hargs, rfl, rfl, h0, r0⟩ := trodAll_cons hA
  obtain ⟨v1, vs1, d1, ds1, p1, q1, rfl, rfl, rfl, h1, r1⟩ := trodAll_cons r0
  obtain ⟨rfl, rfl, rfl⟩ := trodAll_nil r1
  obtain rfl : args = #[v0, v1] := by cases args; simp_all
  obtain ⟨rfl, rfl⟩ := trodVars_none hV
  obtain ⟨a0, len0, cap0, rfl⟩ := okWide_slice Try.underlying22 (hval 0 22 v0 rfl rfl)
  have lt0 : ∀ x ∈ p0, x.block < W.heap.size := by obtain ⟨m, hm⟩ := h0; exact DataW.trod_lt m _ _ _ hm
  obtain ⟨l0, c0⟩ := Bits.view h0 hsz (j := 0) rfl rfl
  have lt1 : ∀ x ∈ p1, x.block < W.heap.size := by obtain ⟨m, hm⟩ := h1; exact DataW.trod_lt m _ _ _ hm
  obtain ⟨y0, y1, y2, rfl, c1⟩ := Bits.view3 (hval 1 44 v1 rfl rfl) h1
  clear hA0 hval0
  refine (Bits.walk6 a0 len0 cap0 l0 y0 y1 y2 W c0 c1).mono fun e W' ⟨he, bel⟩ => ?_
  subst he
  exact ⟨_, rfl, _, _, _, [], _, [], hW', trodAll_mk1 (shut_bool Try.underlying4 _), (trodAll_cons_mk (Below.trod Bits.laidOut (by kernel_rfl) (of_decide_eq_true (by kernel_rfl)) h0 bel lt0) (trodAll_cons_mk (Below.trod Bits.laidOut (by kernel_rfl) (of_decide_eq_true (by kernel_rfl)) h1 bel lt1) trodAll_mk0)), rfl, bel.frame _, fun h => by cases h⟩

/-- The statement. -/
theorem bitsParts_holds : Rows.BitsPartsSaid :=
  OpenClaim.holds_of_wide 6 Try.f6 rfl rfl rfl rfl rfl rfl rfl ⟨rfl, rfl, rfl, rfl, rfl⟩ rfl rfl rfl rfl rfl (by kernel_rfl) Try.func6 (by kernel_rfl)
    (of_decide_eq_true (by kernel_rfl)) (by unfold Func.isWrapper; first | (rw [if_pos (by decide +kernel)]; kernel_rfl) | (rw [if_neg (by decide +kernel)]; exact ⟨rfl, rfl⟩))
    (fun os started H enc _ => bitsParts_lifted os started H enc)
#print axioms bitsParts_holds
end Go.Proofs.Ytcaappheoekijaa
