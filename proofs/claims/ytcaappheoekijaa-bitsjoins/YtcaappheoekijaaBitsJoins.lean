/-
  The statement BitsJoins of this seat is proved: for every two numbers of 32 bits, cut to 0 to 32 bits each, putting one behind the other in one writer and putting both as one number in another writer are taken, and leave as many bits and the same bytes.
  Conditions: none beside those that the given row prints.
-/
import Derived.Test.YtcaappheoekijaaTwo
import Derived.WalkKit
import Derived.ProofKit
import Derived.OpenShut
import Derived.ShutString
import Derived.ChangeOld
import Derived.Below
import Derived.SizedLaws
namespace Go.Proofs.Ytcaappheoekijaa.Bits
open Go.ChangeShapes Go.WideShapes Go.ChangeAt Go.RowKit
set_option linter.unusedVariables false
theorem bitsOf_join (x y a b : Nat) (hy : y < 2 ^ b) : bitsOf (x * 2 ^ b + y) (a + b) = bitsOf x a ++ bitsOf y b := by
  apply List.ext_getElem
  · simp [bitsOf_length]
  · intro i h1 h2
    rw [bitsOf_length] at h1
    rw [List.getElem_append]
    simp only [bitsOf, List.getElem_map, List.getElem_range, Nat.mul_comm x, Nat.testBit_two_pow_mul_add _ hy]
    split
    · rename_i h
      simp only [List.length_map, List.length_range] at *
      rw [dif_neg (by omega)]
      congr 1
      omega
    · rename_i h
      simp only [List.length_map, List.length_range] at *
      rw [dif_pos (by omega)]
      congr 1
      omega
theorem put_2c (w0 : World) (a r : Nat) (v : Value) (L : List Bool) (a2 r2 : Nat) (v2 : Value) (L2 : List Bool) (N k : Nat) (w : World) (hb : Below w0.heap.size w0 w) (h : Two w0.heap.size w a r v L a2 r2 v2 L2) (hk : k ≤ 64) (hN : N < 2 ^ k) (hL : L2.length + k < 1099511627776) (kk : Int) (hkk : kk = k) :
    Calls Try.prog 15 #[.pointer (some ⟨a2, 0, none⟩), .int .u64 (N : Int), .int .i64 kk] w fun e w' => e = .returned (.int .i64 0) ∧ ∃ v', Two w0.heap.size w' a r v L a2 r2 v' (L2 ++ bitsOf N k) ∧ Below w0.heap.size w0 w' := by
  subst hkk
  exact put_2 w0 a r v L a2 r2 v2 L2 N k w hb h hk hN hL
theorem len_c (a r : Nat) (v : Value) (L : List Bool) (w : World) (hW : Wr w a r v L) (T : Int) (hT : T = L.length) :
    Calls Try.prog 18 #[.pointer (some ⟨a, 0, none⟩)] w fun e w' => e = .returned (.int .i64 T) ∧ w' = w := by
  subst hT
  exact len a r v L w hW
theorem same_c (w0 : World) (g g2 : Nat) (l l2 : List Int) (n n2 : Nat) (w : World) (hb : Below w0.heap.size w0 w) (h1 : Elems w (some ⟨g, 0, none⟩) n l) (h2 : Elems w (some ⟨g2, 0, none⟩) n2 l2) (e1 : n2 = n) (e2 : l2 = l) :
    Calls Try.prog 19 #[.slice (some ⟨g, 0, none⟩) n n, .slice (some ⟨g2, 0, none⟩) n2 n2] w fun e w' => e = .returned (.bool true) ∧ Below w0.heap.size w0 w' := by
  subst e1 e2
  exact (same_b _ _ _ _ _ _ w h1 h2).mono fun _ _ h => ⟨h.1, bstep hb h.2⟩
set_option maxHeartbeats 1000000 in
theorem walk5_in (n m y0 y1 a b X Y Z : Nat) (w : World) (hn : n < 4294967296) (hm : m < 4294967296) (ha : (y0 : Int) % 33 = (a : Int)) (hbb : (y1 : Int) % 33 = (b : Int)) (ha32 : a ≤ 32) (hb32 : b ≤ 32)
    (hX : Hid (n % 2 ^ a = X)) (hY : Hid (m % 2 ^ b = Y)) (HX : Hid (X < 2 ^ a)) (HY : Hid (Y < 2 ^ b)) (HZ : Hid (Z < 2 ^ (a + b))) (hj : bits BinOp.or IntKind.u64 (IntKind.u64.wrap ((X : Int) * 2 ^ b)) (Y : Int) = (Z : Int)) (HJ : Hid (bitsOf Z (a + b) = bitsOf X a ++ bitsOf Y b)) :
    Calls Try.prog 5 #[.int .u32 (n : Int), .int .u32 (m : Int), .agg #[.int .u8 (y0 : Int), .int .u8 (y1 : Int)]] w fun e w' => e = .returned (.bool true) ∧ Below w.heap.size w w' := by
  have hb0 := below_alloc w (.cells #[.int .u8 (y0 : Int), .int .u8 (y1 : Int)] 41)
  have p1 : Hid True := trivial
  have p2 : Hid True := trivial
  have q1 : Hid True := trivial
  have s1 : Hid True := trivial
  have t1 : Hid True := trivial
  have r1 : Hid True := trivial
  obtain ⟨L1, hL1⟩ : ∃ L1, L1 = [] ++ bitsOf X a := ⟨_, rfl⟩
  obtain ⟨L2, hL2⟩ : ∃ L2, L2 = L1 ++ bitsOf Y b := ⟨_, rfl⟩
  obtain ⟨L3, hL3⟩ : ∃ L3, L3 = [] ++ bitsOf Z (a + b) := ⟨_, rfl⟩
  have e32 : L3 = L2 := by rw [hL3, hL2, hL1, HJ.out]; simp
  have l1 : L1.length = a := by rw [hL1]; simp [bitsOf_length]
  have l2 : L2.length = a + b := by rw [hL2, List.length_append, l1, bitsOf_length]
  have l3 : L3.length = a + b := by rw [e32, l2]
  have EL1 : Hid (L1 = [] ++ bitsOf X a) := hL1
  have EL2 : Hid (L2 = L1 ++ bitsOf Y b) := hL2
  have EL3 : Hid (L3 = [] ++ bitsOf Z (a + b)) := hL3
  have E32 : Hid (L3 = L2) := e32
  have H1 : Hid (L1.length = a) := l1
  have H2 : Hid (L2.length = a + b) := l2
  have H3 : Hid (L3.length = a + b) := l3
  clear hL1 hL2 hL3 e32 l1 l2 l3
  go_enter Try.func5, Try.ntmps5
  go_wp2_with (first
    | (go_at_call 16; first
      | (clear q1; refine (low n a _ (by omega)).mono ?_; rintro e w1 ⟨rfl, h1⟩; rw [h1, hX.out]; clear h1 w1)
      | (refine (low m b _ (by omega)).mono ?_; rintro e w1 ⟨rfl, h1⟩; rw [h1, hY.out]; clear h1 w1))
    | (go_at_call 14; first
      | (clear r1; refine (new_a w _ hb0).mono ?_; rintro e w2 ⟨pa, ra, rfl, hP2, hb2⟩)
      | (refine (new_2 w pa ra _ _ w2 hb2 hP2).mono ?_; rintro e w3 ⟨pb, rb, rfl, hT3, hb3⟩))
    | (go_at_call 15; first
      | (clear p1; refine (put_1 w pa ra _ [] pb rb _ [] X a w3 hb3 hT3 (by omega) HX.out (by simp; omega)).mono ?_; rintro e w4 ⟨rfl, v4, hT4, hb4⟩; rw [← EL1.out] at hT4)
      | (clear p2; refine (put_1 w pa ra _ L1 pb rb _ [] Y b w4 hb4 hT4 (by omega) HY.out (by have := H1.out; omega)).mono ?_; rintro e w5 ⟨rfl, v5, hT5, hb5⟩; rw [← EL2.out] at hT5)
      | (refine (put_2c w pa ra _ L2 pb rb _ [] Z (a + b) w5 hb5 hT5 (by omega) HZ.out (by simp; omega) (a + b) (by omega)).mono ?_; rintro e w6 ⟨rfl, v6, hT6, hb6⟩; rw [← EL3.out] at hT6))
    | (go_at_call 13; refine (alive_a w w6 hb6).mono ?_; rintro e w7 ⟨rfl, hk7, hb7⟩; have hT7 := hT6.kept hk7)
    | (go_at_call 18; first
      | (clear s1; refine (len_c pa ra _ L2 w7 hT7.one.wr (a + b) (by have := H2.out; omega)).mono ?_; rintro e w1 ⟨rfl, h1⟩; rw [h1]; clear h1 w1)
      | (refine (len_c pb rb _ L3 w7 hT7.two.wr (a + b) (by have := H3.out; omega)).mono ?_; rintro e w1 ⟨rfl, h1⟩; rw [h1]; clear h1 w1))
    | (go_at_call 17; first
      | (clear t1; refine (bytes_k w pa ra _ L2 w7 hb7 hT7.one (by have := H2.out; omega)).mono ?_; rintro e w8 ⟨g8, rfl, hE8, hk8, hb8⟩; have hT8 := hT7.kept hk8)
      | (refine (bytes_k w pb rb _ L3 w8 hb8 hT8.two (by have := H3.out; omega)).mono ?_; rintro e w9 ⟨g9, rfl, hE9, hk9, hb9⟩; have hE8' := hE8.below hk9))
    | (go_at_call 19; refine (same_c w g8 g9 _ _ _ _ w9 hb9 hE8' hE9 (by rw [E32.out]) (by rw [E32.out])).mono ?_; rintro e w10 ⟨rfl, hb10⟩))
  go_ret
  exact ⟨rfl, hb10⟩
theorem walk5 (n m y0 y1 : Nat) (w : World) (hn : n < 4294967296) (hm : m < 4294967296) (_hy : y0 < 256 ∧ y1 < 256) :
    Calls Try.prog 5 #[.int .u32 (n : Int), .int .u32 (m : Int), .agg #[.int .u8 (y0 : Int), .int .u8 (y1 : Int)]] w fun e w' => e = .returned (.bool true) ∧ Below w.heap.size w w' := by
  obtain ⟨a, ha⟩ : ∃ a, a = y0 % 33 := ⟨_, rfl⟩
  obtain ⟨b, hb⟩ : ∃ b, b = y1 % 33 := ⟨_, rfl⟩
  have hx : n % 2 ^ a < 2 ^ a := Nat.mod_lt _ (Nat.two_pow_pos a)
  have hy : m % 2 ^ b < 2 ^ b := Nat.mod_lt _ (Nat.two_pow_pos b)
  have hxy : n % 2 ^ a * 2 ^ b + m % 2 ^ b < 2 ^ (a + b) := by
    rw [Nat.pow_add]
    have h2 : (n % 2 ^ a + 1) * 2 ^ b ≤ 2 ^ a * 2 ^ b := Nat.mul_le_mul_right _ hx
    rw [Nat.add_mul, Nat.one_mul] at h2
    omega
  have hxy64 : n % 2 ^ a * 2 ^ b + m % 2 ^ b < 2 ^ 64 := Nat.lt_of_lt_of_le hxy (Nat.pow_le_pow_right (by decide) (by omega))
  exact walk5_in n m y0 y1 a b (n % 2 ^ a) (m % 2 ^ b) (n % 2 ^ a * 2 ^ b + m % 2 ^ b) w hn hm (by omega) (by omega) (by omega) (by omega) rfl rfl hx hy hxy (join64 _ _ b hy hxy64) (bitsOf_join _ _ a b hy)
theorem trod_array2 {H : Type} {enc : TypeId × Value → H} {P : Program} {w : World} {base : Nat} {spare : Nat → Bool} {held : Bool} {t e : TypeId} {fuel : Nat} {c0 c1 : Value} {x : DataW H × List MemPlace} (ht : P.underlying t = some (.array 2 e)) (hce : P.cellsOf e = 1)
    (h : DataW.trod enc P w base spare held fuel t [c0, c1] = some x) :
    ∃ y0 y1 n, x = (.agg [y0.1, y1.1], y0.2 ++ y1.2) ∧ DataW.trod enc P w base spare held n e [c0] = some y0 ∧ DataW.trod enc P w base spare held n e [c1] = some y1 := by
  cases fuel with
  | zero => simp [DataW.trod] at h
  | succ n =>
    unfold DataW.trod at h
    rw [ht] at h
    have r2 : List.range 2 = [0, 1] := rfl
    simp [r2, hce] at h
    obtain ⟨_, h⟩ := h
    cases h0 : DataW.trod enc P w base spare held n e [c0] with
    | none => simp [h0] at h
    | some y0 =>
      cases h1 : DataW.trod enc P w base spare held n e [c1] with
      | none => simp [h0, h1] at h
      | some y1 =>
        simp [h0, h1] at h
        exact ⟨y0, y1, n, h.symm, h0, h1⟩
theorem list2 {α : Type} (l : List α) (h : (⟨l⟩ : Array α).size = 2) : ∃ a b, l = [a, b] := by
  match l, h with
  | [a, b], _ => exact ⟨a, b, rfl⟩
theorem cells41 : Try.prog.cellsOf 41 = 2 := by kernel_rfl
/-- An array of two bytes that came in. -/
theorem view2 {H : Type} {enc : TypeId × Value → H} {W : World} {base : Nat} {v : Value} {d : DataW H} {p : List MemPlace}
    (hv : Value.okWide Try.prog W .any base 41 v) (hd : DataW.Trod enc Try.prog W 0 (fun _ => true) true 41 v d p) :
    ∃ y0 y1 : Nat, v = .agg #[.int .u8 (y0 : Int), .int .u8 (y1 : Int)] ∧ (y0 < 256 ∧ y1 < 256) := by
  obtain ⟨cs, rfl, hsz, _⟩ : ∃ cs, v = .agg cs ∧ cs.size = Try.prog.cellsOf 41 ∧ Row.okWide Try.prog W .any base 41 cs := by
    simpa [Value.okWide, Try.underlying41] using hv
  rw [cells41] at hsz
  obtain ⟨l⟩ := cs
  obtain ⟨c0, c1, rfl⟩ := list2 l hsz
  obtain ⟨fuel, hf⟩ := hd
  obtain ⟨q0, q1, m, hx, hy0, hy1⟩ := trod_array2 Try.underlying41 cells5 hf
  obtain ⟨x0, e0, rfl, w0⟩ := DataW.trod_int Try.underlying5 hy0
  obtain ⟨x1, e1, rfl, w1⟩ := DataW.trod_int Try.underlying5 hy1
  simp at e0 e1
  subst e0 e1
  have b0 := byte_wf w0
  have b1 := byte_wf w1
  obtain ⟨n0, rfl⟩ : ∃ n : Nat, x0 = n := ⟨x0.toNat, by omega⟩
  obtain ⟨n1, rfl⟩ : ∃ n : Nat, x1 = n := ⟨x1.toNat, by omega⟩
  exact ⟨n0, n1, rfl, by omega, by omega⟩
theorem nat_n {n : Int} (h : (Lit.int .u32 n).wf = true) : ∃ m : Nat, m < 4294967296 ∧ n = (m : Int) := by
  simp [Lit.wf, IntKind.min, IntKind.max, IntKind.signed, IntKind.bits] at h
  exact ⟨n.toNat, by omega, by omega⟩
end Go.Proofs.Ytcaappheoekijaa.Bits
namespace Go.Proofs.Ytcaappheoekijaa
open Go.ChangeShapes Go.WideShapes Go.ChangeAt Go.RowKit
set_option linter.unusedVariables false
set_option maxRecDepth 100000 in
theorem bitsJoins_lifted (os : Os) (started : os.Started) (H : Type) (enc : TypeId × Value → H) :
    ReturnsInHanded {} Try.checked os 5 .any (Rows.bitsJoinsSpec.pre6 enc Try.prog Try.f5 Rows.bitsJoinsRow.domain false) (Rows.bitsJoinsSpec.post enc Try.prog Try.f5 false true false false) := by
  refine returnsInHanded_of_change_sized (C := Try.checked) Bits.ownGo started (by kernel_rfl) Try.func5
    (ChangeSpec.witness6 (enc := enc) (C := Try.checked) false ⟨#[], #[.int .u32 0, .int .u32 0, .agg #[.int .u8 0, .int .u8 0]], []⟩ 8 (by kernel_rfl) (by kernel_rfl) (by kernel_rfl) (by kernel_rfl)) ?_
  intro W base args ds gs before hval0 hW _ hsz0 _
  have hsz : (DataW.weightsEach Try.prog (Try.f5.params.toList ++ Rows.bitsJoinsSpec.plain.varTypes Try.prog) (ds ++ gs)).all (· ≤ reachBytes) = true := hsz0
  clear hsz0
  have hval : ∀ (j : Nat) t v, Try.f5.params[j]? = some t → args[j]? = some v → Value.okWide Try.prog W .any base t v := hval0
  have hW' := hW
  obtain ⟨p, q, hA0, hV, rfl, hfz, hnd⟩ := hW
  have hA : DataW.TrodAll enc Try.prog W 0 (fun _ => true) true Try.f5.params.toList args.toList ds p := hA0
  rw [Try.params5] at hA hval hsz
  obtain ⟨v0, vs0, d0, ds0, p0, q0, hargs, rfl, rfl, h0, r0⟩ := trodAll_cons hA
  obtain ⟨v1, vs1, d1, ds1, p1, q1, rfl, rfl, rfl, h1, r1⟩ := trodAll_cons r0
  obtain ⟨v2, vs2, d2, ds2, p2, q2, rfl, rfl, rfl, h2, r2⟩ := trodAll_cons r1
  obtain ⟨rfl, rfl, rfl⟩ := trodAll_nil r2
  obtain rfl : args = #[v0, v1, v2] := by cases args; simp_all
  obtain ⟨rfl, rfl⟩ := trodVars_none hV
  obtain ⟨z0, rfl, rfl, rfl, w0⟩ := open_int Try.underlying40 (hval 0 40 v0 rfl rfl) h0
  obtain ⟨n0, c0, rfl⟩ := Bits.nat_n w0
  obtain ⟨z1, rfl, rfl, rfl, w1⟩ := open_int Try.underlying40 (hval 1 40 v1 rfl rfl) h1
  obtain ⟨n1, c1, rfl⟩ := Bits.nat_n w1
  have lt2 : ∀ x ∈ p2, x.block < W.heap.size := by obtain ⟨m, hm⟩ := h2; exact DataW.trod_lt m _ _ _ hm
  obtain ⟨y0, y1, rfl, c2⟩ := Bits.view2 (hval 2 41 v2 rfl rfl) h2
  clear hA0 hval0
  refine (Bits.walk5 n0 n1 y0 y1 W c0 c1 c2).mono fun e W' ⟨he, bel⟩ => ?_
  subst he
  exact ⟨_, rfl, _, _, _, [], _, [], hW', trodAll_mk1 (shut_bool Try.underlying4 _), (trodAll_cons_mk (shut_int Try.underlying40 w0) (trodAll_cons_mk (shut_int Try.underlying40 w1) (trodAll_cons_mk (Below.trod Bits.laidOut (by kernel_rfl) (of_decide_eq_true (by kernel_rfl)) h2 bel lt2) trodAll_mk0))), rfl, bel.frame _, fun h => by cases h⟩

/-- The statement. -/
theorem bitsJoins_holds : Rows.BitsJoinsSaid :=
  OpenClaim.holds_of_wide 5 Try.f5 rfl rfl rfl rfl rfl rfl rfl ⟨rfl, rfl, rfl, rfl, rfl⟩ rfl rfl rfl rfl rfl (by kernel_rfl) Try.func5 (by kernel_rfl)
    (of_decide_eq_true (by kernel_rfl)) (by unfold Func.isWrapper; first | (rw [if_pos (by decide +kernel)]; kernel_rfl) | (rw [if_neg (by decide +kernel)]; exact ⟨rfl, rfl⟩))
    (fun os started H enc _ => bitsJoins_lifted os started H enc)
#print axioms bitsJoins_holds
end Go.Proofs.Ytcaappheoekijaa
