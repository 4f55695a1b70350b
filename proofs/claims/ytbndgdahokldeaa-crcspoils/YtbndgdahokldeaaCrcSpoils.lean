/-
  The statement CrcSpoils of this seat is proved: of every list of bytes, up to four that stand side by side at whatever place, taken against whatever four bytes, change the sum just where one of those four that are used is not nought; where the list is empty or longer than 1048576 bytes the law itself asks nothing.
  Conditions: none beside those that the given row prints.
-/
import Derived.Test.YtbndgdahokldeaaJoin
import Derived.Test.YtbndgdahokldeaaSpoil
import Derived.WalkKit
import Derived.ProofKit
import Derived.OpenShut
import Derived.ShutString
import Derived.ChangeOld
import Derived.Below
import Derived.SizedLaws
namespace Go.Proofs.Ytbndgdahokldeaa.Crc
open Go.ChangeShapes Go.WideShapes Go.ChangeAt Go.RowKit
/-- What has been changed so far: j bytes from place K on. -/
def mixK (l y : List Int) (K j t : Nat) : Int := if K ≤ t ∧ t < K + j then bits .xor .u8 (l.getD t 0) (y.getD (t - K) 0) else l.getD t 0
/-- The first n cells of block g hold these numbers and may be written. -/
structure Held (w : World) (g n : Nat) (f : Nat → Int) : Prop where
  cells : ∀ j, j < n → w.cell? ⟨g, j, none⟩ = some (.int .u8 (f j))
  free : ∀ j, j < n → w.frozen? ⟨g, j, none⟩ = false
theorem Copy.held {w : World} {g n : Nat} {l : List Int} (h : Copy w g n l) (y : List Int) (K : Nat) : Held w g n (mixK l y K 0) :=
  ⟨fun j hj => by rw [h.cells j hj]; unfold mixK; rw [if_neg (by omega)], fun j hj => h.free j (by omega)⟩
theorem mixK_self (l y : List Int) (K j : Nat) : mixK l y K j (K + j) = l.getD (K + j) 0 := by unfold mixK; rw [if_neg (by omega)]
theorem mixK_succ (l y : List Int) (K j t : Nat) : mixK l y K (j + 1) t = if t = K + j then bits .xor .u8 (l.getD (K + j) 0) (y.getD j 0) else mixK l y K j t := by
  unfold mixK
  by_cases h : t = K + j
  · subst h
    rw [if_pos ⟨by omega, by omega⟩, if_pos rfl, show K + j - K = j by omega]
  · rw [if_neg h]
    by_cases h2 : K ≤ t ∧ t < K + j
    · rw [if_pos h2, if_pos ⟨h2.1, by omega⟩]
    · rw [if_neg h2, if_neg (by omega)]
theorem Held.step {w : World} {g n K j : Nat} {l y : List Int} (h : Held w g n (mixK l y K j)) {v : Int} (hv : bits .xor .u8 (l.getD (K + j) 0) (y.getD j 0) = v) : Held (w.setCell ⟨g, K + j, none⟩ (.int .u8 v)) g n (mixK l y K (j + 1)) := by
  refine ⟨fun t ht => ?_, fun t ht => ?_⟩
  · by_cases e : t = K + j
    · subst e
      rw [World.cell?_setCell_same _ _ _ (h.cells _ ht), mixK_succ, if_pos rfl, hv]
    · rw [World.cell?_setCell_other _ _ _ _ (by simp), h.cells t ht, mixK_succ, if_neg e]
  · rw [World.frozen?_setCell]; exact h.free t ht
theorem Held.drew {w : World} {g n : Nat} {f : Nat → Int} (h : Held w g n f) : Held w.drew g n f := ⟨h.cells, h.free⟩
/-- Are the first j of the change noughts? -/
def none0 (y : List Int) (j : Nat) : Bool := (y.take j).all (· == 0)
theorem none0_succ (y : List Int) (j : Nat) (h : j < y.length) : none0 y (j + 1) = (none0 y j && (y.getD j 0 == 0)) := by
  unfold none0; rw [take_snoc y j h, List.all_append]; simp
theorem four_cell (w : World) (y0 y1 y2 y3 : Int) : ∀ i, i < 4 → (w.alloc (.cells #[.int .u8 y0, .int .u8 y1, .int .u8 y2, .int .u8 y3] 32)).cell? ⟨w.heap.size, i, none⟩ = some (.int .u8 ([y0, y1, y2, y3].getD i 0)) := by
  intro i hi
  rw [World.cell?_alloc_at _ _ _ _ rfl]
  match i, hi with
  | 0, _ => rfl
  | 1, _ => rfl
  | 2, _ => rfl
  | 3, _ => rfl
theorem none0_iff (y : List Int) (j : Nat) : none0 y j = true ↔ ∀ z ∈ y.take j, z = 0 := by simp [none0]
theorem Elems.bytes {w : World} {a : Option Addr} {n : Nat} {l : List Int} (h : Elems w a n l) : Byte l := byte_of_getD fun i hi => h.2.2.1 i (by rw [← h.1]; exact hi)
theorem byte_take {l : List Int} (h : Byte l) (j : Nat) : Byte (l.take j) := fun z hz => h z (List.mem_of_mem_take hz)
/-- The copy, changed. -/
theorem Held.elems {w w0 : World} {g n K j : Nat} {a : Option Addr} {l y : List Int} (h : Held w g n (mixK l y K j)) (hE : Elems w0 a n l) (hy : Byte y) (hj : j ≤ y.length) (hn : K + j ≤ n) :
    Elems w (some ⟨g, 0, none⟩) n (xorL l (pad K (y.take j) (n - K - j))) := by
  have e1 := hE.1
  have hl : (y.take j).length = j := by simp; omega
  have hp : (pad K (y.take j) (n - K - j)).length = n := by rw [pad_length, hl]; omega
  have hx : ∀ t, t < n → (xorL l (pad K (y.take j) (n - K - j))).getD t 0 = mixK l y K j t := fun t ht => by
    rw [xorL_getD _ _ t (by omega) (by omega), pad_getD, hl]
    unfold mixK
    by_cases hc : K ≤ t ∧ t < K + j
    · rw [if_pos hc, if_pos hc]
      congr 1
      simp [List.getD, show t - K < j by omega]
    · rw [if_neg hc, if_neg hc, xor8_zero _ (hE.2.2.1 t ht)]
  refine ⟨by rw [xorL_length _ _ (by omega), e1], hE.2.1, fun t ht => ?_, .inr ⟨g, 0, rfl, fun t ht => ?_⟩⟩
  · rw [xorL_getD _ _ t (by omega) (by omega)]
    have hb : Byte (pad K (y.take j) (n - K - j)) := pad_byte (byte_take hy j)
    exact (xor8 _ _ (hE.2.2.1 t ht) (hb _ (getD_mem _ t (by omega)))).2
  · rw [Nat.zero_add, h.cells t ht, hx t ht]
/-- The walk: the Go text of the law returns true and turns nothing that was there. -/
theorem walk5 (a0 : Option Addr) (len0 cap0 : Nat) (l0 : List Int) (y0 y1 y2 y3 : Int) (m : Nat) (hm : m < 65536) (w : World) (h0 : Came w a0 len0 l0) (hy : Byte [y0, y1, y2, y3]) :
    Calls Try.prog 5 #[.slice a0 len0 cap0, .agg #[.int .u8 y0, .int .u8 y1, .int .u8 y2, .int .u8 y3], .int .u16 (m : Int)] w fun e w' => e = .returned (.bool true) ∧ Below w.heap.size w w' := by
  have hx := one_size len0 h0.2.1
  have hA := (Below.refl w.heap.size w).alloc (Nat.le_refl _) (.cells #[.int .u8 y0, .int .u8 y1, .int .u8 y2, .int .u8 y3] 32)
  have hB := Below.refl (w.alloc (.cells #[.int .u8 y0, .int .u8 y1, .int .u8 y2, .int .u8 y3] 32)).heap.size (w.alloc (.cells #[.int .u8 y0, .int .u8 y1, .int .u8 y2, .int .u8 y3] 32))
  by_cases hbig : 1048576 < [(len0 : Int)].sum
  · go_enter Try.func5, Try.ntmps5
    go_wp2_with (first
      | (go_at_call 16; refine (alive_acc hB).mono ?_; clear hB; rintro e w1 ⟨rfl, hb1⟩; have hb2 := hb1.alloc hb1.size (.cells #[.int .i64 (len0 : Int)] 3))
      | (go_at_call 9; refine (beyond_yes _ 1 1 _ _ rfl (by omega) hx (one_cell _ _) hbig).mono ?_; rintro e w' ⟨rfl, rfl⟩)
      | (go_at_call 16; refine (alive_acc hb2).mono ?_; rintro e w3 ⟨rfl, hb3⟩))
    go_ret
    exact ⟨rfl, bstep hA hb3⟩
  · have HB : [(len0 : Int)].sum ≤ 1048576 := Int.not_lt.1 hbig
    have hlen : len0 ≤ 1048576 := by simp at HB; omega
    clear hbig
    by_cases hz : len0 = 0
    · subst hz
      go_enter Try.func5, Try.ntmps5
      go_wp2_with (first
        | (go_at_call 16; refine (alive_acc hB).mono ?_; clear hB; rintro e w1 ⟨rfl, hb1⟩; have hb2 := hb1.alloc hb1.size (.cells #[.int .i64 ((0 : Nat) : Int)] 3))
        | (go_at_call 9; refine (beyond_no _ 1 1 _ _ rfl (by omega) hx (one_cell _ _) HB).mono ?_; rintro e w' ⟨rfl, rfl⟩)
        | (go_at_call 16; refine (alive_acc hb2).mono ?_; rintro e w3 ⟨rfl, hb3⟩))
      go_ret
      exact ⟨rfl, bstep hA hb3⟩
    · have hE0 := (h0.elems hlen).below hA
      have hc4 := four_cell w y0 y1 y2 y3
      generalize hY : [y0, y1, y2, y3] = Y at hc4 hy
      have hYl : Y.length = 4 := by rw [← hY]; rfl
      obtain ⟨K, hK0⟩ : ∃ K, K = m % len0 := ⟨_, rfl⟩
      have hKlt : K < len0 := by rw [hK0]; exact Nat.mod_lt _ (by omega)
      have hKi : (m : Int) % (len0 : Int) = (K : Int) := by rw [hK0]; simp
      have hne : ((len0 : Int) == 0) = false := by rw [beq_eq_false_iff_ne]; omega
      clear hK0
      have hG : Hid ((w.alloc (.cells #[.int .u8 y0, .int .u8 y1, .int .u8 y2, .int .u8 y3] 32)).heap.size = w.heap.size + 1) := by unfold Hid; simp
      have HA : Hid (Below w.heap.size w (w.alloc (.cells #[.int .u8 y0, .int .u8 y1, .int .u8 y2, .int .u8 y3] 32))) := hA
      clear hA
      go_enter Try.func5, Try.ntmps5
      go_wp2_with (first
        | (go_at_call 16; refine (alive_acc hB).mono ?_; clear hB; rintro e w1 ⟨rfl, hb1⟩; have hb2 := hb1.alloc hb1.size (.cells #[.int .i64 (len0 : Int)] 3))
        | (go_at_call 9; refine (beyond_no _ 1 1 _ _ rfl (by omega) hx (one_cell _ _) HB).mono ?_; rintro e w' ⟨rfl, rfl⟩)
        | (go_at_call 10; refine (twin _ _ _ _ _ (w1.heap.size + 1) (by simp) (hE0.below hb2)).mono ?_; rintro e w3 ⟨rfl, hc3, k3⟩; have hb3 := hb2.trans (k3.mono (by have := hb1.size; omega))))
      rw [hKi]
      generalize w.alloc (.cells #[.int .u8 y0, .int .u8 y1, .int .u8 y2, .int .u8 y3] 32) = W at hb1 hb2 hb3 hE0 hc4 hG HA
      have hg : W.heap.size ≤ w1.heap.size + 1 := by have := hb1.size; omega
      have hp := hc3.held Y K
      have hG' := hG.out
      clear hc3 k3 hb1 hb2 hY hKi hx HB h0
      generalize w1.heap.size + 1 = g at hg hp ⊢
      go_loopw [9, 10] (fun sm i wr => ∃ j : Nat, j ≤ 4 ∧ K + j ≤ len0 ∧ i = .int .i64 j ∧ sm = .bool (none0 Y j) ∧ Below W.heap.size W wr ∧ Held wr g len0 (mixK l0 Y K j)) (fun _ i _ => 4 - (intOf i).toNat)
      case atStart => exact ⟨0, by omega, by omega, rfl, rfl, hb3, hp⟩
      case round =>
        obtain ⟨j, hj4, hjl, rfl, rfl, hb, hh⟩ := hrel
        by_cases hlt : j < 4 ∧ K + j < len0
        · obtain ⟨hlt, hltn⟩ := hlt
          have hcy := (hb.cell (p := ⟨w.heap.size, j, none⟩) (by show w.heap.size < _; omega)).trans (hc4 j hlt)
          have hcx := hh.cells _ hltn
          have hfx := hh.free _ hltn
          rw [mixK_self] at hcx
          have HH : Hid (Held wr g len0 (mixK l0 Y K j)) := hh
          have HV : Hid (∀ v, bits .xor .u8 (l0.getD (K + j) 0) (Y.getD j 0) = v → Held (wr.setCell ⟨g, K + j, none⟩ (.int .u8 v)) g len0 (mixK l0 Y K (j + 1))) := fun v hv => hh.step hv
          have HS : Hid (none0 Y (j + 1) = (none0 Y j && (Y.getD j 0 == 0))) := none0_succ Y j (by omega)
          have ne1 : ¬ g = w.heap.size := by omega
          have ne1' : ¬ w.heap.size = g := by omega
          clear hh hc4 hp hE0 hb3
          generalize l0.getD (K + j) 0 = p at hcx HV
          generalize Y.getD j 0 = z at hcy HV HS
          have i0 : (0 : Int) ≤ (K : Int) + (j : Int) := by omega
          have i1 : (K : Int) + (j : Int) < (len0 : Int) := by omega
          have i2 : (j : Int) < 4 := by omega
          cases hn : none0 Y j
          all_goals
            go_wp2
            go_region
            go_wp2
            go_roundw
            case rel => exact ⟨j + 1, by omega, by omega, by go_num, by rw [HS.out, hn]; rfl, (hb.setCell hg _).drew, (HV.out _ rfl).drew⟩
            case measure => simp [intOf]; omega
        · have hEx := hh.elems hE0 hy (by omega) hjl
          have hEl := hE0.below hb
          have hsp := spoil (l := l0) (bt := Y.take j) (K := K) (R := len0 - K - j) (by have := hE0.1; simp; omega) hE0.bytes (byte_take hy j) (by simp; omega)
          rw [← none0_iff] at hsp
          generalize xorL l0 (pad K (Y.take j) (len0 - K - j)) = X at hEx hsp
          have hcs : ((((more 0#32 X).toNat : Int) == ((more 0#32 l0).toNat : Int)) == none0 Y j) = true := by
            cases hn : none0 Y j
            · rw [word_ne (fun e => by rw [hsp.1 e] at hn; cases hn)]; rfl
            · rw [hsp.2 hn]; simp
          clear hsp hh hc4 hp hb3 hE0
          by_cases h4 : j < 4
          · have i1 : ¬ ((K : Int) + (j : Int) < (len0 : Int)) := by omega
            have i2 : (j : Int) < 4 := by omega
            go_wp2_with (first
              | (go_at_call 11; refine (of_acc hb _ _ _ _ hEx).mono ?_; clear hEx; rintro e w5 ⟨rfl, hb5, k5⟩; have hE5 := hEl.below k5)
              | (go_at_call 11; refine (of_acc hb5 _ _ _ _ hE5).mono ?_; rintro e w6 ⟨rfl, hb6, k6⟩))
            go_ret
            exact ⟨rfl, bstep HA.out hb6⟩
          · have i2 : ¬ ((j : Int) < 4) := by omega
            go_wp2_with (first
              | (go_at_call 11; refine (of_acc hb _ _ _ _ hEx).mono ?_; clear hEx; rintro e w5 ⟨rfl, hb5, k5⟩; have hE5 := hEl.below k5)
              | (go_at_call 11; refine (of_acc hb5 _ _ _ _ hE5).mono ?_; rintro e w6 ⟨rfl, hb6, k6⟩))
            go_ret
            exact ⟨rfl, bstep HA.out hb6⟩
theorem list4 {α : Type} (l : List α) (h : (⟨l⟩ : Array α).size = 4) : ∃ a b c d, l = [a, b, c, d] := by
  match l, h with
  | [a, b, c, d], _ => exact ⟨a, b, c, d, rfl⟩
theorem cells32 : Try.prog.cellsOf 32 = 4 := by kernel_rfl
/-- An array of four bytes that came in. -/
theorem view_four {H : Type} {enc : TypeId × Value → H} {W : World} {base : Nat} {v : Value} {d : DataW H} {p : List MemPlace}
    (hv : Value.okWide Try.prog W .any base 32 v) (hd : DataW.Trod enc Try.prog W 0 (fun _ => true) true 32 v d p) :
    ∃ y0 y1 y2 y3, v = .agg #[.int .u8 y0, .int .u8 y1, .int .u8 y2, .int .u8 y3] ∧ Byte [y0, y1, y2, y3] := by
  obtain ⟨cs, rfl, hsz, _⟩ : ∃ cs, v = .agg cs ∧ cs.size = Try.prog.cellsOf 32 ∧ Row.okWide Try.prog W .any base 32 cs := by
    simpa [Value.okWide, Try.underlying32] using hv
  rw [cells32] at hsz
  obtain ⟨l⟩ := cs
  obtain ⟨c0, c1, c2, c3, rfl⟩ := list4 l hsz
  obtain ⟨fuel, hf⟩ := hd
  obtain ⟨q0, q1, q2, q3, m, hx, hy0, hy1, hy2, hy3⟩ := trod_array4 Try.underlying32 cells5 hf
  obtain ⟨x0, e0, rfl, w0⟩ := DataW.trod_int Try.underlying5 hy0
  obtain ⟨x1, e1, rfl, w1⟩ := DataW.trod_int Try.underlying5 hy1
  obtain ⟨x2, e2, rfl, w2⟩ := DataW.trod_int Try.underlying5 hy2
  obtain ⟨x3, e3, rfl, w3⟩ := DataW.trod_int Try.underlying5 hy3
  simp at e0 e1 e2 e3
  subst e0 e1 e2 e3
  refine ⟨x0, x1, x2, x3, rfl, fun z hz => ?_⟩
  simp at hz
  rcases hz with rfl | rfl | rfl | rfl
  · exact byte_wf w0
  · exact byte_wf w1
  · exact byte_wf w2
  · exact byte_wf w3
theorem half_wf {n : Int} (h : (Lit.int .u16 n).wf = true) : ∃ m : Nat, m < 65536 ∧ n = (m : Int) := by
  simp [Lit.wf, IntKind.min, IntKind.max, IntKind.signed, IntKind.bits] at h
  exact ⟨n.toNat, by omega, by omega⟩
end Go.Proofs.Ytbndgdahokldeaa.Crc
namespace Go.Proofs.Ytbndgdahokldeaa
open Go.ChangeShapes Go.WideShapes Go.ChangeAt Go.RowKit
set_option linter.unusedVariables false
set_option maxRecDepth 100000 in
theorem crcSpoils_lifted (os : Os) (started : os.Started) (H : Type) (enc : TypeId × Value → H) :
    ReturnsInHanded {} Try.checked os 5 .any (Rows.crcSpoilsSpec.pre6 enc Try.prog Try.f5 Rows.crcSpoilsRow.domain false) (Rows.crcSpoilsSpec.post enc Try.prog Try.f5 false true false false) := by
  refine returnsInHanded_of_change_sized (C := Try.checked) Crc.own started (by kernel_rfl) Try.func5
    (ChangeSpec.witness6 (enc := enc) (C := Try.checked) false ⟨#[], #[.slice none 0 0, .agg #[.int .u8 0, .int .u8 0, .int .u8 0, .int .u8 0], .int .u16 0], []⟩ 8 (by kernel_rfl) (by kernel_rfl) (by kernel_rfl) (by kernel_rfl)) ?_
  intro W base args ds gs before hval0 hW _ hsz0 _
  have hsz : (DataW.weightsEach Try.prog (Try.f5.params.toList ++ Rows.crcSpoilsSpec.plain.varTypes Try.prog) (ds ++ gs)).all (· ≤ reachBytes) = true := hsz0
  clear hsz0
  have hval : ∀ (j : Nat) t v, Try.f5.params[j]? = some t → args[j]? = some v → Value.okWide Try.prog W .any base t v := hval0
  have hW' := hW
  obtain ⟨p, q, hA0, hV, rfl, hfz, hnd⟩ := hW
  have hA : DataW.TrodAll enc Try.prog W 0 (fun _ => true) true Try.f5.params.toList args.toList ds p := hA0
  rw [Try.params5] at hA hval hsz
  obtain ⟨v0, vs0, d0, ds0, p0, q0, hargs, rfl, rfl, h0, r0⟩ := trodAll_cons hA
  obtain ⟨v1, vs1, d1, ds1, p1, q1, rfl, rfl, rfl, h1, r1⟩ := trodAll_cons r0
  obtain ⟨v2, vs2, d2, ds2, p2, q2, rfl, rfl, rfl, h2, r2⟩ := trodAll_cons r1
  obtain ⟨rfl, rfl, rfl⟩ := trodAll_nil r2
  obtain rfl : args = #[v0, v1, v2] := by cases args; simp_all
  obtain ⟨rfl, rfl⟩ := trodVars_none hV
  obtain ⟨a0, len0, cap0, rfl⟩ := okWide_slice Try.underlying22 (hval 0 22 v0 rfl rfl)
  have lt0 : ∀ x ∈ p0, x.block < W.heap.size := by obtain ⟨m, hm⟩ := h0; exact DataW.trod_lt m _ _ _ hm
  obtain ⟨l0, c0⟩ := Crc.view h0 hsz (j := 0) rfl rfl
  have lt1 : ∀ x ∈ p1, x.block < W.heap.size := by obtain ⟨m, hm⟩ := h1; exact DataW.trod_lt m _ _ _ hm
  obtain ⟨y0, y1, y2, y3, rfl, c1⟩ := Crc.view_four (hval 1 32 v1 rfl rfl) h1
  obtain ⟨z2, rfl, rfl, rfl, w2⟩ := open_int Try.underlying33 (hval 2 33 v2 rfl rfl) h2
  obtain ⟨m2, c2, rfl⟩ := Crc.half_wf w2
  clear hA0 hval0
  refine (Crc.walk5 a0 len0 cap0 l0 y0 y1 y2 y3 m2 c2 W c0 c1).mono fun e W' ⟨he, bel⟩ => ?_
  subst he
  exact ⟨_, rfl, _, _, _, [], _, [], hW', trodAll_mk1 (shut_bool Try.underlying4 _), (trodAll_cons_mk (Below.trod Crc.laidOut (by kernel_rfl) (of_decide_eq_true (by kernel_rfl)) h0 bel lt0) (trodAll_cons_mk (Below.trod Crc.laidOut (by kernel_rfl) (of_decide_eq_true (by kernel_rfl)) h1 bel lt1) (trodAll_cons_mk (shut_int Try.underlying33 w2) trodAll_mk0))), rfl, bel.frame _, fun h => by cases h⟩

/-- The statement. -/
theorem crcSpoils_holds : Rows.CrcSpoilsSaid :=
  OpenClaim.holds_of_wide 5 Try.f5 rfl rfl rfl rfl rfl rfl rfl ⟨rfl, rfl, rfl, rfl, rfl⟩ rfl rfl rfl rfl rfl (by kernel_rfl) Try.func5 (by kernel_rfl)
    (of_decide_eq_true (by kernel_rfl)) (by unfold Func.isWrapper; first | (rw [if_pos (by decide +kernel)]; kernel_rfl) | (rw [if_neg (by decide +kernel)]; exact ⟨rfl, rfl⟩))
    (fun os started H enc _ => crcSpoils_lifted os started H enc)
#print axioms crcSpoils_holds
end Go.Proofs.Ytbndgdahokldeaa
