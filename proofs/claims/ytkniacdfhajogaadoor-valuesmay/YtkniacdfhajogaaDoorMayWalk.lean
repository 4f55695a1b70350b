/-
  The walk of the law ValuesMay.
-/
import Derived.Test.YtkniacdfhajogaaDoorMayM
namespace Go.Proofs.YtkniacdfhajogaaDoor.Val
open Go.ChangeShapes Go.WideShapes Go.ChangeAt Go.RowKit Go.Joins
set_option maxHeartbeats 2000000
set_option maxRecDepth 100000 in
theorem walk7 (o : Nat) (l : List Vl) (s : Value) (w : World) (hS : VSl w l s) (hk : ∀ x ∈ l, x.ok) (hT : TabP w) : Calls Tryd.prog 7 #[.int .u8 (o : Int), s] w fun e w' => e = .returned (.bool true) ∧ Below w.heap.size w w' := by
  have DC := hid (do_cases o l hk)
  have cd := fun W hW => do_at o l s W hW
  have HS := hid hS
  have HT := hid hT
  obtain ⟨ao, cap, rfl, hmax, hv⟩ := hS
  clear hk hT hv
  generalize doV o l = D at *
  go_enter Tryd.func7, Tryd.ntmps7
  go_wp2_with (fail)
  refine (alive_at _ HT.out).mono ?_
  rintro e w1 ⟨rfl, hb1⟩
  have B1 := hid hb1
  clear hb1
  by_cases hl : 1000 < l.length
  · have e1 : (1000 : Int) < (l.length : Int) := by omega
    have e1d : decide ((1000 : Int) < (l.length : Int)) = true := by rw [decide_eq_true_eq]; omega
    go_wp2_with (fail)
    refine (alive_at _ (HT.out.below B1.out)).mono ?_
    rintro e w2 ⟨rfl, hb2⟩
    have B2 := hid (bstep B1.out hb2 B1.out.size)
    clear hb2
    go_wp2_with (fail)
    go_ret
    exact ⟨rfl, B2.out⟩
  · have e1 : ¬ (1000 : Int) < (l.length : Int) := by omega
    have e1d : decide ((1000 : Int) < (l.length : Int)) = false := by rw [decide_eq_false_iff_not]; omega
    have HL : Hid (l.length ≤ 1000) := hid (by omega)
    clear hl
    go_wp2_with (fail)
    refine (cd _ (HS.out.keep B1.out)).mono ?_
    rintro e w2 ⟨rfl, hb2⟩
    clear cd
    obtain ⟨v, n⟩ := D
    have R2 := hid ((((LV.start HT.out).step (bstep (Below.refl _ _) B1.out (Nat.le_refl _))).step hb2).push v (b := w2.heap.size) rfl)
    clear hb2 e1 e1d
    go_wp2_with (fail)
    generalize w2.alloc (.cells (vC v) 24) = W3 at *
    generalize w2.heap.size = bv at *
    go_loopw [7, 8] (fun m i wr => ∃ k : Nat, k ≤ l.length ∧ m = .bool ((l.take k).all chkV) ∧ i = .int .i64 (k : Int) ∧ LV w 0 [(bv, v)] [] wr) (fun _ i _ => l.length - (intOf i).toNat)
    case atStart => exact ⟨0, Nat.zero_le _, rfl, rfl, R2.out⟩
    case round =>
      obtain ⟨k, hk, rfl, rfl, hR⟩ := hrel
      have RR := hid hR
      clear hR
      by_cases hlt : k < l.length
      · have hlt' : (k : Int) < (l.length : Int) := by omega
        have hk0 : (0 : Int) ≤ (k : Int) := by omega
        have HT2 : Hid ((l.take (k + 1)).all chkV = ((l.take k).all chkV && chkV l[k])) := hid (by rw [List.take_succ_eq_append_getElem hlt, List.all_append]; simp)
        obtain ⟨ao', cap', e', _, hv'⟩ := HS.out.keep RR.out.below
        injection e' with e1 _ e2
        subst e1 e2
        obtain ⟨g, of, rfl, hva⟩ := hv'.resolve_left (by omega)
        obtain ⟨y0, y1⟩ := hva k hlt
        have c := check_at l[k]
        clear hva
        generalize l[k] = x at *
        generalize (l.take k).all chkV = m at *
        cases m with
        | true =>
          go_wp2_with (fail)
          refine (c _).mono ?_
          rintro e w4 ⟨rfl, hb4⟩
          have R4 := hid (RR.out.step hb4)
          have HC : Hid ((l.take (k + 1)).all chkV = chkV x) := hid (by rw [HT2.out, Bool.true_and])
          clear hb4 c
          generalize chkV x = q at *
          go_wp2_with (fail)
          go_roundw
          case rel => exact ⟨k + 1, by omega, by rw [HC.out], by go_num, R4.out⟩
          case measure => simp [intOf]; omega
        | false =>
          have HC : Hid ((l.take (k + 1)).all chkV = false) := hid (by rw [HT2.out, Bool.false_and])
          go_wp2_with (fail)
          go_roundw
          case rel => exact ⟨k + 1, by omega, by rw [HC.out], by go_num, RR.out⟩
          case measure => simp [intOf]; omega
      · have hlt' : ¬ (k : Int) < (l.length : Int) := by omega
        obtain rfl : k = l.length := by omega
        rw [List.take_length]
        obtain ⟨y0, y1⟩ := RR.out.cs bv v (by simp)
        rcases DC.out with hd | ⟨hd, ha⟩ | ⟨u, hd, ha, hf⟩
        · injection hd with h1 h2
          subst h1 h2
          clear DC
          generalize l.all chkV = m at *
          go_wp2_with (fail)
          go_ret
          exact ⟨rfl, RR.out.below⟩
        · injection hd with h1 h2
          subst h1 h2
          rw [ha]
          clear DC ha
          go_wp2_with (fail)
          go_ret
          exact ⟨rfl, RR.out.below⟩
        · injection hd with h1 h2
          subst h1 h2
          rw [ha]
          have HF := hid hf
          have ck := check_at v
          rw [hf.1] at ck
          have HX : Hid ((txtB v).toList.isEmpty = false) := hid (by
            rw [ByteArray.toList_eq]
            have := txt_some v hf.1
            cases h : txt v with
            | nil => exact absurd h this
            | cons a t => simp [h])
          clear DC ha hf
          go_wp2_with (fail)
          refine (ck _).mono ?_
          rintro e w5 ⟨rfl, hb5⟩
          have R5 := hid (RR.out.step hb5)
          obtain ⟨z0, z1⟩ := R5.out.cs bv v (by simp)
          clear hb5 ck y0 y1
          go_wp2_with (fail)
          refine (text_at v HF.out.2 _ R5.out.tab).mono ?_
          rintro e w6 ⟨rfl, hb6⟩
          have R6 := hid (R5.out.step hb6)
          have hx := HX.out
          clear hb6 HX z0 z1
          generalize txtB v = X at *
          go_wp2_with (fail)
          go_ret
          exact ⟨rfl, R6.out.below⟩
end Go.Proofs.YtkniacdfhajogaaDoor.Val
