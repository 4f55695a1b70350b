/-
  What an operator makes of any values, as the document has it: the contract of its Do.
-/
import Derived.Test.YtkniacdfhajogaaRFits
namespace Go.Proofs.Ytkniacdfhajogaa.Val
open Go.ChangeShapes Go.WideShapes Go.ChangeAt Go.RowKit Go.Joins
set_option maxHeartbeats 1000000
set_option linter.unusedVariables false
theorem fit_all (last want : Nat) (hw : want ≠ 0) (l : List Vl) (r : List Nat) (h : r = List.replicate l.length want) : fitL last l r = l.all fun v => decide (v.ty = want) := by
  subst h
  induction l with
  | nil => rfl
  | cons v l ih =>
    rw [List.length_cons, List.replicate_succ]
    show (fit1 last v.ty want && fitL last l _) = (decide (v.ty = want) && _)
    rw [ih]
    congr 1
    unfold fit1
    simp [hw]
theorem fit_two (a b : Vl) (ha : chkV a = true) (hb : chkV b = true) : fitL b.ty [a, b] [0, 0] = ((a.ty : Int) == (b.ty : Int)) := by
  have h1 := chk_ty ha
  have h2 := chk_ty hb
  show (fit1 b.ty a.ty 0 && (fit1 b.ty b.ty 0 && true)) = _
  rw [beq_nat]
  unfold fit1
  simp [h1, h2]
theorem fit_three (a b c : Vl) (hb : chkV b = true) (hc : chkV c = true) : fitL c.ty [a, b, c] [2, 0, 0] = (((a.ty : Int) == 2) && ((b.ty : Int) == (c.ty : Int))) := by
  have h1 := chk_ty hb
  have h2 := chk_ty hc
  show (fit1 c.ty a.ty 2 && (fit1 c.ty b.ty 0 && (fit1 c.ty c.ty 0 && true))) = _
  rw [beq_nat, show ((a.ty : Int) == 2) = decide (a.ty = 2) from beq_nat a.ty 2]
  unfold fit1
  simp [h1, h2]
theorem rfit_at (k : Nat) (l : List Vl) (g o cap : Nat) (w : World) (hne : askL k ≠ []) (hl : l.length = (askL k).length) (hc : l.all chkV = true) (hV : VAt w g o l) : Calls Try.prog 15 #[.int .u8 (k : Int), .slice (some ⟨g, o, none⟩) l.length cap] w fun e w' => e = .returned (.bool (fitL (lastT l) l (askL k))) ∧ Below w.heap.size w w' := by
  rw [List.all_eq_true] at hc
  rcases ops_are k with h | rfl | rfl | rfl | rfl | rfl | rfl | rfl | rfl | rfl | rfl | rfl | rfl | rfl | rfl
  · exact absurd (askL_none h) hne
  · have h1 : l.length = 1 := hl
    rw [fit_all _ 1 (by decide) l (askL 4) (by rw [h1]; rfl), h1]; exact rfit4 l g o cap w h1 hV
  · have h1 : l.length = 1 := hl
    rw [fit_all _ 2 (by decide) l (askL 5) (by rw [h1]; rfl), h1]; exact rfit5 l g o cap w h1 hV
  · have h1 : l.length = 2 := hl
    rw [fit_all _ 1 (by decide) l (askL 6) (by rw [h1]; rfl), h1]; exact rfit6 l g o cap w h1 hV
  · have h1 : l.length = 2 := hl
    rw [fit_all _ 1 (by decide) l (askL 7) (by rw [h1]; rfl), h1]; exact rfit7 l g o cap w h1 hV
  · have h1 : l.length = 2 := hl
    rw [fit_all _ 1 (by decide) l (askL 8) (by rw [h1]; rfl), h1]; exact rfit8 l g o cap w h1 hV
  · have h1 : l.length = 2 := hl
    rw [fit_all _ 1 (by decide) l (askL 9) (by rw [h1]; rfl), h1]; exact rfit9 l g o cap w h1 hV
  · have h1 : l.length = 2 := hl
    rw [fit_all _ 1 (by decide) l (askL 10) (by rw [h1]; rfl), h1]; exact rfit10 l g o cap w h1 hV
  · have h1 : l.length = 2 := hl
    match l, h1 with
    | [a, b], _ => rw [show fitL (lastT [a, b]) [a, b] (askL 11) = _ from fit_two a b (hc a (by simp)) (hc b (by simp))]; exact rfit11 a b g o cap w hV
  · have h1 : l.length = 2 := hl
    match l, h1 with
    | [a, b], _ => rw [show fitL (lastT [a, b]) [a, b] (askL 12) = _ from fit_two a b (hc a (by simp)) (hc b (by simp))]; exact rfit12 a b g o cap w hV
  · have h1 : l.length = 2 := hl
    rw [fit_all _ 1 (by decide) l (askL 13) (by rw [h1]; rfl), h1]; exact rfit13 l g o cap w h1 hV
  · have h1 : l.length = 2 := hl
    rw [fit_all _ 1 (by decide) l (askL 14) (by rw [h1]; rfl), h1]; exact rfit14 l g o cap w h1 hV
  · have h1 : l.length = 2 := hl
    rw [fit_all _ 2 (by decide) l (askL 15) (by rw [h1]; rfl), h1]; exact rfit15 l g o cap w h1 hV
  · have h1 : l.length = 2 := hl
    rw [fit_all _ 2 (by decide) l (askL 16) (by rw [h1]; rfl), h1]; exact rfit16 l g o cap w h1 hV
  · have h1 : l.length = 3 := hl
    match l, h1 with
    | [a, b, c], _ => rw [show fitL (lastT [a, b, c]) [a, b, c] (askL 17) = _ from fit_three a b c (hc b (by simp)) (hc c (by simp))]; exact rfit17 a b c g o cap w hV
set_option maxRecDepth 100000 in
theorem rdo4 (l : List Vl) (g o cap : Nat) (w : World) (hl : l.length = 1) (hV : VAt w g o l) : Calls Try.prog 7 #[.int .u8 4, .slice (some ⟨g, o, none⟩) 1 cap] w fun e w' => e = .returned (.tuple #[vV (doV 4 l).1, .int .i64 ((doV 4 l).2 : Int)]) ∧ Below w.heap.size w w' := by
  have HDV := hid (show doV 4 l = if askL 4 = [] ∨ l.length ≠ (askL 4).length ∨ l.all chkV = false then (⟨0, 0⟩, 1) else if fitL (lastT l) l (askL 4) = false then (⟨0, 0⟩, 7) else (wkV 4 l, 0) from rfl)
  have HLA : Hid (l.length = (askL 4).length) := hid hl
  have HNE : Hid (askL 4 ≠ []) := hid (by decide)
  have HL := hid hl
  have HV := hid hV
  have B0 := hid ((Below.refl w.heap.size w).alloc (Nat.le_refl _) (.cells c24 28))
  have X0 := hid (heap_alloc_new w (.cells c24 28))
  have HW : Hid (l.all chkV = true → fitL (lastT l) l (askL 4) = true → doV 4 l = (wkV 4 l, 0)) := hid (fun h1 h2 => by rw [HDV.out, if_neg (fun h => by rcases h with h | h | h; exact HNE.out h; exact h HLA.out; rw [h1] at h; cases h), if_neg (by rw [h2]; simp)])
  have HW7 : Hid (l.all chkV = true → fitL (lastT l) l (askL 4) = false → doV 4 l = (⟨0, 0⟩, 7)) := hid (fun h1 h2 => by rw [HDV.out, if_neg (fun h => by rcases h with h | h | h; exact HNE.out h; exact h HLA.out; rw [h1] at h; cases h), if_pos h2])
  have HW1 : Hid (l.all chkV = false → doV 4 l = (⟨0, 0⟩, 1)) := hid (fun h1 => by rw [HDV.out, if_pos (.inr (.inr h1))])
  clear hV hl HDV
  generalize doV 4 l = D at *
  go_enter Try.func7, Try.ntmps7
  go_wp2_with (fail)
  refine (many4 _).mono ?_
  rintro e w1 ⟨rfl, rfl⟩
  go_wp2_with (fail)
  refine (many4 _).mono ?_
  rintro e w1 ⟨rfl, rfl⟩
  go_wp2_with (fail)
  generalize w.alloc (.cells c24 28) = W1 at *
  go_loopw [6] (fun i wr => ∃ k : Nat, k ≤ 1 ∧ i = .int .i64 (k : Int) ∧ Hid ((l.take k).all chkV = true) ∧ Hid (Below w.heap.size w wr) ∧ Hid (wr.heap[w.heap.size]? = some (.cells c24 28 (0, 0)))) (fun i _ => 1 - (intOf i).toNat)
  case atStart => exact ⟨0, Nat.zero_le _, rfl, hid rfl, B0, X0⟩
  case round =>
    obtain ⟨k, hk, rfl, HA, BE, XE⟩ := hrel
    by_cases hlt : k < 1
    · have hlt' : (k : Int) < 1 := by omega
      have hk0 : (0 : Int) ≤ (k : Int) := by omega
      have hkl : k < l.length := by rw [HL.out]; exact hlt
      obtain ⟨y0, y1⟩ := (HV.out.keep BE.out) k hkl
      have c := rcheck_at l[k]
      have HT : Hid ((l.take (k + 1)).all chkV = chkV l[k]) := hid (by rw [List.take_succ_eq_append_getElem hkl, List.all_append, HA.out]; simp)
      have HM : Hid (chkV l[k] = false → l.all chkV = false) := hid (fun h => by rw [List.all_eq_false]; exact ⟨l[k], List.getElem_mem hkl, by rw [h]; simp⟩)
      generalize l[k] = v at *
      clear hkl
      go_wp2_with (fail)
      refine (c _).mono ?_
      rintro e w2 ⟨rfl, hb2⟩
      have B2 := hid (bstep BE.out hb2 BE.out.size)
      have X2 := hid (keep_row XE.out hb2)
      clear hb2 c
      cases hck : chkV v with
      | true =>
        have HC := hid hck
        clear hck
        go_wp2_with (fail)
        go_roundw
        case rel => exact ⟨k + 1, by omega, by go_num, hid (by rw [HT.out, HC.out]), B2, X2⟩
        case measure => simp [intOf]; omega
      | false =>
        have HD : Hid (D = (⟨0, 0⟩, 1)) := hid (HW1.out (HM.out hck))
        have x2 := X2.out
        clear hck
        go_wp2_with (refine wpList_store_row rfl 28 _ _ rfl w.heap.size #[.int .u8 0, .int .i64 0] rfl rfl 28 _ x2 info24 rfl (by simp [Value.oneCell']) ?_)
        exact bodyPost_ret (results_row_tmp rfl _ _ w.heap.size _ _ rfl (setRow_heap _ _ _ _ _ _ x2)) rfl ⟨by rw [HD.out]; rfl, below_row B2.out B2.out.size (Nat.le_refl _) _⟩
    · have hlt' : ¬ (k : Int) < 1 := by omega
      have HE : Hid (l.all chkV = true) := hid (by have h := HA.out; rw [List.take_of_length_le (by rw [HL.out]; omega)] at h; exact h)
      have cf := rfit_at 4 l g o cap wr HNE.out HLA.out HE.out (HV.out.keep BE.out)
      rw [HL.out] at cf
      go_wp2_with (fail)
      refine cf.mono ?_
      rintro e w3 ⟨rfl, hb3⟩
      have B3 := hid (bstep BE.out hb3 BE.out.size)
      have X3 := hid (keep_row XE.out hb3)
      clear hb3 cf
      cases hfi : fitL (lastT l) l (askL 4) with
      | false =>
        have HD := hid (HW7.out HE.out hfi)
        have x3 := X3.out
        clear hfi
        go_wp2_with (refine wpList_store_row rfl 28 _ _ rfl w.heap.size #[.int .u8 0, .int .i64 0] rfl rfl 28 _ x3 info24 rfl (by simp [Value.oneCell']) ?_)
        exact bodyPost_ret (results_row_tmp rfl _ _ w.heap.size _ _ rfl (setRow_heap _ _ _ _ _ _ x3)) rfl ⟨by rw [HD.out]; rfl, below_row B3.out B3.out.size (Nat.le_refl _) _⟩
      | true =>
        have HD0 := hid (HW.out HE.out hfi)
        have VV := hid (HV.out.keep B3.out)
        clear hfi HW HW7 HW1 HV HE HA HLA HNE
        obtain ⟨a, rfl⟩ : ∃ a, l = [a] := by
          match l, HL.out with
          | [a], _ => exact ⟨a, rfl⟩
        have y0 := (VV.out 0 (by simp)).2
        rw [Nat.zero_mul, Nat.add_zero] at y0
        have yl := (VV.out 0 (by simp)).2
        simp only [List.getElem_cons_zero] at y0 yl
        have HD : Hid (D = (numV (wrap64 (-a.n)), 0)) := hid (HD0.out.trans (rfl))
        clear HD0
        go_wp2_with (fail)
        refine (rnumber_at _ _).mono ?_
        rintro e w4 ⟨rfl, hb4⟩
        have B4 := hid (bstep B3.out hb4 B3.out.size)
        have x4 := keep_row X3.out hb4
        clear hb4
        go_wp2_with (refine wpList_store_row rfl 28 _ _ rfl w.heap.size (vC (numV (wrap64 (-a.n)))) rfl rfl 28 _ x4 info24 rfl (by simp [Value.oneCell']) ?_)
        exact bodyPost_ret (results_row_tmp rfl _ _ w.heap.size _ _ rfl (setRow_heap _ _ _ _ _ _ x4)) rfl ⟨by rw [HD.out]; rfl, below_row B4.out B4.out.size (Nat.le_refl _) _⟩
set_option maxRecDepth 100000 in
theorem rdo5 (l : List Vl) (g o cap : Nat) (w : World) (hl : l.length = 1) (hV : VAt w g o l) : Calls Try.prog 7 #[.int .u8 5, .slice (some ⟨g, o, none⟩) 1 cap] w fun e w' => e = .returned (.tuple #[vV (doV 5 l).1, .int .i64 ((doV 5 l).2 : Int)]) ∧ Below w.heap.size w w' := by
  have HDV := hid (show doV 5 l = if askL 5 = [] ∨ l.length ≠ (askL 5).length ∨ l.all chkV = false then (⟨0, 0⟩, 1) else if fitL (lastT l) l (askL 5) = false then (⟨0, 0⟩, 7) else (wkV 5 l, 0) from rfl)
  have HLA : Hid (l.length = (askL 5).length) := hid hl
  have HNE : Hid (askL 5 ≠ []) := hid (by decide)
  have HL := hid hl
  have HV := hid hV
  have B0 := hid ((Below.refl w.heap.size w).alloc (Nat.le_refl _) (.cells c24 28))
  have X0 := hid (heap_alloc_new w (.cells c24 28))
  have HW : Hid (l.all chkV = true → fitL (lastT l) l (askL 5) = true → doV 5 l = (wkV 5 l, 0)) := hid (fun h1 h2 => by rw [HDV.out, if_neg (fun h => by rcases h with h | h | h; exact HNE.out h; exact h HLA.out; rw [h1] at h; cases h), if_neg (by rw [h2]; simp)])
  have HW7 : Hid (l.all chkV = true → fitL (lastT l) l (askL 5) = false → doV 5 l = (⟨0, 0⟩, 7)) := hid (fun h1 h2 => by rw [HDV.out, if_neg (fun h => by rcases h with h | h | h; exact HNE.out h; exact h HLA.out; rw [h1] at h; cases h), if_pos h2])
  have HW1 : Hid (l.all chkV = false → doV 5 l = (⟨0, 0⟩, 1)) := hid (fun h1 => by rw [HDV.out, if_pos (.inr (.inr h1))])
  clear hV hl HDV
  generalize doV 5 l = D at *
  go_enter Try.func7, Try.ntmps7
  go_wp2_with (fail)
  refine (many5 _).mono ?_
  rintro e w1 ⟨rfl, rfl⟩
  go_wp2_with (fail)
  refine (many5 _).mono ?_
  rintro e w1 ⟨rfl, rfl⟩
  go_wp2_with (fail)
  generalize w.alloc (.cells c24 28) = W1 at *
  go_loopw [6] (fun i wr => ∃ k : Nat, k ≤ 1 ∧ i = .int .i64 (k : Int) ∧ Hid ((l.take k).all chkV = true) ∧ Hid (Below w.heap.size w wr) ∧ Hid (wr.heap[w.heap.size]? = some (.cells c24 28 (0, 0)))) (fun i _ => 1 - (intOf i).toNat)
  case atStart => exact ⟨0, Nat.zero_le _, rfl, hid rfl, B0, X0⟩
  case round =>
    obtain ⟨k, hk, rfl, HA, BE, XE⟩ := hrel
    by_cases hlt : k < 1
    · have hlt' : (k : Int) < 1 := by omega
      have hk0 : (0 : Int) ≤ (k : Int) := by omega
      have hkl : k < l.length := by rw [HL.out]; exact hlt
      obtain ⟨y0, y1⟩ := (HV.out.keep BE.out) k hkl
      have c := rcheck_at l[k]
      have HT : Hid ((l.take (k + 1)).all chkV = chkV l[k]) := hid (by rw [List.take_succ_eq_append_getElem hkl, List.all_append, HA.out]; simp)
      have HM : Hid (chkV l[k] = false → l.all chkV = false) := hid (fun h => by rw [List.all_eq_false]; exact ⟨l[k], List.getElem_mem hkl, by rw [h]; simp⟩)
      generalize l[k] = v at *
      clear hkl
      go_wp2_with (fail)
      refine (c _).mono ?_
      rintro e w2 ⟨rfl, hb2⟩
      have B2 := hid (bstep BE.out hb2 BE.out.size)
      have X2 := hid (keep_row XE.out hb2)
      clear hb2 c
      cases hck : chkV v with
      | true =>
        have HC := hid hck
        clear hck
        go_wp2_with (fail)
        go_roundw
        case rel => exact ⟨k + 1, by omega, by go_num, hid (by rw [HT.out, HC.out]), B2, X2⟩
        case measure => simp [intOf]; omega
      | false =>
        have HD : Hid (D = (⟨0, 0⟩, 1)) := hid (HW1.out (HM.out hck))
        have x2 := X2.out
        clear hck
        go_wp2_with (refine wpList_store_row rfl 28 _ _ rfl w.heap.size #[.int .u8 0, .int .i64 0] rfl rfl 28 _ x2 info24 rfl (by simp [Value.oneCell']) ?_)
        exact bodyPost_ret (results_row_tmp rfl _ _ w.heap.size _ _ rfl (setRow_heap _ _ _ _ _ _ x2)) rfl ⟨by rw [HD.out]; rfl, below_row B2.out B2.out.size (Nat.le_refl _) _⟩
    · have hlt' : ¬ (k : Int) < 1 := by omega
      have HE : Hid (l.all chkV = true) := hid (by have h := HA.out; rw [List.take_of_length_le (by rw [HL.out]; omega)] at h; exact h)
      have cf := rfit_at 5 l g o cap wr HNE.out HLA.out HE.out (HV.out.keep BE.out)
      rw [HL.out] at cf
      go_wp2_with (fail)
      refine cf.mono ?_
      rintro e w3 ⟨rfl, hb3⟩
      have B3 := hid (bstep BE.out hb3 BE.out.size)
      have X3 := hid (keep_row XE.out hb3)
      clear hb3 cf
      cases hfi : fitL (lastT l) l (askL 5) with
      | false =>
        have HD := hid (HW7.out HE.out hfi)
        have x3 := X3.out
        clear hfi
        go_wp2_with (refine wpList_store_row rfl 28 _ _ rfl w.heap.size #[.int .u8 0, .int .i64 0] rfl rfl 28 _ x3 info24 rfl (by simp [Value.oneCell']) ?_)
        exact bodyPost_ret (results_row_tmp rfl _ _ w.heap.size _ _ rfl (setRow_heap _ _ _ _ _ _ x3)) rfl ⟨by rw [HD.out]; rfl, below_row B3.out B3.out.size (Nat.le_refl _) _⟩
      | true =>
        have HD0 := hid (HW.out HE.out hfi)
        have VV := hid (HV.out.keep B3.out)
        clear hfi HW HW7 HW1 HV HE HA HLA HNE
        obtain ⟨a, rfl⟩ : ∃ a, l = [a] := by
          match l, HL.out with
          | [a], _ => exact ⟨a, rfl⟩
        have y0 := (VV.out 0 (by simp)).2
        rw [Nat.zero_mul, Nat.add_zero] at y0
        have yl := (VV.out 0 (by simp)).2
        simp only [List.getElem_cons_zero] at y0 yl
        have HD : Hid (D = (yesV (a.n == 0), 0)) := hid (HD0.out.trans (by show (yesV (decide (a.n = 0)), 0) = _; congr 2))
        clear HD0
        go_wp2_with (fail)
        refine (ryes_at _ _).mono ?_
        rintro e w4 ⟨rfl, hb4⟩
        have B4 := hid (bstep B3.out hb4 B3.out.size)
        have x4 := keep_row X3.out hb4
        clear hb4
        go_wp2_with (refine wpList_store_row rfl 28 _ _ rfl w.heap.size (vC (yesV (a.n == 0))) rfl rfl 28 _ x4 info24 rfl (by simp [Value.oneCell']) ?_)
        exact bodyPost_ret (results_row_tmp rfl _ _ w.heap.size _ _ rfl (setRow_heap _ _ _ _ _ _ x4)) rfl ⟨by rw [HD.out]; rfl, below_row B4.out B4.out.size (Nat.le_refl _) _⟩
set_option maxRecDepth 100000 in
theorem rdo6 (l : List Vl) (g o cap : Nat) (w : World) (hl : l.length = 2) (hV : VAt w g o l) : Calls Try.prog 7 #[.int .u8 6, .slice (some ⟨g, o, none⟩) 2 cap] w fun e w' => e = .returned (.tuple #[vV (doV 6 l).1, .int .i64 ((doV 6 l).2 : Int)]) ∧ Below w.heap.size w w' := by
  have HDV := hid (show doV 6 l = if askL 6 = [] ∨ l.length ≠ (askL 6).length ∨ l.all chkV = false then (⟨0, 0⟩, 1) else if fitL (lastT l) l (askL 6) = false then (⟨0, 0⟩, 7) else (wkV 6 l, 0) from rfl)
  have HLA : Hid (l.length = (askL 6).length) := hid hl
  have HNE : Hid (askL 6 ≠ []) := hid (by decide)
  have HL := hid hl
  have HV := hid hV
  have B0 := hid ((Below.refl w.heap.size w).alloc (Nat.le_refl _) (.cells c24 28))
  have X0 := hid (heap_alloc_new w (.cells c24 28))
  have HW : Hid (l.all chkV = true → fitL (lastT l) l (askL 6) = true → doV 6 l = (wkV 6 l, 0)) := hid (fun h1 h2 => by rw [HDV.out, if_neg (fun h => by rcases h with h | h | h; exact HNE.out h; exact h HLA.out; rw [h1] at h; cases h), if_neg (by rw [h2]; simp)])
  have HW7 : Hid (l.all chkV = true → fitL (lastT l) l (askL 6) = false → doV 6 l = (⟨0, 0⟩, 7)) := hid (fun h1 h2 => by rw [HDV.out, if_neg (fun h => by rcases h with h | h | h; exact HNE.out h; exact h HLA.out; rw [h1] at h; cases h), if_pos h2])
  have HW1 : Hid (l.all chkV = false → doV 6 l = (⟨0, 0⟩, 1)) := hid (fun h1 => by rw [HDV.out, if_pos (.inr (.inr h1))])
  clear hV hl HDV
  generalize doV 6 l = D at *
  go_enter Try.func7, Try.ntmps7
  go_wp2_with (fail)
  refine (many6 _).mono ?_
  rintro e w1 ⟨rfl, rfl⟩
  go_wp2_with (fail)
  refine (many6 _).mono ?_
  rintro e w1 ⟨rfl, rfl⟩
  go_wp2_with (fail)
  generalize w.alloc (.cells c24 28) = W1 at *
  go_loopw [6] (fun i wr => ∃ k : Nat, k ≤ 2 ∧ i = .int .i64 (k : Int) ∧ Hid ((l.take k).all chkV = true) ∧ Hid (Below w.heap.size w wr) ∧ Hid (wr.heap[w.heap.size]? = some (.cells c24 28 (0, 0)))) (fun i _ => 2 - (intOf i).toNat)
  case atStart => exact ⟨0, Nat.zero_le _, rfl, hid rfl, B0, X0⟩
  case round =>
    obtain ⟨k, hk, rfl, HA, BE, XE⟩ := hrel
    by_cases hlt : k < 2
    · have hlt' : (k : Int) < 2 := by omega
      have hk0 : (0 : Int) ≤ (k : Int) := by omega
      have hkl : k < l.length := by rw [HL.out]; exact hlt
      obtain ⟨y0, y1⟩ := (HV.out.keep BE.out) k hkl
      have c := rcheck_at l[k]
      have HT : Hid ((l.take (k + 1)).all chkV = chkV l[k]) := hid (by rw [List.take_succ_eq_append_getElem hkl, List.all_append, HA.out]; simp)
      have HM : Hid (chkV l[k] = false → l.all chkV = false) := hid (fun h => by rw [List.all_eq_false]; exact ⟨l[k], List.getElem_mem hkl, by rw [h]; simp⟩)
      generalize l[k] = v at *
      clear hkl
      go_wp2_with (fail)
      refine (c _).mono ?_
      rintro e w2 ⟨rfl, hb2⟩
      have B2 := hid (bstep BE.out hb2 BE.out.size)
      have X2 := hid (keep_row XE.out hb2)
      clear hb2 c
      cases hck : chkV v with
      | true =>
        have HC := hid hck
        clear hck
        go_wp2_with (fail)
        go_roundw
        case rel => exact ⟨k + 1, by omega, by go_num, hid (by rw [HT.out, HC.out]), B2, X2⟩
        case measure => simp [intOf]; omega
      | false =>
        have HD : Hid (D = (⟨0, 0⟩, 1)) := hid (HW1.out (HM.out hck))
        have x2 := X2.out
        clear hck
        go_wp2_with (refine wpList_store_row rfl 28 _ _ rfl w.heap.size #[.int .u8 0, .int .i64 0] rfl rfl 28 _ x2 info24 rfl (by simp [Value.oneCell']) ?_)
        exact bodyPost_ret (results_row_tmp rfl _ _ w.heap.size _ _ rfl (setRow_heap _ _ _ _ _ _ x2)) rfl ⟨by rw [HD.out]; rfl, below_row B2.out B2.out.size (Nat.le_refl _) _⟩
    · have hlt' : ¬ (k : Int) < 2 := by omega
      have HE : Hid (l.all chkV = true) := hid (by have h := HA.out; rw [List.take_of_length_le (by rw [HL.out]; omega)] at h; exact h)
      have cf := rfit_at 6 l g o cap wr HNE.out HLA.out HE.out (HV.out.keep BE.out)
      rw [HL.out] at cf
      go_wp2_with (fail)
      refine cf.mono ?_
      rintro e w3 ⟨rfl, hb3⟩
      have B3 := hid (bstep BE.out hb3 BE.out.size)
      have X3 := hid (keep_row XE.out hb3)
      clear hb3 cf
      cases hfi : fitL (lastT l) l (askL 6) with
      | false =>
        have HD := hid (HW7.out HE.out hfi)
        have x3 := X3.out
        clear hfi
        go_wp2_with (refine wpList_store_row rfl 28 _ _ rfl w.heap.size #[.int .u8 0, .int .i64 0] rfl rfl 28 _ x3 info24 rfl (by simp [Value.oneCell']) ?_)
        exact bodyPost_ret (results_row_tmp rfl _ _ w.heap.size _ _ rfl (setRow_heap _ _ _ _ _ _ x3)) rfl ⟨by rw [HD.out]; rfl, below_row B3.out B3.out.size (Nat.le_refl _) _⟩
      | true =>
        have HD0 := hid (HW.out HE.out hfi)
        have VV := hid (HV.out.keep B3.out)
        clear hfi HW HW7 HW1 HV HE HA HLA HNE
        obtain ⟨a, b, rfl⟩ : ∃ a b, l = [a, b] := by
          match l, HL.out with
          | [a, b], _ => exact ⟨a, b, rfl⟩
        have y0 := (VV.out 0 (by simp)).2
        rw [Nat.zero_mul, Nat.add_zero] at y0
        have yl := (VV.out 1 (by simp)).2
        simp only [List.getElem_cons_zero, List.getElem_cons_succ] at y0 yl
        have HD : Hid (D = (numV (wrap64 (a.n + b.n)), 0)) := hid (HD0.out.trans (rfl))
        clear HD0
        go_wp2_with (fail)
        refine (rnumber_at _ _).mono ?_
        rintro e w4 ⟨rfl, hb4⟩
        have B4 := hid (bstep B3.out hb4 B3.out.size)
        have x4 := keep_row X3.out hb4
        clear hb4
        go_wp2_with (refine wpList_store_row rfl 28 _ _ rfl w.heap.size (vC (numV (wrap64 (a.n + b.n)))) rfl rfl 28 _ x4 info24 rfl (by simp [Value.oneCell']) ?_)
        exact bodyPost_ret (results_row_tmp rfl _ _ w.heap.size _ _ rfl (setRow_heap _ _ _ _ _ _ x4)) rfl ⟨by rw [HD.out]; rfl, below_row B4.out B4.out.size (Nat.le_refl _) _⟩
set_option maxRecDepth 100000 in
theorem rdo7 (l : List Vl) (g o cap : Nat) (w : World) (hl : l.length = 2) (hV : VAt w g o l) : Calls Try.prog 7 #[.int .u8 7, .slice (some ⟨g, o, none⟩) 2 cap] w fun e w' => e = .returned (.tuple #[vV (doV 7 l).1, .int .i64 ((doV 7 l).2 : Int)]) ∧ Below w.heap.size w w' := by
  have HDV := hid (show doV 7 l = if askL 7 = [] ∨ l.length ≠ (askL 7).length ∨ l.all chkV = false then (⟨0, 0⟩, 1) else if fitL (lastT l) l (askL 7) = false then (⟨0, 0⟩, 7) else (wkV 7 l, 0) from rfl)
  have HLA : Hid (l.length = (askL 7).length) := hid hl
  have HNE : Hid (askL 7 ≠ []) := hid (by decide)
  have HL := hid hl
  have HV := hid hV
  have B0 := hid ((Below.refl w.heap.size w).alloc (Nat.le_refl _) (.cells c24 28))
  have X0 := hid (heap_alloc_new w (.cells c24 28))
  have HW : Hid (l.all chkV = true → fitL (lastT l) l (askL 7) = true → doV 7 l = (wkV 7 l, 0)) := hid (fun h1 h2 => by rw [HDV.out, if_neg (fun h => by rcases h with h | h | h; exact HNE.out h; exact h HLA.out; rw [h1] at h; cases h), if_neg (by rw [h2]; simp)])
  have HW7 : Hid (l.all chkV = true → fitL (lastT l) l (askL 7) = false → doV 7 l = (⟨0, 0⟩, 7)) := hid (fun h1 h2 => by rw [HDV.out, if_neg (fun h => by rcases h with h | h | h; exact HNE.out h; exact h HLA.out; rw [h1] at h; cases h), if_pos h2])
  have HW1 : Hid (l.all chkV = false → doV 7 l = (⟨0, 0⟩, 1)) := hid (fun h1 => by rw [HDV.out, if_pos (.inr (.inr h1))])
  clear hV hl HDV
  generalize doV 7 l = D at *
  go_enter Try.func7, Try.ntmps7
  go_wp2_with (fail)
  refine (many7 _).mono ?_
  rintro e w1 ⟨rfl, rfl⟩
  go_wp2_with (fail)
  refine (many7 _).mono ?_
  rintro e w1 ⟨rfl, rfl⟩
  go_wp2_with (fail)
  generalize w.alloc (.cells c24 28) = W1 at *
  go_loopw [6] (fun i wr => ∃ k : Nat, k ≤ 2 ∧ i = .int .i64 (k : Int) ∧ Hid ((l.take k).all chkV = true) ∧ Hid (Below w.heap.size w wr) ∧ Hid (wr.heap[w.heap.size]? = some (.cells c24 28 (0, 0)))) (fun i _ => 2 - (intOf i).toNat)
  case atStart => exact ⟨0, Nat.zero_le _, rfl, hid rfl, B0, X0⟩
  case round =>
    obtain ⟨k, hk, rfl, HA, BE, XE⟩ := hrel
    by_cases hlt : k < 2
    · have hlt' : (k : Int) < 2 := by omega
      have hk0 : (0 : Int) ≤ (k : Int) := by omega
      have hkl : k < l.length := by rw [HL.out]; exact hlt
      obtain ⟨y0, y1⟩ := (HV.out.keep BE.out) k hkl
      have c := rcheck_at l[k]
      have HT : Hid ((l.take (k + 1)).all chkV = chkV l[k]) := hid (by rw [List.take_succ_eq_append_getElem hkl, List.all_append, HA.out]; simp)
      have HM : Hid (chkV l[k] = false → l.all chkV = false) := hid (fun h => by rw [List.all_eq_false]; exact ⟨l[k], List.getElem_mem hkl, by rw [h]; simp⟩)
      generalize l[k] = v at *
      clear hkl
      go_wp2_with (fail)
      refine (c _).mono ?_
      rintro e w2 ⟨rfl, hb2⟩
      have B2 := hid (bstep BE.out hb2 BE.out.size)
      have X2 := hid (keep_row XE.out hb2)
      clear hb2 c
      cases hck : chkV v with
      | true =>
        have HC := hid hck
        clear hck
        go_wp2_with (fail)
        go_roundw
        case rel => exact ⟨k + 1, by omega, by go_num, hid (by rw [HT.out, HC.out]), B2, X2⟩
        case measure => simp [intOf]; omega
      | false =>
        have HD : Hid (D = (⟨0, 0⟩, 1)) := hid (HW1.out (HM.out hck))
        have x2 := X2.out
        clear hck
        go_wp2_with (refine wpList_store_row rfl 28 _ _ rfl w.heap.size #[.int .u8 0, .int .i64 0] rfl rfl 28 _ x2 info24 rfl (by simp [Value.oneCell']) ?_)
        exact bodyPost_ret (results_row_tmp rfl _ _ w.heap.size _ _ rfl (setRow_heap _ _ _ _ _ _ x2)) rfl ⟨by rw [HD.out]; rfl, below_row B2.out B2.out.size (Nat.le_refl _) _⟩
    · have hlt' : ¬ (k : Int) < 2 := by omega
      have HE : Hid (l.all chkV = true) := hid (by have h := HA.out; rw [List.take_of_length_le (by rw [HL.out]; omega)] at h; exact h)
      have cf := rfit_at 7 l g o cap wr HNE.out HLA.out HE.out (HV.out.keep BE.out)
      rw [HL.out] at cf
      go_wp2_with (fail)
      refine cf.mono ?_
      rintro e w3 ⟨rfl, hb3⟩
      have B3 := hid (bstep BE.out hb3 BE.out.size)
      have X3 := hid (keep_row XE.out hb3)
      clear hb3 cf
      cases hfi : fitL (lastT l) l (askL 7) with
      | false =>
        have HD := hid (HW7.out HE.out hfi)
        have x3 := X3.out
        clear hfi
        go_wp2_with (refine wpList_store_row rfl 28 _ _ rfl w.heap.size #[.int .u8 0, .int .i64 0] rfl rfl 28 _ x3 info24 rfl (by simp [Value.oneCell']) ?_)
        exact bodyPost_ret (results_row_tmp rfl _ _ w.heap.size _ _ rfl (setRow_heap _ _ _ _ _ _ x3)) rfl ⟨by rw [HD.out]; rfl, below_row B3.out B3.out.size (Nat.le_refl _) _⟩
      | true =>
        have HD0 := hid (HW.out HE.out hfi)
        have VV := hid (HV.out.keep B3.out)
        clear hfi HW HW7 HW1 HV HE HA HLA HNE
        obtain ⟨a, b, rfl⟩ : ∃ a b, l = [a, b] := by
          match l, HL.out with
          | [a, b], _ => exact ⟨a, b, rfl⟩
        have y0 := (VV.out 0 (by simp)).2
        rw [Nat.zero_mul, Nat.add_zero] at y0
        have yl := (VV.out 1 (by simp)).2
        simp only [List.getElem_cons_zero, List.getElem_cons_succ] at y0 yl
        have HD : Hid (D = (numV (wrap64 (a.n - b.n)), 0)) := hid (HD0.out.trans (rfl))
        clear HD0
        go_wp2_with (fail)
        refine (rnumber_at _ _).mono ?_
        rintro e w4 ⟨rfl, hb4⟩
        have B4 := hid (bstep B3.out hb4 B3.out.size)
        have x4 := keep_row X3.out hb4
        clear hb4
        go_wp2_with (refine wpList_store_row rfl 28 _ _ rfl w.heap.size (vC (numV (wrap64 (a.n - b.n)))) rfl rfl 28 _ x4 info24 rfl (by simp [Value.oneCell']) ?_)
        exact bodyPost_ret (results_row_tmp rfl _ _ w.heap.size _ _ rfl (setRow_heap _ _ _ _ _ _ x4)) rfl ⟨by rw [HD.out]; rfl, below_row B4.out B4.out.size (Nat.le_refl _) _⟩
set_option maxRecDepth 100000 in
theorem rdo8 (l : List Vl) (g o cap : Nat) (w : World) (hl : l.length = 2) (hV : VAt w g o l) : Calls Try.prog 7 #[.int .u8 8, .slice (some ⟨g, o, none⟩) 2 cap] w fun e w' => e = .returned (.tuple #[vV (doV 8 l).1, .int .i64 ((doV 8 l).2 : Int)]) ∧ Below w.heap.size w w' := by
  have HDV := hid (show doV 8 l = if askL 8 = [] ∨ l.length ≠ (askL 8).length ∨ l.all chkV = false then (⟨0, 0⟩, 1) else if fitL (lastT l) l (askL 8) = false then (⟨0, 0⟩, 7) else (wkV 8 l, 0) from rfl)
  have HLA : Hid (l.length = (askL 8).length) := hid hl
  have HNE : Hid (askL 8 ≠ []) := hid (by decide)
  have HL := hid hl
  have HV := hid hV
  have B0 := hid ((Below.refl w.heap.size w).alloc (Nat.le_refl _) (.cells c24 28))
  have X0 := hid (heap_alloc_new w (.cells c24 28))
  have HW : Hid (l.all chkV = true → fitL (lastT l) l (askL 8) = true → doV 8 l = (wkV 8 l, 0)) := hid (fun h1 h2 => by rw [HDV.out, if_neg (fun h => by rcases h with h | h | h; exact HNE.out h; exact h HLA.out; rw [h1] at h; cases h), if_neg (by rw [h2]; simp)])
  have HW7 : Hid (l.all chkV = true → fitL (lastT l) l (askL 8) = false → doV 8 l = (⟨0, 0⟩, 7)) := hid (fun h1 h2 => by rw [HDV.out, if_neg (fun h => by rcases h with h | h | h; exact HNE.out h; exact h HLA.out; rw [h1] at h; cases h), if_pos h2])
  have HW1 : Hid (l.all chkV = false → doV 8 l = (⟨0, 0⟩, 1)) := hid (fun h1 => by rw [HDV.out, if_pos (.inr (.inr h1))])
  clear hV hl HDV
  generalize doV 8 l = D at *
  go_enter Try.func7, Try.ntmps7
  go_wp2_with (fail)
  refine (many8 _).mono ?_
  rintro e w1 ⟨rfl, rfl⟩
  go_wp2_with (fail)
  refine (many8 _).mono ?_
  rintro e w1 ⟨rfl, rfl⟩
  go_wp2_with (fail)
  generalize w.alloc (.cells c24 28) = W1 at *
  go_loopw [6] (fun i wr => ∃ k : Nat, k ≤ 2 ∧ i = .int .i64 (k : Int) ∧ Hid ((l.take k).all chkV = true) ∧ Hid (Below w.heap.size w wr) ∧ Hid (wr.heap[w.heap.size]? = some (.cells c24 28 (0, 0)))) (fun i _ => 2 - (intOf i).toNat)
  case atStart => exact ⟨0, Nat.zero_le _, rfl, hid rfl, B0, X0⟩
  case round =>
    obtain ⟨k, hk, rfl, HA, BE, XE⟩ := hrel
    by_cases hlt : k < 2
    · have hlt' : (k : Int) < 2 := by omega
      have hk0 : (0 : Int) ≤ (k : Int) := by omega
      have hkl : k < l.length := by rw [HL.out]; exact hlt
      obtain ⟨y0, y1⟩ := (HV.out.keep BE.out) k hkl
      have c := rcheck_at l[k]
      have HT : Hid ((l.take (k + 1)).all chkV = chkV l[k]) := hid (by rw [List.take_succ_eq_append_getElem hkl, List.all_append, HA.out]; simp)
      have HM : Hid (chkV l[k] = false → l.all chkV = false) := hid (fun h => by rw [List.all_eq_false]; exact ⟨l[k], List.getElem_mem hkl, by rw [h]; simp⟩)
      generalize l[k] = v at *
      clear hkl
      go_wp2_with (fail)
      refine (c _).mono ?_
      rintro e w2 ⟨rfl, hb2⟩
      have B2 := hid (bstep BE.out hb2 BE.out.size)
      have X2 := hid (keep_row XE.out hb2)
      clear hb2 c
      cases hck : chkV v with
      | true =>
        have HC := hid hck
        clear hck
        go_wp2_with (fail)
        go_roundw
        case rel => exact ⟨k + 1, by omega, by go_num, hid (by rw [HT.out, HC.out]), B2, X2⟩
        case measure => simp [intOf]; omega
      | false =>
        have HD : Hid (D = (⟨0, 0⟩, 1)) := hid (HW1.out (HM.out hck))
        have x2 := X2.out
        clear hck
        go_wp2_with (refine wpList_store_row rfl 28 _ _ rfl w.heap.size #[.int .u8 0, .int .i64 0] rfl rfl 28 _ x2 info24 rfl (by simp [Value.oneCell']) ?_)
        exact bodyPost_ret (results_row_tmp rfl _ _ w.heap.size _ _ rfl (setRow_heap _ _ _ _ _ _ x2)) rfl ⟨by rw [HD.out]; rfl, below_row B2.out B2.out.size (Nat.le_refl _) _⟩
    · have hlt' : ¬ (k : Int) < 2 := by omega
      have HE : Hid (l.all chkV = true) := hid (by have h := HA.out; rw [List.take_of_length_le (by rw [HL.out]; omega)] at h; exact h)
      have cf := rfit_at 8 l g o cap wr HNE.out HLA.out HE.out (HV.out.keep BE.out)
      rw [HL.out] at cf
      go_wp2_with (fail)
      refine cf.mono ?_
      rintro e w3 ⟨rfl, hb3⟩
      have B3 := hid (bstep BE.out hb3 BE.out.size)
      have X3 := hid (keep_row XE.out hb3)
      clear hb3 cf
      cases hfi : fitL (lastT l) l (askL 8) with
      | false =>
        have HD := hid (HW7.out HE.out hfi)
        have x3 := X3.out
        clear hfi
        go_wp2_with (refine wpList_store_row rfl 28 _ _ rfl w.heap.size #[.int .u8 0, .int .i64 0] rfl rfl 28 _ x3 info24 rfl (by simp [Value.oneCell']) ?_)
        exact bodyPost_ret (results_row_tmp rfl _ _ w.heap.size _ _ rfl (setRow_heap _ _ _ _ _ _ x3)) rfl ⟨by rw [HD.out]; rfl, below_row B3.out B3.out.size (Nat.le_refl _) _⟩
      | true =>
        have HD0 := hid (HW.out HE.out hfi)
        have VV := hid (HV.out.keep B3.out)
        clear hfi HW HW7 HW1 HV HE HA HLA HNE
        obtain ⟨a, b, rfl⟩ : ∃ a b, l = [a, b] := by
          match l, HL.out with
          | [a, b], _ => exact ⟨a, b, rfl⟩
        have y0 := (VV.out 0 (by simp)).2
        rw [Nat.zero_mul, Nat.add_zero] at y0
        have yl := (VV.out 1 (by simp)).2
        simp only [List.getElem_cons_zero, List.getElem_cons_succ] at y0 yl
        have HD : Hid (D = (numV (wrap64 (a.n * b.n)), 0)) := hid (HD0.out.trans (rfl))
        clear HD0
        go_wp2_with (fail)
        refine (rnumber_at _ _).mono ?_
        rintro e w4 ⟨rfl, hb4⟩
        have B4 := hid (bstep B3.out hb4 B3.out.size)
        have x4 := keep_row X3.out hb4
        clear hb4
        go_wp2_with (refine wpList_store_row rfl 28 _ _ rfl w.heap.size (vC (numV (wrap64 (a.n * b.n)))) rfl rfl 28 _ x4 info24 rfl (by simp [Value.oneCell']) ?_)
        exact bodyPost_ret (results_row_tmp rfl _ _ w.heap.size _ _ rfl (setRow_heap _ _ _ _ _ _ x4)) rfl ⟨by rw [HD.out]; rfl, below_row B4.out B4.out.size (Nat.le_refl _) _⟩
set_option maxRecDepth 100000 in
theorem rdo9 (l : List Vl) (g o cap : Nat) (w : World) (hl : l.length = 2) (hV : VAt w g o l) : Calls Try.prog 7 #[.int .u8 9, .slice (some ⟨g, o, none⟩) 2 cap] w fun e w' => e = .returned (.tuple #[vV (doV 9 l).1, .int .i64 ((doV 9 l).2 : Int)]) ∧ Below w.heap.size w w' := by
  have HDV := hid (show doV 9 l = if askL 9 = [] ∨ l.length ≠ (askL 9).length ∨ l.all chkV = false then (⟨0, 0⟩, 1) else if fitL (lastT l) l (askL 9) = false then (⟨0, 0⟩, 7) else (wkV 9 l, 0) from rfl)
  have HLA : Hid (l.length = (askL 9).length) := hid hl
  have HNE : Hid (askL 9 ≠ []) := hid (by decide)
  have HL := hid hl
  have HV := hid hV
  have B0 := hid ((Below.refl w.heap.size w).alloc (Nat.le_refl _) (.cells c24 28))
  have X0 := hid (heap_alloc_new w (.cells c24 28))
  have HW : Hid (l.all chkV = true → fitL (lastT l) l (askL 9) = true → doV 9 l = (wkV 9 l, 0)) := hid (fun h1 h2 => by rw [HDV.out, if_neg (fun h => by rcases h with h | h | h; exact HNE.out h; exact h HLA.out; rw [h1] at h; cases h), if_neg (by rw [h2]; simp)])
  have HW7 : Hid (l.all chkV = true → fitL (lastT l) l (askL 9) = false → doV 9 l = (⟨0, 0⟩, 7)) := hid (fun h1 h2 => by rw [HDV.out, if_neg (fun h => by rcases h with h | h | h; exact HNE.out h; exact h HLA.out; rw [h1] at h; cases h), if_pos h2])
  have HW1 : Hid (l.all chkV = false → doV 9 l = (⟨0, 0⟩, 1)) := hid (fun h1 => by rw [HDV.out, if_pos (.inr (.inr h1))])
  clear hV hl HDV
  generalize doV 9 l = D at *
  go_enter Try.func7, Try.ntmps7
  go_wp2_with (fail)
  refine (many9 _).mono ?_
  rintro e w1 ⟨rfl, rfl⟩
  go_wp2_with (fail)
  refine (many9 _).mono ?_
  rintro e w1 ⟨rfl, rfl⟩
  go_wp2_with (fail)
  generalize w.alloc (.cells c24 28) = W1 at *
  go_loopw [6] (fun i wr => ∃ k : Nat, k ≤ 2 ∧ i = .int .i64 (k : Int) ∧ Hid ((l.take k).all chkV = true) ∧ Hid (Below w.heap.size w wr) ∧ Hid (wr.heap[w.heap.size]? = some (.cells c24 28 (0, 0)))) (fun i _ => 2 - (intOf i).toNat)
  case atStart => exact ⟨0, Nat.zero_le _, rfl, hid rfl, B0, X0⟩
  case round =>
    obtain ⟨k, hk, rfl, HA, BE, XE⟩ := hrel
    by_cases hlt : k < 2
    · have hlt' : (k : Int) < 2 := by omega
      have hk0 : (0 : Int) ≤ (k : Int) := by omega
      have hkl : k < l.length := by rw [HL.out]; exact hlt
      obtain ⟨y0, y1⟩ := (HV.out.keep BE.out) k hkl
      have c := rcheck_at l[k]
      have HT : Hid ((l.take (k + 1)).all chkV = chkV l[k]) := hid (by rw [List.take_succ_eq_append_getElem hkl, List.all_append, HA.out]; simp)
      have HM : Hid (chkV l[k] = false → l.all chkV = false) := hid (fun h => by rw [List.all_eq_false]; exact ⟨l[k], List.getElem_mem hkl, by rw [h]; simp⟩)
      generalize l[k] = v at *
      clear hkl
      go_wp2_with (fail)
      refine (c _).mono ?_
      rintro e w2 ⟨rfl, hb2⟩
      have B2 := hid (bstep BE.out hb2 BE.out.size)
      have X2 := hid (keep_row XE.out hb2)
      clear hb2 c
      cases hck : chkV v with
      | true =>
        have HC := hid hck
        clear hck
        go_wp2_with (fail)
        go_roundw
        case rel => exact ⟨k + 1, by omega, by go_num, hid (by rw [HT.out, HC.out]), B2, X2⟩
        case measure => simp [intOf]; omega
      | false =>
        have HD : Hid (D = (⟨0, 0⟩, 1)) := hid (HW1.out (HM.out hck))
        have x2 := X2.out
        clear hck
        go_wp2_with (refine wpList_store_row rfl 28 _ _ rfl w.heap.size #[.int .u8 0, .int .i64 0] rfl rfl 28 _ x2 info24 rfl (by simp [Value.oneCell']) ?_)
        exact bodyPost_ret (results_row_tmp rfl _ _ w.heap.size _ _ rfl (setRow_heap _ _ _ _ _ _ x2)) rfl ⟨by rw [HD.out]; rfl, below_row B2.out B2.out.size (Nat.le_refl _) _⟩
    · have hlt' : ¬ (k : Int) < 2 := by omega
      have HE : Hid (l.all chkV = true) := hid (by have h := HA.out; rw [List.take_of_length_le (by rw [HL.out]; omega)] at h; exact h)
      have cf := rfit_at 9 l g o cap wr HNE.out HLA.out HE.out (HV.out.keep BE.out)
      rw [HL.out] at cf
      go_wp2_with (fail)
      refine cf.mono ?_
      rintro e w3 ⟨rfl, hb3⟩
      have B3 := hid (bstep BE.out hb3 BE.out.size)
      have X3 := hid (keep_row XE.out hb3)
      clear hb3 cf
      cases hfi : fitL (lastT l) l (askL 9) with
      | false =>
        have HD := hid (HW7.out HE.out hfi)
        have x3 := X3.out
        clear hfi
        go_wp2_with (refine wpList_store_row rfl 28 _ _ rfl w.heap.size #[.int .u8 0, .int .i64 0] rfl rfl 28 _ x3 info24 rfl (by simp [Value.oneCell']) ?_)
        exact bodyPost_ret (results_row_tmp rfl _ _ w.heap.size _ _ rfl (setRow_heap _ _ _ _ _ _ x3)) rfl ⟨by rw [HD.out]; rfl, below_row B3.out B3.out.size (Nat.le_refl _) _⟩
      | true =>
        have HD0 := hid (HW.out HE.out hfi)
        have VV := hid (HV.out.keep B3.out)
        clear hfi HW HW7 HW1 HV HE HA HLA HNE
        obtain ⟨a, b, rfl⟩ : ∃ a b, l = [a, b] := by
          match l, HL.out with
          | [a, b], _ => exact ⟨a, b, rfl⟩
        have y0 := (VV.out 0 (by simp)).2
        rw [Nat.zero_mul, Nat.add_zero] at y0
        have yl := (VV.out 1 (by simp)).2
        simp only [List.getElem_cons_zero, List.getElem_cons_succ] at y0 yl
        by_cases h0 : b.n = 0
        · have e0 : (b.n == 0) = true := by rw [beq_iff_eq]; exact h0
          have HD : Hid (D = (numV 0, 0)) := hid (HD0.out.trans (by show (numV (quoV a.n b.n), 0) = _; unfold quoV; rw [if_pos h0]))
          clear HD0 h0
          go_wp2_with (fail)
          refine (rnumber_at _ _).mono ?_
          rintro e w4 ⟨rfl, hb4⟩
          have B4 := hid (bstep B3.out hb4 B3.out.size)
          have x4 := keep_row X3.out hb4
          clear hb4
          go_wp2_with (refine wpList_store_row rfl 28 _ _ rfl w.heap.size (vC (numV 0)) rfl rfl 28 _ x4 info24 rfl (by simp [Value.oneCell']) ?_)
          exact bodyPost_ret (results_row_tmp rfl _ _ w.heap.size _ _ rfl (setRow_heap _ _ _ _ _ _ x4)) rfl ⟨by rw [HD.out]; rfl, below_row B4.out B4.out.size (Nat.le_refl _) _⟩
        · have e0 : (b.n == 0) = false := by rw [beq_eq_false_iff_ne]; exact h0
          have HD : Hid (D = (numV (wrap64 (a.n.tdiv b.n)), 0)) := hid (HD0.out.trans (by show (numV (quoV a.n b.n), 0) = _; unfold quoV; rw [if_neg h0]))
          clear HD0
          go_wp2_with (fail)
          refine (rnumber_at _ _).mono ?_
          rintro e w4 ⟨rfl, hb4⟩
          have B4 := hid (bstep B3.out hb4 B3.out.size)
          have x4 := keep_row X3.out hb4
          clear hb4
          go_wp2_with (refine wpList_store_row rfl 28 _ _ rfl w.heap.size (vC (numV (wrap64 (a.n.tdiv b.n)))) rfl rfl 28 _ x4 info24 rfl (by simp [Value.oneCell']) ?_)
          exact bodyPost_ret (results_row_tmp rfl _ _ w.heap.size _ _ rfl (setRow_heap _ _ _ _ _ _ x4)) rfl ⟨by rw [HD.out]; rfl, below_row B4.out B4.out.size (Nat.le_refl _) _⟩
set_option maxRecDepth 100000 in
theorem rdo10 (l : List Vl) (g o cap : Nat) (w : World) (hl : l.length = 2) (hV : VAt w g o l) : Calls Try.prog 7 #[.int .u8 10, .slice (some ⟨g, o, none⟩) 2 cap] w fun e w' => e = .returned (.tuple #[vV (doV 10 l).1, .int .i64 ((doV 10 l).2 : Int)]) ∧ Below w.heap.size w w' := by
  have HDV := hid (show doV 10 l = if askL 10 = [] ∨ l.length ≠ (askL 10).length ∨ l.all chkV = false then (⟨0, 0⟩, 1) else if fitL (lastT l) l (askL 10) = false then (⟨0, 0⟩, 7) else (wkV 10 l, 0) from rfl)
  have HLA : Hid (l.length = (askL 10).length) := hid hl
  have HNE : Hid (askL 10 ≠ []) := hid (by decide)
  have HL := hid hl
  have HV := hid hV
  have B0 := hid ((Below.refl w.heap.size w).alloc (Nat.le_refl _) (.cells c24 28))
  have X0 := hid (heap_alloc_new w (.cells c24 28))
  have HW : Hid (l.all chkV = true → fitL (lastT l) l (askL 10) = true → doV 10 l = (wkV 10 l, 0)) := hid (fun h1 h2 => by rw [HDV.out, if_neg (fun h => by rcases h with h | h | h; exact HNE.out h; exact h HLA.out; rw [h1] at h; cases h), if_neg (by rw [h2]; simp)])
  have HW7 : Hid (l.all chkV = true → fitL (lastT l) l (askL 10) = false → doV 10 l = (⟨0, 0⟩, 7)) := hid (fun h1 h2 => by rw [HDV.out, if_neg (fun h => by rcases h with h | h | h; exact HNE.out h; exact h HLA.out; rw [h1] at h; cases h), if_pos h2])
  have HW1 : Hid (l.all chkV = false → doV 10 l = (⟨0, 0⟩, 1)) := hid (fun h1 => by rw [HDV.out, if_pos (.inr (.inr h1))])
  clear hV hl HDV
  generalize doV 10 l = D at *
  go_enter Try.func7, Try.ntmps7
  go_wp2_with (fail)
  refine (many10 _).mono ?_
  rintro e w1 ⟨rfl, rfl⟩
  go_wp2_with (fail)
  refine (many10 _).mono ?_
  rintro e w1 ⟨rfl, rfl⟩
  go_wp2_with (fail)
  generalize w.alloc (.cells c24 28) = W1 at *
  go_loopw [6] (fun i wr => ∃ k : Nat, k ≤ 2 ∧ i = .int .i64 (k : Int) ∧ Hid ((l.take k).all chkV = true) ∧ Hid (Below w.heap.size w wr) ∧ Hid (wr.heap[w.heap.size]? = some (.cells c24 28 (0, 0)))) (fun i _ => 2 - (intOf i).toNat)
  case atStart => exact ⟨0, Nat.zero_le _, rfl, hid rfl, B0, X0⟩
  case round =>
    obtain ⟨k, hk, rfl, HA, BE, XE⟩ := hrel
    by_cases hlt : k < 2
    · have hlt' : (k : Int) < 2 := by omega
      have hk0 : (0 : Int) ≤ (k : Int) := by omega
      have hkl : k < l.length := by rw [HL.out]; exact hlt
      obtain ⟨y0, y1⟩ := (HV.out.keep BE.out) k hkl
      have c := rcheck_at l[k]
      have HT : Hid ((l.take (k + 1)).all chkV = chkV l[k]) := hid (by rw [List.take_succ_eq_append_getElem hkl, List.all_append, HA.out]; simp)
      have HM : Hid (chkV l[k] = false → l.all chkV = false) := hid (fun h => by rw [List.all_eq_false]; exact ⟨l[k], List.getElem_mem hkl, by rw [h]; simp⟩)
      generalize l[k] = v at *
      clear hkl
      go_wp2_with (fail)
      refine (c _).mono ?_
      rintro e w2 ⟨rfl, hb2⟩
      have B2 := hid (bstep BE.out hb2 BE.out.size)
      have X2 := hid (keep_row XE.out hb2)
      clear hb2 c
      cases hck : chkV v with
      | true =>
        have HC := hid hck
        clear hck
        go_wp2_with (fail)
        go_roundw
        case rel => exact ⟨k + 1, by omega, by go_num, hid (by rw [HT.out, HC.out]), B2, X2⟩
        case measure => simp [intOf]; omega
      | false =>
        have HD : Hid (D = (⟨0, 0⟩, 1)) := hid (HW1.out (HM.out hck))
        have x2 := X2.out
        clear hck
        go_wp2_with (refine wpList_store_row rfl 28 _ _ rfl w.heap.size #[.int .u8 0, .int .i64 0] rfl rfl 28 _ x2 info24 rfl (by simp [Value.oneCell']) ?_)
        exact bodyPost_ret (results_row_tmp rfl _ _ w.heap.size _ _ rfl (setRow_heap _ _ _ _ _ _ x2)) rfl ⟨by rw [HD.out]; rfl, below_row B2.out B2.out.size (Nat.le_refl _) _⟩
    · have hlt' : ¬ (k : Int) < 2 := by omega
      have HE : Hid (l.all chkV = true) := hid (by have h := HA.out; rw [List.take_of_length_le (by rw [HL.out]; omega)] at h; exact h)
      have cf := rfit_at 10 l g o cap wr HNE.out HLA.out HE.out (HV.out.keep BE.out)
      rw [HL.out] at cf
      go_wp2_with (fail)
      refine cf.mono ?_
      rintro e w3 ⟨rfl, hb3⟩
      have B3 := hid (bstep BE.out hb3 BE.out.size)
      have X3 := hid (keep_row XE.out hb3)
      clear hb3 cf
      cases hfi : fitL (lastT l) l (askL 10) with
      | false =>
        have HD := hid (HW7.out HE.out hfi)
        have x3 := X3.out
        clear hfi
        go_wp2_with (refine wpList_store_row rfl 28 _ _ rfl w.heap.size #[.int .u8 0, .int .i64 0] rfl rfl 28 _ x3 info24 rfl (by simp [Value.oneCell']) ?_)
        exact bodyPost_ret (results_row_tmp rfl _ _ w.heap.size _ _ rfl (setRow_heap _ _ _ _ _ _ x3)) rfl ⟨by rw [HD.out]; rfl, below_row B3.out B3.out.size (Nat.le_refl _) _⟩
      | true =>
        have HD0 := hid (HW.out HE.out hfi)
        have VV := hid (HV.out.keep B3.out)
        clear hfi HW HW7 HW1 HV HE HA HLA HNE
        obtain ⟨a, b, rfl⟩ : ∃ a b, l = [a, b] := by
          match l, HL.out with
          | [a, b], _ => exact ⟨a, b, rfl⟩
        have y0 := (VV.out 0 (by simp)).2
        rw [Nat.zero_mul, Nat.add_zero] at y0
        have yl := (VV.out 1 (by simp)).2
        simp only [List.getElem_cons_zero, List.getElem_cons_succ] at y0 yl
        by_cases h0 : b.n = 0
        · have e0 : (b.n == 0) = true := by rw [beq_iff_eq]; exact h0
          have HD : Hid (D = (numV 0, 0)) := hid (HD0.out.trans (by show (numV (remV a.n b.n), 0) = _; unfold remV; rw [if_pos h0]))
          clear HD0 h0
          go_wp2_with (fail)
          refine (rnumber_at _ _).mono ?_
          rintro e w4 ⟨rfl, hb4⟩
          have B4 := hid (bstep B3.out hb4 B3.out.size)
          have x4 := keep_row X3.out hb4
          clear hb4
          go_wp2_with (refine wpList_store_row rfl 28 _ _ rfl w.heap.size (vC (numV 0)) rfl rfl 28 _ x4 info24 rfl (by simp [Value.oneCell']) ?_)
          exact bodyPost_ret (results_row_tmp rfl _ _ w.heap.size _ _ rfl (setRow_heap _ _ _ _ _ _ x4)) rfl ⟨by rw [HD.out]; rfl, below_row B4.out B4.out.size (Nat.le_refl _) _⟩
        · have e0 : (b.n == 0) = false := by rw [beq_eq_false_iff_ne]; exact h0
          have HD : Hid (D = (numV (a.n.tmod b.n), 0)) := hid (HD0.out.trans (by show (numV (remV a.n b.n), 0) = _; unfold remV; rw [if_neg h0]))
          clear HD0
          go_wp2_with (fail)
          refine (rnumber_at _ _).mono ?_
          rintro e w4 ⟨rfl, hb4⟩
          have B4 := hid (bstep B3.out hb4 B3.out.size)
          have x4 := keep_row X3.out hb4
          clear hb4
          go_wp2_with (refine wpList_store_row rfl 28 _ _ rfl w.heap.size (vC (numV (a.n.tmod b.n))) rfl rfl 28 _ x4 info24 rfl (by simp [Value.oneCell']) ?_)
          exact bodyPost_ret (results_row_tmp rfl _ _ w.heap.size _ _ rfl (setRow_heap _ _ _ _ _ _ x4)) rfl ⟨by rw [HD.out]; rfl, below_row B4.out B4.out.size (Nat.le_refl _) _⟩
set_option maxRecDepth 100000 in
theorem rdo11 (l : List Vl) (g o cap : Nat) (w : World) (hl : l.length = 2) (hV : VAt w g o l) : Calls Try.prog 7 #[.int .u8 11, .slice (some ⟨g, o, none⟩) 2 cap] w fun e w' => e = .returned (.tuple #[vV (doV 11 l).1, .int .i64 ((doV 11 l).2 : Int)]) ∧ Below w.heap.size w w' := by
  have HDV := hid (show doV 11 l = if askL 11 = [] ∨ l.length ≠ (askL 11).length ∨ l.all chkV = false then (⟨0, 0⟩, 1) else if fitL (lastT l) l (askL 11) = false then (⟨0, 0⟩, 7) else (wkV 11 l, 0) from rfl)
  have HLA : Hid (l.length = (askL 11).length) := hid hl
  have HNE : Hid (askL 11 ≠ []) := hid (by decide)
  have HL := hid hl
  have HV := hid hV
  have B0 := hid ((Below.refl w.heap.size w).alloc (Nat.le_refl _) (.cells c24 28))
  have X0 := hid (heap_alloc_new w (.cells c24 28))
  have HW : Hid (l.all chkV = true → fitL (lastT l) l (askL 11) = true → doV 11 l = (wkV 11 l, 0)) := hid (fun h1 h2 => by rw [HDV.out, if_neg (fun h => by rcases h with h | h | h; exact HNE.out h; exact h HLA.out; rw [h1] at h; cases h), if_neg (by rw [h2]; simp)])
  have HW7 : Hid (l.all chkV = true → fitL (lastT l) l (askL 11) = false → doV 11 l = (⟨0, 0⟩, 7)) := hid (fun h1 h2 => by rw [HDV.out, if_neg (fun h => by rcases h with h | h | h; exact HNE.out h; exact h HLA.out; rw [h1] at h; cases h), if_pos h2])
  have HW1 : Hid (l.all chkV = false → doV 11 l = (⟨0, 0⟩, 1)) := hid (fun h1 => by rw [HDV.out, if_pos (.inr (.inr h1))])
  clear hV hl HDV
  generalize doV 11 l = D at *
  go_enter Try.func7, Try.ntmps7
  go_wp2_with (fail)
  refine (many11 _).mono ?_
  rintro e w1 ⟨rfl, rfl⟩
  go_wp2_with (fail)
  refine (many11 _).mono ?_
  rintro e w1 ⟨rfl, rfl⟩
  go_wp2_with (fail)
  generalize w.alloc (.cells c24 28) = W1 at *
  go_loopw [6] (fun i wr => ∃ k : Nat, k ≤ 2 ∧ i = .int .i64 (k : Int) ∧ Hid ((l.take k).all chkV = true) ∧ Hid (Below w.heap.size w wr) ∧ Hid (wr.heap[w.heap.size]? = some (.cells c24 28 (0, 0)))) (fun i _ => 2 - (intOf i).toNat)
  case atStart => exact ⟨0, Nat.zero_le _, rfl, hid rfl, B0, X0⟩
  case round =>
    obtain ⟨k, hk, rfl, HA, BE, XE⟩ := hrel
    by_cases hlt : k < 2
    · have hlt' : (k : Int) < 2 := by omega
      have hk0 : (0 : Int) ≤ (k : Int) := by omega
      have hkl : k < l.length := by rw [HL.out]; exact hlt
      obtain ⟨y0, y1⟩ := (HV.out.keep BE.out) k hkl
      have c := rcheck_at l[k]
      have HT : Hid ((l.take (k + 1)).all chkV = chkV l[k]) := hid (by rw [List.take_succ_eq_append_getElem hkl, List.all_append, HA.out]; simp)
      have HM : Hid (chkV l[k] = false → l.all chkV = false) := hid (fun h => by rw [List.all_eq_false]; exact ⟨l[k], List.getElem_mem hkl, by rw [h]; simp⟩)
      generalize l[k] = v at *
      clear hkl
      go_wp2_with (fail)
      refine (c _).mono ?_
      rintro e w2 ⟨rfl, hb2⟩
      have B2 := hid (bstep BE.out hb2 BE.out.size)
      have X2 := hid (keep_row XE.out hb2)
      clear hb2 c
      cases hck : chkV v with
      | true =>
        have HC := hid hck
        clear hck
        go_wp2_with (fail)
        go_roundw
        case rel => exact ⟨k + 1, by omega, by go_num, hid (by rw [HT.out, HC.out]), B2, X2⟩
        case measure => simp [intOf]; omega
      | false =>
        have HD : Hid (D = (⟨0, 0⟩, 1)) := hid (HW1.out (HM.out hck))
        have x2 := X2.out
        clear hck
        go_wp2_with (refine wpList_store_row rfl 28 _ _ rfl w.heap.size #[.int .u8 0, .int .i64 0] rfl rfl 28 _ x2 info24 rfl (by simp [Value.oneCell']) ?_)
        exact bodyPost_ret (results_row_tmp rfl _ _ w.heap.size _ _ rfl (setRow_heap _ _ _ _ _ _ x2)) rfl ⟨by rw [HD.out]; rfl, below_row B2.out B2.out.size (Nat.le_refl _) _⟩
    · have hlt' : ¬ (k : Int) < 2 := by omega
      have HE : Hid (l.all chkV = true) := hid (by have h := HA.out; rw [List.take_of_length_le (by rw [HL.out]; omega)] at h; exact h)
      have cf := rfit_at 11 l g o cap wr HNE.out HLA.out HE.out (HV.out.keep BE.out)
      rw [HL.out] at cf
      go_wp2_with (fail)
      refine cf.mono ?_
      rintro e w3 ⟨rfl, hb3⟩
      have B3 := hid (bstep BE.out hb3 BE.out.size)
      have X3 := hid (keep_row XE.out hb3)
      clear hb3 cf
      cases hfi : fitL (lastT l) l (askL 11) with
      | false =>
        have HD := hid (HW7.out HE.out hfi)
        have x3 := X3.out
        clear hfi
        go_wp2_with (refine wpList_store_row rfl 28 _ _ rfl w.heap.size #[.int .u8 0, .int .i64 0] rfl rfl 28 _ x3 info24 rfl (by simp [Value.oneCell']) ?_)
        exact bodyPost_ret (results_row_tmp rfl _ _ w.heap.size _ _ rfl (setRow_heap _ _ _ _ _ _ x3)) rfl ⟨by rw [HD.out]; rfl, below_row B3.out B3.out.size (Nat.le_refl _) _⟩
      | true =>
        have HD0 := hid (HW.out HE.out hfi)
        have VV := hid (HV.out.keep B3.out)
        clear hfi HW HW7 HW1 HV HE HA HLA HNE
        obtain ⟨a, b, rfl⟩ : ∃ a b, l = [a, b] := by
          match l, HL.out with
          | [a, b], _ => exact ⟨a, b, rfl⟩
        have y0 := (VV.out 0 (by simp)).2
        rw [Nat.zero_mul, Nat.add_zero] at y0
        have yl := (VV.out 1 (by simp)).2
        simp only [List.getElem_cons_zero, List.getElem_cons_succ] at y0 yl
        have HD : Hid (D = (yesV (a.n == b.n), 0)) := hid (HD0.out.trans (by show (yesV (decide (a.n = b.n)), 0) = _; congr 2))
        clear HD0
        go_wp2_with (fail)
        refine (ryes_at _ _).mono ?_
        rintro e w4 ⟨rfl, hb4⟩
        have B4 := hid (bstep B3.out hb4 B3.out.size)
        have x4 := keep_row X3.out hb4
        clear hb4
        go_wp2_with (refine wpList_store_row rfl 28 _ _ rfl w.heap.size (vC (yesV (a.n == b.n))) rfl rfl 28 _ x4 info24 rfl (by simp [Value.oneCell']) ?_)
        exact bodyPost_ret (results_row_tmp rfl _ _ w.heap.size _ _ rfl (setRow_heap _ _ _ _ _ _ x4)) rfl ⟨by rw [HD.out]; rfl, below_row B4.out B4.out.size (Nat.le_refl _) _⟩
set_option maxRecDepth 100000 in
theorem rdo12 (l : List Vl) (g o cap : Nat) (w : World) (hl : l.length = 2) (hV : VAt w g o l) : Calls Try.prog 7 #[.int .u8 12, .slice (some ⟨g, o, none⟩) 2 cap] w fun e w' => e = .returned (.tuple #[vV (doV 12 l).1, .int .i64 ((doV 12 l).2 : Int)]) ∧ Below w.heap.size w w' := by
  have HDV := hid (show doV 12 l = if askL 12 = [] ∨ l.length ≠ (askL 12).length ∨ l.all chkV = false then (⟨0, 0⟩, 1) else if fitL (lastT l) l (askL 12) = false then (⟨0, 0⟩, 7) else (wkV 12 l, 0) from rfl)
  have HLA : Hid (l.length = (askL 12).length) := hid hl
  have HNE : Hid (askL 12 ≠ []) := hid (by decide)
  have HL := hid hl
  have HV := hid hV
  have B0 := hid ((Below.refl w.heap.size w).alloc (Nat.le_refl _) (.cells c24 28))
  have X0 := hid (heap_alloc_new w (.cells c24 28))
  have HW : Hid (l.all chkV = true → fitL (lastT l) l (askL 12) = true → doV 12 l = (wkV 12 l, 0)) := hid (fun h1 h2 => by rw [HDV.out, if_neg (fun h => by rcases h with h | h | h; exact HNE.out h; exact h HLA.out; rw [h1] at h; cases h), if_neg (by rw [h2]; simp)])
  have HW7 : Hid (l.all chkV = true → fitL (lastT l) l (askL 12) = false → doV 12 l = (⟨0, 0⟩, 7)) := hid (fun h1 h2 => by rw [HDV.out, if_neg (fun h => by rcases h with h | h | h; exact HNE.out h; exact h HLA.out; rw [h1] at h; cases h), if_pos h2])
  have HW1 : Hid (l.all chkV = false → doV 12 l = (⟨0, 0⟩, 1)) := hid (fun h1 => by rw [HDV.out, if_pos (.inr (.inr h1))])
  clear hV hl HDV
  generalize doV 12 l = D at *
  go_enter Try.func7, Try.ntmps7
  go_wp2_with (fail)
  refine (many12 _).mono ?_
  rintro e w1 ⟨rfl, rfl⟩
  go_wp2_with (fail)
  refine (many12 _).mono ?_
  rintro e w1 ⟨rfl, rfl⟩
  go_wp2_with (fail)
  generalize w.alloc (.cells c24 28) = W1 at *
  go_loopw [6] (fun i wr => ∃ k : Nat, k ≤ 2 ∧ i = .int .i64 (k : Int) ∧ Hid ((l.take k).all chkV = true) ∧ Hid (Below w.heap.size w wr) ∧ Hid (wr.heap[w.heap.size]? = some (.cells c24 28 (0, 0)))) (fun i _ => 2 - (intOf i).toNat)
  case atStart => exact ⟨0, Nat.zero_le _, rfl, hid rfl, B0, X0⟩
  case round =>
    obtain ⟨k, hk, rfl, HA, BE, XE⟩ := hrel
    by_cases hlt : k < 2
    · have hlt' : (k : Int) < 2 := by omega
      have hk0 : (0 : Int) ≤ (k : Int) := by omega
      have hkl : k < l.length := by rw [HL.out]; exact hlt
      obtain ⟨y0, y1⟩ := (HV.out.keep BE.out) k hkl
      have c := rcheck_at l[k]
      have HT : Hid ((l.take (k + 1)).all chkV = chkV l[k]) := hid (by rw [List.take_succ_eq_append_getElem hkl, List.all_append, HA.out]; simp)
      have HM : Hid (chkV l[k] = false → l.all chkV = false) := hid (fun h => by rw [List.all_eq_false]; exact ⟨l[k], List.getElem_mem hkl, by rw [h]; simp⟩)
      generalize l[k] = v at *
      clear hkl
      go_wp2_with (fail)
      refine (c _).mono ?_
      rintro e w2 ⟨rfl, hb2⟩
      have B2 := hid (bstep BE.out hb2 BE.out.size)
      have X2 := hid (keep_row XE.out hb2)
      clear hb2 c
      cases hck : chkV v with
      | true =>
        have HC := hid hck
        clear hck
        go_wp2_with (fail)
        go_roundw
        case rel => exact ⟨k + 1, by omega, by go_num, hid (by rw [HT.out, HC.out]), B2, X2⟩
        case measure => simp [intOf]; omega
      | false =>
        have HD : Hid (D = (⟨0, 0⟩, 1)) := hid (HW1.out (HM.out hck))
        have x2 := X2.out
        clear hck
        go_wp2_with (refine wpList_store_row rfl 28 _ _ rfl w.heap.size #[.int .u8 0, .int .i64 0] rfl rfl 28 _ x2 info24 rfl (by simp [Value.oneCell']) ?_)
        exact bodyPost_ret (results_row_tmp rfl _ _ w.heap.size _ _ rfl (setRow_heap _ _ _ _ _ _ x2)) rfl ⟨by rw [HD.out]; rfl, below_row B2.out B2.out.size (Nat.le_refl _) _⟩
    · have hlt' : ¬ (k : Int) < 2 := by omega
      have HE : Hid (l.all chkV = true) := hid (by have h := HA.out; rw [List.take_of_length_le (by rw [HL.out]; omega)] at h; exact h)
      have cf := rfit_at 12 l g o cap wr HNE.out HLA.out HE.out (HV.out.keep BE.out)
      rw [HL.out] at cf
      go_wp2_with (fail)
      refine cf.mono ?_
      rintro e w3 ⟨rfl, hb3⟩
      have B3 := hid (bstep BE.out hb3 BE.out.size)
      have X3 := hid (keep_row XE.out hb3)
      clear hb3 cf
      cases hfi : fitL (lastT l) l (askL 12) with
      | false =>
        have HD := hid (HW7.out HE.out hfi)
        have x3 := X3.out
        clear hfi
        go_wp2_with (refine wpList_store_row rfl 28 _ _ rfl w.heap.size #[.int .u8 0, .int .i64 0] rfl rfl 28 _ x3 info24 rfl (by simp [Value.oneCell']) ?_)
        exact bodyPost_ret (results_row_tmp rfl _ _ w.heap.size _ _ rfl (setRow_heap _ _ _ _ _ _ x3)) rfl ⟨by rw [HD.out]; rfl, below_row B3.out B3.out.size (Nat.le_refl _) _⟩
      | true =>
        have HD0 := hid (HW.out HE.out hfi)
        have VV := hid (HV.out.keep B3.out)
        clear hfi HW HW7 HW1 HV HE HA HLA HNE
        obtain ⟨a, b, rfl⟩ : ∃ a b, l = [a, b] := by
          match l, HL.out with
          | [a, b], _ => exact ⟨a, b, rfl⟩
        have y0 := (VV.out 0 (by simp)).2
        rw [Nat.zero_mul, Nat.add_zero] at y0
        have yl := (VV.out 1 (by simp)).2
        simp only [List.getElem_cons_zero, List.getElem_cons_succ] at y0 yl
        have HD : Hid (D = (yesV (!(a.n == b.n)), 0)) := hid (HD0.out.trans (by show (yesV (!decide (a.n = b.n)), 0) = _; congr 2))
        clear HD0
        go_wp2_with (fail)
        refine (ryes_at _ _).mono ?_
        rintro e w4 ⟨rfl, hb4⟩
        have B4 := hid (bstep B3.out hb4 B3.out.size)
        have x4 := keep_row X3.out hb4
        clear hb4
        go_wp2_with (refine wpList_store_row rfl 28 _ _ rfl w.heap.size (vC (yesV (!(a.n == b.n)))) rfl rfl 28 _ x4 info24 rfl (by simp [Value.oneCell']) ?_)
        exact bodyPost_ret (results_row_tmp rfl _ _ w.heap.size _ _ rfl (setRow_heap _ _ _ _ _ _ x4)) rfl ⟨by rw [HD.out]; rfl, below_row B4.out B4.out.size (Nat.le_refl _) _⟩
set_option maxRecDepth 100000 in
theorem rdo13 (l : List Vl) (g o cap : Nat) (w : World) (hl : l.length = 2) (hV : VAt w g o l) : Calls Try.prog 7 #[.int .u8 13, .slice (some ⟨g, o, none⟩) 2 cap] w fun e w' => e = .returned (.tuple #[vV (doV 13 l).1, .int .i64 ((doV 13 l).2 : Int)]) ∧ Below w.heap.size w w' := by
  have HDV := hid (show doV 13 l = if askL 13 = [] ∨ l.length ≠ (askL 13).length ∨ l.all chkV = false then (⟨0, 0⟩, 1) else if fitL (lastT l) l (askL 13) = false then (⟨0, 0⟩, 7) else (wkV 13 l, 0) from rfl)
  have HLA : Hid (l.length = (askL 13).length) := hid hl
  have HNE : Hid (askL 13 ≠ []) := hid (by decide)
  have HL := hid hl
  have HV := hid hV
  have B0 := hid ((Below.refl w.heap.size w).alloc (Nat.le_refl _) (.cells c24 28))
  have X0 := hid (heap_alloc_new w (.cells c24 28))
  have HW : Hid (l.all chkV = true → fitL (lastT l) l (askL 13) = true → doV 13 l = (wkV 13 l, 0)) := hid (fun h1 h2 => by rw [HDV.out, if_neg (fun h => by rcases h with h | h | h; exact HNE.out h; exact h HLA.out; rw [h1] at h; cases h), if_neg (by rw [h2]; simp)])
  have HW7 : Hid (l.all chkV = true → fitL (lastT l) l (askL 13) = false → doV 13 l = (⟨0, 0⟩, 7)) := hid (fun h1 h2 => by rw [HDV.out, if_neg (fun h => by rcases h with h | h | h; exact HNE.out h; exact h HLA.out; rw [h1] at h; cases h), if_pos h2])
  have HW1 : Hid (l.all chkV = false → doV 13 l = (⟨0, 0⟩, 1)) := hid (fun h1 => by rw [HDV.out, if_pos (.inr (.inr h1))])
  clear hV hl HDV
  generalize doV 13 l = D at *
  go_enter Try.func7, Try.ntmps7
  go_wp2_with (fail)
  refine (many13 _).mono ?_
  rintro e w1 ⟨rfl, rfl⟩
  go_wp2_with (fail)
  refine (many13 _).mono ?_
  rintro e w1 ⟨rfl, rfl⟩
  go_wp2_with (fail)
  generalize w.alloc (.cells c24 28) = W1 at *
  go_loopw [6] (fun i wr => ∃ k : Nat, k ≤ 2 ∧ i = .int .i64 (k : Int) ∧ Hid ((l.take k).all chkV = true) ∧ Hid (Below w.heap.size w wr) ∧ Hid (wr.heap[w.heap.size]? = some (.cells c24 28 (0, 0)))) (fun i _ => 2 - (intOf i).toNat)
  case atStart => exact ⟨0, Nat.zero_le _, rfl, hid rfl, B0, X0⟩
  case round =>
    obtain ⟨k, hk, rfl, HA, BE, XE⟩ := hrel
    by_cases hlt : k < 2
    · have hlt' : (k : Int) < 2 := by omega
      have hk0 : (0 : Int) ≤ (k : Int) := by omega
      have hkl : k < l.length := by rw [HL.out]; exact hlt
      obtain ⟨y0, y1⟩ := (HV.out.keep BE.out) k hkl
      have c := rcheck_at l[k]
      have HT : Hid ((l.take (k + 1)).all chkV = chkV l[k]) := hid (by rw [List.take_succ_eq_append_getElem hkl, List.all_append, HA.out]; simp)
      have HM : Hid (chkV l[k] = false → l.all chkV = false) := hid (fun h => by rw [List.all_eq_false]; exact ⟨l[k], List.getElem_mem hkl, by rw [h]; simp⟩)
      generalize l[k] = v at *
      clear hkl
      go_wp2_with (fail)
      refine (c _).mono ?_
      rintro e w2 ⟨rfl, hb2⟩
      have B2 := hid (bstep BE.out hb2 BE.out.size)
      have X2 := hid (keep_row XE.out hb2)
      clear hb2 c
      cases hck : chkV v with
      | true =>
        have HC := hid hck
        clear hck
        go_wp2_with (fail)
        go_roundw
        case rel => exact ⟨k + 1, by omega, by go_num, hid (by rw [HT.out, HC.out]), B2, X2⟩
        case measure => simp [intOf]; omega
      | false =>
        have HD : Hid (D = (⟨0, 0⟩, 1)) := hid (HW1.out (HM.out hck))
        have x2 := X2.out
        clear hck
        go_wp2_with (refine wpList_store_row rfl 28 _ _ rfl w.heap.size #[.int .u8 0, .int .i64 0] rfl rfl 28 _ x2 info24 rfl (by simp [Value.oneCell']) ?_)
        exact bodyPost_ret (results_row_tmp rfl _ _ w.heap.size _ _ rfl (setRow_heap _ _ _ _ _ _ x2)) rfl ⟨by rw [HD.out]; rfl, below_row B2.out B2.out.size (Nat.le_refl _) _⟩
    · have hlt' : ¬ (k : Int) < 2 := by omega
      have HE : Hid (l.all chkV = true) := hid (by have h := HA.out; rw [List.take_of_length_le (by rw [HL.out]; omega)] at h; exact h)
      have cf := rfit_at 13 l g o cap wr HNE.out HLA.out HE.out (HV.out.keep BE.out)
      rw [HL.out] at cf
      go_wp2_with (fail)
      refine cf.mono ?_
      rintro e w3 ⟨rfl, hb3⟩
      have B3 := hid (bstep BE.out hb3 BE.out.size)
      have X3 := hid (keep_row XE.out hb3)
      clear hb3 cf
      cases hfi : fitL (lastT l) l (askL 13) with
      | false =>
        have HD := hid (HW7.out HE.out hfi)
        have x3 := X3.out
        clear hfi
        go_wp2_with (refine wpList_store_row rfl 28 _ _ rfl w.heap.size #[.int .u8 0, .int .i64 0] rfl rfl 28 _ x3 info24 rfl (by simp [Value.oneCell']) ?_)
        exact bodyPost_ret (results_row_tmp rfl _ _ w.heap.size _ _ rfl (setRow_heap _ _ _ _ _ _ x3)) rfl ⟨by rw [HD.out]; rfl, below_row B3.out B3.out.size (Nat.le_refl _) _⟩
      | true =>
        have HD0 := hid (HW.out HE.out hfi)
        have VV := hid (HV.out.keep B3.out)
        clear hfi HW HW7 HW1 HV HE HA HLA HNE
        obtain ⟨a, b, rfl⟩ : ∃ a b, l = [a, b] := by
          match l, HL.out with
          | [a, b], _ => exact ⟨a, b, rfl⟩
        have y0 := (VV.out 0 (by simp)).2
        rw [Nat.zero_mul, Nat.add_zero] at y0
        have yl := (VV.out 1 (by simp)).2
        simp only [List.getElem_cons_zero, List.getElem_cons_succ] at y0 yl
        have HD : Hid (D = (yesV (decide (a.n < b.n)), 0)) := hid (HD0.out.trans (rfl))
        clear HD0
        go_wp2_with (fail)
        refine (ryes_at _ _).mono ?_
        rintro e w4 ⟨rfl, hb4⟩
        have B4 := hid (bstep B3.out hb4 B3.out.size)
        have x4 := keep_row X3.out hb4
        clear hb4
        go_wp2_with (refine wpList_store_row rfl 28 _ _ rfl w.heap.size (vC (yesV (decide (a.n < b.n)))) rfl rfl 28 _ x4 info24 rfl (by simp [Value.oneCell']) ?_)
        exact bodyPost_ret (results_row_tmp rfl _ _ w.heap.size _ _ rfl (setRow_heap _ _ _ _ _ _ x4)) rfl ⟨by rw [HD.out]; rfl, below_row B4.out B4.out.size (Nat.le_refl _) _⟩
set_option maxRecDepth 100000 in
theorem rdo14 (l : List Vl) (g o cap : Nat) (w : World) (hl : l.length = 2) (hV : VAt w g o l) : Calls Try.prog 7 #[.int .u8 14, .slice (some ⟨g, o, none⟩) 2 cap] w fun e w' => e = .returned (.tuple #[vV (doV 14 l).1, .int .i64 ((doV 14 l).2 : Int)]) ∧ Below w.heap.size w w' := by
  have HDV := hid (show doV 14 l = if askL 14 = [] ∨ l.length ≠ (askL 14).length ∨ l.all chkV = false then (⟨0, 0⟩, 1) else if fitL (lastT l) l (askL 14) = false then (⟨0, 0⟩, 7) else (wkV 14 l, 0) from rfl)
  have HLA : Hid (l.length = (askL 14).length) := hid hl
  have HNE : Hid (askL 14 ≠ []) := hid (by decide)
  have HL := hid hl
  have HV := hid hV
  have B0 := hid ((Below.refl w.heap.size w).alloc (Nat.le_refl _) (.cells c24 28))
  have X0 := hid (heap_alloc_new w (.cells c24 28))
  have HW : Hid (l.all chkV = true → fitL (lastT l) l (askL 14) = true → doV 14 l = (wkV 14 l, 0)) := hid (fun h1 h2 => by rw [HDV.out, if_neg (fun h => by rcases h with h | h | h; exact HNE.out h; exact h HLA.out; rw [h1] at h; cases h), if_neg (by rw [h2]; simp)])
  have HW7 : Hid (l.all chkV = true → fitL (lastT l) l (askL 14) = false → doV 14 l = (⟨0, 0⟩, 7)) := hid (fun h1 h2 => by rw [HDV.out, if_neg (fun h => by rcases h with h | h | h; exact HNE.out h; exact h HLA.out; rw [h1] at h; cases h), if_pos h2])
  have HW1 : Hid (l.all chkV = false → doV 14 l = (⟨0, 0⟩, 1)) := hid (fun h1 => by rw [HDV.out, if_pos (.inr (.inr h1))])
  clear hV hl HDV
  generalize doV 14 l = D at *
  go_enter Try.func7, Try.ntmps7
  go_wp2_with (fail)
  refine (many14 _).mono ?_
  rintro e w1 ⟨rfl, rfl⟩
  go_wp2_with (fail)
  refine (many14 _).mono ?_
  rintro e w1 ⟨rfl, rfl⟩
  go_wp2_with (fail)
  generalize w.alloc (.cells c24 28) = W1 at *
  go_loopw [6] (fun i wr => ∃ k : Nat, k ≤ 2 ∧ i = .int .i64 (k : Int) ∧ Hid ((l.take k).all chkV = true) ∧ Hid (Below w.heap.size w wr) ∧ Hid (wr.heap[w.heap.size]? = some (.cells c24 28 (0, 0)))) (fun i _ => 2 - (intOf i).toNat)
  case atStart => exact ⟨0, Nat.zero_le _, rfl, hid rfl, B0, X0⟩
  case round =>
    obtain ⟨k, hk, rfl, HA, BE, XE⟩ := hrel
    by_cases hlt : k < 2
    · have hlt' : (k : Int) < 2 := by omega
      have hk0 : (0 : Int) ≤ (k : Int) := by omega
      have hkl : k < l.length := by rw [HL.out]; exact hlt
      obtain ⟨y0, y1⟩ := (HV.out.keep BE.out) k hkl
      have c := rcheck_at l[k]
      have HT : Hid ((l.take (k + 1)).all chkV = chkV l[k]) := hid (by rw [List.take_succ_eq_append_getElem hkl, List.all_append, HA.out]; simp)
      have HM : Hid (chkV l[k] = false → l.all chkV = false) := hid (fun h => by rw [List.all_eq_false]; exact ⟨l[k], List.getElem_mem hkl, by rw [h]; simp⟩)
      generalize l[k] = v at *
      clear hkl
      go_wp2_with (fail)
      refine (c _).mono ?_
      rintro e w2 ⟨rfl, hb2⟩
      have B2 := hid (bstep BE.out hb2 BE.out.size)
      have X2 := hid (keep_row XE.out hb2)
      clear hb2 c
      cases hck : chkV v with
      | true =>
        have HC := hid hck
        clear hck
        go_wp2_with (fail)
        go_roundw
        case rel => exact ⟨k + 1, by omega, by go_num, hid (by rw [HT.out, HC.out]), B2, X2⟩
        case measure => simp [intOf]; omega
      | false =>
        have HD : Hid (D = (⟨0, 0⟩, 1)) := hid (HW1.out (HM.out hck))
        have x2 := X2.out
        clear hck
        go_wp2_with (refine wpList_store_row rfl 28 _ _ rfl w.heap.size #[.int .u8 0, .int .i64 0] rfl rfl 28 _ x2 info24 rfl (by simp [Value.oneCell']) ?_)
        exact bodyPost_ret (results_row_tmp rfl _ _ w.heap.size _ _ rfl (setRow_heap _ _ _ _ _ _ x2)) rfl ⟨by rw [HD.out]; rfl, below_row B2.out B2.out.size (Nat.le_refl _) _⟩
    · have hlt' : ¬ (k : Int) < 2 := by omega
      have HE : Hid (l.all chkV = true) := hid (by have h := HA.out; rw [List.take_of_length_le (by rw [HL.out]; omega)] at h; exact h)
      have cf := rfit_at 14 l g o cap wr HNE.out HLA.out HE.out (HV.out.keep BE.out)
      rw [HL.out] at cf
      go_wp2_with (fail)
      refine cf.mono ?_
      rintro e w3 ⟨rfl, hb3⟩
      have B3 := hid (bstep BE.out hb3 BE.out.size)
      have X3 := hid (keep_row XE.out hb3)
      clear hb3 cf
      cases hfi : fitL (lastT l) l (askL 14) with
      | false =>
        have HD := hid (HW7.out HE.out hfi)
        have x3 := X3.out
        clear hfi
        go_wp2_with (refine wpList_store_row rfl 28 _ _ rfl w.heap.size #[.int .u8 0, .int .i64 0] rfl rfl 28 _ x3 info24 rfl (by simp [Value.oneCell']) ?_)
        exact bodyPost_ret (results_row_tmp rfl _ _ w.heap.size _ _ rfl (setRow_heap _ _ _ _ _ _ x3)) rfl ⟨by rw [HD.out]; rfl, below_row B3.out B3.out.size (Nat.le_refl _) _⟩
      | true =>
        have HD0 := hid (HW.out HE.out hfi)
        have VV := hid (HV.out.keep B3.out)
        clear hfi HW HW7 HW1 HV HE HA HLA HNE
        obtain ⟨a, b, rfl⟩ : ∃ a b, l = [a, b] := by
          match l, HL.out with
          | [a, b], _ => exact ⟨a, b, rfl⟩
        have y0 := (VV.out 0 (by simp)).2
        rw [Nat.zero_mul, Nat.add_zero] at y0
        have yl := (VV.out 1 (by simp)).2
        simp only [List.getElem_cons_zero, List.getElem_cons_succ] at y0 yl
        have HD : Hid (D = (yesV (decide (a.n ≤ b.n)), 0)) := hid (HD0.out.trans (rfl))
        clear HD0
        go_wp2_with (fail)
        refine (ryes_at _ _).mono ?_
        rintro e w4 ⟨rfl, hb4⟩
        have B4 := hid (bstep B3.out hb4 B3.out.size)
        have x4 := keep_row X3.out hb4
        clear hb4
        go_wp2_with (refine wpList_store_row rfl 28 _ _ rfl w.heap.size (vC (yesV (decide (a.n ≤ b.n)))) rfl rfl 28 _ x4 info24 rfl (by simp [Value.oneCell']) ?_)
        exact bodyPost_ret (results_row_tmp rfl _ _ w.heap.size _ _ rfl (setRow_heap _ _ _ _ _ _ x4)) rfl ⟨by rw [HD.out]; rfl, below_row B4.out B4.out.size (Nat.le_refl _) _⟩
set_option maxRecDepth 100000 in
theorem rdo15 (l : List Vl) (g o cap : Nat) (w : World) (hl : l.length = 2) (hV : VAt w g o l) : Calls Try.prog 7 #[.int .u8 15, .slice (some ⟨g, o, none⟩) 2 cap] w fun e w' => e = .returned (.tuple #[vV (doV 15 l).1, .int .i64 ((doV 15 l).2 : Int)]) ∧ Below w.heap.size w w' := by
  have HDV := hid (show doV 15 l = if askL 15 = [] ∨ l.length ≠ (askL 15).length ∨ l.all chkV = false then (⟨0, 0⟩, 1) else if fitL (lastT l) l (askL 15) = false then (⟨0, 0⟩, 7) else (wkV 15 l, 0) from rfl)
  have HLA : Hid (l.length = (askL 15).length) := hid hl
  have HNE : Hid (askL 15 ≠ []) := hid (by decide)
  have HL := hid hl
  have HV := hid hV
  have B0 := hid ((Below.refl w.heap.size w).alloc (Nat.le_refl _) (.cells c24 28))
  have X0 := hid (heap_alloc_new w (.cells c24 28))
  have HW : Hid (l.all chkV = true → fitL (lastT l) l (askL 15) = true → doV 15 l = (wkV 15 l, 0)) := hid (fun h1 h2 => by rw [HDV.out, if_neg (fun h => by rcases h with h | h | h; exact HNE.out h; exact h HLA.out; rw [h1] at h; cases h), if_neg (by rw [h2]; simp)])
  have HW7 : Hid (l.all chkV = true → fitL (lastT l) l (askL 15) = false → doV 15 l = (⟨0, 0⟩, 7)) := hid (fun h1 h2 => by rw [HDV.out, if_neg (fun h => by rcases h with h | h | h; exact HNE.out h; exact h HLA.out; rw [h1] at h; cases h), if_pos h2])
  have HW1 : Hid (l.all chkV = false → doV 15 l = (⟨0, 0⟩, 1)) := hid (fun h1 => by rw [HDV.out, if_pos (.inr (.inr h1))])
  clear hV hl HDV
  generalize doV 15 l = D at *
  go_enter Try.func7, Try.ntmps7
  go_wp2_with (fail)
  refine (many15 _).mono ?_
  rintro e w1 ⟨rfl, rfl⟩
  go_wp2_with (fail)
  refine (many15 _).mono ?_
  rintro e w1 ⟨rfl, rfl⟩
  go_wp2_with (fail)
  generalize w.alloc (.cells c24 28) = W1 at *
  go_loopw [6] (fun i wr => ∃ k : Nat, k ≤ 2 ∧ i = .int .i64 (k : Int) ∧ Hid ((l.take k).all chkV = true) ∧ Hid (Below w.heap.size w wr) ∧ Hid (wr.heap[w.heap.size]? = some (.cells c24 28 (0, 0)))) (fun i _ => 2 - (intOf i).toNat)
  case atStart => exact ⟨0, Nat.zero_le _, rfl, hid rfl, B0, X0⟩
  case round =>
    obtain ⟨k, hk, rfl, HA, BE, XE⟩ := hrel
    by_cases hlt : k < 2
    · have hlt' : (k : Int) < 2 := by omega
      have hk0 : (0 : Int) ≤ (k : Int) := by omega
      have hkl : k < l.length := by rw [HL.out]; exact hlt
      obtain ⟨y0, y1⟩ := (HV.out.keep BE.out) k hkl
      have c := rcheck_at l[k]
      have HT : Hid ((l.take (k + 1)).all chkV = chkV l[k]) := hid (by rw [List.take_succ_eq_append_getElem hkl, List.all_append, HA.out]; simp)
      have HM : Hid (chkV l[k] = false → l.all chkV = false) := hid (fun h => by rw [List.all_eq_false]; exact ⟨l[k], List.getElem_mem hkl, by rw [h]; simp⟩)
      generalize l[k] = v at *
      clear hkl
      go_wp2_with (fail)
      refine (c _).mono ?_
      rintro e w2 ⟨rfl, hb2⟩
      have B2 := hid (bstep BE.out hb2 BE.out.size)
      have X2 := hid (keep_row XE.out hb2)
      clear hb2 c
      cases hck : chkV v with
      | true =>
        have HC := hid hck
        clear hck
        go_wp2_with (fail)
        go_roundw
        case rel => exact ⟨k + 1, by omega, by go_num, hid (by rw [HT.out, HC.out]), B2, X2⟩
        case measure => simp [intOf]; omega
      | false =>
        have HD : Hid (D = (⟨0, 0⟩, 1)) := hid (HW1.out (HM.out hck))
        have x2 := X2.out
        clear hck
        go_wp2_with (refine wpList_store_row rfl 28 _ _ rfl w.heap.size #[.int .u8 0, .int .i64 0] rfl rfl 28 _ x2 info24 rfl (by simp [Value.oneCell']) ?_)
        exact bodyPost_ret (results_row_tmp rfl _ _ w.heap.size _ _ rfl (setRow_heap _ _ _ _ _ _ x2)) rfl ⟨by rw [HD.out]; rfl, below_row B2.out B2.out.size (Nat.le_refl _) _⟩
    · have hlt' : ¬ (k : Int) < 2 := by omega
      have HE : Hid (l.all chkV = true) := hid (by have h := HA.out; rw [List.take_of_length_le (by rw [HL.out]; omega)] at h; exact h)
      have cf := rfit_at 15 l g o cap wr HNE.out HLA.out HE.out (HV.out.keep BE.out)
      rw [HL.out] at cf
      go_wp2_with (fail)
      refine cf.mono ?_
      rintro e w3 ⟨rfl, hb3⟩
      have B3 := hid (bstep BE.out hb3 BE.out.size)
      have X3 := hid (keep_row XE.out hb3)
      clear hb3 cf
      cases hfi : fitL (lastT l) l (askL 15) with
      | false =>
        have HD := hid (HW7.out HE.out hfi)
        have x3 := X3.out
        clear hfi
        go_wp2_with (refine wpList_store_row rfl 28 _ _ rfl w.heap.size #[.int .u8 0, .int .i64 0] rfl rfl 28 _ x3 info24 rfl (by simp [Value.oneCell']) ?_)
        exact bodyPost_ret (results_row_tmp rfl _ _ w.heap.size _ _ rfl (setRow_heap _ _ _ _ _ _ x3)) rfl ⟨by rw [HD.out]; rfl, below_row B3.out B3.out.size (Nat.le_refl _) _⟩
      | true =>
        have HD0 := hid (HW.out HE.out hfi)
        have VV := hid (HV.out.keep B3.out)
        clear hfi HW HW7 HW1 HV HE HA HLA HNE
        obtain ⟨a, b, rfl⟩ : ∃ a b, l = [a, b] := by
          match l, HL.out with
          | [a, b], _ => exact ⟨a, b, rfl⟩
        have y0 := (VV.out 0 (by simp)).2
        rw [Nat.zero_mul, Nat.add_zero] at y0
        have yl := (VV.out 1 (by simp)).2
        simp only [List.getElem_cons_zero, List.getElem_cons_succ] at y0 yl
        by_cases h0 : a.n = 1
        · have e0 : (a.n == 1) = true := by rw [beq_iff_eq]; exact h0
          have HD : Hid (D = (yesV (b.n == 1), 0)) := hid (HD0.out.trans (by show (yesV (decide (a.n = 1) && decide (b.n = 1)), 0) = _; congr 2; rw [Bool.eq_iff_iff]; simp [h0]))
          clear HD0 h0
          go_wp2_with (fail)
          refine (ryes_at _ _).mono ?_
          rintro e w4 ⟨rfl, hb4⟩
          have B4 := hid (bstep B3.out hb4 B3.out.size)
          have x4 := keep_row X3.out hb4
          clear hb4
          go_wp2_with (refine wpList_store_row rfl 28 _ _ rfl w.heap.size (vC (yesV (b.n == 1))) rfl rfl 28 _ x4 info24 rfl (by simp [Value.oneCell']) ?_)
          exact bodyPost_ret (results_row_tmp rfl _ _ w.heap.size _ _ rfl (setRow_heap _ _ _ _ _ _ x4)) rfl ⟨by rw [HD.out]; rfl, below_row B4.out B4.out.size (Nat.le_refl _) _⟩
        · have e0 : (a.n == 1) = false := by rw [beq_eq_false_iff_ne]; exact h0
          have HD : Hid (D = (yesV false, 0)) := hid (HD0.out.trans (by show (yesV (decide (a.n = 1) && decide (b.n = 1)), 0) = _; congr 2; rw [Bool.eq_iff_iff]; simp [h0]))
          clear HD0 h0
          go_wp2_with (fail)
          refine (ryes_at _ _).mono ?_
          rintro e w4 ⟨rfl, hb4⟩
          have B4 := hid (bstep B3.out hb4 B3.out.size)
          have x4 := keep_row X3.out hb4
          clear hb4
          go_wp2_with (refine wpList_store_row rfl 28 _ _ rfl w.heap.size (vC (yesV false)) rfl rfl 28 _ x4 info24 rfl (by simp [Value.oneCell']) ?_)
          exact bodyPost_ret (results_row_tmp rfl _ _ w.heap.size _ _ rfl (setRow_heap _ _ _ _ _ _ x4)) rfl ⟨by rw [HD.out]; rfl, below_row B4.out B4.out.size (Nat.le_refl _) _⟩
set_option maxRecDepth 100000 in
theorem rdo16 (l : List Vl) (g o cap : Nat) (w : World) (hl : l.length = 2) (hV : VAt w g o l) : Calls Try.prog 7 #[.int .u8 16, .slice (some ⟨g, o, none⟩) 2 cap] w fun e w' => e = .returned (.tuple #[vV (doV 16 l).1, .int .i64 ((doV 16 l).2 : Int)]) ∧ Below w.heap.size w w' := by
  have HDV := hid (show doV 16 l = if askL 16 = [] ∨ l.length ≠ (askL 16).length ∨ l.all chkV = false then (⟨0, 0⟩, 1) else if fitL (lastT l) l (askL 16) = false then (⟨0, 0⟩, 7) else (wkV 16 l, 0) from rfl)
  have HLA : Hid (l.length = (askL 16).length) := hid hl
  have HNE : Hid (askL 16 ≠ []) := hid (by decide)
  have HL := hid hl
  have HV := hid hV
  have B0 := hid ((Below.refl w.heap.size w).alloc (Nat.le_refl _) (.cells c24 28))
  have X0 := hid (heap_alloc_new w (.cells c24 28))
  have HW : Hid (l.all chkV = true → fitL (lastT l) l (askL 16) = true → doV 16 l = (wkV 16 l, 0)) := hid (fun h1 h2 => by rw [HDV.out, if_neg (fun h => by rcases h with h | h | h; exact HNE.out h; exact h HLA.out; rw [h1] at h; cases h), if_neg (by rw [h2]; simp)])
  have HW7 : Hid (l.all chkV = true → fitL (lastT l) l (askL 16) = false → doV 16 l = (⟨0, 0⟩, 7)) := hid (fun h1 h2 => by rw [HDV.out, if_neg (fun h => by rcases h with h | h | h; exact HNE.out h; exact h HLA.out; rw [h1] at h; cases h), if_pos h2])
  have HW1 : Hid (l.all chkV = false → doV 16 l = (⟨0, 0⟩, 1)) := hid (fun h1 => by rw [HDV.out, if_pos (.inr (.inr h1))])
  clear hV hl HDV
  generalize doV 16 l = D at *
  go_enter Try.func7, Try.ntmps7
  go_wp2_with (fail)
  refine (many16 _).mono ?_
  rintro e w1 ⟨rfl, rfl⟩
  go_wp2_with (fail)
  refine (many16 _).mono ?_
  rintro e w1 ⟨rfl, rfl⟩
  go_wp2_with (fail)
  generalize w.alloc (.cells c24 28) = W1 at *
  go_loopw [6] (fun i wr => ∃ k : Nat, k ≤ 2 ∧ i = .int .i64 (k : Int) ∧ Hid ((l.take k).all chkV = true) ∧ Hid (Below w.heap.size w wr) ∧ Hid (wr.heap[w.heap.size]? = some (.cells c24 28 (0, 0)))) (fun i _ => 2 - (intOf i).toNat)
  case atStart => exact ⟨0, Nat.zero_le _, rfl, hid rfl, B0, X0⟩
  case round =>
    obtain ⟨k, hk, rfl, HA, BE, XE⟩ := hrel
    by_cases hlt : k < 2
    · have hlt' : (k : Int) < 2 := by omega
      have hk0 : (0 : Int) ≤ (k : Int) := by omega
      have hkl : k < l.length := by rw [HL.out]; exact hlt
      obtain ⟨y0, y1⟩ := (HV.out.keep BE.out) k hkl
      have c := rcheck_at l[k]
      have HT : Hid ((l.take (k + 1)).all chkV = chkV l[k]) := hid (by rw [List.take_succ_eq_append_getElem hkl, List.all_append, HA.out]; simp)
      have HM : Hid (chkV l[k] = false → l.all chkV = false) := hid (fun h => by rw [List.all_eq_false]; exact ⟨l[k], List.getElem_mem hkl, by rw [h]; simp⟩)
      generalize l[k] = v at *
      clear hkl
      go_wp2_with (fail)
      refine (c _).mono ?_
      rintro e w2 ⟨rfl, hb2⟩
      have B2 := hid (bstep BE.out hb2 BE.out.size)
      have X2 := hid (keep_row XE.out hb2)
      clear hb2 c
      cases hck : chkV v with
      | true =>
        have HC := hid hck
        clear hck
        go_wp2_with (fail)
        go_roundw
        case rel => exact ⟨k + 1, by omega, by go_num, hid (by rw [HT.out, HC.out]), B2, X2⟩
        case measure => simp [intOf]; omega
      | false =>
        have HD : Hid (D = (⟨0, 0⟩, 1)) := hid (HW1.out (HM.out hck))
        have x2 := X2.out
        clear hck
        go_wp2_with (refine wpList_store_row rfl 28 _ _ rfl w.heap.size #[.int .u8 0, .int .i64 0] rfl rfl 28 _ x2 info24 rfl (by simp [Value.oneCell']) ?_)
        exact bodyPost_ret (results_row_tmp rfl _ _ w.heap.size _ _ rfl (setRow_heap _ _ _ _ _ _ x2)) rfl ⟨by rw [HD.out]; rfl, below_row B2.out B2.out.size (Nat.le_refl _) _⟩
    · have hlt' : ¬ (k : Int) < 2 := by omega
      have HE : Hid (l.all chkV = true) := hid (by have h := HA.out; rw [List.take_of_length_le (by rw [HL.out]; omega)] at h; exact h)
      have cf := rfit_at 16 l g o cap wr HNE.out HLA.out HE.out (HV.out.keep BE.out)
      rw [HL.out] at cf
      go_wp2_with (fail)
      refine cf.mono ?_
      rintro e w3 ⟨rfl, hb3⟩
      have B3 := hid (bstep BE.out hb3 BE.out.size)
      have X3 := hid (keep_row XE.out hb3)
      clear hb3 cf
      cases hfi : fitL (lastT l) l (askL 16) with
      | false =>
        have HD := hid (HW7.out HE.out hfi)
        have x3 := X3.out
        clear hfi
        go_wp2_with (refine wpList_store_row rfl 28 _ _ rfl w.heap.size #[.int .u8 0, .int .i64 0] rfl rfl 28 _ x3 info24 rfl (by simp [Value.oneCell']) ?_)
        exact bodyPost_ret (results_row_tmp rfl _ _ w.heap.size _ _ rfl (setRow_heap _ _ _ _ _ _ x3)) rfl ⟨by rw [HD.out]; rfl, below_row B3.out B3.out.size (Nat.le_refl _) _⟩
      | true =>
        have HD0 := hid (HW.out HE.out hfi)
        have VV := hid (HV.out.keep B3.out)
        clear hfi HW HW7 HW1 HV HE HA HLA HNE
        obtain ⟨a, b, rfl⟩ : ∃ a b, l = [a, b] := by
          match l, HL.out with
          | [a, b], _ => exact ⟨a, b, rfl⟩
        have y0 := (VV.out 0 (by simp)).2
        rw [Nat.zero_mul, Nat.add_zero] at y0
        have yl := (VV.out 1 (by simp)).2
        simp only [List.getElem_cons_zero, List.getElem_cons_succ] at y0 yl
        by_cases h0 : a.n = 1
        · have e0 : (a.n == 1) = true := by rw [beq_iff_eq]; exact h0
          have HD : Hid (D = (yesV true, 0)) := hid (HD0.out.trans (by show (yesV (decide (a.n = 1) || decide (b.n = 1)), 0) = _; congr 2; rw [Bool.eq_iff_iff]; simp [h0]))
          clear HD0 h0
          go_wp2_with (fail)
          refine (ryes_at _ _).mono ?_
          rintro e w4 ⟨rfl, hb4⟩
          have B4 := hid (bstep B3.out hb4 B3.out.size)
          have x4 := keep_row X3.out hb4
          clear hb4
          go_wp2_with (refine wpList_store_row rfl 28 _ _ rfl w.heap.size (vC (yesV true)) rfl rfl 28 _ x4 info24 rfl (by simp [Value.oneCell']) ?_)
          exact bodyPost_ret (results_row_tmp rfl _ _ w.heap.size _ _ rfl (setRow_heap _ _ _ _ _ _ x4)) rfl ⟨by rw [HD.out]; rfl, below_row B4.out B4.out.size (Nat.le_refl _) _⟩
        · have e0 : (a.n == 1) = false := by rw [beq_eq_false_iff_ne]; exact h0
          have HD : Hid (D = (yesV (b.n == 1), 0)) := hid (HD0.out.trans (by show (yesV (decide (a.n = 1) || decide (b.n = 1)), 0) = _; congr 2; rw [Bool.eq_iff_iff]; simp [h0]))
          clear HD0 h0
          go_wp2_with (fail)
          refine (ryes_at _ _).mono ?_
          rintro e w4 ⟨rfl, hb4⟩
          have B4 := hid (bstep B3.out hb4 B3.out.size)
          have x4 := keep_row X3.out hb4
          clear hb4
          go_wp2_with (refine wpList_store_row rfl 28 _ _ rfl w.heap.size (vC (yesV (b.n == 1))) rfl rfl 28 _ x4 info24 rfl (by simp [Value.oneCell']) ?_)
          exact bodyPost_ret (results_row_tmp rfl _ _ w.heap.size _ _ rfl (setRow_heap _ _ _ _ _ _ x4)) rfl ⟨by rw [HD.out]; rfl, below_row B4.out B4.out.size (Nat.le_refl _) _⟩
set_option maxRecDepth 100000 in
theorem rdo17 (l : List Vl) (g o cap : Nat) (w : World) (hl : l.length = 3) (hV : VAt w g o l) : Calls Try.prog 7 #[.int .u8 17, .slice (some ⟨g, o, none⟩) 3 cap] w fun e w' => e = .returned (.tuple #[vV (doV 17 l).1, .int .i64 ((doV 17 l).2 : Int)]) ∧ Below w.heap.size w w' := by
  have HDV := hid (show doV 17 l = if askL 17 = [] ∨ l.length ≠ (askL 17).length ∨ l.all chkV = false then (⟨0, 0⟩, 1) else if fitL (lastT l) l (askL 17) = false then (⟨0, 0⟩, 7) else (wkV 17 l, 0) from rfl)
  have HLA : Hid (l.length = (askL 17).length) := hid hl
  have HNE : Hid (askL 17 ≠ []) := hid (by decide)
  have HL := hid hl
  have HV := hid hV
  have B0 := hid ((Below.refl w.heap.size w).alloc (Nat.le_refl _) (.cells c24 28))
  have X0 := hid (heap_alloc_new w (.cells c24 28))
  have HW : Hid (l.all chkV = true → fitL (lastT l) l (askL 17) = true → doV 17 l = (wkV 17 l, 0)) := hid (fun h1 h2 => by rw [HDV.out, if_neg (fun h => by rcases h with h | h | h; exact HNE.out h; exact h HLA.out; rw [h1] at h; cases h), if_neg (by rw [h2]; simp)])
  have HW7 : Hid (l.all chkV = true → fitL (lastT l) l (askL 17) = false → doV 17 l = (⟨0, 0⟩, 7)) := hid (fun h1 h2 => by rw [HDV.out, if_neg (fun h => by rcases h with h | h | h; exact HNE.out h; exact h HLA.out; rw [h1] at h; cases h), if_pos h2])
  have HW1 : Hid (l.all chkV = false → doV 17 l = (⟨0, 0⟩, 1)) := hid (fun h1 => by rw [HDV.out, if_pos (.inr (.inr h1))])
  clear hV hl HDV
  generalize doV 17 l = D at *
  go_enter Try.func7, Try.ntmps7
  go_wp2_with (fail)
  refine (many17 _).mono ?_
  rintro e w1 ⟨rfl, rfl⟩
  go_wp2_with (fail)
  refine (many17 _).mono ?_
  rintro e w1 ⟨rfl, rfl⟩
  go_wp2_with (fail)
  generalize w.alloc (.cells c24 28) = W1 at *
  go_loopw [6] (fun i wr => ∃ k : Nat, k ≤ 3 ∧ i = .int .i64 (k : Int) ∧ Hid ((l.take k).all chkV = true) ∧ Hid (Below w.heap.size w wr) ∧ Hid (wr.heap[w.heap.size]? = some (.cells c24 28 (0, 0)))) (fun i _ => 3 - (intOf i).toNat)
  case atStart => exact ⟨0, Nat.zero_le _, rfl, hid rfl, B0, X0⟩
  case round =>
    obtain ⟨k, hk, rfl, HA, BE, XE⟩ := hrel
    by_cases hlt : k < 3
    · have hlt' : (k : Int) < 3 := by omega
      have hk0 : (0 : Int) ≤ (k : Int) := by omega
      have hkl : k < l.length := by rw [HL.out]; exact hlt
      obtain ⟨y0, y1⟩ := (HV.out.keep BE.out) k hkl
      have c := rcheck_at l[k]
      have HT : Hid ((l.take (k + 1)).all chkV = chkV l[k]) := hid (by rw [List.take_succ_eq_append_getElem hkl, List.all_append, HA.out]; simp)
      have HM : Hid (chkV l[k] = false → l.all chkV = false) := hid (fun h => by rw [List.all_eq_false]; exact ⟨l[k], List.getElem_mem hkl, by rw [h]; simp⟩)
      generalize l[k] = v at *
      clear hkl
      go_wp2_with (fail)
      refine (c _).mono ?_
      rintro e w2 ⟨rfl, hb2⟩
      have B2 := hid (bstep BE.out hb2 BE.out.size)
      have X2 := hid (keep_row XE.out hb2)
      clear hb2 c
      cases hck : chkV v with
      | true =>
        have HC := hid hck
        clear hck
        go_wp2_with (fail)
        go_roundw
        case rel => exact ⟨k + 1, by omega, by go_num, hid (by rw [HT.out, HC.out]), B2, X2⟩
        case measure => simp [intOf]; omega
      | false =>
        have HD : Hid (D = (⟨0, 0⟩, 1)) := hid (HW1.out (HM.out hck))
        have x2 := X2.out
        clear hck
        go_wp2_with (refine wpList_store_row rfl 28 _ _ rfl w.heap.size #[.int .u8 0, .int .i64 0] rfl rfl 28 _ x2 info24 rfl (by simp [Value.oneCell']) ?_)
        exact bodyPost_ret (results_row_tmp rfl _ _ w.heap.size _ _ rfl (setRow_heap _ _ _ _ _ _ x2)) rfl ⟨by rw [HD.out]; rfl, below_row B2.out B2.out.size (Nat.le_refl _) _⟩
    · have hlt' : ¬ (k : Int) < 3 := by omega
      have HE : Hid (l.all chkV = true) := hid (by have h := HA.out; rw [List.take_of_length_le (by rw [HL.out]; omega)] at h; exact h)
      have cf := rfit_at 17 l g o cap wr HNE.out HLA.out HE.out (HV.out.keep BE.out)
      rw [HL.out] at cf
      go_wp2_with (fail)
      refine cf.mono ?_
      rintro e w3 ⟨rfl, hb3⟩
      have B3 := hid (bstep BE.out hb3 BE.out.size)
      have X3 := hid (keep_row XE.out hb3)
      clear hb3 cf
      cases hfi : fitL (lastT l) l (askL 17) with
      | false =>
        have HD := hid (HW7.out HE.out hfi)
        have x3 := X3.out
        clear hfi
        go_wp2_with (refine wpList_store_row rfl 28 _ _ rfl w.heap.size #[.int .u8 0, .int .i64 0] rfl rfl 28 _ x3 info24 rfl (by simp [Value.oneCell']) ?_)
        exact bodyPost_ret (results_row_tmp rfl _ _ w.heap.size _ _ rfl (setRow_heap _ _ _ _ _ _ x3)) rfl ⟨by rw [HD.out]; rfl, below_row B3.out B3.out.size (Nat.le_refl _) _⟩
      | true =>
        have HD0 := hid (HW.out HE.out hfi)
        have VV := hid (HV.out.keep B3.out)
        clear hfi HW HW7 HW1 HV HE HA HLA HNE
        obtain ⟨a, b, c, rfl⟩ : ∃ a b c, l = [a, b, c] := by
          match l, HL.out with
          | [a, b, c], _ => exact ⟨a, b, c, rfl⟩
        have y0 := (VV.out 0 (by simp)).2
        rw [Nat.zero_mul, Nat.add_zero] at y0
        have yl := (VV.out 2 (by simp)).2
        simp only [List.getElem_cons_zero, List.getElem_cons_succ] at y0 yl
        have z1 := VV.out 1 (by simp)
        have z2 := VV.out 2 (by simp)
        rw [Nat.one_mul] at z1
        simp only [List.getElem_cons_zero, List.getElem_cons_succ] at z1 z2
        obtain ⟨z10, z11⟩ := z1
        obtain ⟨z20, z21⟩ := z2
        have x3 := X3.out
        by_cases h1 : a.n = 1
        · have e1 : (a.n == 1) = true := by rw [beq_iff_eq]; exact h1
          have HD : Hid (D = (b, 0)) := hid (HD0.out.trans (by show ((if a.n = 1 then b else c), 0) = _; rw [if_pos h1]))
          clear h1 HD0
          go_wp2_with (refine wpList_store_row rfl 28 _ _ rfl w.heap.size (vC b) rfl rfl 28 _ x3 info24 rfl (by simp [Value.oneCell']) ?_)
          exact bodyPost_ret (results_row_tmp rfl _ _ w.heap.size _ _ rfl (setRow_heap _ _ _ _ _ _ x3)) rfl ⟨by rw [HD.out]; rfl, below_row B3.out B3.out.size (Nat.le_refl _) _⟩
        · have e1 : (a.n == 1) = false := by rw [beq_eq_false_iff_ne]; exact h1
          have HD : Hid (D = (c, 0)) := hid (HD0.out.trans (by show ((if a.n = 1 then b else c), 0) = _; rw [if_neg h1]))
          clear h1 HD0
          go_wp2_with (refine wpList_store_row rfl 28 _ _ rfl w.heap.size (vC c) rfl rfl 28 _ x3 info24 rfl (by simp [Value.oneCell']) ?_)
          exact bodyPost_ret (results_row_tmp rfl _ _ w.heap.size _ _ rfl (setRow_heap _ _ _ _ _ _ x3)) rfl ⟨by rw [HD.out]; rfl, below_row B3.out B3.out.size (Nat.le_refl _) _⟩
set_option maxRecDepth 100000 in
theorem rdo_len (o : Nat) (l : List Vl) (ao : Option Addr) (cap : Nat) (w : World) (hm : l.length ≤ 140737488355328) (h : askL o = [] ∨ l.length ≠ (askL o).length) : Calls Try.prog 7 #[.int .u8 (o : Int), .slice ao l.length cap] w fun e w' => e = .returned (.tuple #[vV (doV o l).1, .int .i64 ((doV o l).2 : Int)]) ∧ Below w.heap.size w w' := by
  have HD : Hid (doV o l = (⟨0, 0⟩, 1)) := hid (by unfold doV; rw [if_pos (h.imp id .inl)])
  have B0 := hid ((Below.refl w.heap.size w).alloc (Nat.le_refl _) (.cells c24 28))
  have x0 := heap_alloc_new w (.cells c24 28)
  have c := many_at o
  generalize doV o l = D at *
  by_cases h0 : (askL o).length = 0
  · have e0 : (((askL o).length : Int) == 0) = true := by rw [beq_iff_eq]; omega
    clear h h0
    generalize (askL o).length = m at *
    go_enter Try.func7, Try.ntmps7
    go_wp2_with (fail)
    refine (c _).mono ?_
    rintro e w1 ⟨rfl, rfl⟩
    go_wp2_with (refine wpList_store_row rfl 28 _ _ rfl w.heap.size #[.int .u8 0, .int .i64 0] rfl rfl 28 _ x0 info24 rfl (by simp [Value.oneCell']) ?_)
    exact bodyPost_ret (results_row_tmp rfl _ _ w.heap.size _ _ rfl (setRow_heap _ _ _ _ _ _ x0)) rfl ⟨by rw [HD.out]; rfl, below_row B0.out B0.out.size (Nat.le_refl _) _⟩
  · have e0 : (((askL o).length : Int) == 0) = false := by rw [beq_eq_false_iff_ne]; omega
    have h1 : l.length ≠ (askL o).length := h.resolve_left (fun e => h0 (by rw [e]; rfl))
    have e1 : ((l.length : Int) == ((askL o).length : Int)) = false := by rw [beq_eq_false_iff_ne]; omega
    have e1' : ((l.length : Int) != ((askL o).length : Int)) = true := by rw [bne, e1]; rfl
    clear h h0 h1
    generalize (askL o).length = m at *
    go_enter Try.func7, Try.ntmps7
    go_wp2_with (fail)
    refine (c _).mono ?_
    rintro e w1 ⟨rfl, rfl⟩
    go_wp2_with (fail)
    refine (c _).mono ?_
    rintro e w1 ⟨rfl, rfl⟩
    go_wp2_with (refine wpList_store_row rfl 28 _ _ rfl w.heap.size #[.int .u8 0, .int .i64 0] rfl rfl 28 _ x0 info24 rfl (by simp [Value.oneCell']) ?_)
    exact bodyPost_ret (results_row_tmp rfl _ _ w.heap.size _ _ rfl (setRow_heap _ _ _ _ _ _ x0)) rfl ⟨by rw [HD.out]; rfl, below_row B0.out B0.out.size (Nat.le_refl _) _⟩
theorem rdo_at (o : Nat) (l : List Vl) (s : Value) (w : World) (hS : VSl w l s) : Calls Try.prog 7 #[.int .u8 (o : Int), s] w fun e w' => e = .returned (.tuple #[vV (doV o l).1, .int .i64 ((doV o l).2 : Int)]) ∧ Below w.heap.size w w' := by
  obtain ⟨ao, cap, rfl, hm, hv⟩ := hS
  by_cases h : askL o = [] ∨ l.length ≠ (askL o).length
  · exact rdo_len o l ao cap w hm h
  have hne : askL o ≠ [] := fun e => h (.inl e)
  have hl : l.length = (askL o).length := Classical.byContradiction fun e => h (.inr e)
  have h0 : l.length ≠ 0 := fun e => hne (List.length_eq_zero_iff.1 (hl.symm.trans e))
  obtain ⟨g, f, rfl, hV⟩ := hv.resolve_left h0
  rcases ops_are o with h | rfl | rfl | rfl | rfl | rfl | rfl | rfl | rfl | rfl | rfl | rfl | rfl | rfl | rfl
  · exact absurd (askL_none h) hne
  · have h1 : l.length = 1 := hl
    rw [h1]; exact rdo4 l g f cap w h1 hV
  · have h1 : l.length = 1 := hl
    rw [h1]; exact rdo5 l g f cap w h1 hV
  · have h1 : l.length = 2 := hl
    rw [h1]; exact rdo6 l g f cap w h1 hV
  · have h1 : l.length = 2 := hl
    rw [h1]; exact rdo7 l g f cap w h1 hV
  · have h1 : l.length = 2 := hl
    rw [h1]; exact rdo8 l g f cap w h1 hV
  · have h1 : l.length = 2 := hl
    rw [h1]; exact rdo9 l g f cap w h1 hV
  · have h1 : l.length = 2 := hl
    rw [h1]; exact rdo10 l g f cap w h1 hV
  · have h1 : l.length = 2 := hl
    rw [h1]; exact rdo11 l g f cap w h1 hV
  · have h1 : l.length = 2 := hl
    rw [h1]; exact rdo12 l g f cap w h1 hV
  · have h1 : l.length = 2 := hl
    rw [h1]; exact rdo13 l g f cap w h1 hV
  · have h1 : l.length = 2 := hl
    rw [h1]; exact rdo14 l g f cap w h1 hV
  · have h1 : l.length = 2 := hl
    rw [h1]; exact rdo15 l g f cap w h1 hV
  · have h1 : l.length = 2 := hl
    rw [h1]; exact rdo16 l g f cap w h1 hV
  · have h1 : l.length = 3 := hl
    rw [h1]; exact rdo17 l g f cap w h1 hV
end Go.Proofs.Ytkniacdfhajogaa.Val
