/-
  What an operator makes of any values: the contract of Do.
-/
import Derived.Test.YtkniacdfhajogaaFits
namespace Go.Proofs.Ytkniacdfhajogaa.Val
open Go.ChangeShapes Go.WideShapes Go.ChangeAt Go.RowKit Go.Joins
set_option maxHeartbeats 1000000
theorem worked_at (o : Nat) (l : List Vl) (g f cap : Nat) (w : World) (hne : askL o ≠ []) (hl : l.length = (askL o).length) (hV : VAt w g f l) : Calls Try.prog 12 #[.int .u8 (o : Int), .slice (some ⟨g, f, none⟩) l.length cap] w fun e w' => e = .returned (vV (wkV o l)) ∧ Below w.heap.size w w' := by
  rcases ops_are o with h | rfl | rfl | rfl | rfl | rfl | rfl | rfl | rfl | rfl | rfl | rfl | rfl | rfl | rfl
  · exact absurd (askL_none h) hne
  · have h1 : l.length = 1 := hl
    match l, h1 with
    | [a], _ => exact worked4 a g f cap w hV
  · have h1 : l.length = 1 := hl
    match l, h1 with
    | [a], _ => exact worked5 a g f cap w hV
  · have h1 : l.length = 2 := hl
    match l, h1 with
    | [a, b], _ => exact worked6 a b g f cap w hV
  · have h1 : l.length = 2 := hl
    match l, h1 with
    | [a, b], _ => exact worked7 a b g f cap w hV
  · have h1 : l.length = 2 := hl
    match l, h1 with
    | [a, b], _ => exact worked8 a b g f cap w hV
  · have h1 : l.length = 2 := hl
    match l, h1 with
    | [a, b], _ => exact worked9 a b g f cap w hV
  · have h1 : l.length = 2 := hl
    match l, h1 with
    | [a, b], _ => exact worked10 a b g f cap w hV
  · have h1 : l.length = 2 := hl
    match l, h1 with
    | [a, b], _ => exact worked11 a b g f cap w hV
  · have h1 : l.length = 2 := hl
    match l, h1 with
    | [a, b], _ => exact worked12 a b g f cap w hV
  · have h1 : l.length = 2 := hl
    match l, h1 with
    | [a, b], _ => exact worked13 a b g f cap w hV
  · have h1 : l.length = 2 := hl
    match l, h1 with
    | [a, b], _ => exact worked14 a b g f cap w hV
  · have h1 : l.length = 2 := hl
    match l, h1 with
    | [a, b], _ => exact worked15 a b g f cap w hV
  · have h1 : l.length = 2 := hl
    match l, h1 with
    | [a, b], _ => exact worked16 a b g f cap w hV
  · have h1 : l.length = 3 := hl
    match l, h1 with
    | [a, b, c], _ => exact worked17 a b c g f cap w hV
theorem results_row_tmp {fn : Func} {p u : Tmp} (h : fn.results = #[.cell p 28, .tmp u]) (tmps : Array Value) (w : World) (g : Nat) (x y : Value)
    (hp : tmps.getD p undef = .pointer (some ⟨g, 0, none⟩)) (hg : w.heap[g]? = some (.cells #[x, y] 28 (0, 0))) : (results fn tmps).run Try.prog w = .ok (.tuple #[.agg #[x, y], tmps.getD u undef]) w := by
  have hp' : tmps[p]?.getD undef = .pointer (some ⟨g, 0, none⟩) := by simpa using hp
  simp [results, h, hp', asAddr, run_loadVar_row w g 28 28 #[x, y] (0, 0) _ hg Try.underlying28 rfl info24]
theorem last_some {l : List Vl} {m : Nat} (h : l.length = m + 1) : ∃ z, l[m]? = some z ∧ l.getLast? = some z := by
  refine ⟨l[m]'(by omega), List.getElem?_eq_getElem (by omega), ?_⟩
  rw [List.getLast?_eq_getElem?, show l.length - 1 = m by omega, List.getElem?_eq_getElem (by omega)]
theorem askL_len (o : Nat) : (askL o).length ≤ 3 := by
  unfold askL
  repeat' split
  all_goals simp
set_option maxRecDepth 100000 in
theorem do_at (o : Nat) (l : List Vl) (s : Value) (w : World) (hS : VSl w l s) : Calls Try.prog 6 #[.int .u8 (o : Int), s] w fun e w' => e = .returned (.tuple #[vV (doV o l).1, .int .i64 ((doV o l).2 : Int)]) ∧ Below w.heap.size w w' := by
  have HDV := hid (show doV o l = if askL o = [] ∨ l.length ≠ (askL o).length ∨ l.all chkV = false then (⟨0, 0⟩, 1) else if fitL (lastT l) l (askL o) = false then (⟨0, 0⟩, 7) else (wkV o l, 0) from rfl)
  have WK := hid (fun (g f cap : Nat) (w : World) => worked_at o l g f cap w)
  have HAL := hid (askL_len o)
  obtain ⟨ao, cap, rfl, hmax, hv⟩ := hS
  have HV := hid hv
  have B0 := hid ((Below.refl w.heap.size w).alloc (Nat.le_refl _) (.cells c24 28))
  have X0 := hid (heap_alloc_new w (.cells c24 28))
  have ca := asked_at o
  clear hv
  generalize doV o l = D at *
  generalize wkV o l = WV at *
  generalize askL o = r at *
  go_enter Try.func6, Try.ntmps6
  go_wp2_with (fail)
  refine (ca _).mono ?_
  rintro e w1 ⟨sa, rfl, hA, hb1⟩
  clear ca
  have B1 := hid (bstep B0.out hb1 B0.out.size)
  have X1 := hid (keep_row X0.out hb1)
  obtain ⟨aa, acap, rfl, hA2⟩ := hA
  have HA2 := hid hA2
  clear hb1 hA2 B0 X0
  have x1 := X1.out
  by_cases h0 : r.length = 0
  · have e0 : ((r.length : Int) == 0) = true := by rw [beq_iff_eq]; omega
    have HD : Hid (D = (⟨0, 0⟩, 1)) := hid (by rw [HDV.out, if_pos (.inl (List.length_eq_zero_iff.1 h0))])
    clear h0
    go_wp2_with (refine wpList_store_row rfl 28 _ _ rfl w.heap.size #[.int .u8 0, .int .i64 0] rfl rfl 28 _ x1 info24 rfl (by simp [Value.oneCell']) ?_)
    exact bodyPost_ret (results_row_tmp rfl _ _ w.heap.size _ _ rfl (setRow_heap _ _ _ _ _ _ x1)) rfl ⟨by rw [HD.out]; rfl, below_row B1.out B1.out.size (Nat.le_refl _) _⟩
  · have e0 : ((r.length : Int) == 0) = false := by rw [beq_eq_false_iff_ne]; omega
    have HN : Hid (r ≠ []) := hid (fun h => h0 (by rw [h]; rfl))
    by_cases h1 : l.length = r.length
    · have e1 : ((l.length : Int) == (r.length : Int)) = true := by rw [beq_iff_eq]; omega
      have e1' : ((l.length : Int) != (r.length : Int)) = false := by rw [bne, e1]; rfl
      have HL := hid h1
      have HZ : Hid (l.length ≠ 0) := hid (by omega)
      have H3 : Hid (l.length < 1000000) := hid (by have := HAL.out; omega)
      clear h0 h1
      go_wp2_with (fail)
      have hS1 : VSl w1 l (.slice ao l.length cap) := VSl.keep ⟨ao, cap, rfl, hmax, HV.out⟩ B1.out
      refine (all_at l _ _ H3.out hS1).mono ?_
      rintro e w2 ⟨rfl, hb2⟩
      have B2 := hid (bstep B1.out hb2 B1.out.size)
      have X2 := hid (keep_row X1.out hb2)
      have x2 := X2.out
      have HA3 : Hid (r = [] ∨ ∃ b, aa = some ⟨b, 0, none⟩ ∧ ∀ i (h : i < r.length), w2.cell? ⟨b, i, none⟩ = some (.int .u8 (r[i] : Int))) := hid (HA2.out.imp id (fun ⟨b, e, hc⟩ => ⟨b, e, fun i hi => cell_kept (hc i hi) hb2⟩))
      clear hb2 hS1 x1
      cases hall : l.all chkV with
      | false =>
        have HD : Hid (D = (⟨0, 0⟩, 1)) := hid (by rw [HDV.out, if_pos (.inr (.inr hall))])
        clear hall
        go_wp2_with (refine wpList_store_row rfl 28 _ _ rfl w.heap.size #[.int .u8 0, .int .i64 0] rfl rfl 28 _ x2 info24 rfl (by simp [Value.oneCell']) ?_)
        exact bodyPost_ret (results_row_tmp rfl _ _ w.heap.size _ _ rfl (setRow_heap _ _ _ _ _ _ x2)) rfl ⟨by rw [HD.out]; rfl, below_row B2.out B2.out.size (Nat.le_refl _) _⟩
      | true =>
        have HD0 : Hid (D = if fitL (lastT l) l r = false then (⟨0, 0⟩, 7) else (WV, 0)) := hid (by rw [HDV.out, if_neg (fun h => by rcases h with h | h | h; exact HN.out h; exact h HL.out; rw [hall] at h; cases h)])
        clear hall
        go_wp2_with (fail)
        obtain ⟨g, f, rfl, hva⟩ := HV.out.resolve_left HZ.out
        obtain ⟨ab, rfl, hca⟩ := HA3.out.resolve_left HN.out
        obtain ⟨m, hm⟩ : ∃ m, l.length = m + 1 := ⟨l.length - 1, by have := HZ.out; omega⟩
        obtain ⟨z, hz1, hz2⟩ := last_some hm
        have hrm : r.length = m + 1 := HL.out.symm.trans hm
        have cf := fits_at l r m g f cap acap ab w2 hm hrm (by have := HAL.out; omega) (hva.keep B2.out) hca z hz1
        rw [← hm, HL.out] at cf
        rw [lastT_of hz2] at HD0
        have HVA := hid hva
        clear hm hrm hz1 hz2 hca hva
        rw [HL.out]
        refine cf.mono ?_
        rintro e w3 ⟨rfl, hb3⟩
        have B3 := hid (bstep B2.out hb3 B2.out.size)
        have X3 := hid (keep_row X2.out hb3)
        have x3 := X3.out
        clear hb3 cf x2
        cases hfi : fitL z.ty l r with
        | false =>
          have HD : Hid (D = (⟨0, 0⟩, 7)) := hid (by rw [HD0.out]; simp [hfi])
          clear hfi
          go_wp2_with (refine wpList_store_row rfl 28 _ _ rfl w.heap.size #[.int .u8 0, .int .i64 0] rfl rfl 28 _ x3 info24 rfl (by simp [Value.oneCell']) ?_)
          exact bodyPost_ret (results_row_tmp rfl _ _ w.heap.size _ _ rfl (setRow_heap _ _ _ _ _ _ x3)) rfl ⟨by rw [HD.out]; rfl, below_row B3.out B3.out.size (Nat.le_refl _) _⟩
        | true =>
          have HD : Hid (D = (WV, 0)) := hid (by rw [HD0.out]; simp [hfi])
          clear hfi
          go_wp2_with (fail)
          have cw := WK.out g f cap w3 HN.out HL.out (HVA.out.keep B3.out)
          rw [HL.out] at cw
          refine cw.mono ?_
          rintro e w4 ⟨rfl, hb4⟩
          have B4 := hid (bstep B3.out hb4 B3.out.size)
          have x4 := keep_row X3.out hb4
          clear hb4 cw x3
          go_wp2_with (refine wpList_store_row rfl 28 _ _ rfl w.heap.size (vC WV) rfl rfl 28 _ x4 info24 rfl (by simp [Value.oneCell']) ?_)
          exact bodyPost_ret (results_row_tmp rfl _ _ w.heap.size _ _ rfl (setRow_heap _ _ _ _ _ _ x4)) rfl ⟨by rw [HD.out]; rfl, below_row B4.out B4.out.size (Nat.le_refl _) _⟩
    · have e1 : ((l.length : Int) == (r.length : Int)) = false := by rw [beq_eq_false_iff_ne]; omega
      have e1' : ((l.length : Int) != (r.length : Int)) = true := by rw [bne, e1]; rfl
      have HD : Hid (D = (⟨0, 0⟩, 1)) := hid (by rw [HDV.out, if_pos (.inr (.inl h1))])
      clear h0 h1
      go_wp2_with (refine wpList_store_row rfl 28 _ _ rfl w.heap.size #[.int .u8 0, .int .i64 0] rfl rfl 28 _ x1 info24 rfl (by simp [Value.oneCell']) ?_)
      exact bodyPost_ret (results_row_tmp rfl _ _ w.heap.size _ _ rfl (setRow_heap _ _ _ _ _ _ x1)) rfl ⟨by rw [HD.out]; rfl, below_row B1.out B1.out.size (Nat.le_refl _) _⟩
end Go.Proofs.Ytkniacdfhajogaa.Val
