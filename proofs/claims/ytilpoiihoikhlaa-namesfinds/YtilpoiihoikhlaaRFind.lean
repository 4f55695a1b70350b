/-
  The document's own Find.
-/
import Derived.Test.YtilpoiihoikhlaaFind
import Derived.Deep.QuietTactic
import Derived.Test.YtilpoiihoikhlaaLeftP
namespace Go.Proofs.Ytilpoiihoikhlaa.Lex
open Go.ChangeShapes Go.WideShapes Go.ChangeAt Go.RowKit Go.Joins
theorem things_in (p : Pg) (k : Nat) (h : k < p.ins.length) : (insL p).take k ++ [(-1, p.ins[k])] <+: thingsL p := by
  rw [← insL_succ p k h]
  exact (List.take_prefix _ _).trans (List.prefix_append _ _)
theorem things_flow (p : Pg) (k : Nat) (h : k < p.flows.length) : (insL p ++ (flowsL p).take k) ++ [((k : Int), p.flows[k].hd)] <+: thingsL p := by
  rw [List.append_assoc, ← flowsL_succ p k h]
  exact (List.prefix_append_right_inj _).2 (List.take_prefix _ _)
theorem results_tmp4 {fn : Func} {t u v x : Tmp} (h : fn.results = #[.tmp t, .tmp u, .tmp v, .tmp x]) (tmps : Array Value) (P : Program) (w : World) :
    (results fn tmps).run P w = .ok (.tuple #[tmps.getD t undef, tmps.getD u undef, tmps.getD v undef, tmps.getD x undef]) w := by
  simp [results, h, go_sem]
set_option maxRecDepth 100000 in
set_option maxHeartbeats 4000000 in
theorem rfind (p : Pg) (name : ByteArray) (w : World) (a b c : Value) (hP : PgAt w p a b c) :
    Calls Try.prog 8 #[pgV p a b c, .string name] w fun e W' => e = .returned (.tuple (foV (findT (thingsL p) name))) ∧ Below w.heap.size w W' := by
  obtain ⟨a0, a1, rfl, hlen, _, _, hc⟩ := hP.ins
  obtain ⟨b0, b1, _, rfl, hlen2, _, _, hc2, _⟩ := hP.flows
  obtain ⟨c0, c1, rfl, _⟩ := hP.outs
  have HC := hid hc
  have HC2 := hid hc2
  clear hc hc2 hP
  have B0 := hid ((Below.refl w.heap.size w).alloc (Nat.le_refl _) (.cells (pgC p (.slice a0 p.ins.length a1) (.slice b0 p.flows.length b1) (.slice c0 p.outs.length c1)) 26))
  have bx := fun j v => box_at w (pgC p (.slice a0 p.ins.length a1) (.slice b0 p.flows.length b1) (.slice c0 p.outs.length c1)) 26 j v
  have X1 := hid (bx 1 (.slice a0 p.ins.length a1) rfl)
  have X2 := hid (bx 2 (.slice b0 p.flows.length b1) rfl)
  clear bx
  go_enter Try.func8, Try.ntmps8
  go_wp2
  generalize w.alloc (.cells (pgC p (.slice a0 p.ins.length a1) (.slice b0 p.flows.length b1) (.slice c0 p.outs.length c1)) 26) = w1 at *
  go_loopw [8] (fun i wr => ∃ k : Nat, k ≤ p.ins.length ∧ i = .int .i64 (k : Int) ∧ Hid (Free ((insL p).take k) name) ∧ Hid (Below w1.heap.size w1 wr)) (fun i _ => p.ins.length - (intOf i).toNat)
  case atStart => exact ⟨0, Nat.zero_le _, rfl, hid (fun x hx => by simp at hx), Below.refl _ _⟩
  case round =>
    obtain ⟨k, hk, rfl, hF, hB⟩ := hrel
    have x1 := cell_kept X1.out hB.out
    by_cases hlt : k < p.ins.length
    · have hlt' : (k : Int) < (p.ins.length : Int) := by omega
      have hk0 : (0 : Int) ≤ (k : Int) := by omega
      obtain ⟨bb, o, rfl, hcc⟩ := HC.out.resolve_left (by omega)
      obtain ⟨v0, v1, v2⟩ := (hcc k hlt).keep (bstep B0.out hB.out)
      have HT := hid (things_in p k hlt)
      have HS := hid (insL_succ p k hlt)
      clear hcc
      generalize p.ins[k] = y at *
      by_cases heq : (y.name.toList == name.toList) = true
      · go_wp2
        go_quiet (fail)
        go_wp2
        refine bodyPost_ret (results_tmp4 rfl _ _ _) rfl ?_
        exact ⟨by rw [findT_some HT.out hF.out heq]; rfl, below_drewN (bstep B0.out hB.out) _⟩
      · have heq' : (y.name.toList == name.toList) = false := by simpa using heq
        go_wp2
        go_roundw
        case rel => exact ⟨k + 1, by omega, by go_num, hid (by rw [HS.out]; exact hF.out.snoc heq'), hB⟩
        case measure => simp [intOf]; omega
    · have hlt' : ¬ (k : Int) < (p.ins.length : Int) := by omega
      have hF' : Hid (Free (insL p) name) := by rw [List.take_of_length_le (by rw [insL_len]; omega)] at hF; exact hF
      go_wp2
      go_loopw [9] (fun i wr => ∃ k : Nat, k ≤ p.flows.length ∧ i = .int .i64 (k : Int) ∧ Hid (Free (insL p ++ (flowsL p).take k) name) ∧ Hid (Below w1.heap.size w1 wr)) (fun i _ => p.flows.length - (intOf i).toNat)
      case atStart => exact ⟨0, Nat.zero_le _, rfl, hid (by simpa using hF'.out), hB⟩
      case round =>
        obtain ⟨j, hj, rfl, hG, hB'⟩ := hrel
        have x2 := cell_kept X2.out hB'.out
        by_cases hjl : j < p.flows.length
        · have hjl' : (j : Int) < (p.flows.length : Int) := by omega
          have hj0 : (0 : Int) ≤ (j : Int) := by omega
          obtain ⟨b2, o2, rfl, hcc⟩ := HC2.out.resolve_left (by omega)
          obtain ⟨v0, v1, v2, v3, v4, v5, v6, v7⟩ := (hcc j hjl).keep (bstep B0.out hB'.out)
          have HT := hid (things_flow p j hjl)
          have HS := hid (flowsL_succ p j hjl)
          clear hcc v7
          generalize p.flows[j] = y at *
          by_cases heq : (y.name.toList == name.toList) = true
          · go_wp2
            go_quiet (fail)
            go_wp2
            refine bodyPost_ret (results_tmp4 rfl _ _ _) rfl ?_
            exact ⟨by rw [findT_some HT.out hG.out heq]; rfl, below_drewN (bstep B0.out hB'.out) _⟩
          · have heq' : (y.name.toList == name.toList) = false := by simpa using heq
            go_wp2
            go_roundw
            case rel => exact ⟨j + 1, by omega, by go_num, hid (by rw [HS.out, ← List.append_assoc]; exact hG.out.snoc heq'), hB'⟩
            case measure => simp [intOf]; omega
        · have hjl' : ¬ (j : Int) < (p.flows.length : Int) := by omega
          go_wp2
          refine bodyPost_ret (results_tmp4 rfl _ _ _) rfl ?_
          exact ⟨by rw [findT_none (by have := hG.out; rw [List.take_of_length_le (by rw [flowsL_len]; omega)] at this; exact this)]; rfl, bstep B0.out hB'.out⟩
end Go.Proofs.Ytilpoiihoikhlaa.Lex
